/- The contract of the document's own mask: hiding and showing, piece by piece. -/
import Derived.Test.YtnghakhgogfemaaGreatDoorRefLow
import Derived.Test.YtnghakhgogfemaaGreatDoorRefMd5
import Derived.Deep.DeepCutAuto
import Derived.Deep.AppendLies
import Derived.Deep.WholeRow
namespace Go.Proofs.YtnghakhgogfemaaGreatDoor
open Go.RowKit

theorem idx_at (s : ByteArray) (k : Nat) (h : k < s.size) (i : Int) (hi : i = (k : Int)) (W : World) :
    (Instr.index 9 (.string s) (.int .i64 i)).run Tryz.prog W = .ok (.int .u8 ((s.data.toList.getD k 0).toNat : Int)) W := by
  subst hi
  rw [run_index_string W 9 s .i64 (k : Int) Tryz.underlying9, dif_pos ⟨by omega, by omega⟩]
  have hg : s.data.toList.getD k 0 = s[k] := by
    rw [List.getD_eq_getElem?_getD, List.getElem?_eq_getElem (by simpa using h)]
    rfl
  rw [hg]
  rfl
theorem xorL_snoc (p k : List UInt8) (t : Nat) (hp : t < p.length) (hk : t < k.length) : xorL (p.take (t + 1)) k = xorL (p.take t) k ++ [p.getD t 0 ^^^ k.getD t 0] := by
  apply List.ext_getElem?
  intro i
  have hxl : (xorL (p.take t) k).length = t := by rw [xorL_length, List.length_take]; omega
  by_cases hi : i < t
  · rw [List.getElem?_append_left (by omega)]
    unfold xorL
    rw [List.getElem?_zipWith, List.getElem?_zipWith, List.getElem?_take_of_lt (by omega), List.getElem?_take_of_lt hi]
  · by_cases hi2 : i = t
    · subst hi2
      rw [List.getElem?_append_right (by omega), hxl, Nat.sub_self]
      unfold xorL
      rw [List.getElem?_zipWith, List.getElem?_take_of_lt (by omega), List.getElem?_eq_getElem hp, List.getElem?_eq_getElem hk, List.getD_eq_getElem?_getD, List.getD_eq_getElem?_getD, List.getElem?_eq_getElem hp, List.getElem?_eq_getElem hk]
      rfl
    · rw [List.getElem?_eq_none (by rw [xorL_length, List.length_take]; omega), List.getElem?_eq_none (by rw [List.length_append, hxl]; simp; omega)]
theorem one_cell {a : Int} : ∀ u ∈ [Value.int .u8 a], u.oneCell' = true := by
  intro u hu
  simp at hu
  subst hu
  rfl
/-- The key's own block. -/
def KeyAt (W : World) (d : Nat) (key : List UInt8) : Prop := W.heap[d]? = some (.cells (Lib.byteCells key).toArray 211 (0, 0))
theorem KeyAt.lt {W : World} {d : Nat} {key : List UInt8} (h : KeyAt W d key) : d < W.heap.size := (Array.getElem?_eq_some_iff.1 h).1
theorem KeyAt.cell {W : World} {d : Nat} {key : List UInt8} (h : KeyAt W d key) (i : Nat) (hi : i < key.length) : W.cell? ⟨d, i, none⟩ = some (.int .u8 ((key.getD i 0).toNat : Int)) := by
  rw [cell_of_row W d i _ _ _ h]
  exact byteCells_at key i hi
theorem key_next {W W' : World} {d : Nat} {D : Array Value} {t : TypeId} (h : W.heap[d]? = some (.cells D t (0, 0))) (hb : Below W.heap.size W W') : W'.heap[d]? = some (.cells D t (0, 0)) :=
  (hb.block d (Array.getElem?_eq_some_iff.1 h).1).trans h
theorem mask_next {base : Nat} {w wr w1 : World} {u v' : Value} {t : Nat} {bs : List UInt8} {X : UInt8} {o : Obj} (hb : base ≤ wr.heap.size) (hbel : Below base w wr)
    (hown : wr.ownsRow base 5 1 u t (Lib.byteCells bs)) (hown' : w1.ownsRow base 5 1 v' (t + 1) (Lib.byteCells bs ++ [.int .u8 (X.toNat : Int)])) (hg : (wr.alloc o).drew.grownBy w1 u.ownBlock) :
    w1.ownsRow base 5 1 v' (t + 1) (Lib.byteCells (bs ++ [X])) ∧ Below base w w1 := by
  have hs : (wr.alloc o).drew.heap.size = wr.heap.size + 1 := by simp
  have hb1 : Below base w w1 := (hbel.alloc hb o).drew.grown hg (by omega) (fun g hgk => (hown.lt g hgk).1)
  refine ⟨?_, hb1⟩
  rw [Lib.byteCells_append]
  simpa [Lib.byteCells] using hown'

set_option maxRecDepth 100000 in
set_option maxHeartbeats 4000000 in
theorem refMask_any (un : Bool) (k : Int) (s c v : ByteArray) (hs : s.size ≤ 1000000) (hc : c.size ≤ 1000000) (hv : v.size ≤ 1000000) (w : World) :
    Calls Tryz.prog 113 #[.int .i64 k, .string s, .string c, .string v, .bool un] w fun e w' => e = .returned (.string ⟨(maskF un (firstF k s.data.toList c.data.toList) s.data.toList v.data.toList).toArray⟩) ∧ Below w.heap.size w w' := by
  obtain ⟨i0, hi, hz0, hz1, hz2⟩ := info_parts dgInfo5
  have hlen : v.data.toList.length = v.size := (Lib.size_eq v).symm
  have hfl := firstF_length k s.data.toList c.data.toList
  have HTW := hide (refTwo_any k)
  obtain ⟨KL, hKL⟩ : ∃ KL : ByteArray, KL = ⟨(kindL k).toArray⟩ := ⟨_, rfl⟩
  rw [← hKL] at HTW
  have hKs : KL.size = 2 := by rw [hKL]; rfl
  have hFst := refMd5_any (KL ++ s ++ c) (by rw [ByteArray.size_append, ByteArray.size_append]; omega)
  have eF : md5F (KL ++ s ++ c).data.toList = firstF k s.data.toList c.data.toList := by
    unfold firstF
    rw [hKL]
    congr 1
  rw [eF] at hFst
  obtain ⟨F, hF⟩ : ∃ F, F = firstF k s.data.toList c.data.toList := ⟨_, rfl⟩
  rw [← hF] at hFst hfl ⊢
  have HFS := hide hFst
  have HFL := hide hfl
  have HLEN := hide hlen
  have hKs2 : KL.size ≤ 2 := by omega
  clear hFst hfl hF eF hKL hlen hKs
  go_enter Tryz.func113, Tryz.ntmps113
  go_wp2
  go_loopw [11, 12, 13, 14, 15, 16, 17] (fun vo vl va _ _ _ _ wr => ∃ (j m : Nat) (O L : ByteArray), m = 16 * j ∧ j ≤ (v.size + 15) / 16 ∧ va = .int .i64 (m : Int) ∧ vo = .string O ∧ O.data.toList = (maskB un F s.data.toList v.data.toList j).1 ∧ vl = .string L ∧ L.data.toList = (maskB un F s.data.toList v.data.toList j).2 ∧ L.size ≤ 16 ∧ Below w.heap.size w wr)
    (fun _ _ va _ _ _ _ _ => v.size + 16 - (intOf va).toNat)
  case atStart => exact ⟨0, 0, ⟨#[]⟩, ⟨#[]⟩, rfl, Nat.zero_le _, rfl, rfl, rfl, rfl, rfl, Nat.zero_le _, Below.refl _ _⟩
  case round =>
    obtain ⟨j, m, O, L, hm, hj, rfl, rfl, hO, rfl, hL, hLs, hbel⟩ := hrel
    have hOl : O.size = min (16 * j) v.size := by rw [Lib.size_eq, hO, maskB_length _ _ _ _ HFL.out, HLEN.out]
    by_cases hlt : m < v.size
    · obtain ⟨P, hP⟩ : ∃ P : ByteArray, P = ⟨(pieceF v.data.toList j).toArray⟩ := ⟨_, rfl⟩
      have hPl : P.data.toList = pieceF v.data.toList j := by rw [hP]
      have hPs : P.size = min 16 (v.size - m) := by rw [Lib.size_eq, hPl, pieceF_length, HLEN.out, hm]
      have hd1 : decide ((m : Int) < (v.size : Int)) = true := by rw [decide_eq_true_eq]; omega
      have hd2 : decide (m < v.size) = true := by rw [decide_eq_true_eq]; omega
      have i1 := dg_last_at v m (by omega) (m : Int) rfl
      have hE : (v.extract m v.size).data.toList = v.data.toList.drop m := by
        rw [Lib.extract_data, List.take_of_length_le (by rw [List.length_drop, HLEN.out]; omega)]
      have hEs : (v.extract m v.size).size = v.size - m := by rw [ByteArray.size_extract]; omega
      have hPA : (v.extract m v.size).extract 0 16 = P := by
        apply ByteArray.ext
        apply Array.toList_inj.1
        rw [hPl, Lib.extract_data, hE, hm]
        rfl
      have hPB : v.size - m ≤ 16 → v.extract m v.size = P := fun h => by
        apply ByteArray.ext
        apply Array.toList_inj.1
        rw [hPl, hE, hm]
        unfold pieceF
        rw [List.take_of_length_le (by rw [List.length_drop, HLEN.out]; omega)]
      obtain ⟨E, hEE⟩ : ∃ E, E = v.extract m v.size := ⟨_, rfl⟩
      rw [← hEE] at i1 hEs hPA hPB
      have HPB := hide hPB
      have HO := hide hO
      have HL := hide hL
      have HM := hide hm
      have HOl := hide hOl
      have HPs := hide hPs
      have HPl := hide hPl
      have HEs := hide hEs
      clear hO hL hm hOl hPs hPl hPB hE hP hEE hEs
      go_upto_if 29 with fail
      go_cut [14] from 30 to 31 (fun vp wx => vp = .string P ∧ wx = wr)
      case first =>
        have hEs := HEs.out
        by_cases h16 : 16 < v.size - m
        · have i2 := dg_first_at E 16 (by omega) 16 rfl
          rw [hPA] at i2
          have h16' : 16 < E.size := by omega
          clear hEs
          go_wp2
          go_meet
          case rel => exact ⟨rfl, rfl⟩
        · have h16' : E.size ≤ 16 := by omega
          clear hEs
          go_wp2
          go_meet
          case rel => exact ⟨by rw [HPB.out (by omega)], rfl⟩
      case rest =>
        obtain ⟨rfl, rfl⟩ := hcut
        have hmd := refMd5_any (s ++ L) (by rw [ByteArray.size_append]; omega)
        have eM : md5F (s ++ L).data.toList = md5F (s.data.toList ++ (maskB un F s.data.toList v.data.toList j).2) := by rw [ByteArray.data_append, Array.toList_append, HL.out]
        rw [eM] at hmd
        have sz16 : ∀ l : List UInt8, l.length = 16 → (Lib.byteCells l).toArray.size = 16 := fun l h => by simp [Lib.byteCells, h]
        have on16 : ∀ l : List UInt8, (Lib.byteCells l).toArray.all (·.oneCell') = true := fun l => all_oneCell_toArray (fun v hv => Lib.byteCells_one _ v hv)
        obtain ⟨K1, hK1⟩ : ∃ K1, K1 = md5F (s.data.toList ++ (maskB un F s.data.toList v.data.toList j).2) := ⟨_, rfl⟩
        have hK1l : K1.length = 16 := by rw [hK1]; exact md5F_length _
        rw [← hK1] at hmd
        obtain ⟨D1, hD1⟩ : ∃ D1, D1 = (Lib.byteCells K1).toArray := ⟨_, rfl⟩
        obtain ⟨D2, hD2⟩ : ∃ D2, D2 = (Lib.byteCells F).toArray := ⟨_, rfl⟩
        rw [← hD1] at hmd
        rw [← hD2] at HFS
        have HD1s := hide (show D1.size = 16 by rw [hD1]; exact sz16 _ hK1l)
        have HD2s := hide (show D2.size = 16 by rw [hD2]; exact sz16 _ HFL.out)
        have HD1o := hide (show D1.all (·.oneCell') = true by rw [hD1]; exact on16 _)
        have HD2o := hide (show D2.all (·.oneCell') = true by rw [hD2]; exact on16 _)
        obtain ⟨q, hq⟩ : ∃ q, decide (j = 0) = q := ⟨_, rfl⟩
        have hmq : (m = 0) ↔ (j = 0) := by have := HM.out; omega
        have q1 : ((m : Int) == 0) = q := by rw [← hq, Bool.eq_iff_iff, beq_iff_eq, decide_eq_true_iff, ← hmq]; omega
        have q2 : decide (m = 0) = q := by rw [← hq, decide_eq_decide]; exact hmq
        have q3 : decide ((m : Int) = 0) = q := by rw [← hq, decide_eq_decide, ← hmq]; omega
        have q4 : (m == 0) = q := by rw [← hq, Bool.eq_iff_iff, beq_iff_eq, decide_eq_true_iff, ← hmq]
        have HKY : Hid (keyB un F s.data.toList v.data.toList j = if q then F else K1) := by
          show keyB un F s.data.toList v.data.toList j = if q then F else K1
          unfold keyB
          rw [hK1, ← hq]
          by_cases h0 : j = 0
          · simp [h0]
          · simp [h0]
        have HMD := hide hmd
        have HDE1 := hide hD1
        have HDE2 := hide hD2
        clear hmd eM hK1 hK1l hD1 hD2 hq hmq sz16 on16
        go_upto_if 37 with (first
          | (go_at_call 156; refine (HMD.out _).mono ?_; rintro e w1 ⟨rfl, hb1⟩)
          | (refine wpList_store_row rfl 211 _ _ rfl w1.heap.size D1 rfl rfl 211 Z16b (heap_alloc_new w1 _) (by rw [HD1s.out]; kernel_rfl) (by rw [HD1s.out]; rfl) HD1o.out ?_))
        have hKA : (w1.alloc (.cells Z16b 211)).setRow w1.heap.size D1 = w1.alloc (.cells D1 211) := World.setRow_alloc_new w1 Z16b D1 _
        rw [hKA]
        have hW1 : (w1.alloc (.cells D1 211)).heap[w1.heap.size]? = some (.cells D1 211 (0, 0)) := heap_alloc_new w1 _
        have hB1 : Below w.heap.size w (w1.alloc (.cells D1 211)) := ((hbel.trans (hb1.mono hbel.size)).alloc (Nat.le_trans hbel.size hb1.size) _)
        have hd0 : w.heap.size ≤ w1.heap.size := Nat.le_trans hbel.size hb1.size
        generalize w1.alloc (.cells D1 211) = W1 at hW1 hB1
        generalize w1.heap.size = d at hW1 hd0
        have HW1 := hide hW1
        have HB1 := hide hB1
        clear hW1 hB1 hKA hb1
        go_cut [16] from 38 to 44 (fun _ wx => KeyAt wx d (keyB un F s.data.toList v.data.toList j) ∧ Below w.heap.size w wx)
        case first =>
          cases q with
          | true =>
            go_wp2_with (first
              | (go_at_call 28; refine (HTW.out _).mono ?_; rintro e w2 ⟨rfl, hb2⟩)
              | (go_at_call 156; refine (HFS.out _).mono ?_; rintro e w3 ⟨rfl, hb3⟩)
              | (refine wpList_store_row rfl 211 _ _ rfl d D2 rfl rfl 211 D1 (key_next (key_next HW1.out hb2) hb3) (by rw [HD2s.out]; kernel_rfl) (by rw [HD1s.out, HD2s.out]) HD2o.out ?_))
            go_meet
            case rel =>
              refine ⟨?_, ((HB1.out.trans (hb2.mono HB1.out.size)).trans (hb3.mono (Nat.le_trans HB1.out.size hb2.size))).trans ⟨rfl, rfl, rfl, by simp, fun k hk => setRow_other _ _ _ _ (by omega)⟩⟩
              show _ = _
              rw [HKY.out, if_pos trivial, ← HDE2.out]
              exact setRow_heap _ _ _ _ _ _ (key_next (key_next HW1.out hb2) hb3)
          | false =>
            go_wp2
            go_meet
            case rel =>
              refine ⟨?_, HB1.out⟩
              show _ = _
              rw [HKY.out, if_neg (by decide), ← HDE1.out]
              exact HW1.out
        case rest =>
          obtain ⟨hKA, hB5⟩ := hcut
          have HKl := hide (keyB_length un F s.data.toList v.data.toList j HFL.out)
          have hPl := HPl.out
          have hPs := HPs.out
          have hP16 : P.size ≤ 16 := by omega
          obtain ⟨W5, hW5⟩ : ∃ W5, W5 = wc := ⟨_, rfl⟩
          rw [← hW5] at hKA hB5 ⊢
          have HKA := hide hKA
          have HB5 := hide hB5
          clear hKA hB5 hW5 hPs HMD HW1 HB1 HFS HTW
          go_wp2
          go_loopw [16, 17] (fun vb vi wx => ∃ t : Nat, t ≤ P.size ∧ vi = .int .i64 (t : Int) ∧ wx.ownsRow W5.heap.size 5 1 vb t (Lib.byteCells (xorL (P.data.toList.take t) (keyB un F s.data.toList v.data.toList j))) ∧ Below W5.heap.size W5 wx)
            (fun _ vi _ => P.size - (intOf vi).toNat)
          case atStart => exact ⟨0, Nat.zero_le _, rfl, by simpa [xorL, Lib.byteCells] using World.ownsRow_nil W5 W5.heap.size 5 1, Below.refl _ _⟩
          case round =>
            obtain ⟨t, ht, rfl, hown, hbw⟩ := hrel
            have hPdl : P.data.toList.length = P.size := (Lib.size_eq P).symm
            by_cases hlt2 : t < P.size
            · have ht16 : (t : Int) < 16 := by omega
              have x1 := idx_at P t hlt2 (t : Int) rfl
              have c2 : wr.cell? ⟨d, t, none⟩ = some (.int .u8 (((keyB un F s.data.toList v.data.toList j).getD t 0).toNat : Int)) := KeyAt.cell (show KeyAt wr d _ from key_next HKA.out hbw) t (by rw [HKl.out]; omega)
              have HXS := hide (xorL_snoc P.data.toList (keyB un F s.data.toList v.data.toList j) t (by omega) (by rw [HKl.out]; omega))
              have hA := (P.data.toList.getD t 0).toNat_lt
              have hB := ((keyB un F s.data.toList v.data.toList j).getD t 0).toNat_lt
              have e1 : bits .xor .u8 ((P.data.toList.getD t 0).toNat : Int) (((keyB un F s.data.toList v.data.toList j).getD t 0).toNat : Int) = ((P.data.toList.getD t 0 ^^^ (keyB un F s.data.toList v.data.toList j).getD t 0).toNat : Int) := by
                rw [UInt8.toNat_xor]
                exact u8_xor_nat _ _ (by omega) (by omega)
              generalize P.data.toList.getD t 0 ^^^ (keyB un F s.data.toList v.data.toList j).getD t 0 = X at e1 HXS
              generalize (keyB un F s.data.toList v.data.toList j).getD t 0 = B at c2 e1 hB
              generalize P.data.toList.getD t 0 = A at x1 e1 hA
              have hsz := hbw.size
              have HOW := hide hown
              clear hown
              go_wp2
              go_region_law (refine step_append_lies _ rfl (.tmp 51) (.tmp 59) 63 rfl W5.heap.size 5 i0 (.int .u8 0) 1 1 Tryz.underlying63 hi hz0 hz1 hz2 rfl (by decide) _ t (Lib.byteCells (xorL (P.data.toList.take t) (keyB un F s.data.toList v.data.toList j))) rfl ((HOW.out).alloc _).drew ⟨wr.heap.size, 0, none⟩ 1 1 [.int .u8 (X.toNat : Int)] rfl rfl (World.news_of_block (heap_alloc_new wr _)) one_cell (by decide) (by unfold maxLen; omega) (by omega) (by simp; omega) _ rfl ?_; intro g cap w2 hown' hgrow _ _)
              all_goals
                have R := mask_next hsz hbw HOW.out hown' hgrow
                rw [← HXS.out] at R
                clear hown' hgrow HOW x1 c2 e1
                go_wp2
                go_roundw
                case rel => exact ⟨t + 1, by omega, by go_num, R.1, R.2⟩
                case measure => simp [intOf]; omega
            · obtain rfl : t = P.size := by omega
              have hcv := dg_put_conv hown
              rw [List.take_of_length_le (by omega), hPl] at hcv
              obtain ⟨B, hB⟩ : ∃ B : ByteArray, B = ⟨(xorL (pieceF v.data.toList j) (keyB un F s.data.toList v.data.toList j)).toArray⟩ := ⟨_, rfl⟩
              rw [← hB] at hcv
              have hBl : B.data.toList = xorL (pieceF v.data.toList j) (keyB un F s.data.toList v.data.toList j) := by rw [hB]
              have hBs : B.size ≤ 16 := by rw [Lib.size_eq, hBl, xorL_length, HKl.out]; omega
              have hOs : O.size ≤ 1000000 := by have := HOl.out; omega
              have HBl := hide hBl
              have HBE := hide (show Below w.heap.size w wr from HB5.out.trans (hbw.mono HB5.out.size))
              clear hown hB hBl ht hlt2
              cases un with
              | true =>
                go_wp2
                go_roundw
                case rel => exact ⟨j + 1, m + 16, _, _, by have := HM.out; omega, by have := HM.out; omega, by go_num, rfl, by rw [ByteArray.data_append, Array.toList_append, HO.out, HBl.out, maskB_out], rfl, by rw [maskB_last, HPl.out]; rfl, hP16, HBE.out⟩
                case measure => simp [intOf]; omega
              | false =>
                go_wp2
                go_roundw
                case rel => exact ⟨j + 1, m + 16, _, _, by have := HM.out; omega, by have := HM.out; omega, by go_num, rfl, by rw [ByteArray.data_append, Array.toList_append, HO.out, HBl.out, maskB_out], rfl, by rw [maskB_last, HBl.out]; rfl, hBs, HBE.out⟩
                case measure => simp [intOf]; omega
    · have hfin : O = ⟨(maskF un F s.data.toList v.data.toList).toArray⟩ := by
        apply ByteArray.ext
        apply Array.toList_inj.1
        show O.data.toList = maskF un F s.data.toList v.data.toList
        rw [hO, maskF, HLEN.out, show j = (v.size + 15) / 16 by omega]
      have HFN := hide hfin
      clear hO hL hfin hOl
      go_wp2
      go_ret
      exact ⟨by rw [← HFN.out]; rfl, hbel⟩

set_option maxRecDepth 100000 in
set_option maxHeartbeats 400000 in
theorem refMask_all (k : Int) (s c v : ByteArray) (hs : s.size ≤ 1000000) (hc : c.size ≤ 1000000) (hv : v.size ≤ 1000000) (w : World) :
    Calls Tryz.prog 27 #[.int .i64 k, .string s, .string c, .string v] w fun e w' => e = .returned (.string ⟨(maskF false (firstF k s.data.toList c.data.toList) s.data.toList v.data.toList).toArray⟩) ∧ Below w.heap.size w w' := by
  have H := hide (refMask_any false k s c v hs hc hv)
  generalize (⟨(maskF false (firstF k s.data.toList c.data.toList) s.data.toList v.data.toList).toArray⟩ : ByteArray) = R at H
  go_enter Tryz.func27, Tryz.ntmps27
  go_wp2_with fail
  refine (H.out _).mono ?_
  rintro e w1 ⟨rfl, hb1⟩
  go_wp2
  go_ret
  exact ⟨rfl, hb1⟩

set_option maxRecDepth 100000 in
set_option maxHeartbeats 400000 in
theorem refUnmask_all (k : Int) (s c v : ByteArray) (hs : s.size ≤ 1000000) (hc : c.size ≤ 1000000) (hv : v.size ≤ 1000000) (w : World) :
    Calls Tryz.prog 32 #[.int .i64 k, .string s, .string c, .string v] w fun e w' => e = .returned (.string ⟨(maskF true (firstF k s.data.toList c.data.toList) s.data.toList v.data.toList).toArray⟩) ∧ Below w.heap.size w w' := by
  have H := hide (refMask_any true k s c v hs hc hv)
  generalize (⟨(maskF true (firstF k s.data.toList c.data.toList) s.data.toList v.data.toList).toArray⟩ : ByteArray) = R at H
  go_enter Tryz.func32, Tryz.ntmps32
  go_wp2_with fail
  refine (H.out _).mono ?_
  rintro e w1 ⟨rfl, hb1⟩
  go_wp2
  go_ret
  exact ⟨rfl, hb1⟩
end Go.Proofs.YtnghakhgogfemaaGreatDoor
