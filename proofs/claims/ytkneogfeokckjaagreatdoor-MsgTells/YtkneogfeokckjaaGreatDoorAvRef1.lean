/- The document's own calls of chapter 18: Two, Num of two bytes, Low, Find, Number, Same, Num, Length; of Mask and Unmask what they come to is a premise. (Written by gen_avref1.py.) -/
import Derived.Test.YtkneogfeokckjaaGreatDoorAvFind
import Derived.Test.YtkneogfeokckjaaGreatDoorAvEq
import Derived.Test.YtkneogfeokckjaaGreatDoorAvRefS
import Derived.Test.YtkneogfeokckjaaGreatDoorAvNum
import Derived.Test.YtkneogfeokckjaaGreatDoorAvLen
import Derived.Test.YtkneogfeokckjaaGreatDoorRefLow
namespace Go.Proofs.YtkneogfeokckjaaGreatDoor
open Go.RowKit

theorem kindL_nat (n : Nat) : kindL (n : Int) = low n 2 := by
  unfold kindL
  rw [low_two]
  congr 2
theorem refTwoA (n : Nat) (w : World) : Calls Tryz.prog 53 #[.int .i64 (n : Int)] w fun e w' => e = .returned (.string (two n)) ∧ Kept (fun _ => False) w w' := by
  refine (refTwo_any (n : Int) w).mono ?_
  rintro e w1 ⟨rfl, hb⟩
  exact ⟨by rw [kindL_nat]; rfl, kept_of hb⟩
theorem num_atA (s : ByteArray) (k : Nat) (h : k + 1 < s.size) : numAt s k = (s.data.toList.getD k 0).toNat * 256 + (s.data.toList.getD (k + 1) 0).toNat := by
  unfold numAt
  rw [num_two (by rw [List.length_drop, ← Lib.size_eq]; omega)]
  simp [List.getD_eq_getElem?_getD, List.getElem?_drop]
set_option maxHeartbeats 1000000 in
set_option maxRecDepth 100000 in
theorem refNumA (s : ByteArray) (hs : s.size ≤ 140737488351232) (k : Nat) (h : k + 2 ≤ s.size) (w : World) :
    Calls Tryz.prog 42 #[.string s, .int .i64 (k : Int)] w fun e w' => e = .returned (.int .i64 (numAt s k : Int)) ∧ Kept (fun _ => False) w w' := by
  rw [num_atA s k (by omega)]
  have b0 := (s.data.toList.getD k 0).toNat_lt
  have b1 := (s.data.toList.getD (k + 1) 0).toNat_lt
  have x0 := index_at s k (by omega) (k : Int) rfl
  have x1 := index_at s (k + 1) (by omega) ((k : Int) + 1) (by omega)
  generalize (s.data.toList.getD k 0).toNat = A at b0 x0
  generalize (s.data.toList.getD (k + 1) 0).toNat = B at b1 x1
  have hwr : IntKind.i64.wrap ((k : Int) + 1) = (k : Int) + 1 := by rw [IntKind.wrap_i64]; omega
  go_enter Tryz.func42, Tryz.ntmps42
  go_wp2
  go_region
  go_wp2
  go_ret
  exact ⟨ret_int (by omega), (Kept.refl _ _).drew⟩

/-- What the document's own Mask and Unmask come to. -/
def RefMaskAt : Prop := ∀ (k : Int) (s v x : ByteArray), s.size ≤ 1000000 → v.size ≤ 1000000 → x.size ≤ 1000000 → ∀ W : World,
  Calls Tryz.prog 129 #[.int .i64 k, .string s, .string v, .string x] W fun e w' => e = .returned (.string (maskA false k s v x)) ∧ Kept (fun _ => False) W w'
def RefUnmAt : Prop := ∀ (k : Int) (s v x : ByteArray), s.size ≤ 1000000 → v.size ≤ 1000000 → x.size ≤ 1000000 → ∀ W : World,
  Calls Tryz.prog 132 #[.int .i64 k, .string s, .string v, .string x] W fun e w' => e = .returned (.string (maskA true k s v x)) ∧ Kept (fun _ => False) W w'

/-! Low. -/
theorem lowI_top (v : Int) (j : Nat) : lowI v (j + 1) = UInt8.ofNat (v / 256 ^ j % 256).toNat :: lowI v j := by
  induction j generalizing v with
  | zero => simp [lowI]
  | succ j ih =>
    have e := ih (v / 256)
    show lowI (v / 256) (j + 1) ++ [UInt8.ofNat (v % 256).toNat] = UInt8.ofNat (v / 256 ^ (j + 1) % 256).toNat :: (lowI (v / 256) j ++ [UInt8.ofNat (v % 256).toNat])
    rw [e, Int.ediv_ediv_of_nonneg (by decide), show (256 : Int) * 256 ^ j = 256 ^ (j + 1) from by rw [Int.pow_succ, Int.mul_comm]]
    rfl
theorem byte_cell (m : Int) (h0 : 0 ≤ m) (h : m < 256) : Value.int .u8 (((UInt8.ofNat m.toNat).toNat : Nat) : Int) = .int .u8 m := by
  congr 1
  rw [UInt8.toNat_ofNat']
  omega
theorem lowI_set (v : Int) (k j : Nat) (h : j < k) :
    (Lib.byteCells (List.replicate (k - j) 0 ++ lowI v j)).set (k - 1 - j) (.int .u8 (v / 256 ^ j % 256)) = Lib.byteCells (List.replicate (k - (j + 1)) 0 ++ lowI v (j + 1)) := by
  have e : List.replicate (k - j) (0 : UInt8) = List.replicate (k - (j + 1)) 0 ++ [0] := by
    rw [show k - j = k - (j + 1) + 1 from by omega, List.replicate_succ']
  rw [e, lowI_top, List.append_assoc, Lib.byteCells_append, List.set_append_right _ _ (by simp [Lib.byteCells]; omega), Lib.byteCells_append]
  have e2 : k - 1 - j - (Lib.byteCells (List.replicate (k - (j + 1)) 0)).length = 0 := by simp [Lib.byteCells]; omega
  rw [e2]
  congr 1
  have hb := byte_cell (v / 256 ^ j % 256) (Int.emod_nonneg _ (by decide)) (Int.emod_lt_of_pos _ (by decide))
  simp only [Lib.byteCells, List.map_cons, List.map_nil, List.map_append, List.nil_append, List.set_cons_zero, List.cons_append]
  rw [hb]
theorem made_zeroI (k : Nat) : (madeCells #[Value.int .u8 0] k).toList = Lib.byteCells (List.replicate k 0) := by
  rw [toList_madeCells_one]
  simp [Lib.byteCells]
theorem lowI_step {base g k j : Nat} {v : Int} {w wr : World} (hb : base ≤ g) (hz : base ≤ wr.heap.size) (hj : j < k) (hbel : Below base w wr)
    (hown : wr.ownsRow base 5 1 (.slice (some ⟨g, 0, none⟩) k k) k (Lib.byteCells (List.replicate (k - j) 0 ++ lowI v j))) :
    (wr.setCell ⟨g, k - 1 - j, none⟩ (.int .u8 (v / 256 ^ j % 256))).ownsRow base 5 1 (.slice (some ⟨g, 0, none⟩) k k) k (Lib.byteCells (List.replicate (k - (j + 1)) 0 ++ lowI v (j + 1))) ∧
    Below base w (wr.setCell ⟨g, k - 1 - j, none⟩ (.int .u8 (v / 256 ^ j % 256))) := by
  have h := hown.stored (k - 1 - j) (.int .u8 (v / 256 ^ j % 256))
  rw [lowI_set v k j hj] at h
  exact ⟨h.1, hbel.grown h.2 hz (fun x hx => by simp at hx; omega)⟩
set_option maxRecDepth 100000 in
set_option maxHeartbeats 1000000 in
theorem refLowI_any (v : Int) (k : Nat) (hk1 : 1 ≤ k) (hk : k ≤ 8) (w : World) :
    Calls Tryz.prog 134 #[.int .i64 v, .int .i64 (k : Int)] w fun e w' => e = .returned (.string ⟨(lowI v k).toArray⟩) ∧ Below w.heap.size w w' := by
  obtain ⟨i0, hi, hz0, hz1, hz2⟩ := info_parts info5
  go_enter Tryz.func134, Tryz.ntmps134
  go_wp2_with (at_make; refine wpList_make_full _ rfl _ _ 127 rfl w.heap.size 5 i0 (.int .u8 0) 1 Tryz.underlying127 hi hz0 hz1 .i64 .i64 _ _ k rfl rfl ?m0 ?m1 ?m2 ?m3 ?m4 ?_)
  case m0 => rfl
  case m1 => rfl
  case m2 => rw [hz2]; omega
  case m3 => unfold maxLen; omega
  case m4 => exact Nat.le_refl _
  intro w1 hown1 hg1
  have hb1 : Below w.heap.size w w1 := (Below.refl _ w).grown hg1 (Nat.le_refl _) (fun k hk => by cases hk)
  rw [made_zeroI] at hown1
  clear hg1
  go_wp2
  go_loopw [0, 6] (fun x i wr => ∃ j : Nat, j ≤ k ∧ x = .int .i64 (v / 256 ^ j) ∧ i = .int .i64 ((k : Int) - 1 - j) ∧ wr.ownsRow w.heap.size 5 1 (.slice (some ⟨w.heap.size, 0, none⟩) k k) k (Lib.byteCells (List.replicate (k - j) 0 ++ lowI v j)) ∧ Below w.heap.size w wr)
    (fun _ i _ => (intOf i + 1).toNat)
  case atStart => exact ⟨0, Nat.zero_le _, by simp, by simp, by simpa [lowI] using hown1, hb1⟩
  case round =>
    obtain ⟨j, hj, rfl, rfl, hownr, hbel⟩ := hrel
    clear hown1 hb1
    have HD : Hid (v / 256 ^ (j + 1) = v / 256 ^ j / 256) := by
      show v / 256 ^ (j + 1) = v / 256 ^ j / 256
      rw [Int.ediv_ediv_of_nonneg (Int.le_of_lt (Int.pow_pos (by decide))), Int.pow_succ]
    by_cases hlt : j < k
    · have hc := hownr.cellAt (k - 1 - j) (by omega)
      have hf := hownr.frozenAt (k - 1 - j)
      obtain ⟨u, hu⟩ : ∃ u, (Lib.byteCells (List.replicate (k - j) 0 ++ lowI v j))[k - 1 - j]? = some u := by
        rw [List.getElem?_eq_getElem (by simp [Lib.byteCells, lowI_length]; omega)]
        exact ⟨_, rfl⟩
      rw [hu] at hc
      have R := lowI_step (Nat.le_refl _) hbel.size hlt hbel hownr
      generalize v / 256 ^ j = x at R HD
      clear hu hownr hbel
      have HR := hide R
      clear R
      go_wp2
      go_roundw
      case rel => exact ⟨j + 1, by omega, by rw [HD.out], by go_num, HR.out.1, HR.out.2⟩
      case measure => simp [intOf]; omega
    · obtain rfl : j = k := by omega
      rw [Nat.sub_self, List.replicate_zero, List.nil_append] at hownr
      have hcv := put_conv hownr
      clear HD
      go_wp2
      go_ret
      exact ⟨rfl, hbel⟩

set_option maxHeartbeats 2000000 in
set_option maxRecDepth 100000 in
theorem rFind_any (v : Value) (l : List Av) (k : Int) (w : World) (hv : AvsAt w v l) (hl : l.length ≤ 1000000) (hsz : ∀ x ∈ l, x.value.size ≤ 140737488351232) :
    Calls Tryz.prog 49 #[v, .int .i64 k] w fun e w' => e = .returned (.tuple #[.string (findAB l k), .bool (findA l k).isSome]) ∧ Kept (fun _ => False) w w' := by
  obtain ⟨p, cap, rfl⟩ := RowsAt.slice hv
  have Hat : Hid (∀ (j : Nat) (x : Av), l[j]? = some x → ∀ W, Kept (fun _ => False) w W → ∃ g o, p = some ⟨g, o, none⟩ ∧ l.length ≤ cap ∧ W.cell? ⟨g, o + j * 5, none⟩ = some (.bool x.must) ∧ W.cell? ⟨g, o + j * 5 + 1, none⟩ = some (.bool x.hidden) ∧ W.cell? ⟨g, o + j * 5 + 2, none⟩ = some (.int .i64 x.vendor) ∧ W.cell? ⟨g, o + j * 5 + 3, none⟩ = some (.int .i64 x.type) ∧ W.cell? ⟨g, o + j * 5 + 4, none⟩ = some (.string x.value)) :=
    fun j x hj W hW => AvsAt.at5 (RowsAt.kept0 hv hW) hj
  have Hsz := hid hsz
  clear hv hsz
  go_enter Tryz.func49, Tryz.ntmps49
  go_wp2
  go_loopw [6] (fun vi wr => ∃ j : Nat, j ≤ l.length ∧ vi = .int .i64 (j : Int) ∧ Hid ((l.take j).find? (hitA k) = none ∧ Kept (fun _ => False) w wr)) (fun vi _ => l.length - (intOf vi).toNat)
  case atStart => exact ⟨0, Nat.zero_le _, rfl, rfl, Kept.refl _ _⟩
  case round =>
    obtain ⟨j, hj, rfl, HI⟩ := hrel
    by_cases hlt : j < l.length
    · have hltz : (j : Int) < (l.length : Int) := by omega
      obtain ⟨x, hx⟩ : ∃ x, l[j]? = some x := ⟨l[j], by simp [hlt]⟩
      obtain ⟨g, o, rfl, hcap, r0, r1, r2, r3, r4⟩ := Hat.out j x hx wr HI.out.2
      have hxs := Hsz.out x (List.mem_of_getElem? hx)
      have HK := hid HI.out.2
      cases hh : hitA k x with
      | true =>
        have hF := findG_hit HI.out.1 hx hh
        have HF : Hid (findAB l k = x.value ∧ (findA l k).isSome = true) := by
          have : findA l k = some x := hF
          show _ ∧ _
          unfold findAB
          rw [this]
          exact ⟨rfl, rfl⟩
        obtain ⟨e1, e2⟩ : (x.vendor == 0) = true ∧ (x.type == k) = true := by simpa [hitA] using hh
        clear hF hx HI hh hxs
        obtain ⟨m, q, n, t, V⟩ := x
        simp only at *
        go_wp2
        go_ret2
        exact ⟨by rw [HF.out.1, HF.out.2]; rfl, HK.out⟩
      | false =>
        have HF := hid (findG_on HI.out.1 hx hh)
        have hcase : (x.vendor == 0) = false ∨ ((x.vendor == 0) = true ∧ (x.type == k) = false) := by
          cases h1 : (x.vendor == 0) with
          | false => exact Or.inl rfl
          | true =>
            refine Or.inr ⟨rfl, ?_⟩
            unfold hitA at hh
            rw [h1, Bool.true_and] at hh
            exact hh
        clear hx HI hh hxs
        obtain ⟨m, q, n, t, V⟩ := x
        simp only at *
        rcases hcase with e1 | ⟨e1, e2⟩
        · go_wp2
          exact ⟨⟨j + 1, hlt, by go_num, HF.out, HK.out⟩, by simp [intOf]; omega⟩
        · go_wp2
          exact ⟨⟨j + 1, hlt, by go_num, HF.out, HK.out⟩, by simp [intOf]; omega⟩
    · obtain rfl : j = l.length := by omega
      have hltz : ¬ (l.length : Int) < (l.length : Int) := by omega
      obtain ⟨hF, hk⟩ := HI.out
      rw [List.take_length] at hF
      have HF : Hid (findAB l k = ⟨#[]⟩ ∧ (findA l k).isSome = false) := by
        have : findA l k = none := hF
        show _ ∧ _
        unfold findAB
        rw [this]
        exact ⟨rfl, rfl⟩
      clear hF HI hlt
      go_wp2
      go_ret2
      exact ⟨by rw [HF.out.1, HF.out.2]; rfl, hk⟩


set_option maxHeartbeats 4000000 in
set_option maxRecDepth 100000 in
theorem rNum_any (kind v n : Int) (hn : -9223372036854775808 ≤ n ∧ n ≤ 9223372036854775807) (w : World) :
    Calls Tryz.prog 50 #[.int .i64 kind, .int .i64 v, .int .i64 n] w fun e w' => e = .returned (avV ⟨true, false, 0, kind, numV v n⟩) ∧ Kept (fun _ => False) w w' := by
  have hk0 : Kept (fun _ => False) w (w.alloc (.cells #[.bool false, .bool false, .int .i64 0, .int .i64 0, .string ⟨#[]⟩] 72)) := (Kept.refl (fun _ => False) w).alloc _
  have hs0 : (w.alloc (.cells #[.bool false, .bool false, .int .i64 0, .int .i64 0, .string ⟨#[]⟩] 72)).heap.size = w.heap.size + 1 := by simp
  have HZ : Hid (AvAt ((w.alloc (.cells #[.bool false, .bool false, .int .i64 0, .int .i64 0, .string ⟨#[]⟩] 72)).alloc (.cells #[.bool true, .bool false, .int .i64 0, .int .i64 kind, .string ⟨#[]⟩] 72)) w.heap.size av0) := (AvAt.new w av0).kept0 ((Kept.refl _ _).alloc _)
  have HT : Hid (AvAt ((w.alloc (.cells #[.bool false, .bool false, .int .i64 0, .int .i64 0, .string ⟨#[]⟩] 72)).alloc (.cells #[.bool true, .bool false, .int .i64 0, .int .i64 kind, .string ⟨#[]⟩] 72)) (w.heap.size + 1) ⟨true, false, 0, kind, ⟨#[]⟩⟩) := by
    have h := AvAt.new (w.alloc (.cells #[.bool false, .bool false, .int .i64 0, .int .i64 0, .string ⟨#[]⟩] 72)) ⟨true, false, 0, kind, ⟨#[]⟩⟩
    rw [hs0] at h
    exact h
  have HK := hid (hk0.alloc (.cells #[.bool true, .bool false, .int .i64 0, .int .i64 kind, .string ⟨#[]⟩] 72))
  clear hk0 hs0
  unfold numV
  by_cases hc : n < 1 ∨ 8 < n
  · rw [if_pos hc]
    have hcase : ¬ 1 ≤ n ∨ (1 ≤ n ∧ ¬ n ≤ 8) := by omega
    clear hc
    rcases hcase with h1 | ⟨h1, h8⟩
    · go_enter Tryz.func50, Tryz.ntmps50
      go_upto_region 2 with fail
      generalize (w.alloc (.cells #[.bool false, .bool false, .int .i64 0, .int .i64 0, .string ⟨#[]⟩] 72)).alloc (.cells #[.bool true, .bool false, .int .i64 0, .int .i64 kind, .string ⟨#[]⟩] 72) = W0 at *
      obtain ⟨t0, t1, t2, t3, t4⟩ := HT.out.cells
      obtain ⟨z0, z1, z2, z3, z4⟩ := HZ.out.cells
      have f0 := HZ.out.frozen 0
      have f1 := HZ.out.frozen 1
      have f2 := HZ.out.frozen 2
      have f3 := HZ.out.frozen 3
      have f4 := HZ.out.frozen 4
      unfold av0 at z0 z1 z2 z3 z4
      simp only at t0 t1 t2 t3 t4 z0 z1 z2 z3 z4
      go_wp2
      refine bodyPost_ret (v := avV ⟨true, false, 0, kind, ⟨#[]⟩⟩) (by simp [results, Tryz.results50, go_sem, z0, z1, z2, z3, z4, avV]) rfl ⟨rfl, ?_⟩
      exact ((((HK.out.setCell (Or.inl (Nat.le_refl _)) _).setCell (Or.inl (Nat.le_refl _)) _).setCell (Or.inl (Nat.le_refl _)) _).setCell (Or.inl (Nat.le_refl _)) _).setCell (Or.inl (Nat.le_refl _)) _
    · go_enter Tryz.func50, Tryz.ntmps50
      go_upto_region 2 with fail
      generalize (w.alloc (.cells #[.bool false, .bool false, .int .i64 0, .int .i64 0, .string ⟨#[]⟩] 72)).alloc (.cells #[.bool true, .bool false, .int .i64 0, .int .i64 kind, .string ⟨#[]⟩] 72) = W0 at *
      obtain ⟨t0, t1, t2, t3, t4⟩ := HT.out.cells
      obtain ⟨z0, z1, z2, z3, z4⟩ := HZ.out.cells
      have f0 := HZ.out.frozen 0
      have f1 := HZ.out.frozen 1
      have f2 := HZ.out.frozen 2
      have f3 := HZ.out.frozen 3
      have f4 := HZ.out.frozen 4
      unfold av0 at z0 z1 z2 z3 z4
      simp only at t0 t1 t2 t3 t4 z0 z1 z2 z3 z4
      go_wp2
      refine bodyPost_ret (v := avV ⟨true, false, 0, kind, ⟨#[]⟩⟩) (by simp [results, Tryz.results50, go_sem, z0, z1, z2, z3, z4, avV]) rfl ⟨rfl, ?_⟩
      exact ((((HK.out.setCell (Or.inl (Nat.le_refl _)) _).setCell (Or.inl (Nat.le_refl _)) _).setCell (Or.inl (Nat.le_refl _)) _).setCell (Or.inl (Nat.le_refl _)) _).setCell (Or.inl (Nat.le_refl _)) _
  · rw [if_neg hc]
    obtain ⟨k, rfl⟩ := Int.eq_ofNat_of_zero_le (show 0 ≤ n by omega)
    rw [Int.toNat_natCast]
    have h1 : ¬ (k : Int) < 1 := by omega
    have h8 : ¬ (8 : Int) < (k : Int) := by omega
    have hk1 : 1 ≤ k := by omega
    have hk8 : k ≤ 8 := by omega
    obtain ⟨S, hS⟩ : ∃ S : ByteArray, S = ⟨(lowI v k).toArray⟩ := ⟨_, rfl⟩
    have HL := hid (refLowI_any v k hk1 hk8)
    rw [← hS] at HL ⊢
    clear hS
    clear hc hn
    go_enter Tryz.func50, Tryz.ntmps50
    go_upto_region 2 with fail
    generalize (w.alloc (.cells #[.bool false, .bool false, .int .i64 0, .int .i64 0, .string ⟨#[]⟩] 72)).alloc (.cells #[.bool true, .bool false, .int .i64 0, .int .i64 kind, .string ⟨#[]⟩] 72) = W0 at *
    have h1' : (1 : Int) ≤ (k : Int) := by omega
    have h8' : (k : Int) ≤ 8 := by omega
    go_wp2_with fail
    refine (HL.out _).mono ?_
    rintro e wr ⟨rfl, hb⟩
    have hbel := kept_of hb
    have ha := HT.out.kept0 hbel
    have HT1 := hid (ha.setValue S)
    have f4 := ha.frozen 4
    obtain ⟨t0, t1, t2, t3, t4⟩ := ha.cells
    have hz' := HZ.out.kept0 hbel
    have HZ1 : Hid (AvAt (wr.setCell ⟨w.heap.size + 1, 4, none⟩ (.string S)) w.heap.size av0) := hz'.kept ((Kept.refl (fun i => i = w.heap.size + 1) wr).setCell (Or.inr rfl) _) (by omega)
    have HK1 := hid ((HK.out.trans hbel).setCell (p := ⟨w.heap.size + 1, 4, none⟩) (Or.inl (Nat.le_succ _)) (.string S))
    clear hb hbel ha hz'
    go_upto_region 4 with fail
    generalize wr.setCell ⟨w.heap.size + 1, 4, none⟩ (.string S) = W2 at *
    clear t0 t1 t2 t3 t4 f4
    obtain ⟨t0, t1, t2, t3, t4⟩ := HT1.out.cells
    obtain ⟨z0, z1, z2, z3, z4⟩ := HZ1.out.cells
    have f0 := HZ1.out.frozen 0
    have f1 := HZ1.out.frozen 1
    have f2 := HZ1.out.frozen 2
    have f3 := HZ1.out.frozen 3
    have f4 := HZ1.out.frozen 4
    unfold av0 at z0 z1 z2 z3 z4
    simp only at t0 t1 t2 t3 t4 z0 z1 z2 z3 z4
    go_wp2
    refine bodyPost_ret (v := avV ⟨true, false, 0, kind, S⟩) (by simp [results, Tryz.results50, go_sem, z0, z1, z2, z3, z4, avV]) rfl ⟨rfl, ?_⟩
    exact ((((HK1.out.setCell (Or.inl (Nat.le_refl _)) _).setCell (Or.inl (Nat.le_refl _)) _).setCell (Or.inl (Nat.le_refl _)) _).setCell (Or.inl (Nat.le_refl _)) _).setCell (Or.inl (Nat.le_refl _)) _

set_option maxHeartbeats 4000000 in
set_option maxRecDepth 100000 in
theorem rLength_any (k : Int) (w : World) : Calls Tryz.prog 48 #[.int .i64 k] w fun e w' => e = .returned (.int .i64 (lengthF k)) ∧ Kept (fun _ => False) w w' := by
  by_cases h0 : k = 0
  · subst h0
    have e : lengthF 0 = 2 := rfl
    rw [e]
    clear e
    go_enter Tryz.func48, Tryz.ntmps48
    go_wp2
    go_ret
    exact ⟨rfl, Kept.refl _ _⟩
  by_cases h2 : k = 2
  · subst h2
    have e : lengthF 2 = 2 := rfl
    rw [e]
    clear e
    go_enter Tryz.func48, Tryz.ntmps48
    go_wp2
    go_ret
    exact ⟨rfl, Kept.refl _ _⟩
  by_cases h9 : k = 9
  · subst h9
    have e : lengthF 9 = 2 := rfl
    rw [e]
    clear e
    go_enter Tryz.func48, Tryz.ntmps48
    go_wp2
    go_ret
    exact ⟨rfl, Kept.refl _ _⟩
  by_cases h10 : k = 10
  · subst h10
    have e : lengthF 10 = 2 := rfl
    rw [e]
    clear e
    go_enter Tryz.func48, Tryz.ntmps48
    go_wp2
    go_ret
    exact ⟨rfl, Kept.refl _ _⟩
  by_cases h14 : k = 14
  · subst h14
    have e : lengthF 14 = 2 := rfl
    rw [e]
    clear e
    go_enter Tryz.func48, Tryz.ntmps48
    go_wp2
    go_ret
    exact ⟨rfl, Kept.refl _ _⟩
  by_cases h29 : k = 29
  · subst h29
    have e : lengthF 29 = 2 := rfl
    rw [e]
    clear e
    go_enter Tryz.func48, Tryz.ntmps48
    go_wp2
    go_ret
    exact ⟨rfl, Kept.refl _ _⟩
  by_cases h32 : k = 32
  · subst h32
    have e : lengthF 32 = 2 := rfl
    rw [e]
    clear e
    go_enter Tryz.func48, Tryz.ntmps48
    go_wp2
    go_ret
    exact ⟨rfl, Kept.refl _ _⟩
  by_cases h3 : k = 3
  · subst h3
    have e : lengthF 3 = 4 := rfl
    rw [e]
    clear e
    go_enter Tryz.func48, Tryz.ntmps48
    go_wp2
    go_ret
    exact ⟨rfl, Kept.refl _ _⟩
  by_cases h15 : k = 15
  · subst h15
    have e : lengthF 15 = 4 := rfl
    rw [e]
    clear e
    go_enter Tryz.func48, Tryz.ntmps48
    go_wp2
    go_ret
    exact ⟨rfl, Kept.refl _ _⟩
  by_cases h19 : k = 19
  · subst h19
    have e : lengthF 19 = 4 := rfl
    rw [e]
    clear e
    go_enter Tryz.func48, Tryz.ntmps48
    go_wp2
    go_ret
    exact ⟨rfl, Kept.refl _ _⟩
  by_cases h24 : k = 24
  · subst h24
    have e : lengthF 24 = 4 := rfl
    rw [e]
    clear e
    go_enter Tryz.func48, Tryz.ntmps48
    go_wp2
    go_ret
    exact ⟨rfl, Kept.refl _ _⟩
  by_cases h5 : k = 5
  · subst h5
    have e : lengthF 5 = 8 := rfl
    rw [e]
    clear e
    go_enter Tryz.func48, Tryz.ntmps48
    go_wp2
    go_ret
    exact ⟨rfl, Kept.refl _ _⟩
  by_cases h13 : k = 13
  · subst h13
    have e : lengthF 13 = 16 := rfl
    rw [e]
    clear e
    go_enter Tryz.func48, Tryz.ntmps48
    go_wp2
    go_ret
    exact ⟨rfl, Kept.refl _ _⟩
  by_cases h39 : k = 39
  · subst h39
    have e : lengthF 39 = 0 := rfl
    rw [e]
    clear e
    go_enter Tryz.func48, Tryz.ntmps48
    go_wp2
    go_ret
    exact ⟨rfl, Kept.refl _ _⟩
  by_cases h1 : k = 1
  · subst h1
    have e : lengthF 1 = -1 := rfl
    rw [e]
    clear e
    go_enter Tryz.func48, Tryz.ntmps48
    go_wp2
    go_ret
    exact ⟨rfl, Kept.refl _ _⟩
  by_cases h7 : k = 7
  · subst h7
    have e : lengthF 7 = -1 := rfl
    rw [e]
    clear e
    go_enter Tryz.func48, Tryz.ntmps48
    go_wp2
    go_ret
    exact ⟨rfl, Kept.refl _ _⟩
  by_cases h11 : k = 11
  · subst h11
    have e : lengthF 11 = -1 := rfl
    rw [e]
    clear e
    go_enter Tryz.func48, Tryz.ntmps48
    go_wp2
    go_ret
    exact ⟨rfl, Kept.refl _ _⟩
  by_cases h26 : k = 26
  · subst h26
    have e : lengthF 26 = -1 := rfl
    rw [e]
    clear e
    go_enter Tryz.func48, Tryz.ntmps48
    go_wp2
    go_ret
    exact ⟨rfl, Kept.refl _ _⟩
  by_cases h27 : k = 27
  · subst h27
    have e : lengthF 27 = -1 := rfl
    rw [e]
    clear e
    go_enter Tryz.func48, Tryz.ntmps48
    go_wp2
    go_ret
    exact ⟨rfl, Kept.refl _ _⟩
  by_cases h28 : k = 28
  · subst h28
    have e : lengthF 28 = -1 := rfl
    rw [e]
    clear e
    go_enter Tryz.func48, Tryz.ntmps48
    go_wp2
    go_ret
    exact ⟨rfl, Kept.refl _ _⟩
  by_cases h30 : k = 30
  · subst h30
    have e : lengthF 30 = -1 := rfl
    rw [e]
    clear e
    go_enter Tryz.func48, Tryz.ntmps48
    go_wp2
    go_ret
    exact ⟨rfl, Kept.refl _ _⟩
  by_cases h31 : k = 31
  · subst h31
    have e : lengthF 31 = -1 := rfl
    rw [e]
    clear e
    go_enter Tryz.func48, Tryz.ntmps48
    go_wp2
    go_ret
    exact ⟨rfl, Kept.refl _ _⟩
  by_cases h33 : k = 33
  · subst h33
    have e : lengthF 33 = -1 := rfl
    rw [e]
    clear e
    go_enter Tryz.func48, Tryz.ntmps48
    go_wp2
    go_ret
    exact ⟨rfl, Kept.refl _ _⟩
  by_cases h34 : k = 34
  · subst h34
    have e : lengthF 34 = -1 := rfl
    rw [e]
    clear e
    go_enter Tryz.func48, Tryz.ntmps48
    go_wp2
    go_ret
    exact ⟨rfl, Kept.refl _ _⟩
  by_cases h35 : k = 35
  · subst h35
    have e : lengthF 35 = -1 := rfl
    rw [e]
    clear e
    go_enter Tryz.func48, Tryz.ntmps48
    go_wp2
    go_ret
    exact ⟨rfl, Kept.refl _ _⟩
  by_cases h36 : k = 36
  · subst h36
    have e : lengthF 36 = -1 := rfl
    rw [e]
    clear e
    go_enter Tryz.func48, Tryz.ntmps48
    go_wp2
    go_ret
    exact ⟨rfl, Kept.refl _ _⟩
  have e : lengthF k = -2 := by
    unfold lengthF
    have hf : AvLit.lengthsR.find? (fun r => r.e == k) = none := by
      rw [List.find?_eq_none]
      intro r hr
      simp only [AvLit.lengthsR, List.mem_cons, List.not_mem_nil, or_false] at hr
      simp only [beq_iff_eq]
      rcases hr with rfl | rfl | rfl | rfl | rfl | rfl | rfl | rfl | rfl | rfl | rfl | rfl | rfl | rfl | rfl | rfl | rfl | rfl | rfl | rfl | rfl | rfl | rfl | rfl | rfl | rfl <;> (intro e; exact absurd e.symm (by assumption))
    rw [hf]
  rw [e]
  have g0 : (k == 0) = false := by rw [beq_eq_false_iff_ne]; exact h0
  have g2 : (k == 2) = false := by rw [beq_eq_false_iff_ne]; exact h2
  have g9 : (k == 9) = false := by rw [beq_eq_false_iff_ne]; exact h9
  have g10 : (k == 10) = false := by rw [beq_eq_false_iff_ne]; exact h10
  have g14 : (k == 14) = false := by rw [beq_eq_false_iff_ne]; exact h14
  have g29 : (k == 29) = false := by rw [beq_eq_false_iff_ne]; exact h29
  have g32 : (k == 32) = false := by rw [beq_eq_false_iff_ne]; exact h32
  have g3 : (k == 3) = false := by rw [beq_eq_false_iff_ne]; exact h3
  have g15 : (k == 15) = false := by rw [beq_eq_false_iff_ne]; exact h15
  have g19 : (k == 19) = false := by rw [beq_eq_false_iff_ne]; exact h19
  have g24 : (k == 24) = false := by rw [beq_eq_false_iff_ne]; exact h24
  have g5 : (k == 5) = false := by rw [beq_eq_false_iff_ne]; exact h5
  have g13 : (k == 13) = false := by rw [beq_eq_false_iff_ne]; exact h13
  have g39 : (k == 39) = false := by rw [beq_eq_false_iff_ne]; exact h39
  have g1 : (k == 1) = false := by rw [beq_eq_false_iff_ne]; exact h1
  have g7 : (k == 7) = false := by rw [beq_eq_false_iff_ne]; exact h7
  have g11 : (k == 11) = false := by rw [beq_eq_false_iff_ne]; exact h11
  have g26 : (k == 26) = false := by rw [beq_eq_false_iff_ne]; exact h26
  have g27 : (k == 27) = false := by rw [beq_eq_false_iff_ne]; exact h27
  have g28 : (k == 28) = false := by rw [beq_eq_false_iff_ne]; exact h28
  have g30 : (k == 30) = false := by rw [beq_eq_false_iff_ne]; exact h30
  have g31 : (k == 31) = false := by rw [beq_eq_false_iff_ne]; exact h31
  have g33 : (k == 33) = false := by rw [beq_eq_false_iff_ne]; exact h33
  have g34 : (k == 34) = false := by rw [beq_eq_false_iff_ne]; exact h34
  have g35 : (k == 35) = false := by rw [beq_eq_false_iff_ne]; exact h35
  have g36 : (k == 36) = false := by rw [beq_eq_false_iff_ne]; exact h36
  clear e h0 h2 h9 h10 h14 h29 h32 h3 h15 h19 h24 h5 h13 h39 h1 h7 h11 h26 h27 h28 h30 h31 h33 h34 h35 h36
  go_enter Tryz.func48, Tryz.ntmps48
  go_wp2
  go_ret
  exact ⟨rfl, Kept.refl _ _⟩
end Go.Proofs.YtkneogfeokckjaaGreatDoor
