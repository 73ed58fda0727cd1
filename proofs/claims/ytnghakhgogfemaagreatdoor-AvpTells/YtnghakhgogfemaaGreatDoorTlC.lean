/- The document's own calls of chapter 18: Two, Num of two bytes, Low, Find, Number, Same, Num, Length; of Mask and Unmask what they come to is a premise. (Written by gen_avref1.py.) · The contract of the document's own Put (P1801). (Written by gen_avrefput.py.) · The contract of the document's own Get (P1802). (Written by gen_avrefget.py.) -/
import Derived.Test.YtnghakhgogfemaaGreatDoorTlA
import Derived.Test.YtnghakhgogfemaaGreatDoorAvEq
import Derived.Test.YtnghakhgogfemaaGreatDoorRefLow
import Derived.Deep.CutRange
import Derived.Deep.CutBlock
import Derived.Deep.RegionHeld
namespace Go.Proofs.YtnghakhgogfemaaGreatDoor
open Go.RowKit

theorem kindL_nat (n : Nat) : kindL (n : Int) = low n 2 := by
  unfold kindL
  rw [low_two]
  congr 2
theorem refTwoA (n : Nat) (w : World) : Calls Tryz.prog 28 #[.int .i64 (n : Int)] w fun e w' => e = .returned (.string (two n)) ∧ Kept (fun _ => False) w w' := by
  refine (refTwo_any (n : Int) w).mono ?_
  rintro e w1 ⟨rfl, hb⟩
  exact ⟨by rw [kindL_nat]; rfl, kept_of hb⟩
theorem num_atA (s : ByteArray) (k : Nat) (h : k + 1 < s.size) : numAt s k = (s.data.toList.getD k 0).toNat * 256 + (s.data.toList.getD (k + 1) 0).toNat := by
  unfold numAt
  rw [num_two (by rw [List.length_drop, ← Lib.size_eq]; omega)]
  simp [List.getD_eq_getElem?_getD, List.getElem?_drop]
set_option maxHeartbeats 1000000 in
set_option maxRecDepth 100000 in
theorem refNumA (s : ByteArray) (hs : s.size ≤ 140737488351232) (k : Nat) (h : k + 2 ≤ s.size) (w : World) :
    Calls Tryz.prog 31 #[.string s, .int .i64 (k : Int)] w fun e w' => e = .returned (.int .i64 (numAt s k : Int)) ∧ Kept (fun _ => False) w w' := by
  rw [num_atA s k (by omega)]
  have b0 := (s.data.toList.getD k 0).toNat_lt
  have b1 := (s.data.toList.getD (k + 1) 0).toNat_lt
  have x0 := index_at s k (by omega) (k : Int) rfl
  have x1 := index_at s (k + 1) (by omega) ((k : Int) + 1) (by omega)
  generalize (s.data.toList.getD k 0).toNat = A at b0 x0
  generalize (s.data.toList.getD (k + 1) 0).toNat = B at b1 x1
  have hwr : IntKind.i64.wrap ((k : Int) + 1) = (k : Int) + 1 := by rw [IntKind.wrap_i64]; omega
  go_enter Tryz.func31, Tryz.ntmps31
  go_wp2
  go_region
  go_wp2
  go_ret
  exact ⟨ret_int (by omega), (Kept.refl _ _).drew⟩

/-- What the document's own Mask and Unmask come to. -/
def RefMaskAt : Prop := ∀ (k : Int) (s v x : ByteArray), s.size ≤ 1000000 → v.size ≤ 1000000 → x.size ≤ 1000000 → ∀ W : World,
  Calls Tryz.prog 27 #[.int .i64 k, .string s, .string v, .string x] W fun e w' => e = .returned (.string (maskA false k s v x)) ∧ Kept (fun _ => False) W w'
def RefUnmAt : Prop := ∀ (k : Int) (s v x : ByteArray), s.size ≤ 1000000 → v.size ≤ 1000000 → x.size ≤ 1000000 → ∀ W : World,
  Calls Tryz.prog 32 #[.int .i64 k, .string s, .string v, .string x] W fun e w' => e = .returned (.string (maskA true k s v x)) ∧ Kept (fun _ => False) W w'

/-! Low. -/
theorem lowI_top (v : Int) (j : Nat) : lowI v (j + 1) = UInt8.ofNat (v / 256 ^ j % 256).toNat :: lowI v j := by
  induction j generalizing v with
  | zero => simp [lowI]
  | succ j ih =>
    have e := ih (v / 256)
    show lowI (v / 256) (j + 1) ++ [UInt8.ofNat (v % 256).toNat] = UInt8.ofNat (v / 256 ^ (j + 1) % 256).toNat :: (lowI (v / 256) j ++ [UInt8.ofNat (v % 256).toNat])
    rw [e, Int.ediv_ediv_of_nonneg (by decide), show (256 : Int) * 256 ^ j = 256 ^ (j + 1) from by rw [Int.pow_succ, Int.mul_comm]]
    rfl
theorem byte_cell (m : Int) (h0 : 0 ≤ m) (h : m < 256) : Value.int .u8 (((UInt8.ofNat m.toNat).toNat : Nat) : Int) = .int .u8 m := by
  congr 1
  rw [UInt8.toNat_ofNat']
  omega
theorem lowI_set (v : Int) (k j : Nat) (h : j < k) :
    (Lib.byteCells (List.replicate (k - j) 0 ++ lowI v j)).set (k - 1 - j) (.int .u8 (v / 256 ^ j % 256)) = Lib.byteCells (List.replicate (k - (j + 1)) 0 ++ lowI v (j + 1)) := by
  have e : List.replicate (k - j) (0 : UInt8) = List.replicate (k - (j + 1)) 0 ++ [0] := by
    rw [show k - j = k - (j + 1) + 1 from by omega, List.replicate_succ']
  rw [e, lowI_top, List.append_assoc, Lib.byteCells_append, List.set_append_right _ _ (by simp [Lib.byteCells]; omega), Lib.byteCells_append]
  have e2 : k - 1 - j - (Lib.byteCells (List.replicate (k - (j + 1)) 0)).length = 0 := by simp [Lib.byteCells]; omega
  rw [e2]
  congr 1
  have hb := byte_cell (v / 256 ^ j % 256) (Int.emod_nonneg _ (by decide)) (Int.emod_lt_of_pos _ (by decide))
  simp only [Lib.byteCells, List.map_cons, List.map_nil, List.map_append, List.nil_append, List.set_cons_zero, List.cons_append]
  rw [hb]
theorem made_zeroI (k : Nat) : (madeCells #[Value.int .u8 0] k).toList = Lib.byteCells (List.replicate k 0) := by
  rw [toList_madeCells_one]
  simp [Lib.byteCells]
theorem lowI_step {base g k j : Nat} {v : Int} {w wr : World} (hb : base ≤ g) (hz : base ≤ wr.heap.size) (hj : j < k) (hbel : Below base w wr)
    (hown : wr.ownsRow base 5 1 (.slice (some ⟨g, 0, none⟩) k k) k (Lib.byteCells (List.replicate (k - j) 0 ++ lowI v j))) :
    (wr.setCell ⟨g, k - 1 - j, none⟩ (.int .u8 (v / 256 ^ j % 256))).ownsRow base 5 1 (.slice (some ⟨g, 0, none⟩) k k) k (Lib.byteCells (List.replicate (k - (j + 1)) 0 ++ lowI v (j + 1))) ∧
    Below base w (wr.setCell ⟨g, k - 1 - j, none⟩ (.int .u8 (v / 256 ^ j % 256))) := by
  have h := hown.stored (k - 1 - j) (.int .u8 (v / 256 ^ j % 256))
  rw [lowI_set v k j hj] at h
  exact ⟨h.1, hbel.grown h.2 hz (fun x hx => by simp at hx; omega)⟩
set_option maxRecDepth 100000 in
set_option maxHeartbeats 1000000 in
theorem refLowI_any (v : Int) (k : Nat) (hk1 : 1 ≤ k) (hk : k ≤ 8) (w : World) :
    Calls Tryz.prog 108 #[.int .i64 v, .int .i64 (k : Int)] w fun e w' => e = .returned (.string ⟨(lowI v k).toArray⟩) ∧ Below w.heap.size w w' := by
  obtain ⟨i0, hi, hz0, hz1, hz2⟩ := info_parts info5
  go_enter Tryz.func108, Tryz.ntmps108
  go_wp2_with (at_make; refine wpList_make_full _ rfl _ _ 63 rfl w.heap.size 5 i0 (.int .u8 0) 1 Tryz.underlying63 hi hz0 hz1 .i64 .i64 _ _ k rfl rfl ?m0 ?m1 ?m2 ?m3 ?m4 ?_)
  case m0 => rfl
  case m1 => rfl
  case m2 => rw [hz2]; omega
  case m3 => unfold maxLen; omega
  case m4 => exact Nat.le_refl _
  intro w1 hown1 hg1
  have hb1 : Below w.heap.size w w1 := (Below.refl _ w).grown hg1 (Nat.le_refl _) (fun k hk => by cases hk)
  rw [made_zeroI] at hown1
  clear hg1
  go_wp2
  go_loopw [0, 6] (fun x i wr => ∃ j : Nat, j ≤ k ∧ x = .int .i64 (v / 256 ^ j) ∧ i = .int .i64 ((k : Int) - 1 - j) ∧ wr.ownsRow w.heap.size 5 1 (.slice (some ⟨w.heap.size, 0, none⟩) k k) k (Lib.byteCells (List.replicate (k - j) 0 ++ lowI v j)) ∧ Below w.heap.size w wr)
    (fun _ i _ => (intOf i + 1).toNat)
  case atStart => exact ⟨0, Nat.zero_le _, by simp, by simp, by simpa [lowI] using hown1, hb1⟩
  case round =>
    obtain ⟨j, hj, rfl, rfl, hownr, hbel⟩ := hrel
    clear hown1 hb1
    have HD : Hid (v / 256 ^ (j + 1) = v / 256 ^ j / 256) := by
      show v / 256 ^ (j + 1) = v / 256 ^ j / 256
      rw [Int.ediv_ediv_of_nonneg (Int.le_of_lt (Int.pow_pos (by decide))), Int.pow_succ]
    by_cases hlt : j < k
    · have hc := hownr.cellAt (k - 1 - j) (by omega)
      have hf := hownr.frozenAt (k - 1 - j)
      obtain ⟨u, hu⟩ : ∃ u, (Lib.byteCells (List.replicate (k - j) 0 ++ lowI v j))[k - 1 - j]? = some u := by
        rw [List.getElem?_eq_getElem (by simp [Lib.byteCells, lowI_length]; omega)]
        exact ⟨_, rfl⟩
      rw [hu] at hc
      have R := lowI_step (Nat.le_refl _) hbel.size hlt hbel hownr
      generalize v / 256 ^ j = x at R HD
      clear hu hownr hbel
      have HR := hide R
      clear R
      go_wp2
      go_roundw
      case rel => exact ⟨j + 1, by omega, by rw [HD.out], by go_num, HR.out.1, HR.out.2⟩
      case measure => simp [intOf]; omega
    · obtain rfl : j = k := by omega
      rw [Nat.sub_self, List.replicate_zero, List.nil_append] at hownr
      have hcv := put_conv hownr
      clear HD
      go_wp2
      go_ret
      exact ⟨rfl, hbel⟩

set_option maxHeartbeats 2000000 in
set_option maxRecDepth 100000 in
theorem rFind_any (v : Value) (l : List Av) (k : Int) (w : World) (hv : AvsAt w v l) (hl : l.length ≤ 1000000) (hsz : ∀ x ∈ l, x.value.size ≤ 140737488351232) :
    Calls Tryz.prog 12 #[v, .int .i64 k] w fun e w' => e = .returned (.tuple #[.string (findAB l k), .bool (findA l k).isSome]) ∧ Kept (fun _ => False) w w' := by
  obtain ⟨p, cap, rfl⟩ := RowsAt.slice hv
  have Hat : Hid (∀ (j : Nat) (x : Av), l[j]? = some x → ∀ W, Kept (fun _ => False) w W → ∃ g o, p = some ⟨g, o, none⟩ ∧ l.length ≤ cap ∧ W.cell? ⟨g, o + j * 5, none⟩ = some (.bool x.must) ∧ W.cell? ⟨g, o + j * 5 + 1, none⟩ = some (.bool x.hidden) ∧ W.cell? ⟨g, o + j * 5 + 2, none⟩ = some (.int .i64 x.vendor) ∧ W.cell? ⟨g, o + j * 5 + 3, none⟩ = some (.int .i64 x.type) ∧ W.cell? ⟨g, o + j * 5 + 4, none⟩ = some (.string x.value)) :=
    fun j x hj W hW => AvsAt.at5 (RowsAt.kept0 hv hW) hj
  have Hsz := hid hsz
  clear hv hsz
  go_enter Tryz.func12, Tryz.ntmps12
  go_wp2
  go_loopw [6] (fun vi wr => ∃ j : Nat, j ≤ l.length ∧ vi = .int .i64 (j : Int) ∧ Hid ((l.take j).find? (hitA k) = none ∧ Kept (fun _ => False) w wr)) (fun vi _ => l.length - (intOf vi).toNat)
  case atStart => exact ⟨0, Nat.zero_le _, rfl, rfl, Kept.refl _ _⟩
  case round =>
    obtain ⟨j, hj, rfl, HI⟩ := hrel
    by_cases hlt : j < l.length
    · have hltz : (j : Int) < (l.length : Int) := by omega
      obtain ⟨x, hx⟩ : ∃ x, l[j]? = some x := ⟨l[j], by simp [hlt]⟩
      obtain ⟨g, o, rfl, hcap, r0, r1, r2, r3, r4⟩ := Hat.out j x hx wr HI.out.2
      have hxs := Hsz.out x (List.mem_of_getElem? hx)
      have HK := hid HI.out.2
      cases hh : hitA k x with
      | true =>
        have hF := findG_hit HI.out.1 hx hh
        have HF : Hid (findAB l k = x.value ∧ (findA l k).isSome = true) := by
          have : findA l k = some x := hF
          show _ ∧ _
          unfold findAB
          rw [this]
          exact ⟨rfl, rfl⟩
        obtain ⟨e1, e2⟩ : (x.vendor == 0) = true ∧ (x.type == k) = true := by simpa [hitA] using hh
        clear hF hx HI hh hxs
        obtain ⟨m, q, n, t, V⟩ := x
        simp only at *
        go_wp2
        go_ret2
        exact ⟨by rw [HF.out.1, HF.out.2]; rfl, HK.out⟩
      | false =>
        have HF := hid (findG_on HI.out.1 hx hh)
        have hcase : (x.vendor == 0) = false ∨ ((x.vendor == 0) = true ∧ (x.type == k) = false) := by
          cases h1 : (x.vendor == 0) with
          | false => exact Or.inl rfl
          | true =>
            refine Or.inr ⟨rfl, ?_⟩
            unfold hitA at hh
            rw [h1, Bool.true_and] at hh
            exact hh
        clear hx HI hh hxs
        obtain ⟨m, q, n, t, V⟩ := x
        simp only at *
        rcases hcase with e1 | ⟨e1, e2⟩
        · go_wp2
          exact ⟨⟨j + 1, hlt, by go_num, HF.out, HK.out⟩, by simp [intOf]; omega⟩
        · go_wp2
          exact ⟨⟨j + 1, hlt, by go_num, HF.out, HK.out⟩, by simp [intOf]; omega⟩
    · obtain rfl : j = l.length := by omega
      have hltz : ¬ (l.length : Int) < (l.length : Int) := by omega
      obtain ⟨hF, hk⟩ := HI.out
      rw [List.take_length] at hF
      have HF : Hid (findAB l k = ⟨#[]⟩ ∧ (findA l k).isSome = false) := by
        have : findA l k = none := hF
        show _ ∧ _
        unfold findAB
        rw [this]
        exact ⟨rfl, rfl⟩
      clear hF HI hlt
      go_wp2
      go_ret2
      exact ⟨by rw [HF.out.1, HF.out.2]; rfl, hk⟩

set_option maxHeartbeats 2000000 in
set_option maxRecDepth 100000 in
theorem rNumber_any (v : Value) (l : List Av) (k : Int) (w : World) (hv : AvsAt w v l) (hl : l.length ≤ 1000000) (hsz : ∀ x ∈ l, x.value.size ≤ 140737488351232) :
    Calls Tryz.prog 14 #[v, .int .i64 k] w fun e w' => e = .returned (.tuple #[.int .i64 ((numberA l k).1 : Int), .bool (numberA l k).2]) ∧ Kept (fun _ => False) w w' := by
  have HF := hid (rFind_any v l k w hv hl hsz)
  have hs : (findAB l k).size ≤ 140737488351232 := by
    unfold findAB
    cases h : findA l k with
    | none => exact Nat.zero_le _
    | some x => exact hsz x (List.mem_of_find?_eq_some h)
  unfold numberA
  obtain ⟨p, cap, rfl⟩ := RowsAt.slice hv
  clear hv hl hsz
  generalize findAB l k = s at *
  generalize (findA l k).isSome = B at *
  cases B with
  | false =>
    rw [if_neg (by simp)]
    go_enter Tryz.func14, Tryz.ntmps14
    go_wp2_with fail
    refine HF.out.mono ?_
    rintro e w1 ⟨rfl, hk1⟩
    go_wp2
    go_ret2
    exact ⟨rfl, hk1⟩
  | true =>
    by_cases h0 : s.size = 0
    · rw [if_neg (by omega)]
      obtain rfl := str_nil s h0
      clear h0
      go_enter Tryz.func14, Tryz.ntmps14
      go_wp2_with fail
      refine HF.out.mono ?_
      rintro e w1 ⟨rfl, hk1⟩
      go_wp2
      go_ret2
      exact ⟨rfl, hk1⟩
    · by_cases h7 : 7 < s.size
      · rw [if_neg (by omega)]
        have h7z : (7 : Int) < (s.size : Int) := by omega
        have h1z : ¬ (s.size : Int) < 1 := by omega
        clear h0
        go_enter Tryz.func14, Tryz.ntmps14
        go_wp2_with fail
        refine HF.out.mono ?_
        rintro e w1 ⟨rfl, hk1⟩
        go_wp2
        go_ret2
        exact ⟨rfl, hk1⟩
      · rw [if_pos ⟨rfl, by omega, by omega⟩]
        have h7z : ¬ (7 : Int) < (s.size : Int) := by omega
        have h1z : ¬ (s.size : Int) < 1 := by omega
        clear h0
        go_enter Tryz.func14, Tryz.ntmps14
        go_wp2_with fail
        refine HF.out.mono ?_
        rintro e w1 ⟨rfl, hk1⟩
        have HK1 := hid hk1
        clear hk1
        go_wp2
        go_loopw [8, 9] (fun v i wr => ∃ k : Nat, k ≤ s.size ∧ i = .int .i64 (k : Int) ∧ v = .int .i64 (numOf (s.data.toList.take k) : Int) ∧ wr = w1) (fun _ i _ => s.size - (intOf i).toNat)
        case atStart => exact ⟨0, Nat.zero_le _, rfl, rfl, rfl⟩
        case round =>
          obtain ⟨k, hk, rfl, rfl, rfl⟩ := hrel
          have hl := numOf_lt (s.data.toList.take k)
          have hle : (s.data.toList.take k).length = k := by rw [List.length_take, ← Lib.size_eq]; omega
          rw [hle] at hl
          by_cases hlt : k < s.size
          · have hp : 256 ^ k ≤ 256 ^ 6 := Nat.pow_le_pow_right (by decide) (by omega)
            have hlt4 : numOf (s.data.toList.take k) < 281474976710656 := by omega
            have hltz : (k : Int) < (s.size : Int) := by omega
            have hts := take_snoc s k hlt
            have hb := s[k].toNat_lt
            have HS : Hid (numOf (s.data.toList.take (k + 1)) = numOf (s.data.toList.take k) * 256 + s[k].toNat) := by rw [hts]; exact numOf_snoc _ _
            clear hts hl hle hp
            go_wp2
            exact ⟨⟨k + 1, by omega, by go_num, by rw [HS.out]; go_num, by first | rfl | trivial⟩, by simp [intOf]; omega⟩
          · obtain rfl : k = s.size := by omega
            have hltz : ¬ (s.size : Int) < (s.size : Int) := by omega
            have hA : s.data.toList.take s.size = s.data.toList := List.take_of_length_le (by rw [← Lib.size_eq]; omega)
            rw [hA]
            clear hl hle hA
            go_wp2
            go_ret2
            exact ⟨rfl, HK1.out⟩

set_option maxHeartbeats 4000000 in
set_option maxRecDepth 100000 in
theorem rSame_any (v u : Value) (l m : List Av) (w : World) (hv : AvsAt w v l) (hu : AvsAt w u m) (hl : l.length ≤ 1000000) (gl : ∀ x ∈ l, GoodA x) (gm : ∀ x ∈ m, GoodA x) :
    Calls Tryz.prog 17 #[v, u] w fun e w' => e = .returned (.bool (sameL l m)) ∧ Kept (fun _ => False) w w' := by
  obtain ⟨p, cap, rfl⟩ := RowsAt.slice hv
  obtain ⟨q, cbp, rfl⟩ := RowsAt.slice hu
  by_cases hlen : l.length = m.length
  · have hne : ((l.length : Int) != (m.length : Int)) = false := by simp [hlen]
    have HV := hid (fun W (hk : Kept (fun _ => False) w W) => RowsAt.kept0 hv hk)
    have HU := hid (fun W (hk : Kept (fun _ => False) w W) => RowsAt.kept0 hu hk)
    have HL := hid hlen
    have GL := hid gl
    have GM := hid gm
    clear hv hu hlen gl gm
    go_enter Tryz.func17, Tryz.ntmps17
    go_wp2
    go_loopw [5] (fun vi wr => ∃ j : Nat, j ≤ l.length ∧ vi = .int .i64 (j : Int) ∧ Hid (l.take j = m.take j ∧ Kept (fun _ => False) w wr)) (fun vi _ => l.length - (intOf vi).toNat)
    case atStart => exact ⟨0, Nat.zero_le _, rfl, rfl, Kept.refl _ _⟩
    case round =>
      obtain ⟨j, hj, rfl, HI⟩ := hrel
      by_cases hlt : j < l.length
      · have hltz : (j : Int) < (l.length : Int) := by omega
        have hltm : (j : Int) < (m.length : Int) := by have := HL.out; omega
        obtain ⟨x, hx⟩ : ∃ x, l[j]? = some x := ⟨l[j], by simp [hlt]⟩
        obtain ⟨y, hy⟩ : ∃ y, m[j]? = some y := ⟨m[j]'(by have := HL.out; omega), by simp⟩
        have hq : ∀ W, Sem.run Tryz.prog (Op.equalIn 10000 59 (avV x) (avV y)) W = .ok (sameA x y) W := av_eq (GL.out x (List.mem_of_getElem? hx)) (GM.out y (List.mem_of_getElem? hy))
        obtain ⟨g, o, rfl, hcap, _⟩ := AvsAt.at5 (HV.out _ HI.out.2) hx
        obtain ⟨g2, o2, rfl, hcbp, _⟩ := AvsAt.at5 (HU.out _ HI.out.2) hy
        have A1 := hid (fun W (hk : Kept (fun _ => False) wr W) => AvsAt.at5 (HV.out W (HI.out.2.trans hk)) hx)
        have A2 := hid (fun W (hk : Kept (fun _ => False) wr W) => AvsAt.at5 (HU.out W (HI.out.2.trans hk)) hy)
        have c0 : ∀ W, Kept (fun _ => False) wr W → W.cell? ⟨g, o + j * 5, none⟩ = some (.bool x.must) := fun W hk => by
          obtain ⟨g', o', e', _, q⟩ := A1.out W hk
          simp only [Option.some.injEq, Addr.mk.injEq, and_true] at e'
          obtain ⟨rfl, rfl⟩ := e'
          exact q.1
        have c1 : ∀ W, Kept (fun _ => False) wr W → W.cell? ⟨g, o + j * 5 + 1, none⟩ = some (.bool x.hidden) := fun W hk => by
          obtain ⟨g', o', e', _, q⟩ := A1.out W hk
          simp only [Option.some.injEq, Addr.mk.injEq, and_true] at e'
          obtain ⟨rfl, rfl⟩ := e'
          exact q.2.1
        have c2 : ∀ W, Kept (fun _ => False) wr W → W.cell? ⟨g, o + j * 5 + 2, none⟩ = some (.int .i64 x.vendor) := fun W hk => by
          obtain ⟨g', o', e', _, q⟩ := A1.out W hk
          simp only [Option.some.injEq, Addr.mk.injEq, and_true] at e'
          obtain ⟨rfl, rfl⟩ := e'
          exact q.2.2.1
        have c3 : ∀ W, Kept (fun _ => False) wr W → W.cell? ⟨g, o + j * 5 + 3, none⟩ = some (.int .i64 x.type) := fun W hk => by
          obtain ⟨g', o', e', _, q⟩ := A1.out W hk
          simp only [Option.some.injEq, Addr.mk.injEq, and_true] at e'
          obtain ⟨rfl, rfl⟩ := e'
          exact q.2.2.2.1
        have c4 : ∀ W, Kept (fun _ => False) wr W → W.cell? ⟨g, o + j * 5 + 4, none⟩ = some (.string x.value) := fun W hk => by
          obtain ⟨g', o', e', _, q⟩ := A1.out W hk
          simp only [Option.some.injEq, Addr.mk.injEq, and_true] at e'
          obtain ⟨rfl, rfl⟩ := e'
          exact q.2.2.2.2
        have d0 : ∀ W, Kept (fun _ => False) wr W → W.cell? ⟨g2, o2 + j * 5, none⟩ = some (.bool y.must) := fun W hk => by
          obtain ⟨g', o', e', _, q⟩ := A2.out W hk
          simp only [Option.some.injEq, Addr.mk.injEq, and_true] at e'
          obtain ⟨rfl, rfl⟩ := e'
          exact q.1
        have d1 : ∀ W, Kept (fun _ => False) wr W → W.cell? ⟨g2, o2 + j * 5 + 1, none⟩ = some (.bool y.hidden) := fun W hk => by
          obtain ⟨g', o', e', _, q⟩ := A2.out W hk
          simp only [Option.some.injEq, Addr.mk.injEq, and_true] at e'
          obtain ⟨rfl, rfl⟩ := e'
          exact q.2.1
        have d2 : ∀ W, Kept (fun _ => False) wr W → W.cell? ⟨g2, o2 + j * 5 + 2, none⟩ = some (.int .i64 y.vendor) := fun W hk => by
          obtain ⟨g', o', e', _, q⟩ := A2.out W hk
          simp only [Option.some.injEq, Addr.mk.injEq, and_true] at e'
          obtain ⟨rfl, rfl⟩ := e'
          exact q.2.2.1
        have d3 : ∀ W, Kept (fun _ => False) wr W → W.cell? ⟨g2, o2 + j * 5 + 3, none⟩ = some (.int .i64 y.type) := fun W hk => by
          obtain ⟨g', o', e', _, q⟩ := A2.out W hk
          simp only [Option.some.injEq, Addr.mk.injEq, and_true] at e'
          obtain ⟨rfl, rfl⟩ := e'
          exact q.2.2.2.1
        have d4 : ∀ W, Kept (fun _ => False) wr W → W.cell? ⟨g2, o2 + j * 5 + 4, none⟩ = some (.string y.value) := fun W hk => by
          obtain ⟨g', o', e', _, q⟩ := A2.out W hk
          simp only [Option.some.injEq, Addr.mk.injEq, and_true] at e'
          obtain ⟨rfl, rfl⟩ := e'
          exact q.2.2.2.2
        have HN : Hid ((sameA x y = false → sameL l m = false) ∧ (sameA x y = true → l.take (j + 1) = m.take (j + 1))) :=
          ⟨fun h => sameL_at hx hy h, fun h => take_eq HI.out.1 hx (by rw [sameA_iff.1 h]; exact hy)⟩
        have HK := hid HI.out.2.drew
        clear HI A1 A2 hx hy
        unfold avV at hq
        cases hs : sameA x y with
        | false =>
          rw [hs] at hq
          have HP := hid (HN.out.1 hs)
          clear HN hs
          go_upto_region 6 with fail
          refine wp_region_held_drew (S := Kept (fun _ => False) wr) (by kernel_rfl) ((Kept.refl _ wr).drew) (fun hSd => ?_)
          refine wpAnyH_take (i := 0) (v := ?_) rfl (by kernel_rfl) (by kernel_rfl) (by kernel_rfl) (fun _ _ _ h => h) (Or.inl ⟨by kernel_rfl, fun W hSW => by go_simp; try with_reducible rfl⟩) (by assumption) ?_
          try simp only [List.getElem_toArray]
          try simp only [List.getElem_cons_succ]
          try simp only [List.getElem_cons_zero]
          try simp only [Act.put]
          try simp only [List.setIfInBounds_toArray]
          try simp only [List.set_cons_succ]
          try simp only [List.set_cons_zero]
          refine wpAnyH_take (i := 1) (v := ?_) rfl (by kernel_rfl) (by kernel_rfl) (by kernel_rfl) (fun _ _ _ h => h) (Or.inl ⟨by kernel_rfl, fun W hSW => by go_simp; try with_reducible rfl⟩) (by assumption) ?_
          try simp only [List.getElem_toArray]
          try simp only [List.getElem_cons_succ]
          try simp only [List.getElem_cons_zero]
          try simp only [Act.put]
          try simp only [List.setIfInBounds_toArray]
          try simp only [List.set_cons_succ]
          try simp only [List.set_cons_zero]
          refine wpAnyH_take (i := 2) (v := ?_) rfl (by kernel_rfl) (by kernel_rfl) (by kernel_rfl) (fun _ _ _ h => h) (Or.inl ⟨by kernel_rfl, fun W hSW => by go_simp; try with_reducible rfl⟩) (by assumption) ?_
          try simp only [List.getElem_toArray]
          try simp only [List.getElem_cons_succ]
          try simp only [List.getElem_cons_zero]
          try simp only [Act.put]
          try simp only [List.setIfInBounds_toArray]
          try simp only [List.set_cons_succ]
          try simp only [List.set_cons_zero]
          refine wpAnyH_take (i := 3) (v := ?_) rfl (by kernel_rfl) (by kernel_rfl) (by kernel_rfl) (fun _ _ _ h => h) (Or.inl ⟨by kernel_rfl, fun W hSW => by go_simp; try with_reducible rfl⟩) (by assumption) ?_
          try simp only [List.getElem_toArray]
          try simp only [List.getElem_cons_succ]
          try simp only [List.getElem_cons_zero]
          try simp only [Act.put]
          try simp only [List.setIfInBounds_toArray]
          try simp only [List.set_cons_succ]
          try simp only [List.set_cons_zero]
          refine wpAnyH_take (i := 4) (v := ?_) rfl (by kernel_rfl) (by kernel_rfl) (by kernel_rfl) (fun _ _ _ h => h) (Or.inl ⟨by kernel_rfl, fun W hSW => by go_simp; try with_reducible rfl⟩) (by assumption) ?_
          try simp only [List.getElem_toArray]
          try simp only [List.getElem_cons_succ]
          try simp only [List.getElem_cons_zero]
          try simp only [Act.put]
          try simp only [List.setIfInBounds_toArray]
          try simp only [List.set_cons_succ]
          try simp only [List.set_cons_zero]
          refine wpAnyH_take (i := 5) (v := ?_) rfl (by kernel_rfl) (by kernel_rfl) (by kernel_rfl) (fun _ _ _ h => h) (Or.inl ⟨by kernel_rfl, fun W hSW => by go_simp; try with_reducible rfl⟩) (by assumption) ?_
          try simp only [List.getElem_toArray]
          try simp only [List.getElem_cons_succ]
          try simp only [List.getElem_cons_zero]
          try simp only [Act.put]
          try simp only [List.setIfInBounds_toArray]
          try simp only [List.set_cons_succ]
          try simp only [List.set_cons_zero]
          refine wpAnyH_take (i := 6) (v := ?_) rfl (by kernel_rfl) (by kernel_rfl) (by kernel_rfl) (fun _ _ _ h => h) (Or.inl ⟨by kernel_rfl, fun W hSW => by go_simp; try with_reducible rfl⟩) (by assumption) ?_
          try simp only [List.getElem_toArray]
          try simp only [List.getElem_cons_succ]
          try simp only [List.getElem_cons_zero]
          try simp only [Act.put]
          try simp only [List.setIfInBounds_toArray]
          try simp only [List.set_cons_succ]
          try simp only [List.set_cons_zero]
          refine wpAnyH_take (i := 7) (v := ?_) rfl (by kernel_rfl) (by kernel_rfl) (by kernel_rfl) (fun _ _ _ h => h) (Or.inl ⟨by kernel_rfl, fun W hSW => by go_simp; try with_reducible rfl⟩) (by assumption) ?_
          try simp only [List.getElem_toArray]
          try simp only [List.getElem_cons_succ]
          try simp only [List.getElem_cons_zero]
          try simp only [Act.put]
          try simp only [List.setIfInBounds_toArray]
          try simp only [List.set_cons_succ]
          try simp only [List.set_cons_zero]
          refine wpAnyH_take (i := 8) (v := .bool (!false)) rfl (by kernel_rfl) (by kernel_rfl) (by kernel_rfl) (fun _ _ _ h => h) (Or.inl ⟨by kernel_rfl, fun W _ => avOp_neq Tryz.eqGuardType59 rfl rfl rfl (hq W)⟩) (by assumption) ?_
          try simp only [List.getElem_toArray]
          try simp only [List.getElem_cons_succ]
          try simp only [List.getElem_cons_zero]
          try simp only [Act.put]
          try simp only [List.setIfInBounds_toArray]
          try simp only [List.set_cons_succ]
          try simp only [List.set_cons_zero]
          refine wpAnyH_done (by kernel_rfl) ?_ _
          go_wp2
          go_ret
          exact ⟨by rw [HP.out]; rfl, HK.out⟩
        | true =>
          rw [hs] at hq
          have HP := hid (HN.out.2 hs)
          clear HN hs
          go_upto_region 6 with fail
          refine wp_region_held_drew (S := Kept (fun _ => False) wr) (by kernel_rfl) ((Kept.refl _ wr).drew) (fun hSd => ?_)
          refine wpAnyH_take (i := 0) (v := ?_) rfl (by kernel_rfl) (by kernel_rfl) (by kernel_rfl) (fun _ _ _ h => h) (Or.inl ⟨by kernel_rfl, fun W hSW => by go_simp; try with_reducible rfl⟩) (by assumption) ?_
          try simp only [List.getElem_toArray]
          try simp only [List.getElem_cons_succ]
          try simp only [List.getElem_cons_zero]
          try simp only [Act.put]
          try simp only [List.setIfInBounds_toArray]
          try simp only [List.set_cons_succ]
          try simp only [List.set_cons_zero]
          refine wpAnyH_take (i := 1) (v := ?_) rfl (by kernel_rfl) (by kernel_rfl) (by kernel_rfl) (fun _ _ _ h => h) (Or.inl ⟨by kernel_rfl, fun W hSW => by go_simp; try with_reducible rfl⟩) (by assumption) ?_
          try simp only [List.getElem_toArray]
          try simp only [List.getElem_cons_succ]
          try simp only [List.getElem_cons_zero]
          try simp only [Act.put]
          try simp only [List.setIfInBounds_toArray]
          try simp only [List.set_cons_succ]
          try simp only [List.set_cons_zero]
          refine wpAnyH_take (i := 2) (v := ?_) rfl (by kernel_rfl) (by kernel_rfl) (by kernel_rfl) (fun _ _ _ h => h) (Or.inl ⟨by kernel_rfl, fun W hSW => by go_simp; try with_reducible rfl⟩) (by assumption) ?_
          try simp only [List.getElem_toArray]
          try simp only [List.getElem_cons_succ]
          try simp only [List.getElem_cons_zero]
          try simp only [Act.put]
          try simp only [List.setIfInBounds_toArray]
          try simp only [List.set_cons_succ]
          try simp only [List.set_cons_zero]
          refine wpAnyH_take (i := 3) (v := ?_) rfl (by kernel_rfl) (by kernel_rfl) (by kernel_rfl) (fun _ _ _ h => h) (Or.inl ⟨by kernel_rfl, fun W hSW => by go_simp; try with_reducible rfl⟩) (by assumption) ?_
          try simp only [List.getElem_toArray]
          try simp only [List.getElem_cons_succ]
          try simp only [List.getElem_cons_zero]
          try simp only [Act.put]
          try simp only [List.setIfInBounds_toArray]
          try simp only [List.set_cons_succ]
          try simp only [List.set_cons_zero]
          refine wpAnyH_take (i := 4) (v := ?_) rfl (by kernel_rfl) (by kernel_rfl) (by kernel_rfl) (fun _ _ _ h => h) (Or.inl ⟨by kernel_rfl, fun W hSW => by go_simp; try with_reducible rfl⟩) (by assumption) ?_
          try simp only [List.getElem_toArray]
          try simp only [List.getElem_cons_succ]
          try simp only [List.getElem_cons_zero]
          try simp only [Act.put]
          try simp only [List.setIfInBounds_toArray]
          try simp only [List.set_cons_succ]
          try simp only [List.set_cons_zero]
          refine wpAnyH_take (i := 5) (v := ?_) rfl (by kernel_rfl) (by kernel_rfl) (by kernel_rfl) (fun _ _ _ h => h) (Or.inl ⟨by kernel_rfl, fun W hSW => by go_simp; try with_reducible rfl⟩) (by assumption) ?_
          try simp only [List.getElem_toArray]
          try simp only [List.getElem_cons_succ]
          try simp only [List.getElem_cons_zero]
          try simp only [Act.put]
          try simp only [List.setIfInBounds_toArray]
          try simp only [List.set_cons_succ]
          try simp only [List.set_cons_zero]
          refine wpAnyH_take (i := 6) (v := ?_) rfl (by kernel_rfl) (by kernel_rfl) (by kernel_rfl) (fun _ _ _ h => h) (Or.inl ⟨by kernel_rfl, fun W hSW => by go_simp; try with_reducible rfl⟩) (by assumption) ?_
          try simp only [List.getElem_toArray]
          try simp only [List.getElem_cons_succ]
          try simp only [List.getElem_cons_zero]
          try simp only [Act.put]
          try simp only [List.setIfInBounds_toArray]
          try simp only [List.set_cons_succ]
          try simp only [List.set_cons_zero]
          refine wpAnyH_take (i := 7) (v := ?_) rfl (by kernel_rfl) (by kernel_rfl) (by kernel_rfl) (fun _ _ _ h => h) (Or.inl ⟨by kernel_rfl, fun W hSW => by go_simp; try with_reducible rfl⟩) (by assumption) ?_
          try simp only [List.getElem_toArray]
          try simp only [List.getElem_cons_succ]
          try simp only [List.getElem_cons_zero]
          try simp only [Act.put]
          try simp only [List.setIfInBounds_toArray]
          try simp only [List.set_cons_succ]
          try simp only [List.set_cons_zero]
          refine wpAnyH_take (i := 8) (v := .bool (!true)) rfl (by kernel_rfl) (by kernel_rfl) (by kernel_rfl) (fun _ _ _ h => h) (Or.inl ⟨by kernel_rfl, fun W _ => avOp_neq Tryz.eqGuardType59 rfl rfl rfl (hq W)⟩) (by assumption) ?_
          try simp only [List.getElem_toArray]
          try simp only [List.getElem_cons_succ]
          try simp only [List.getElem_cons_zero]
          try simp only [Act.put]
          try simp only [List.setIfInBounds_toArray]
          try simp only [List.set_cons_succ]
          try simp only [List.set_cons_zero]
          refine wpAnyH_done (by kernel_rfl) ?_ _
          go_wp2
          exact ⟨⟨j + 1, hlt, by go_num, HP.out, HK.out⟩, by simp [intOf]; omega⟩
      · obtain rfl : j = l.length := by omega
        have hltz : ¬ (l.length : Int) < (l.length : Int) := by omega
        obtain ⟨hF, hk⟩ := HI.out
        have hFm : l = m := by rw [List.take_length, HL.out, List.take_length] at hF; exact hF
        have HN := hid (sameL_iff.2 hFm)
        clear hF HI hlt hFm
        go_wp2
        go_ret
        exact ⟨by rw [HN.out]; rfl, hk⟩
  · have hne : ((l.length : Int) != (m.length : Int)) = true := by
      rw [bne_iff_ne]
      omega
    have HN := hid (sameL_len hlen)
    clear hv hu hlen
    go_enter Tryz.func17, Tryz.ntmps17
    go_wp2
    go_ret
    exact ⟨by rw [HN.out]; rfl, Kept.refl _ _⟩


set_option maxHeartbeats 4000000 in
set_option maxRecDepth 100000 in
theorem rNum_any (kind v n : Int) (hn : -9223372036854775808 ≤ n ∧ n ≤ 9223372036854775807) (w : World) :
    Calls Tryz.prog 22 #[.int .i64 kind, .int .i64 v, .int .i64 n] w fun e w' => e = .returned (avV ⟨true, false, 0, kind, numV v n⟩) ∧ Kept (fun _ => False) w w' := by
  have hk0 : Kept (fun _ => False) w (w.alloc (.cells #[.bool false, .bool false, .int .i64 0, .int .i64 0, .string ⟨#[]⟩] 59)) := (Kept.refl (fun _ => False) w).alloc _
  have hs0 : (w.alloc (.cells #[.bool false, .bool false, .int .i64 0, .int .i64 0, .string ⟨#[]⟩] 59)).heap.size = w.heap.size + 1 := by simp
  have HZ : Hid (AvAt ((w.alloc (.cells #[.bool false, .bool false, .int .i64 0, .int .i64 0, .string ⟨#[]⟩] 59)).alloc (.cells #[.bool true, .bool false, .int .i64 0, .int .i64 kind, .string ⟨#[]⟩] 59)) w.heap.size av0) := (AvAt.new w av0).kept0 ((Kept.refl _ _).alloc _)
  have HT : Hid (AvAt ((w.alloc (.cells #[.bool false, .bool false, .int .i64 0, .int .i64 0, .string ⟨#[]⟩] 59)).alloc (.cells #[.bool true, .bool false, .int .i64 0, .int .i64 kind, .string ⟨#[]⟩] 59)) (w.heap.size + 1) ⟨true, false, 0, kind, ⟨#[]⟩⟩) := by
    have h := AvAt.new (w.alloc (.cells #[.bool false, .bool false, .int .i64 0, .int .i64 0, .string ⟨#[]⟩] 59)) ⟨true, false, 0, kind, ⟨#[]⟩⟩
    rw [hs0] at h
    exact h
  have HK := hid (hk0.alloc (.cells #[.bool true, .bool false, .int .i64 0, .int .i64 kind, .string ⟨#[]⟩] 59))
  clear hk0 hs0
  unfold numV
  by_cases hc : n < 1 ∨ 8 < n
  · rw [if_pos hc]
    have hcase : ¬ 1 ≤ n ∨ (1 ≤ n ∧ ¬ n ≤ 8) := by omega
    clear hc
    rcases hcase with h1 | ⟨h1, h8⟩
    · go_enter Tryz.func22, Tryz.ntmps22
      go_upto_region 2 with fail
      generalize (w.alloc (.cells #[.bool false, .bool false, .int .i64 0, .int .i64 0, .string ⟨#[]⟩] 59)).alloc (.cells #[.bool true, .bool false, .int .i64 0, .int .i64 kind, .string ⟨#[]⟩] 59) = W0 at *
      obtain ⟨t0, t1, t2, t3, t4⟩ := HT.out.cells
      obtain ⟨z0, z1, z2, z3, z4⟩ := HZ.out.cells
      have f0 := HZ.out.frozen 0
      have f1 := HZ.out.frozen 1
      have f2 := HZ.out.frozen 2
      have f3 := HZ.out.frozen 3
      have f4 := HZ.out.frozen 4
      unfold av0 at z0 z1 z2 z3 z4
      simp only at t0 t1 t2 t3 t4 z0 z1 z2 z3 z4
      go_wp2
      refine bodyPost_ret (v := avV ⟨true, false, 0, kind, ⟨#[]⟩⟩) (by simp [results, Tryz.results22, go_sem, z0, z1, z2, z3, z4, avV]) rfl ⟨rfl, ?_⟩
      exact ((((HK.out.setCell (Or.inl (Nat.le_refl _)) _).setCell (Or.inl (Nat.le_refl _)) _).setCell (Or.inl (Nat.le_refl _)) _).setCell (Or.inl (Nat.le_refl _)) _).setCell (Or.inl (Nat.le_refl _)) _
    · go_enter Tryz.func22, Tryz.ntmps22
      go_upto_region 2 with fail
      generalize (w.alloc (.cells #[.bool false, .bool false, .int .i64 0, .int .i64 0, .string ⟨#[]⟩] 59)).alloc (.cells #[.bool true, .bool false, .int .i64 0, .int .i64 kind, .string ⟨#[]⟩] 59) = W0 at *
      obtain ⟨t0, t1, t2, t3, t4⟩ := HT.out.cells
      obtain ⟨z0, z1, z2, z3, z4⟩ := HZ.out.cells
      have f0 := HZ.out.frozen 0
      have f1 := HZ.out.frozen 1
      have f2 := HZ.out.frozen 2
      have f3 := HZ.out.frozen 3
      have f4 := HZ.out.frozen 4
      unfold av0 at z0 z1 z2 z3 z4
      simp only at t0 t1 t2 t3 t4 z0 z1 z2 z3 z4
      go_wp2
      refine bodyPost_ret (v := avV ⟨true, false, 0, kind, ⟨#[]⟩⟩) (by simp [results, Tryz.results22, go_sem, z0, z1, z2, z3, z4, avV]) rfl ⟨rfl, ?_⟩
      exact ((((HK.out.setCell (Or.inl (Nat.le_refl _)) _).setCell (Or.inl (Nat.le_refl _)) _).setCell (Or.inl (Nat.le_refl _)) _).setCell (Or.inl (Nat.le_refl _)) _).setCell (Or.inl (Nat.le_refl _)) _
  · rw [if_neg hc]
    obtain ⟨k, rfl⟩ := Int.eq_ofNat_of_zero_le (show 0 ≤ n by omega)
    rw [Int.toNat_natCast]
    have h1 : ¬ (k : Int) < 1 := by omega
    have h8 : ¬ (8 : Int) < (k : Int) := by omega
    have hk1 : 1 ≤ k := by omega
    have hk8 : k ≤ 8 := by omega
    obtain ⟨S, hS⟩ : ∃ S : ByteArray, S = ⟨(lowI v k).toArray⟩ := ⟨_, rfl⟩
    have HL := hid (refLowI_any v k hk1 hk8)
    rw [← hS] at HL ⊢
    clear hS
    clear hc hn
    go_enter Tryz.func22, Tryz.ntmps22
    go_upto_region 2 with fail
    generalize (w.alloc (.cells #[.bool false, .bool false, .int .i64 0, .int .i64 0, .string ⟨#[]⟩] 59)).alloc (.cells #[.bool true, .bool false, .int .i64 0, .int .i64 kind, .string ⟨#[]⟩] 59) = W0 at *
    have h1' : (1 : Int) ≤ (k : Int) := by omega
    have h8' : (k : Int) ≤ 8 := by omega
    go_wp2_with fail
    refine (HL.out _).mono ?_
    rintro e wr ⟨rfl, hb⟩
    have hbel := kept_of hb
    have ha := HT.out.kept0 hbel
    have HT1 := hid (ha.setValue S)
    have f4 := ha.frozen 4
    obtain ⟨t0, t1, t2, t3, t4⟩ := ha.cells
    have hz' := HZ.out.kept0 hbel
    have HZ1 : Hid (AvAt (wr.setCell ⟨w.heap.size + 1, 4, none⟩ (.string S)) w.heap.size av0) := hz'.kept ((Kept.refl (fun i => i = w.heap.size + 1) wr).setCell (Or.inr rfl) _) (by omega)
    have HK1 := hid ((HK.out.trans hbel).setCell (p := ⟨w.heap.size + 1, 4, none⟩) (Or.inl (Nat.le_succ _)) (.string S))
    clear hb hbel ha hz'
    go_upto_region 4 with fail
    generalize wr.setCell ⟨w.heap.size + 1, 4, none⟩ (.string S) = W2 at *
    clear t0 t1 t2 t3 t4 f4
    obtain ⟨t0, t1, t2, t3, t4⟩ := HT1.out.cells
    obtain ⟨z0, z1, z2, z3, z4⟩ := HZ1.out.cells
    have f0 := HZ1.out.frozen 0
    have f1 := HZ1.out.frozen 1
    have f2 := HZ1.out.frozen 2
    have f3 := HZ1.out.frozen 3
    have f4 := HZ1.out.frozen 4
    unfold av0 at z0 z1 z2 z3 z4
    simp only at t0 t1 t2 t3 t4 z0 z1 z2 z3 z4
    go_wp2
    refine bodyPost_ret (v := avV ⟨true, false, 0, kind, S⟩) (by simp [results, Tryz.results22, go_sem, z0, z1, z2, z3, z4, avV]) rfl ⟨rfl, ?_⟩
    exact ((((HK1.out.setCell (Or.inl (Nat.le_refl _)) _).setCell (Or.inl (Nat.le_refl _)) _).setCell (Or.inl (Nat.le_refl _)) _).setCell (Or.inl (Nat.le_refl _)) _).setCell (Or.inl (Nat.le_refl _)) _

set_option maxHeartbeats 4000000 in
set_option maxRecDepth 100000 in
theorem rLength_any (k : Int) (w : World) : Calls Tryz.prog 24 #[.int .i64 k] w fun e w' => e = .returned (.int .i64 (lengthF k)) ∧ Kept (fun _ => False) w w' := by
  by_cases h0 : k = 0
  · subst h0
    have e : lengthF 0 = 2 := rfl
    rw [e]
    clear e
    go_enter Tryz.func24, Tryz.ntmps24
    go_wp2
    go_ret
    exact ⟨rfl, Kept.refl _ _⟩
  by_cases h2 : k = 2
  · subst h2
    have e : lengthF 2 = 2 := rfl
    rw [e]
    clear e
    go_enter Tryz.func24, Tryz.ntmps24
    go_wp2
    go_ret
    exact ⟨rfl, Kept.refl _ _⟩
  by_cases h9 : k = 9
  · subst h9
    have e : lengthF 9 = 2 := rfl
    rw [e]
    clear e
    go_enter Tryz.func24, Tryz.ntmps24
    go_wp2
    go_ret
    exact ⟨rfl, Kept.refl _ _⟩
  by_cases h10 : k = 10
  · subst h10
    have e : lengthF 10 = 2 := rfl
    rw [e]
    clear e
    go_enter Tryz.func24, Tryz.ntmps24
    go_wp2
    go_ret
    exact ⟨rfl, Kept.refl _ _⟩
  by_cases h14 : k = 14
  · subst h14
    have e : lengthF 14 = 2 := rfl
    rw [e]
    clear e
    go_enter Tryz.func24, Tryz.ntmps24
    go_wp2
    go_ret
    exact ⟨rfl, Kept.refl _ _⟩
  by_cases h29 : k = 29
  · subst h29
    have e : lengthF 29 = 2 := rfl
    rw [e]
    clear e
    go_enter Tryz.func24, Tryz.ntmps24
    go_wp2
    go_ret
    exact ⟨rfl, Kept.refl _ _⟩
  by_cases h32 : k = 32
  · subst h32
    have e : lengthF 32 = 2 := rfl
    rw [e]
    clear e
    go_enter Tryz.func24, Tryz.ntmps24
    go_wp2
    go_ret
    exact ⟨rfl, Kept.refl _ _⟩
  by_cases h3 : k = 3
  · subst h3
    have e : lengthF 3 = 4 := rfl
    rw [e]
    clear e
    go_enter Tryz.func24, Tryz.ntmps24
    go_wp2
    go_ret
    exact ⟨rfl, Kept.refl _ _⟩
  by_cases h15 : k = 15
  · subst h15
    have e : lengthF 15 = 4 := rfl
    rw [e]
    clear e
    go_enter Tryz.func24, Tryz.ntmps24
    go_wp2
    go_ret
    exact ⟨rfl, Kept.refl _ _⟩
  by_cases h19 : k = 19
  · subst h19
    have e : lengthF 19 = 4 := rfl
    rw [e]
    clear e
    go_enter Tryz.func24, Tryz.ntmps24
    go_wp2
    go_ret
    exact ⟨rfl, Kept.refl _ _⟩
  by_cases h24 : k = 24
  · subst h24
    have e : lengthF 24 = 4 := rfl
    rw [e]
    clear e
    go_enter Tryz.func24, Tryz.ntmps24
    go_wp2
    go_ret
    exact ⟨rfl, Kept.refl _ _⟩
  by_cases h5 : k = 5
  · subst h5
    have e : lengthF 5 = 8 := rfl
    rw [e]
    clear e
    go_enter Tryz.func24, Tryz.ntmps24
    go_wp2
    go_ret
    exact ⟨rfl, Kept.refl _ _⟩
  by_cases h13 : k = 13
  · subst h13
    have e : lengthF 13 = 16 := rfl
    rw [e]
    clear e
    go_enter Tryz.func24, Tryz.ntmps24
    go_wp2
    go_ret
    exact ⟨rfl, Kept.refl _ _⟩
  by_cases h39 : k = 39
  · subst h39
    have e : lengthF 39 = 0 := rfl
    rw [e]
    clear e
    go_enter Tryz.func24, Tryz.ntmps24
    go_wp2
    go_ret
    exact ⟨rfl, Kept.refl _ _⟩
  by_cases h1 : k = 1
  · subst h1
    have e : lengthF 1 = -1 := rfl
    rw [e]
    clear e
    go_enter Tryz.func24, Tryz.ntmps24
    go_wp2
    go_ret
    exact ⟨rfl, Kept.refl _ _⟩
  by_cases h7 : k = 7
  · subst h7
    have e : lengthF 7 = -1 := rfl
    rw [e]
    clear e
    go_enter Tryz.func24, Tryz.ntmps24
    go_wp2
    go_ret
    exact ⟨rfl, Kept.refl _ _⟩
  by_cases h11 : k = 11
  · subst h11
    have e : lengthF 11 = -1 := rfl
    rw [e]
    clear e
    go_enter Tryz.func24, Tryz.ntmps24
    go_wp2
    go_ret
    exact ⟨rfl, Kept.refl _ _⟩
  by_cases h26 : k = 26
  · subst h26
    have e : lengthF 26 = -1 := rfl
    rw [e]
    clear e
    go_enter Tryz.func24, Tryz.ntmps24
    go_wp2
    go_ret
    exact ⟨rfl, Kept.refl _ _⟩
  by_cases h27 : k = 27
  · subst h27
    have e : lengthF 27 = -1 := rfl
    rw [e]
    clear e
    go_enter Tryz.func24, Tryz.ntmps24
    go_wp2
    go_ret
    exact ⟨rfl, Kept.refl _ _⟩
  by_cases h28 : k = 28
  · subst h28
    have e : lengthF 28 = -1 := rfl
    rw [e]
    clear e
    go_enter Tryz.func24, Tryz.ntmps24
    go_wp2
    go_ret
    exact ⟨rfl, Kept.refl _ _⟩
  by_cases h30 : k = 30
  · subst h30
    have e : lengthF 30 = -1 := rfl
    rw [e]
    clear e
    go_enter Tryz.func24, Tryz.ntmps24
    go_wp2
    go_ret
    exact ⟨rfl, Kept.refl _ _⟩
  by_cases h31 : k = 31
  · subst h31
    have e : lengthF 31 = -1 := rfl
    rw [e]
    clear e
    go_enter Tryz.func24, Tryz.ntmps24
    go_wp2
    go_ret
    exact ⟨rfl, Kept.refl _ _⟩
  by_cases h33 : k = 33
  · subst h33
    have e : lengthF 33 = -1 := rfl
    rw [e]
    clear e
    go_enter Tryz.func24, Tryz.ntmps24
    go_wp2
    go_ret
    exact ⟨rfl, Kept.refl _ _⟩
  by_cases h34 : k = 34
  · subst h34
    have e : lengthF 34 = -1 := rfl
    rw [e]
    clear e
    go_enter Tryz.func24, Tryz.ntmps24
    go_wp2
    go_ret
    exact ⟨rfl, Kept.refl _ _⟩
  by_cases h35 : k = 35
  · subst h35
    have e : lengthF 35 = -1 := rfl
    rw [e]
    clear e
    go_enter Tryz.func24, Tryz.ntmps24
    go_wp2
    go_ret
    exact ⟨rfl, Kept.refl _ _⟩
  by_cases h36 : k = 36
  · subst h36
    have e : lengthF 36 = -1 := rfl
    rw [e]
    clear e
    go_enter Tryz.func24, Tryz.ntmps24
    go_wp2
    go_ret
    exact ⟨rfl, Kept.refl _ _⟩
  have e : lengthF k = -2 := by
    unfold lengthF
    have hf : AvLit.lengthsR.find? (fun r => r.e == k) = none := by
      rw [List.find?_eq_none]
      intro r hr
      simp only [AvLit.lengthsR, List.mem_cons, List.not_mem_nil, or_false] at hr
      simp only [beq_iff_eq]
      rcases hr with rfl | rfl | rfl | rfl | rfl | rfl | rfl | rfl | rfl | rfl | rfl | rfl | rfl | rfl | rfl | rfl | rfl | rfl | rfl | rfl | rfl | rfl | rfl | rfl | rfl | rfl <;> (intro e; exact absurd e.symm (by assumption))
    rw [hf]
  rw [e]
  have g0 : (k == 0) = false := by rw [beq_eq_false_iff_ne]; exact h0
  have g2 : (k == 2) = false := by rw [beq_eq_false_iff_ne]; exact h2
  have g9 : (k == 9) = false := by rw [beq_eq_false_iff_ne]; exact h9
  have g10 : (k == 10) = false := by rw [beq_eq_false_iff_ne]; exact h10
  have g14 : (k == 14) = false := by rw [beq_eq_false_iff_ne]; exact h14
  have g29 : (k == 29) = false := by rw [beq_eq_false_iff_ne]; exact h29
  have g32 : (k == 32) = false := by rw [beq_eq_false_iff_ne]; exact h32
  have g3 : (k == 3) = false := by rw [beq_eq_false_iff_ne]; exact h3
  have g15 : (k == 15) = false := by rw [beq_eq_false_iff_ne]; exact h15
  have g19 : (k == 19) = false := by rw [beq_eq_false_iff_ne]; exact h19
  have g24 : (k == 24) = false := by rw [beq_eq_false_iff_ne]; exact h24
  have g5 : (k == 5) = false := by rw [beq_eq_false_iff_ne]; exact h5
  have g13 : (k == 13) = false := by rw [beq_eq_false_iff_ne]; exact h13
  have g39 : (k == 39) = false := by rw [beq_eq_false_iff_ne]; exact h39
  have g1 : (k == 1) = false := by rw [beq_eq_false_iff_ne]; exact h1
  have g7 : (k == 7) = false := by rw [beq_eq_false_iff_ne]; exact h7
  have g11 : (k == 11) = false := by rw [beq_eq_false_iff_ne]; exact h11
  have g26 : (k == 26) = false := by rw [beq_eq_false_iff_ne]; exact h26
  have g27 : (k == 27) = false := by rw [beq_eq_false_iff_ne]; exact h27
  have g28 : (k == 28) = false := by rw [beq_eq_false_iff_ne]; exact h28
  have g30 : (k == 30) = false := by rw [beq_eq_false_iff_ne]; exact h30
  have g31 : (k == 31) = false := by rw [beq_eq_false_iff_ne]; exact h31
  have g33 : (k == 33) = false := by rw [beq_eq_false_iff_ne]; exact h33
  have g34 : (k == 34) = false := by rw [beq_eq_false_iff_ne]; exact h34
  have g35 : (k == 35) = false := by rw [beq_eq_false_iff_ne]; exact h35
  have g36 : (k == 36) = false := by rw [beq_eq_false_iff_ne]; exact h36
  clear e h0 h2 h9 h10 h14 h29 h32 h3 h15 h19 h24 h5 h13 h39 h1 h7 h11 h26 h27 h28 h30 h31 h33 h34 h35 h36
  go_enter Tryz.func24, Tryz.ntmps24
  go_wp2
  go_ret
  exact ⟨rfl, Kept.refl _ _⟩
end Go.Proofs.YtnghakhgogfemaaGreatDoor

namespace Go.Proofs.YtnghakhgogfemaaGreatDoor
open Go.RowKit

/-- What the parts are laid together to. -/
theorem laid_eq (m q : Bool) {n' t' : Nat} (V X : ByteArray) (F : Nat) (hF : F = (if m then 32768 else 0) + (if q then 16384 else 0)) : laidA ⟨m, q, (n' : Int), (t' : Int), V⟩ X = two (F + X.size + 6) ++ (two n' ++ (two t' ++ X)) := by
  have e : shareN m q (6 + X.size) = F + X.size + 6 := by
    rw [hF]
    unfold shareN
    omega
  unfold laidA headF
  simp only [e, Int.toNat_natCast]
  rw [app_assoc, app_assoc]
/-- How far the document's loop has come. -/
structure RPut (w : World) (l : List Av) (s : ByteArray) (R : ByteArray × Int) (j : Nat) (acc : ByteArray) (c : Cov) (W : World) : Prop where
  of : CovOf l s c
  on : putOn acc (l.drop j) c = R
  size : acc.size ≤ 1008 * j
  kept : Kept (fun _ => False) w W
theorem names_no {n t : Int} (h : (wordB n && wordB t) = false) : n < 0 ∨ (¬ n < 0 ∧ 65535 < n) ∨ (¬ n < 0 ∧ ¬ 65535 < n ∧ t < 0) ∨ (¬ n < 0 ∧ ¬ 65535 < n ∧ ¬ t < 0 ∧ 65535 < t) := by
  by_cases h1 : n < 0
  · exact Or.inl h1
  by_cases h2 : 65535 < n
  · exact Or.inr (Or.inl ⟨h1, h2⟩)
  by_cases h3 : t < 0
  · exact Or.inr (Or.inr (Or.inl ⟨h1, h2, h3⟩))
  by_cases h4 : 65535 < t
  · exact Or.inr (Or.inr (Or.inr ⟨h1, h2, h3, h4⟩))
  rw [show wordB n = true by simp [wordB]; omega, show wordB t = true by simp [wordB]; omega] at h
  cases h

set_option maxHeartbeats 400000 in
set_option maxRecDepth 100000 in
theorem rPut_many (v : Value) (l : List Av) (s : ByteArray) (w : World) (hv : AvsAt w v l) (hl : 40 < l.length) :
    Calls Tryz.prog 8 #[v, .string s] w fun e w' => e = .returned (.tuple #[.string (putAF l s).1, .int .i64 (putAF l s).2]) ∧ Kept (fun _ => False) w w' := by
  obtain ⟨p, cap, rfl⟩ := RowsAt.slice hv
  have hlz : (40 : Int) < (l.length : Int) := by omega
  have e : putAF l s = (⟨#[]⟩, 2) := by unfold putAF; rw [if_pos hl]
  rw [e]
  clear hv hl e
  go_enter Tryz.func8, Tryz.ntmps8
  go_wp2
  go_ret2
  exact ⟨rfl, Kept.refl _ _⟩

set_option maxHeartbeats 16000000 in
set_option maxRecDepth 100000 in
theorem rPut_few (hM : RefMaskAt) (v : Value) (l : List Av) (s : ByteArray) (w : World) (hv : AvsAt w v l) (hl : l.length ≤ 40) (hs : s.size ≤ 1000000) (hsz : ∀ x ∈ l, x.value.size ≤ 140737488351232) :
    Calls Tryz.prog 8 #[v, .string s] w fun e w' => e = .returned (.tuple #[.string (putAF l s).1, .int .i64 (putAF l s).2]) ∧ Kept (fun _ => False) w w' := by
  obtain ⟨p, cap, rfl⟩ := RowsAt.slice hv
  have Hat : Hid (∀ (j : Nat) (x : Av), l[j]? = some x → ∀ W, Kept (fun _ => False) w W → ∃ g o, p = some ⟨g, o, none⟩ ∧ l.length ≤ cap ∧ W.cell? ⟨g, o + j * 5, none⟩ = some (.bool x.must) ∧ W.cell? ⟨g, o + j * 5 + 1, none⟩ = some (.bool x.hidden) ∧ W.cell? ⟨g, o + j * 5 + 2, none⟩ = some (.int .i64 x.vendor) ∧ W.cell? ⟨g, o + j * 5 + 3, none⟩ = some (.int .i64 x.type) ∧ W.cell? ⟨g, o + j * 5 + 4, none⟩ = some (.string x.value)) :=
    fun j x hj W hW => AvsAt.at5 (RowsAt.kept0 hv hW) hj
  have Hsz := hid hsz
  have HM := hid hM
  have hlz : (l.length : Int) ≤ 40 := by omega
  obtain ⟨R, hR⟩ : ∃ R, R = putOn ⟨#[]⟩ l (cov0 s) := ⟨_, rfl⟩
  obtain ⟨Q, hQ⟩ : ∃ Q, Q = putAF l s := ⟨_, rfl⟩
  have HQ : Hid (Q = if R.2 = 0 then (if 1488 < R.1.size then (⟨#[]⟩, 2) else (R.1, 0)) else (⟨#[]⟩, R.2)) := by
    show _ = _
    rw [hQ, hR]
    unfold putAF
    rw [if_neg (by omega)]
  rw [← hQ]
  have HI0 : Hid (RPut w l s R 0 ⟨#[]⟩ (cov0 s) w) := ⟨⟨⟨hs, Nat.zero_le _⟩, rfl, fun h => by cases h⟩, hR.symm, Nat.zero_le _, Kept.refl _ _⟩
  have hs1 : (s.size : Int) ≤ 1000000 := by omega
  clear hv hsz hM hR hQ
  go_enter Tryz.func8, Tryz.ntmps8
  go_wp2
  go_loopw [6, 7, 8, 9] (fun va vv vh vi wr => ∃ (j : Nat) (acc : ByteArray) (c : Cov), j ≤ l.length ∧ vi = .int .i64 (j : Int) ∧ va = .string acc ∧ (vv = .string c.vector ∧ vh = .bool c.has) ∧ Hid (RPut w l s R j acc c wr)) (fun _ _ _ vi _ => l.length - (intOf vi).toNat)
  case atStart => exact ⟨0, ⟨#[]⟩, cov0 s, Nat.zero_le _, rfl, rfl, ⟨rfl, rfl⟩, HI0.out⟩
  case round =>
    obtain ⟨j, acc, c, hj, rfl, rfl, ⟨rfl, rfl⟩, HI⟩ := hrel
    clear HI0
    by_cases hlt : j < l.length
    · have hltz : (j : Int) < (l.length : Int) := by omega
      obtain ⟨x, hx⟩ : ∃ x, l[j]? = some x := ⟨l[j], by simp [hlt]⟩
      have hmem := List.mem_of_getElem? hx
      obtain ⟨g, o, rfl, hcap, b0, b1, b2, b3, b4⟩ := Hat.out j x hx wr HI.out.kept
      have hVs := Hsz.out x hmem
      have hT := HI.out.on
      rw [drop_at hx] at hT
      simp only [putOn] at hT
      have hac := HI.out.size
      have HZ := hid (putOneF_size x c)
      have HOf := hid HI.out.of
      have HNx := hid (fun h => HI.out.of.pass hmem h)
      have hA := AvAt.new wr x
      have HK1 := hid (HI.out.kept.alloc (.cells #[.bool x.must, .bool x.hidden, .int .i64 x.vendor, .int .i64 x.type, .string x.value] 59))
      obtain ⟨m, q, n, t, V⟩ := x
      simp only at b0 b1 b2 b3 b4 hVs HNx HZ
      have HA := hid hA
      clear HI hx hmem hA
      go_upto_region 8 with fail
      generalize hBX : wr.heap.size = BX at *
      generalize hW1 : wr.alloc (.cells #[.bool m, .bool q, .int .i64 n, .int .i64 t, .string V] 59) = W1 at *
      clear hW1 b0 b1 b2 b3 b4
      have HKr := hid (Kept.refl (fun _ => False) W1)
      have p0 : ∀ W, Kept (fun _ => False) W1 W → W.cell? ⟨BX, 0, none⟩ = some (.bool m) := fun W h => (HA.out.kept0 h).cells.1
      have p1 : ∀ W, Kept (fun _ => False) W1 W → W.cell? ⟨BX, 1, none⟩ = some (.bool q) := fun W h => (HA.out.kept0 h).cells.2.1
      have p2 : ∀ W, Kept (fun _ => False) W1 W → W.cell? ⟨BX, 2, none⟩ = some (.int .i64 n) := fun W h => (HA.out.kept0 h).cells.2.2.1
      have p3 : ∀ W, Kept (fun _ => False) W1 W → W.cell? ⟨BX, 3, none⟩ = some (.int .i64 t) := fun W h => (HA.out.kept0 h).cells.2.2.2.1
      have p4 : ∀ W, Kept (fun _ => False) W1 W → W.cell? ⟨BX, 4, none⟩ = some (.string V) := fun W h => (HA.out.kept0 h).cells.2.2.2.2
      have a0 := p0 _ HKr.out
      have a1 := p1 _ HKr.out
      have a2 := p2 _ HKr.out
      have a3 := p3 _ HKr.out
      have a4 := p4 _ HKr.out
      have eN : namesB ⟨m, q, n, t, V⟩ = (wordB n && wordB t) := rfl
      cases hn : (wordB n && wordB t) with
      | false =>
        have e1 : putOneF ⟨m, q, n, t, V⟩ c = (⟨#[]⟩, 1) := by
          unfold putOneF
          rw [eN, hn, if_pos rfl]
        rw [e1, if_neg (by decide)] at hT
        have HP : Hid (Q = (⟨#[]⟩, 1)) := by
          show _ = _
          rw [HQ.out, ← hT, if_neg (by decide)]
        have hcs := names_no hn
        clear hT e1 hn eN p0 p1 p2 p3 p4
        rcases hcs with h1 | ⟨h1, h2⟩ | ⟨h1, h2, h3⟩ | ⟨h1, h2, h3, h4⟩
        · go_wp2
          go_ret2
          exact ⟨by rw [HP.out]; rfl, HK1.out⟩
        · go_wp2
          go_ret2
          exact ⟨by rw [HP.out]; rfl, HK1.out⟩
        · go_wp2
          go_ret2
          exact ⟨by rw [HP.out]; rfl, HK1.out⟩
        · go_wp2
          go_ret2
          exact ⟨by rw [HP.out]; rfl, HK1.out⟩
      | true =>
        simp only [Bool.and_eq_true] at hn
        obtain ⟨n', rfl, hn1⟩ := wordB_nat hn.1
        obtain ⟨t', rfl, ht1⟩ := wordB_nat hn.2
        have g1 : ¬ (n' : Int) < 0 := by omega
        have g2 : ¬ 65535 < (n' : Int) := by omega
        have g3 : ¬ (t' : Int) < 0 := by omega
        have g4 : ¬ 65535 < (t' : Int) := by omega
        have hnm : namesB ⟨m, q, (n' : Int), (t' : Int), V⟩ = true := by rw [eN, hn.1, hn.2]; rfl
        clear hn eN
        by_cases hV : 1000 < V.size
        · have hVz : (1000 : Int) < (V.size : Int) := by omega
          have e1 : putOneF ⟨m, q, (n' : Int), (t' : Int), V⟩ c = (⟨#[]⟩, 2) := by
            unfold putOneF
            rw [hnm, if_neg (by decide), if_pos hV]
          rw [e1, if_neg (by decide)] at hT
          have HP : Hid (Q = (⟨#[]⟩, 2)) := by
            show _ = _
            rw [HQ.out, ← hT, if_neg (by decide)]
          clear hT e1 hnm p0 p1 p2 p3 p4 hV
          go_wp2
          go_ret2
          exact ⟨by rw [HP.out]; rfl, HK1.out⟩
        · have hVz : ¬ (1000 : Int) < (V.size : Int) := by omega
          have HNx' := hid (HNx.out (by show V.size ≤ 1000000; omega))
          clear HNx
          obtain ⟨F0, hF0⟩ : ∃ F0 : Nat, F0 = if m then 32768 else 0 := ⟨_, rfl⟩
          have hF0m : F0 ≤ 32768 := by rw [hF0]; split <;> omega
          have HF0 := hid hF0
          have hcm : (m = true ∧ F0 = 32768) ∨ (m = false ∧ F0 = 0) := by cases m <;> simp_all
          clear hF0
          go_upto_if 51 with fail
          go_cut [12] from 52 to 53 (fun vf wx => vf = .int .i64 (F0 : Int) ∧ wx = W1)
          case first =>
            rcases hcm with ⟨hm, hF⟩ | ⟨hm, hF⟩
            · subst hm hF
              go_wp2
              go_meet
              exact ⟨rfl, by first | rfl | trivial⟩
            · subst hm hF
              go_wp2
              go_meet
              exact ⟨rfl, by first | rfl | trivial⟩
          case rest =>
            obtain ⟨rfl, hwx⟩ := hcut
            rw [hwx]
            clear hwx hcm
            cases q with
            | false =>
              have e1 : putOneF ⟨m, false, (n' : Int), (t' : Int), V⟩ c = (laidA ⟨m, false, (n' : Int), (t' : Int), V⟩ V, 0) := by
                unfold putOneF
                rw [hnm, if_neg (by decide), if_neg hV, if_neg (by simp)]
              rw [e1, if_pos rfl] at hT
              have HT := hid hT
              have HZ' : Hid ((laidA ⟨m, false, (n' : Int), (t' : Int), V⟩ V).size ≤ 1008) := by have := HZ.out; rw [e1] at this; exact this
              have HF : Hid (F0 = (if m then 32768 else 0) + (if false then 16384 else 0)) := by show _ = _; rw [HF0.out]; rfl
              clear hT e1 hnm hV
              replace HZ := HZ'
              have HP0 : ∀ b : Bool, isVec ⟨m, false, (n' : Int), (t' : Int), V⟩ = b → passF c ⟨m, false, (n' : Int), (t' : Int), V⟩ = if b = true then { c with vector := V, has := true } else c := fun b h => by
                unfold passF
                rw [h]
              cases v1 : ((n' : Int) == 0) with
              | false =>
                have HV1 := HP0 false (by unfold isVec; simp [v1])
                rw [if_neg (by decide)] at HV1
                rw [HV1] at HT HNx'
                clear HV1 HP0
                have HT1 := hid (refTwoA (F0 + V.size + 6))
                have HT2 := hid (refTwoA n')
                have HT3 := hid (refTwoA t')
                have s1 := two_size (F0 + V.size + 6)
                have s2 := two_size n'
                have s3 := two_size t'
                have HE : Hid (((acc ++ two (F0 + V.size + 6)) ++ two n') ++ two t' ++ V = acc ++ laidA ⟨m, false, n', t', V⟩ V) := by
                  show _ = _
                  rw [laid_eq m false V V F0 HF.out, app_assoc, app_assoc, app_assoc]
                obtain ⟨T1, hT1⟩ : ∃ T1, T1 = two (F0 + V.size + 6) := ⟨_, rfl⟩
                obtain ⟨T2, hT2⟩ : ∃ T2, T2 = two n' := ⟨_, rfl⟩
                obtain ⟨T3, hT3⟩ : ∃ T3, T3 = two t' := ⟨_, rfl⟩
                rw [← hT1] at HT1 s1 HE
                rw [← hT2] at HT2 s2 HE
                rw [← hT3] at HT3 s3 HE
                clear hT1 hT2 hT3
                have o1 : ¬ (9223372036854775807 < acc.size + T1.size) := by omega
                have o2 : ¬ (9223372036854775807 < acc.size + T1.size + T2.size) := by omega
                have o3 : ¬ (9223372036854775807 < acc.size + T1.size + T2.size + T3.size) := by omega
                have o4 : ¬ (9223372036854775807 < acc.size + T1.size + T2.size + T3.size + V.size) := by omega
                have w1' : IntKind.i64.wrap ((F0 : Int) + (V.size : Int)) = (F0 : Int) + (V.size : Int) := by rw [IntKind.wrap_i64]; omega
                have w2' : IntKind.i64.wrap ((F0 : Int) + (V.size : Int) + 6) = ((F0 + V.size + 6 : Nat) : Int) := by rw [IntKind.wrap_i64]; omega
                clear s1 s2 s3
                go_upto_region 22 with fail
                refine wp_region_held_drew (S := Kept (fun _ => False) W1) (by kernel_rfl) (HKr.out.drew) (fun hSd => ?_)
                refine wpAnyH_take (i := 0) (v := ?_) rfl (by kernel_rfl) (by kernel_rfl) (by kernel_rfl) (fun _ _ _ h => h) (Or.inl ⟨by kernel_rfl, fun W hSW => by go_simp; try with_reducible rfl⟩) (by assumption) ?_
                try simp only [List.getElem_toArray]
                try simp only [List.getElem_cons_succ]
                try simp only [List.getElem_cons_zero]
                try simp only [Act.put]
                try simp only [List.setIfInBounds_toArray]
                try simp only [List.set_cons_succ]
                try simp only [List.set_cons_zero]
                refine wpAnyH_take (i := 1) (v := ?_) rfl (by kernel_rfl) (by kernel_rfl) (by kernel_rfl) (fun _ _ _ h => h) (Or.inl ⟨by kernel_rfl, fun W hSW => by go_simp; try with_reducible rfl⟩) (by assumption) ?_
                try simp only [List.getElem_toArray]
                try simp only [List.getElem_cons_succ]
                try simp only [List.getElem_cons_zero]
                try simp only [Act.put]
                try simp only [List.setIfInBounds_toArray]
                try simp only [List.set_cons_succ]
                try simp only [List.set_cons_zero]
                refine wpAnyH_take (i := 2) (v := ?_) rfl (by kernel_rfl) (by kernel_rfl) (by kernel_rfl) (fun _ _ _ h => h) (Or.inl ⟨by kernel_rfl, fun W hSW => by go_simp; try with_reducible rfl⟩) (by assumption) ?_
                try simp only [List.getElem_toArray]
                try simp only [List.getElem_cons_succ]
                try simp only [List.getElem_cons_zero]
                try simp only [Act.put]
                try simp only [List.setIfInBounds_toArray]
                try simp only [List.set_cons_succ]
                try simp only [List.set_cons_zero]
                refine wpAnyH_take (i := 3) (v := ?_) rfl (by kernel_rfl) (by kernel_rfl) (by kernel_rfl) (fun _ _ _ h => h) (Or.inl ⟨by kernel_rfl, fun W hSW => by go_simp; try with_reducible rfl⟩) (by assumption) ?_
                try simp only [List.getElem_toArray]
                try simp only [List.getElem_cons_succ]
                try simp only [List.getElem_cons_zero]
                try simp only [Act.put]
                try simp only [List.setIfInBounds_toArray]
                try simp only [List.set_cons_succ]
                try simp only [List.set_cons_zero]
                refine wpAnyH_take (i := 4) (v := (.int .i64 ((F0 : Int) + (V.size : Int)))) rfl (by kernel_rfl) (by kernel_rfl) (by kernel_rfl) (fun _ _ _ h => h) (Or.inl ⟨by kernel_rfl, fun W hSW => by go_simp; try with_reducible rfl⟩) (by assumption) ?_
                try simp only [List.getElem_toArray]
                try simp only [List.getElem_cons_succ]
                try simp only [List.getElem_cons_zero]
                try simp only [Act.put]
                try simp only [List.setIfInBounds_toArray]
                try simp only [List.set_cons_succ]
                try simp only [List.set_cons_zero]
                refine wpAnyH_take (i := 5) (v := (.int .i64 ((F0 + V.size + 6 : Nat) : Int))) rfl (by kernel_rfl) (by kernel_rfl) (by kernel_rfl) (fun _ _ _ h => h) (Or.inl ⟨by kernel_rfl, fun W hSW => by go_simp; try with_reducible rfl⟩) (by assumption) ?_
                try simp only [List.getElem_toArray]
                try simp only [List.getElem_cons_succ]
                try simp only [List.getElem_cons_zero]
                try simp only [Act.put]
                try simp only [List.setIfInBounds_toArray]
                try simp only [List.set_cons_succ]
                try simp only [List.set_cons_zero]
                refine wpAnyH_take (i := 8) (v := ?_) rfl (by kernel_rfl) (by kernel_rfl) (by kernel_rfl) (fun _ _ _ h => h) (Or.inl ⟨by kernel_rfl, fun W hSW => by go_simp; try with_reducible rfl⟩) (by assumption) ?_
                try simp only [List.getElem_toArray]
                try simp only [List.getElem_cons_succ]
                try simp only [List.getElem_cons_zero]
                try simp only [Act.put]
                try simp only [List.setIfInBounds_toArray]
                try simp only [List.set_cons_succ]
                try simp only [List.set_cons_zero]
                refine wpAnyH_take (i := 9) (v := ?_) rfl (by kernel_rfl) (by kernel_rfl) (by kernel_rfl) (fun _ _ _ h => h) (Or.inl ⟨by kernel_rfl, fun W hSW => by go_simp; try with_reducible rfl⟩) (by assumption) ?_
                try simp only [List.getElem_toArray]
                try simp only [List.getElem_cons_succ]
                try simp only [List.getElem_cons_zero]
                try simp only [Act.put]
                try simp only [List.setIfInBounds_toArray]
                try simp only [List.set_cons_succ]
                try simp only [List.set_cons_zero]
                refine wpAnyH_take (i := 12) (v := ?_) rfl (by kernel_rfl) (by kernel_rfl) (by kernel_rfl) (fun _ _ _ h => h) (Or.inl ⟨by kernel_rfl, fun W hSW => by go_simp; try with_reducible rfl⟩) (by assumption) ?_
                try simp only [List.getElem_toArray]
                try simp only [List.getElem_cons_succ]
                try simp only [List.getElem_cons_zero]
                try simp only [Act.put]
                try simp only [List.setIfInBounds_toArray]
                try simp only [List.set_cons_succ]
                try simp only [List.set_cons_zero]
                refine wpAnyH_take (i := 13) (v := ?_) rfl (by kernel_rfl) (by kernel_rfl) (by kernel_rfl) (fun _ _ _ h => h) (Or.inl ⟨by kernel_rfl, fun W hSW => by go_simp; try with_reducible rfl⟩) (by assumption) ?_
                try simp only [List.getElem_toArray]
                try simp only [List.getElem_cons_succ]
                try simp only [List.getElem_cons_zero]
                try simp only [Act.put]
                try simp only [List.setIfInBounds_toArray]
                try simp only [List.set_cons_succ]
                try simp only [List.set_cons_zero]
                refine wpAnyH_take (i := 16) (v := ?_) rfl (by kernel_rfl) (by kernel_rfl) (by kernel_rfl) (fun _ _ _ h => h) (Or.inl ⟨by kernel_rfl, fun W hSW => by go_simp; try with_reducible rfl⟩) (by assumption) ?_
                try simp only [List.getElem_toArray]
                try simp only [List.getElem_cons_succ]
                try simp only [List.getElem_cons_zero]
                try simp only [Act.put]
                try simp only [List.setIfInBounds_toArray]
                try simp only [List.set_cons_succ]
                try simp only [List.set_cons_zero]
                refine wpAnyH_ready (rs := [6]) (by kernel_rfl) (by simp) ?_
                refine AllReadyH.cons rfl (fun K hK => ?_) AllReadyH.nil
                go_simp
                refine (HT1.out _).mono ?_
                rintro e x1 ⟨rfl, hk⟩
                have hS1 : Kept (fun _ => False) W1 x1 := hSd.trans hk
                clear hk
                refine hK.out _ _ (hS1) (fun _ => ?_)
                clear hK K
                try simp only [List.getElem_toArray]
                try simp only [List.getElem_cons_succ]
                try simp only [List.getElem_cons_zero]
                try simp only [Act.put]
                try simp only [List.setIfInBounds_toArray]
                try simp only [List.set_cons_succ]
                try simp only [List.set_cons_zero]
                refine wpAnyH_take (i := 7) (v := ?_) rfl (by kernel_rfl) (by kernel_rfl) (by kernel_rfl) (fun _ _ _ h => h) (Or.inl ⟨by kernel_rfl, fun W hSW => by go_simp; try with_reducible rfl⟩) (by assumption) ?_
                try simp only [List.getElem_toArray]
                try simp only [List.getElem_cons_succ]
                try simp only [List.getElem_cons_zero]
                try simp only [Act.put]
                try simp only [List.setIfInBounds_toArray]
                try simp only [List.set_cons_succ]
                try simp only [List.set_cons_zero]
                refine wpAnyH_ready (rs := [10]) (by kernel_rfl) (by simp) ?_
                refine AllReadyH.cons rfl (fun K hK => ?_) AllReadyH.nil
                go_simp
                refine (HT2.out _).mono ?_
                rintro e x2 ⟨rfl, hk⟩
                have hS2 : Kept (fun _ => False) W1 x2 := hS1.trans hk
                clear hk
                refine hK.out _ _ (hS2) (fun _ => ?_)
                clear hK K
                try simp only [List.getElem_toArray]
                try simp only [List.getElem_cons_succ]
                try simp only [List.getElem_cons_zero]
                try simp only [Act.put]
                try simp only [List.setIfInBounds_toArray]
                try simp only [List.set_cons_succ]
                try simp only [List.set_cons_zero]
                refine wpAnyH_take (i := 11) (v := ?_) rfl (by kernel_rfl) (by kernel_rfl) (by kernel_rfl) (fun _ _ _ h => h) (Or.inl ⟨by kernel_rfl, fun W hSW => by go_simp; try with_reducible rfl⟩) (by assumption) ?_
                try simp only [List.getElem_toArray]
                try simp only [List.getElem_cons_succ]
                try simp only [List.getElem_cons_zero]
                try simp only [Act.put]
                try simp only [List.setIfInBounds_toArray]
                try simp only [List.set_cons_succ]
                try simp only [List.set_cons_zero]
                refine wpAnyH_ready (rs := [14]) (by kernel_rfl) (by simp) ?_
                refine AllReadyH.cons rfl (fun K hK => ?_) AllReadyH.nil
                go_simp
                refine (HT3.out _).mono ?_
                rintro e x3 ⟨rfl, hk⟩
                have hS3 : Kept (fun _ => False) W1 x3 := hS2.trans hk
                clear hk
                refine hK.out _ _ (hS3) (fun _ => ?_)
                clear hK K
                try simp only [List.getElem_toArray]
                try simp only [List.getElem_cons_succ]
                try simp only [List.getElem_cons_zero]
                try simp only [Act.put]
                try simp only [List.setIfInBounds_toArray]
                try simp only [List.set_cons_succ]
                try simp only [List.set_cons_zero]
                refine wpAnyH_take (i := 15) (v := ?_) rfl (by kernel_rfl) (by kernel_rfl) (by kernel_rfl) (fun _ _ _ h => h) (Or.inl ⟨by kernel_rfl, fun W hSW => by go_simp; try with_reducible rfl⟩) (by assumption) ?_
                try simp only [List.getElem_toArray]
                try simp only [List.getElem_cons_succ]
                try simp only [List.getElem_cons_zero]
                try simp only [Act.put]
                try simp only [List.setIfInBounds_toArray]
                try simp only [List.set_cons_succ]
                try simp only [List.set_cons_zero]
                refine wpAnyH_take (i := 17) (v := ?_) rfl (by kernel_rfl) (by kernel_rfl) (by kernel_rfl) (fun _ _ _ h => h) (Or.inl ⟨by kernel_rfl, fun W hSW => by go_simp; try with_reducible rfl⟩) (by assumption) ?_
                try simp only [List.getElem_toArray]
                try simp only [List.getElem_cons_succ]
                try simp only [List.getElem_cons_zero]
                try simp only [Act.put]
                try simp only [List.setIfInBounds_toArray]
                try simp only [List.set_cons_succ]
                try simp only [List.set_cons_zero]
                refine wpAnyH_take (i := 18) (v := ?_) rfl (by kernel_rfl) (by kernel_rfl) (by kernel_rfl) (fun _ _ _ h => h) (Or.inl ⟨by kernel_rfl, fun W hSW => by go_simp; try with_reducible rfl⟩) (by assumption) ?_
                try simp only [List.getElem_toArray]
                try simp only [List.getElem_cons_succ]
                try simp only [List.getElem_cons_zero]
                try simp only [Act.put]
                try simp only [List.setIfInBounds_toArray]
                try simp only [List.set_cons_succ]
                try simp only [List.set_cons_zero]
                refine wpAnyH_done (by kernel_rfl) ?_ _
                have HKz := hid (HK1.out.trans hS3)
                have r0 := p0 _ hS3
                have r1 := p1 _ hS3
                have r2 := p2 _ hS3
                have r3 := p3 _ hS3
                have r4 := p4 _ hS3
                clear hS1 hS2 hS3 o1 o2 o3 o4 p0 p1 p2 p3 p4 w1' w2'
                go_wp2
                exact ⟨⟨j + 1, _, _, hlt, by go_num, rfl, ⟨rfl, rfl⟩, ⟨HNx'.out, by rw [HE.out]; exact HT.out, by have := HZ.out; rw [HE.out, ByteArray.size_append]; omega, HKz.out⟩⟩, by simp [intOf]; omega⟩
              | true =>
                cases v2 : ((t' : Int) == 36) with
                | false =>
                  have HV1 := HP0 false (by unfold isVec; simp [v1, v2])
                  rw [if_neg (by decide)] at HV1
                  rw [HV1] at HT HNx'
                  clear HV1 HP0
                  have HT1 := hid (refTwoA (F0 + V.size + 6))
                  have HT2 := hid (refTwoA n')
                  have HT3 := hid (refTwoA t')
                  have s1 := two_size (F0 + V.size + 6)
                  have s2 := two_size n'
                  have s3 := two_size t'
                  have HE : Hid (((acc ++ two (F0 + V.size + 6)) ++ two n') ++ two t' ++ V = acc ++ laidA ⟨m, false, n', t', V⟩ V) := by
                    show _ = _
                    rw [laid_eq m false V V F0 HF.out, app_assoc, app_assoc, app_assoc]
                  obtain ⟨T1, hT1⟩ : ∃ T1, T1 = two (F0 + V.size + 6) := ⟨_, rfl⟩
                  obtain ⟨T2, hT2⟩ : ∃ T2, T2 = two n' := ⟨_, rfl⟩
                  obtain ⟨T3, hT3⟩ : ∃ T3, T3 = two t' := ⟨_, rfl⟩
                  rw [← hT1] at HT1 s1 HE
                  rw [← hT2] at HT2 s2 HE
                  rw [← hT3] at HT3 s3 HE
                  clear hT1 hT2 hT3
                  have o1 : ¬ (9223372036854775807 < acc.size + T1.size) := by omega
                  have o2 : ¬ (9223372036854775807 < acc.size + T1.size + T2.size) := by omega
                  have o3 : ¬ (9223372036854775807 < acc.size + T1.size + T2.size + T3.size) := by omega
                  have o4 : ¬ (9223372036854775807 < acc.size + T1.size + T2.size + T3.size + V.size) := by omega
                  have w1' : IntKind.i64.wrap ((F0 : Int) + (V.size : Int)) = (F0 : Int) + (V.size : Int) := by rw [IntKind.wrap_i64]; omega
                  have w2' : IntKind.i64.wrap ((F0 : Int) + (V.size : Int) + 6) = ((F0 + V.size + 6 : Nat) : Int) := by rw [IntKind.wrap_i64]; omega
                  clear s1 s2 s3
                  go_upto_region 22 with fail
                  refine wp_region_held_drew (S := Kept (fun _ => False) W1) (by kernel_rfl) (HKr.out.drew) (fun hSd => ?_)
                  refine wpAnyH_take (i := 0) (v := ?_) rfl (by kernel_rfl) (by kernel_rfl) (by kernel_rfl) (fun _ _ _ h => h) (Or.inl ⟨by kernel_rfl, fun W hSW => by go_simp; try with_reducible rfl⟩) (by assumption) ?_
                  try simp only [List.getElem_toArray]
                  try simp only [List.getElem_cons_succ]
                  try simp only [List.getElem_cons_zero]
                  try simp only [Act.put]
                  try simp only [List.setIfInBounds_toArray]
                  try simp only [List.set_cons_succ]
                  try simp only [List.set_cons_zero]
                  refine wpAnyH_take (i := 1) (v := ?_) rfl (by kernel_rfl) (by kernel_rfl) (by kernel_rfl) (fun _ _ _ h => h) (Or.inl ⟨by kernel_rfl, fun W hSW => by go_simp; try with_reducible rfl⟩) (by assumption) ?_
                  try simp only [List.getElem_toArray]
                  try simp only [List.getElem_cons_succ]
                  try simp only [List.getElem_cons_zero]
                  try simp only [Act.put]
                  try simp only [List.setIfInBounds_toArray]
                  try simp only [List.set_cons_succ]
                  try simp only [List.set_cons_zero]
                  refine wpAnyH_take (i := 2) (v := ?_) rfl (by kernel_rfl) (by kernel_rfl) (by kernel_rfl) (fun _ _ _ h => h) (Or.inl ⟨by kernel_rfl, fun W hSW => by go_simp; try with_reducible rfl⟩) (by assumption) ?_
                  try simp only [List.getElem_toArray]
                  try simp only [List.getElem_cons_succ]
                  try simp only [List.getElem_cons_zero]
                  try simp only [Act.put]
                  try simp only [List.setIfInBounds_toArray]
                  try simp only [List.set_cons_succ]
                  try simp only [List.set_cons_zero]
                  refine wpAnyH_take (i := 3) (v := ?_) rfl (by kernel_rfl) (by kernel_rfl) (by kernel_rfl) (fun _ _ _ h => h) (Or.inl ⟨by kernel_rfl, fun W hSW => by go_simp; try with_reducible rfl⟩) (by assumption) ?_
                  try simp only [List.getElem_toArray]
                  try simp only [List.getElem_cons_succ]
                  try simp only [List.getElem_cons_zero]
                  try simp only [Act.put]
                  try simp only [List.setIfInBounds_toArray]
                  try simp only [List.set_cons_succ]
                  try simp only [List.set_cons_zero]
                  refine wpAnyH_take (i := 4) (v := (.int .i64 ((F0 : Int) + (V.size : Int)))) rfl (by kernel_rfl) (by kernel_rfl) (by kernel_rfl) (fun _ _ _ h => h) (Or.inl ⟨by kernel_rfl, fun W hSW => by go_simp; try with_reducible rfl⟩) (by assumption) ?_
                  try simp only [List.getElem_toArray]
                  try simp only [List.getElem_cons_succ]
                  try simp only [List.getElem_cons_zero]
                  try simp only [Act.put]
                  try simp only [List.setIfInBounds_toArray]
                  try simp only [List.set_cons_succ]
                  try simp only [List.set_cons_zero]
                  refine wpAnyH_take (i := 5) (v := (.int .i64 ((F0 + V.size + 6 : Nat) : Int))) rfl (by kernel_rfl) (by kernel_rfl) (by kernel_rfl) (fun _ _ _ h => h) (Or.inl ⟨by kernel_rfl, fun W hSW => by go_simp; try with_reducible rfl⟩) (by assumption) ?_
                  try simp only [List.getElem_toArray]
                  try simp only [List.getElem_cons_succ]
                  try simp only [List.getElem_cons_zero]
                  try simp only [Act.put]
                  try simp only [List.setIfInBounds_toArray]
                  try simp only [List.set_cons_succ]
                  try simp only [List.set_cons_zero]
                  refine wpAnyH_take (i := 8) (v := ?_) rfl (by kernel_rfl) (by kernel_rfl) (by kernel_rfl) (fun _ _ _ h => h) (Or.inl ⟨by kernel_rfl, fun W hSW => by go_simp; try with_reducible rfl⟩) (by assumption) ?_
                  try simp only [List.getElem_toArray]
                  try simp only [List.getElem_cons_succ]
                  try simp only [List.getElem_cons_zero]
                  try simp only [Act.put]
                  try simp only [List.setIfInBounds_toArray]
                  try simp only [List.set_cons_succ]
                  try simp only [List.set_cons_zero]
                  refine wpAnyH_take (i := 9) (v := ?_) rfl (by kernel_rfl) (by kernel_rfl) (by kernel_rfl) (fun _ _ _ h => h) (Or.inl ⟨by kernel_rfl, fun W hSW => by go_simp; try with_reducible rfl⟩) (by assumption) ?_
                  try simp only [List.getElem_toArray]
                  try simp only [List.getElem_cons_succ]
                  try simp only [List.getElem_cons_zero]
                  try simp only [Act.put]
                  try simp only [List.setIfInBounds_toArray]
                  try simp only [List.set_cons_succ]
                  try simp only [List.set_cons_zero]
                  refine wpAnyH_take (i := 12) (v := ?_) rfl (by kernel_rfl) (by kernel_rfl) (by kernel_rfl) (fun _ _ _ h => h) (Or.inl ⟨by kernel_rfl, fun W hSW => by go_simp; try with_reducible rfl⟩) (by assumption) ?_
                  try simp only [List.getElem_toArray]
                  try simp only [List.getElem_cons_succ]
                  try simp only [List.getElem_cons_zero]
                  try simp only [Act.put]
                  try simp only [List.setIfInBounds_toArray]
                  try simp only [List.set_cons_succ]
                  try simp only [List.set_cons_zero]
                  refine wpAnyH_take (i := 13) (v := ?_) rfl (by kernel_rfl) (by kernel_rfl) (by kernel_rfl) (fun _ _ _ h => h) (Or.inl ⟨by kernel_rfl, fun W hSW => by go_simp; try with_reducible rfl⟩) (by assumption) ?_
                  try simp only [List.getElem_toArray]
                  try simp only [List.getElem_cons_succ]
                  try simp only [List.getElem_cons_zero]
                  try simp only [Act.put]
                  try simp only [List.setIfInBounds_toArray]
                  try simp only [List.set_cons_succ]
                  try simp only [List.set_cons_zero]
                  refine wpAnyH_take (i := 16) (v := ?_) rfl (by kernel_rfl) (by kernel_rfl) (by kernel_rfl) (fun _ _ _ h => h) (Or.inl ⟨by kernel_rfl, fun W hSW => by go_simp; try with_reducible rfl⟩) (by assumption) ?_
                  try simp only [List.getElem_toArray]
                  try simp only [List.getElem_cons_succ]
                  try simp only [List.getElem_cons_zero]
                  try simp only [Act.put]
                  try simp only [List.setIfInBounds_toArray]
                  try simp only [List.set_cons_succ]
                  try simp only [List.set_cons_zero]
                  refine wpAnyH_ready (rs := [6]) (by kernel_rfl) (by simp) ?_
                  refine AllReadyH.cons rfl (fun K hK => ?_) AllReadyH.nil
                  go_simp
                  refine (HT1.out _).mono ?_
                  rintro e x1 ⟨rfl, hk⟩
                  have hS1 : Kept (fun _ => False) W1 x1 := hSd.trans hk
                  clear hk
                  refine hK.out _ _ (hS1) (fun _ => ?_)
                  clear hK K
                  try simp only [List.getElem_toArray]
                  try simp only [List.getElem_cons_succ]
                  try simp only [List.getElem_cons_zero]
                  try simp only [Act.put]
                  try simp only [List.setIfInBounds_toArray]
                  try simp only [List.set_cons_succ]
                  try simp only [List.set_cons_zero]
                  refine wpAnyH_take (i := 7) (v := ?_) rfl (by kernel_rfl) (by kernel_rfl) (by kernel_rfl) (fun _ _ _ h => h) (Or.inl ⟨by kernel_rfl, fun W hSW => by go_simp; try with_reducible rfl⟩) (by assumption) ?_
                  try simp only [List.getElem_toArray]
                  try simp only [List.getElem_cons_succ]
                  try simp only [List.getElem_cons_zero]
                  try simp only [Act.put]
                  try simp only [List.setIfInBounds_toArray]
                  try simp only [List.set_cons_succ]
                  try simp only [List.set_cons_zero]
                  refine wpAnyH_ready (rs := [10]) (by kernel_rfl) (by simp) ?_
                  refine AllReadyH.cons rfl (fun K hK => ?_) AllReadyH.nil
                  go_simp
                  refine (HT2.out _).mono ?_
                  rintro e x2 ⟨rfl, hk⟩
                  have hS2 : Kept (fun _ => False) W1 x2 := hS1.trans hk
                  clear hk
                  refine hK.out _ _ (hS2) (fun _ => ?_)
                  clear hK K
                  try simp only [List.getElem_toArray]
                  try simp only [List.getElem_cons_succ]
                  try simp only [List.getElem_cons_zero]
                  try simp only [Act.put]
                  try simp only [List.setIfInBounds_toArray]
                  try simp only [List.set_cons_succ]
                  try simp only [List.set_cons_zero]
                  refine wpAnyH_take (i := 11) (v := ?_) rfl (by kernel_rfl) (by kernel_rfl) (by kernel_rfl) (fun _ _ _ h => h) (Or.inl ⟨by kernel_rfl, fun W hSW => by go_simp; try with_reducible rfl⟩) (by assumption) ?_
                  try simp only [List.getElem_toArray]
                  try simp only [List.getElem_cons_succ]
                  try simp only [List.getElem_cons_zero]
                  try simp only [Act.put]
                  try simp only [List.setIfInBounds_toArray]
                  try simp only [List.set_cons_succ]
                  try simp only [List.set_cons_zero]
                  refine wpAnyH_ready (rs := [14]) (by kernel_rfl) (by simp) ?_
                  refine AllReadyH.cons rfl (fun K hK => ?_) AllReadyH.nil
                  go_simp
                  refine (HT3.out _).mono ?_
                  rintro e x3 ⟨rfl, hk⟩
                  have hS3 : Kept (fun _ => False) W1 x3 := hS2.trans hk
                  clear hk
                  refine hK.out _ _ (hS3) (fun _ => ?_)
                  clear hK K
                  try simp only [List.getElem_toArray]
                  try simp only [List.getElem_cons_succ]
                  try simp only [List.getElem_cons_zero]
                  try simp only [Act.put]
                  try simp only [List.setIfInBounds_toArray]
                  try simp only [List.set_cons_succ]
                  try simp only [List.set_cons_zero]
                  refine wpAnyH_take (i := 15) (v := ?_) rfl (by kernel_rfl) (by kernel_rfl) (by kernel_rfl) (fun _ _ _ h => h) (Or.inl ⟨by kernel_rfl, fun W hSW => by go_simp; try with_reducible rfl⟩) (by assumption) ?_
                  try simp only [List.getElem_toArray]
                  try simp only [List.getElem_cons_succ]
                  try simp only [List.getElem_cons_zero]
                  try simp only [Act.put]
                  try simp only [List.setIfInBounds_toArray]
                  try simp only [List.set_cons_succ]
                  try simp only [List.set_cons_zero]
                  refine wpAnyH_take (i := 17) (v := ?_) rfl (by kernel_rfl) (by kernel_rfl) (by kernel_rfl) (fun _ _ _ h => h) (Or.inl ⟨by kernel_rfl, fun W hSW => by go_simp; try with_reducible rfl⟩) (by assumption) ?_
                  try simp only [List.getElem_toArray]
                  try simp only [List.getElem_cons_succ]
                  try simp only [List.getElem_cons_zero]
                  try simp only [Act.put]
                  try simp only [List.setIfInBounds_toArray]
                  try simp only [List.set_cons_succ]
                  try simp only [List.set_cons_zero]
                  refine wpAnyH_take (i := 18) (v := ?_) rfl (by kernel_rfl) (by kernel_rfl) (by kernel_rfl) (fun _ _ _ h => h) (Or.inl ⟨by kernel_rfl, fun W hSW => by go_simp; try with_reducible rfl⟩) (by assumption) ?_
                  try simp only [List.getElem_toArray]
                  try simp only [List.getElem_cons_succ]
                  try simp only [List.getElem_cons_zero]
                  try simp only [Act.put]
                  try simp only [List.setIfInBounds_toArray]
                  try simp only [List.set_cons_succ]
                  try simp only [List.set_cons_zero]
                  refine wpAnyH_done (by kernel_rfl) ?_ _
                  have HKz := hid (HK1.out.trans hS3)
                  have r0 := p0 _ hS3
                  have r1 := p1 _ hS3
                  have r2 := p2 _ hS3
                  have r3 := p3 _ hS3
                  have r4 := p4 _ hS3
                  clear hS1 hS2 hS3 o1 o2 o3 o4 p0 p1 p2 p3 p4 w1' w2'
                  go_wp2
                  exact ⟨⟨j + 1, _, _, hlt, by go_num, rfl, ⟨rfl, rfl⟩, ⟨HNx'.out, by rw [HE.out]; exact HT.out, by have := HZ.out; rw [HE.out, ByteArray.size_append]; omega, HKz.out⟩⟩, by simp [intOf]; omega⟩
                | true =>
                  have HV1 := HP0 true (by unfold isVec; simp [v1, v2])
                  rw [if_pos rfl] at HV1
                  rw [HV1] at HT HNx'
                  clear HV1 HP0
                  have HT1 := hid (refTwoA (F0 + V.size + 6))
                  have HT2 := hid (refTwoA n')
                  have HT3 := hid (refTwoA t')
                  have s1 := two_size (F0 + V.size + 6)
                  have s2 := two_size n'
                  have s3 := two_size t'
                  have HE : Hid (((acc ++ two (F0 + V.size + 6)) ++ two n') ++ two t' ++ V = acc ++ laidA ⟨m, false, n', t', V⟩ V) := by
                    show _ = _
                    rw [laid_eq m false V V F0 HF.out, app_assoc, app_assoc, app_assoc]
                  obtain ⟨T1, hT1⟩ : ∃ T1, T1 = two (F0 + V.size + 6) := ⟨_, rfl⟩
                  obtain ⟨T2, hT2⟩ : ∃ T2, T2 = two n' := ⟨_, rfl⟩
                  obtain ⟨T3, hT3⟩ : ∃ T3, T3 = two t' := ⟨_, rfl⟩
                  rw [← hT1] at HT1 s1 HE
                  rw [← hT2] at HT2 s2 HE
                  rw [← hT3] at HT3 s3 HE
                  clear hT1 hT2 hT3
                  have o1 : ¬ (9223372036854775807 < acc.size + T1.size) := by omega
                  have o2 : ¬ (9223372036854775807 < acc.size + T1.size + T2.size) := by omega
                  have o3 : ¬ (9223372036854775807 < acc.size + T1.size + T2.size + T3.size) := by omega
                  have o4 : ¬ (9223372036854775807 < acc.size + T1.size + T2.size + T3.size + V.size) := by omega
                  have w1' : IntKind.i64.wrap ((F0 : Int) + (V.size : Int)) = (F0 : Int) + (V.size : Int) := by rw [IntKind.wrap_i64]; omega
                  have w2' : IntKind.i64.wrap ((F0 : Int) + (V.size : Int) + 6) = ((F0 + V.size + 6 : Nat) : Int) := by rw [IntKind.wrap_i64]; omega
                  clear s1 s2 s3
                  go_upto_region 22 with fail
                  refine wp_region_held_drew (S := Kept (fun _ => False) W1) (by kernel_rfl) (HKr.out.drew) (fun hSd => ?_)
                  refine wpAnyH_take (i := 0) (v := ?_) rfl (by kernel_rfl) (by kernel_rfl) (by kernel_rfl) (fun _ _ _ h => h) (Or.inl ⟨by kernel_rfl, fun W hSW => by go_simp; try with_reducible rfl⟩) (by assumption) ?_
                  try simp only [List.getElem_toArray]
                  try simp only [List.getElem_cons_succ]
                  try simp only [List.getElem_cons_zero]
                  try simp only [Act.put]
                  try simp only [List.setIfInBounds_toArray]
                  try simp only [List.set_cons_succ]
                  try simp only [List.set_cons_zero]
                  refine wpAnyH_take (i := 1) (v := ?_) rfl (by kernel_rfl) (by kernel_rfl) (by kernel_rfl) (fun _ _ _ h => h) (Or.inl ⟨by kernel_rfl, fun W hSW => by go_simp; try with_reducible rfl⟩) (by assumption) ?_
                  try simp only [List.getElem_toArray]
                  try simp only [List.getElem_cons_succ]
                  try simp only [List.getElem_cons_zero]
                  try simp only [Act.put]
                  try simp only [List.setIfInBounds_toArray]
                  try simp only [List.set_cons_succ]
                  try simp only [List.set_cons_zero]
                  refine wpAnyH_take (i := 2) (v := ?_) rfl (by kernel_rfl) (by kernel_rfl) (by kernel_rfl) (fun _ _ _ h => h) (Or.inl ⟨by kernel_rfl, fun W hSW => by go_simp; try with_reducible rfl⟩) (by assumption) ?_
                  try simp only [List.getElem_toArray]
                  try simp only [List.getElem_cons_succ]
                  try simp only [List.getElem_cons_zero]
                  try simp only [Act.put]
                  try simp only [List.setIfInBounds_toArray]
                  try simp only [List.set_cons_succ]
                  try simp only [List.set_cons_zero]
                  refine wpAnyH_take (i := 3) (v := ?_) rfl (by kernel_rfl) (by kernel_rfl) (by kernel_rfl) (fun _ _ _ h => h) (Or.inl ⟨by kernel_rfl, fun W hSW => by go_simp; try with_reducible rfl⟩) (by assumption) ?_
                  try simp only [List.getElem_toArray]
                  try simp only [List.getElem_cons_succ]
                  try simp only [List.getElem_cons_zero]
                  try simp only [Act.put]
                  try simp only [List.setIfInBounds_toArray]
                  try simp only [List.set_cons_succ]
                  try simp only [List.set_cons_zero]
                  refine wpAnyH_take (i := 4) (v := (.int .i64 ((F0 : Int) + (V.size : Int)))) rfl (by kernel_rfl) (by kernel_rfl) (by kernel_rfl) (fun _ _ _ h => h) (Or.inl ⟨by kernel_rfl, fun W hSW => by go_simp; try with_reducible rfl⟩) (by assumption) ?_
                  try simp only [List.getElem_toArray]
                  try simp only [List.getElem_cons_succ]
                  try simp only [List.getElem_cons_zero]
                  try simp only [Act.put]
                  try simp only [List.setIfInBounds_toArray]
                  try simp only [List.set_cons_succ]
                  try simp only [List.set_cons_zero]
                  refine wpAnyH_take (i := 5) (v := (.int .i64 ((F0 + V.size + 6 : Nat) : Int))) rfl (by kernel_rfl) (by kernel_rfl) (by kernel_rfl) (fun _ _ _ h => h) (Or.inl ⟨by kernel_rfl, fun W hSW => by go_simp; try with_reducible rfl⟩) (by assumption) ?_
                  try simp only [List.getElem_toArray]
                  try simp only [List.getElem_cons_succ]
                  try simp only [List.getElem_cons_zero]
                  try simp only [Act.put]
                  try simp only [List.setIfInBounds_toArray]
                  try simp only [List.set_cons_succ]
                  try simp only [List.set_cons_zero]
                  refine wpAnyH_take (i := 8) (v := ?_) rfl (by kernel_rfl) (by kernel_rfl) (by kernel_rfl) (fun _ _ _ h => h) (Or.inl ⟨by kernel_rfl, fun W hSW => by go_simp; try with_reducible rfl⟩) (by assumption) ?_
                  try simp only [List.getElem_toArray]
                  try simp only [List.getElem_cons_succ]
                  try simp only [List.getElem_cons_zero]
                  try simp only [Act.put]
                  try simp only [List.setIfInBounds_toArray]
                  try simp only [List.set_cons_succ]
                  try simp only [List.set_cons_zero]
                  refine wpAnyH_take (i := 9) (v := ?_) rfl (by kernel_rfl) (by kernel_rfl) (by kernel_rfl) (fun _ _ _ h => h) (Or.inl ⟨by kernel_rfl, fun W hSW => by go_simp; try with_reducible rfl⟩) (by assumption) ?_
                  try simp only [List.getElem_toArray]
                  try simp only [List.getElem_cons_succ]
                  try simp only [List.getElem_cons_zero]
                  try simp only [Act.put]
                  try simp only [List.setIfInBounds_toArray]
                  try simp only [List.set_cons_succ]
                  try simp only [List.set_cons_zero]
                  refine wpAnyH_take (i := 12) (v := ?_) rfl (by kernel_rfl) (by kernel_rfl) (by kernel_rfl) (fun _ _ _ h => h) (Or.inl ⟨by kernel_rfl, fun W hSW => by go_simp; try with_reducible rfl⟩) (by assumption) ?_
                  try simp only [List.getElem_toArray]
                  try simp only [List.getElem_cons_succ]
                  try simp only [List.getElem_cons_zero]
                  try simp only [Act.put]
                  try simp only [List.setIfInBounds_toArray]
                  try simp only [List.set_cons_succ]
                  try simp only [List.set_cons_zero]
                  refine wpAnyH_take (i := 13) (v := ?_) rfl (by kernel_rfl) (by kernel_rfl) (by kernel_rfl) (fun _ _ _ h => h) (Or.inl ⟨by kernel_rfl, fun W hSW => by go_simp; try with_reducible rfl⟩) (by assumption) ?_
                  try simp only [List.getElem_toArray]
                  try simp only [List.getElem_cons_succ]
                  try simp only [List.getElem_cons_zero]
                  try simp only [Act.put]
                  try simp only [List.setIfInBounds_toArray]
                  try simp only [List.set_cons_succ]
                  try simp only [List.set_cons_zero]
                  refine wpAnyH_take (i := 16) (v := ?_) rfl (by kernel_rfl) (by kernel_rfl) (by kernel_rfl) (fun _ _ _ h => h) (Or.inl ⟨by kernel_rfl, fun W hSW => by go_simp; try with_reducible rfl⟩) (by assumption) ?_
                  try simp only [List.getElem_toArray]
                  try simp only [List.getElem_cons_succ]
                  try simp only [List.getElem_cons_zero]
                  try simp only [Act.put]
                  try simp only [List.setIfInBounds_toArray]
                  try simp only [List.set_cons_succ]
                  try simp only [List.set_cons_zero]
                  refine wpAnyH_ready (rs := [6]) (by kernel_rfl) (by simp) ?_
                  refine AllReadyH.cons rfl (fun K hK => ?_) AllReadyH.nil
                  go_simp
                  refine (HT1.out _).mono ?_
                  rintro e x1 ⟨rfl, hk⟩
                  have hS1 : Kept (fun _ => False) W1 x1 := hSd.trans hk
                  clear hk
                  refine hK.out _ _ (hS1) (fun _ => ?_)
                  clear hK K
                  try simp only [List.getElem_toArray]
                  try simp only [List.getElem_cons_succ]
                  try simp only [List.getElem_cons_zero]
                  try simp only [Act.put]
                  try simp only [List.setIfInBounds_toArray]
                  try simp only [List.set_cons_succ]
                  try simp only [List.set_cons_zero]
                  refine wpAnyH_take (i := 7) (v := ?_) rfl (by kernel_rfl) (by kernel_rfl) (by kernel_rfl) (fun _ _ _ h => h) (Or.inl ⟨by kernel_rfl, fun W hSW => by go_simp; try with_reducible rfl⟩) (by assumption) ?_
                  try simp only [List.getElem_toArray]
                  try simp only [List.getElem_cons_succ]
                  try simp only [List.getElem_cons_zero]
                  try simp only [Act.put]
                  try simp only [List.setIfInBounds_toArray]
                  try simp only [List.set_cons_succ]
                  try simp only [List.set_cons_zero]
                  refine wpAnyH_ready (rs := [10]) (by kernel_rfl) (by simp) ?_
                  refine AllReadyH.cons rfl (fun K hK => ?_) AllReadyH.nil
                  go_simp
                  refine (HT2.out _).mono ?_
                  rintro e x2 ⟨rfl, hk⟩
                  have hS2 : Kept (fun _ => False) W1 x2 := hS1.trans hk
                  clear hk
                  refine hK.out _ _ (hS2) (fun _ => ?_)
                  clear hK K
                  try simp only [List.getElem_toArray]
                  try simp only [List.getElem_cons_succ]
                  try simp only [List.getElem_cons_zero]
                  try simp only [Act.put]
                  try simp only [List.setIfInBounds_toArray]
                  try simp only [List.set_cons_succ]
                  try simp only [List.set_cons_zero]
                  refine wpAnyH_take (i := 11) (v := ?_) rfl (by kernel_rfl) (by kernel_rfl) (by kernel_rfl) (fun _ _ _ h => h) (Or.inl ⟨by kernel_rfl, fun W hSW => by go_simp; try with_reducible rfl⟩) (by assumption) ?_
                  try simp only [List.getElem_toArray]
                  try simp only [List.getElem_cons_succ]
                  try simp only [List.getElem_cons_zero]
                  try simp only [Act.put]
                  try simp only [List.setIfInBounds_toArray]
                  try simp only [List.set_cons_succ]
                  try simp only [List.set_cons_zero]
                  refine wpAnyH_ready (rs := [14]) (by kernel_rfl) (by simp) ?_
                  refine AllReadyH.cons rfl (fun K hK => ?_) AllReadyH.nil
                  go_simp
                  refine (HT3.out _).mono ?_
                  rintro e x3 ⟨rfl, hk⟩
                  have hS3 : Kept (fun _ => False) W1 x3 := hS2.trans hk
                  clear hk
                  refine hK.out _ _ (hS3) (fun _ => ?_)
                  clear hK K
                  try simp only [List.getElem_toArray]
                  try simp only [List.getElem_cons_succ]
                  try simp only [List.getElem_cons_zero]
                  try simp only [Act.put]
                  try simp only [List.setIfInBounds_toArray]
                  try simp only [List.set_cons_succ]
                  try simp only [List.set_cons_zero]
                  refine wpAnyH_take (i := 15) (v := ?_) rfl (by kernel_rfl) (by kernel_rfl) (by kernel_rfl) (fun _ _ _ h => h) (Or.inl ⟨by kernel_rfl, fun W hSW => by go_simp; try with_reducible rfl⟩) (by assumption) ?_
                  try simp only [List.getElem_toArray]
                  try simp only [List.getElem_cons_succ]
                  try simp only [List.getElem_cons_zero]
                  try simp only [Act.put]
                  try simp only [List.setIfInBounds_toArray]
                  try simp only [List.set_cons_succ]
                  try simp only [List.set_cons_zero]
                  refine wpAnyH_take (i := 17) (v := ?_) rfl (by kernel_rfl) (by kernel_rfl) (by kernel_rfl) (fun _ _ _ h => h) (Or.inl ⟨by kernel_rfl, fun W hSW => by go_simp; try with_reducible rfl⟩) (by assumption) ?_
                  try simp only [List.getElem_toArray]
                  try simp only [List.getElem_cons_succ]
                  try simp only [List.getElem_cons_zero]
                  try simp only [Act.put]
                  try simp only [List.setIfInBounds_toArray]
                  try simp only [List.set_cons_succ]
                  try simp only [List.set_cons_zero]
                  refine wpAnyH_take (i := 18) (v := ?_) rfl (by kernel_rfl) (by kernel_rfl) (by kernel_rfl) (fun _ _ _ h => h) (Or.inl ⟨by kernel_rfl, fun W hSW => by go_simp; try with_reducible rfl⟩) (by assumption) ?_
                  try simp only [List.getElem_toArray]
                  try simp only [List.getElem_cons_succ]
                  try simp only [List.getElem_cons_zero]
                  try simp only [Act.put]
                  try simp only [List.setIfInBounds_toArray]
                  try simp only [List.set_cons_succ]
                  try simp only [List.set_cons_zero]
                  refine wpAnyH_done (by kernel_rfl) ?_ _
                  have HKz := hid (HK1.out.trans hS3)
                  have r0 := p0 _ hS3
                  have r1 := p1 _ hS3
                  have r2 := p2 _ hS3
                  have r3 := p3 _ hS3
                  have r4 := p4 _ hS3
                  clear hS1 hS2 hS3 o1 o2 o3 o4 p0 p1 p2 p3 p4 w1' w2'
                  go_wp2
                  exact ⟨⟨j + 1, _, _, hlt, by go_num, rfl, ⟨rfl, rfl⟩, ⟨HNx'.out, by rw [HE.out]; exact HT.out, by have := HZ.out; rw [HE.out, ByteArray.size_append]; omega, HKz.out⟩⟩, by simp [intOf]; omega⟩
            | true =>
              by_cases hs0 : s.size = 0
              · have e1 : lacksF c = 30 := by
                  unfold lacksF
                  rw [HOf.out.secret, if_pos hs0]
                have eH : hideF c (t' : Int) V = (⟨#[]⟩, 30) := by
                  unfold hideF
                  rw [e1, if_neg (by decide)]
                have e2 : putOneF ⟨m, true, (n' : Int), (t' : Int), V⟩ c = (⟨#[]⟩, 30) := by
                  unfold putOneF
                  rw [hnm, if_neg (by decide), if_neg hV, if_pos rfl]
                  simp only [eH]
                  rw [if_neg (by decide)]
                rw [e2, if_neg (by decide)] at hT
                have HP : Hid (Q = (⟨#[]⟩, 30)) := by
                  show _ = _
                  rw [HQ.out, ← hT, if_neg (by decide)]
                obtain rfl := str_nil s hs0
                clear hT e1 e2 eH hnm p0 p1 p2 p3 p4 hV
                go_wp2
                go_ret2
                exact ⟨by rw [HP.out]; rfl, HK1.out⟩
              · have hsne := str_full hs0
                cases hh : c.has with
                | false =>
                  have e1 : lacksF c = 40 := by
                    unfold lacksF
                    rw [HOf.out.secret, if_neg hs0, if_pos hh]
                  have eH : hideF c (t' : Int) V = (⟨#[]⟩, 40) := by
                    unfold hideF
                    rw [e1, if_neg (by decide)]
                  have e2 : putOneF ⟨m, true, (n' : Int), (t' : Int), V⟩ c = (⟨#[]⟩, 40) := by
                    unfold putOneF
                    rw [hnm, if_neg (by decide), if_neg hV, if_pos rfl]
                    simp only [eH]
                    rw [if_neg (by decide)]
                  rw [e2, if_neg (by decide)] at hT
                  have HP : Hid (Q = (⟨#[]⟩, 40)) := by
                    show _ = _
                    rw [HQ.out, ← hT, if_neg (by decide)]
                  clear hT e1 e2 eH hnm p0 p1 p2 p3 p4 hV
                  go_wp2
                  go_ret2
                  exact ⟨by rw [HP.out]; rfl, HK1.out⟩
                | true =>
                  have e0 : lacksF c = 0 := by
                    unfold lacksF
                    rw [HOf.out.secret, if_neg hs0, hh, if_neg (by decide)]
                  have eH : hideF c (t' : Int) V = (maskA false (t' : Int) s c.vector (two V.size ++ V), 0) := by
                    unfold hideF
                    rw [if_pos e0, HOf.out.secret]
                  have e1 : putOneF ⟨m, true, (n' : Int), (t' : Int), V⟩ c = (laidA ⟨m, true, (n' : Int), (t' : Int), V⟩ (maskA false (t' : Int) s c.vector (two V.size ++ V)), 0) := by
                    unfold putOneF
                    rw [hnm, if_neg (by decide), if_neg hV, if_pos rfl]
                    simp only [eH, if_true]
                  rw [e1, if_pos rfl] at hT
                  have HT := hid hT
                  have HZ' : Hid ((laidA ⟨m, true, (n' : Int), (t' : Int), V⟩ (maskA false (t' : Int) s c.vector (two V.size ++ V))).size ≤ 1008) := by have := HZ.out; rw [e1] at this; exact this
                  obtain ⟨F1, hF1⟩ : ∃ F1 : Nat, F1 = F0 + 16384 := ⟨_, rfl⟩
                  have HF : Hid (F1 = (if m then 32768 else 0) + (if true then 16384 else 0)) := by show _ = _; rw [hF1, HF0.out]; rfl
                  have hF1m : F1 ≤ 49152 := by omega
                  have sV := two_size V.size
                  have hXs : (maskA false (t' : Int) s c.vector (two V.size ++ V)).size = 2 + V.size := by rw [maskA_size, ByteArray.size_append, sV]
                  have HMM := hid (HM.out (t' : Int) s c.vector (two V.size ++ V) hs HOf.out.few.vector (by rw [ByteArray.size_append]; omega))
                  have HTV := hid (refTwoA V.size)
                  obtain ⟨X, hX⟩ : ∃ X, X = maskA false (t' : Int) s c.vector (two V.size ++ V) := ⟨_, rfl⟩
                  rw [← hX] at HT HZ' hXs HMM
                  obtain ⟨TV, hTV⟩ : ∃ TV, TV = two V.size := ⟨_, rfl⟩
                  rw [← hTV] at HMM HTV sV
                  have oV : ¬ (9223372036854775807 < TV.size + V.size) := by omega
                  clear hT e1 hnm hV hX hTV e0 eH sV
                  replace HZ := HZ'
                  have hX2 : X.size ≤ 1002 := by omega
                  clear hXs
                  go_upto_region 21 with fail
                  refine wp_region_held_drew (S := Kept (fun _ => False) W1) (by kernel_rfl) (HKr.out.drew) (fun hSd => ?_)
                  refine wpAnyH_take (i := 0) (v := ?_) rfl (by kernel_rfl) (by kernel_rfl) (by kernel_rfl) (fun _ _ _ h => h) (Or.inl ⟨by kernel_rfl, fun W hSW => by go_simp; try with_reducible rfl⟩) (by assumption) ?_
                  try simp only [List.getElem_toArray]
                  try simp only [List.getElem_cons_succ]
                  try simp only [List.getElem_cons_zero]
                  try simp only [Act.put]
                  try simp only [List.setIfInBounds_toArray]
                  try simp only [List.set_cons_succ]
                  try simp only [List.set_cons_zero]
                  refine wpAnyH_take (i := 1) (v := ?_) rfl (by kernel_rfl) (by kernel_rfl) (by kernel_rfl) (fun _ _ _ h => h) (Or.inl ⟨by kernel_rfl, fun W hSW => by go_simp; try with_reducible rfl⟩) (by assumption) ?_
                  try simp only [List.getElem_toArray]
                  try simp only [List.getElem_cons_succ]
                  try simp only [List.getElem_cons_zero]
                  try simp only [Act.put]
                  try simp only [List.setIfInBounds_toArray]
                  try simp only [List.set_cons_succ]
                  try simp only [List.set_cons_zero]
                  refine wpAnyH_take (i := 2) (v := ?_) rfl (by kernel_rfl) (by kernel_rfl) (by kernel_rfl) (fun _ _ _ h => h) (Or.inl ⟨by kernel_rfl, fun W hSW => by go_simp; try with_reducible rfl⟩) (by assumption) ?_
                  try simp only [List.getElem_toArray]
                  try simp only [List.getElem_cons_succ]
                  try simp only [List.getElem_cons_zero]
                  try simp only [Act.put]
                  try simp only [List.setIfInBounds_toArray]
                  try simp only [List.set_cons_succ]
                  try simp only [List.set_cons_zero]
                  refine wpAnyH_take (i := 3) (v := ?_) rfl (by kernel_rfl) (by kernel_rfl) (by kernel_rfl) (fun _ _ _ h => h) (Or.inl ⟨by kernel_rfl, fun W hSW => by go_simp; try with_reducible rfl⟩) (by assumption) ?_
                  try simp only [List.getElem_toArray]
                  try simp only [List.getElem_cons_succ]
                  try simp only [List.getElem_cons_zero]
                  try simp only [Act.put]
                  try simp only [List.setIfInBounds_toArray]
                  try simp only [List.set_cons_succ]
                  try simp only [List.set_cons_zero]
                  refine wpAnyH_take (i := 4) (v := ?_) rfl (by kernel_rfl) (by kernel_rfl) (by kernel_rfl) (fun _ _ _ h => h) (Or.inl ⟨by kernel_rfl, fun W hSW => by go_simp; try with_reducible rfl⟩) (by assumption) ?_
                  try simp only [List.getElem_toArray]
                  try simp only [List.getElem_cons_succ]
                  try simp only [List.getElem_cons_zero]
                  try simp only [Act.put]
                  try simp only [List.setIfInBounds_toArray]
                  try simp only [List.set_cons_succ]
                  try simp only [List.set_cons_zero]
                  refine wpAnyH_take (i := 5) (v := ?_) rfl (by kernel_rfl) (by kernel_rfl) (by kernel_rfl) (fun _ _ _ h => h) (Or.inl ⟨by kernel_rfl, fun W hSW => by go_simp; try with_reducible rfl⟩) (by assumption) ?_
                  try simp only [List.getElem_toArray]
                  try simp only [List.getElem_cons_succ]
                  try simp only [List.getElem_cons_zero]
                  try simp only [Act.put]
                  try simp only [List.setIfInBounds_toArray]
                  try simp only [List.set_cons_succ]
                  try simp only [List.set_cons_zero]
                  refine wpAnyH_take (i := 7) (v := ?_) rfl (by kernel_rfl) (by kernel_rfl) (by kernel_rfl) (fun _ _ _ h => h) (Or.inl ⟨by kernel_rfl, fun W hSW => by go_simp; try with_reducible rfl⟩) (by assumption) ?_
                  try simp only [List.getElem_toArray]
                  try simp only [List.getElem_cons_succ]
                  try simp only [List.getElem_cons_zero]
                  try simp only [Act.put]
                  try simp only [List.setIfInBounds_toArray]
                  try simp only [List.set_cons_succ]
                  try simp only [List.set_cons_zero]
                  refine wpAnyH_ready (rs := [6]) (by kernel_rfl) (by simp) ?_
                  refine AllReadyH.cons rfl (fun K hK => ?_) AllReadyH.nil
                  go_simp
                  refine (HTV.out _).mono ?_
                  rintro e y1 ⟨rfl, hk⟩
                  have hT1 : Kept (fun _ => False) W1 y1 := hSd.trans hk
                  clear hk
                  refine hK.out _ _ (hT1) (fun _ => ?_)
                  clear hK K
                  try simp only [List.getElem_toArray]
                  try simp only [List.getElem_cons_succ]
                  try simp only [List.getElem_cons_zero]
                  try simp only [Act.put]
                  try simp only [List.setIfInBounds_toArray]
                  try simp only [List.set_cons_succ]
                  try simp only [List.set_cons_zero]
                  refine wpAnyH_take (i := 8) (v := ?_) rfl (by kernel_rfl) (by kernel_rfl) (by kernel_rfl) (fun _ _ _ h => h) (Or.inl ⟨by kernel_rfl, fun W hSW => by go_simp; try with_reducible rfl⟩) (by assumption) ?_
                  try simp only [List.getElem_toArray]
                  try simp only [List.getElem_cons_succ]
                  try simp only [List.getElem_cons_zero]
                  try simp only [Act.put]
                  try simp only [List.setIfInBounds_toArray]
                  try simp only [List.set_cons_succ]
                  try simp only [List.set_cons_zero]
                  refine wpAnyH_ready (rs := [9]) (by kernel_rfl) (by simp) ?_
                  refine AllReadyH.cons rfl (fun K hK => ?_) AllReadyH.nil
                  go_simp
                  refine (HMM.out _).mono ?_
                  rintro e y2 ⟨rfl, hk⟩
                  have hT2 : Kept (fun _ => False) W1 y2 := hT1.trans hk
                  clear hk
                  refine hK.out _ _ (hT2) (fun _ => ?_)
                  clear hK K
                  try simp only [List.getElem_toArray]
                  try simp only [List.getElem_cons_succ]
                  try simp only [List.getElem_cons_zero]
                  try simp only [Act.put]
                  try simp only [List.setIfInBounds_toArray]
                  try simp only [List.set_cons_succ]
                  try simp only [List.set_cons_zero]
                  refine wpAnyH_take (i := 10) (v := ?_) rfl (by kernel_rfl) (by kernel_rfl) (by kernel_rfl) (fun _ _ _ h => h) (Or.inl ⟨by kernel_rfl, fun W hSW => by go_simp; try with_reducible rfl⟩) (by assumption) ?_
                  try simp only [List.getElem_toArray]
                  try simp only [List.getElem_cons_succ]
                  try simp only [List.getElem_cons_zero]
                  try simp only [Act.put]
                  try simp only [List.setIfInBounds_toArray]
                  try simp only [List.set_cons_succ]
                  try simp only [List.set_cons_zero]
                  refine wpAnyH_done (by kernel_rfl) ?_ _
                  have HK2 := hid (HK1.out.trans hT2)
                  have HA2 := hid (HA.out.kept0 hT2)
                  clear hT1 hT2 p0 p1 p2 p3 p4 a0 a1 a2 a3 a4 HKr HK1 HA oV
                  generalize y2 = W1' at *
                  have HKr := hid (Kept.refl (fun _ => False) W1')
                  have p0 : ∀ W, Kept (fun _ => False) W1' W → W.cell? ⟨BX, 0, none⟩ = some (.bool m) := fun W h => (HA2.out.kept0 h).cells.1
                  have p1 : ∀ W, Kept (fun _ => False) W1' W → W.cell? ⟨BX, 1, none⟩ = some (.bool true) := fun W h => (HA2.out.kept0 h).cells.2.1
                  have p2 : ∀ W, Kept (fun _ => False) W1' W → W.cell? ⟨BX, 2, none⟩ = some (.int .i64 (n' : Int)) := fun W h => (HA2.out.kept0 h).cells.2.2.1
                  have p3 : ∀ W, Kept (fun _ => False) W1' W → W.cell? ⟨BX, 3, none⟩ = some (.int .i64 (t' : Int)) := fun W h => (HA2.out.kept0 h).cells.2.2.2.1
                  have p4 : ∀ W, Kept (fun _ => False) W1' W → W.cell? ⟨BX, 4, none⟩ = some (.string V) := fun W h => (HA2.out.kept0 h).cells.2.2.2.2
                  have eF : (F0 : Int) + 16384 = (F1 : Int) := by omega
                  clear hF1
                  have HP0 : ∀ b : Bool, isVec ⟨m, true, (n' : Int), (t' : Int), V⟩ = b → passF c ⟨m, true, (n' : Int), (t' : Int), V⟩ = if b = true then { c with vector := V, has := true } else c := fun b h => by
                    unfold passF
                    rw [h]
                  cases v1 : ((n' : Int) == 0) with
                  | false =>
                    have HV1 := HP0 false (by unfold isVec; simp [v1])
                    rw [if_neg (by decide)] at HV1
                    rw [HV1] at HT HNx'
                    clear HV1 HP0
                    have HT1 := hid (refTwoA (F1 + X.size + 6))
                    have HT2 := hid (refTwoA n')
                    have HT3 := hid (refTwoA t')
                    have s1 := two_size (F1 + X.size + 6)
                    have s2 := two_size n'
                    have s3 := two_size t'
                    have HE : Hid (((acc ++ two (F1 + X.size + 6)) ++ two n') ++ two t' ++ X = acc ++ laidA ⟨m, true, n', t', V⟩ X) := by
                      show _ = _
                      rw [laid_eq m true V X F1 HF.out, app_assoc, app_assoc, app_assoc]
                    obtain ⟨T1, hT1⟩ : ∃ T1, T1 = two (F1 + X.size + 6) := ⟨_, rfl⟩
                    obtain ⟨T2, hT2⟩ : ∃ T2, T2 = two n' := ⟨_, rfl⟩
                    obtain ⟨T3, hT3⟩ : ∃ T3, T3 = two t' := ⟨_, rfl⟩
                    rw [← hT1] at HT1 s1 HE
                    rw [← hT2] at HT2 s2 HE
                    rw [← hT3] at HT3 s3 HE
                    clear hT1 hT2 hT3
                    have o1 : ¬ (9223372036854775807 < acc.size + T1.size) := by omega
                    have o2 : ¬ (9223372036854775807 < acc.size + T1.size + T2.size) := by omega
                    have o3 : ¬ (9223372036854775807 < acc.size + T1.size + T2.size + T3.size) := by omega
                    have o4 : ¬ (9223372036854775807 < acc.size + T1.size + T2.size + T3.size + X.size) := by omega
                    have w1' : IntKind.i64.wrap ((F1 : Int) + (X.size : Int)) = (F1 : Int) + (X.size : Int) := by rw [IntKind.wrap_i64]; omega
                    have w2' : IntKind.i64.wrap ((F1 : Int) + (X.size : Int) + 6) = ((F1 + X.size + 6 : Nat) : Int) := by rw [IntKind.wrap_i64]; omega
                    clear s1 s2 s3
                    go_upto_region 22 with fail
                    refine wp_region_held_drew (S := Kept (fun _ => False) W1') (by kernel_rfl) (HKr.out.drew) (fun hSd => ?_)
                    refine wpAnyH_take (i := 0) (v := ?_) rfl (by kernel_rfl) (by kernel_rfl) (by kernel_rfl) (fun _ _ _ h => h) (Or.inl ⟨by kernel_rfl, fun W hSW => by go_simp; try with_reducible rfl⟩) (by assumption) ?_
                    try simp only [List.getElem_toArray]
                    try simp only [List.getElem_cons_succ]
                    try simp only [List.getElem_cons_zero]
                    try simp only [Act.put]
                    try simp only [List.setIfInBounds_toArray]
                    try simp only [List.set_cons_succ]
                    try simp only [List.set_cons_zero]
                    refine wpAnyH_take (i := 1) (v := ?_) rfl (by kernel_rfl) (by kernel_rfl) (by kernel_rfl) (fun _ _ _ h => h) (Or.inl ⟨by kernel_rfl, fun W hSW => by go_simp; try with_reducible rfl⟩) (by assumption) ?_
                    try simp only [List.getElem_toArray]
                    try simp only [List.getElem_cons_succ]
                    try simp only [List.getElem_cons_zero]
                    try simp only [Act.put]
                    try simp only [List.setIfInBounds_toArray]
                    try simp only [List.set_cons_succ]
                    try simp only [List.set_cons_zero]
                    refine wpAnyH_take (i := 2) (v := ?_) rfl (by kernel_rfl) (by kernel_rfl) (by kernel_rfl) (fun _ _ _ h => h) (Or.inl ⟨by kernel_rfl, fun W hSW => by go_simp; try with_reducible rfl⟩) (by assumption) ?_
                    try simp only [List.getElem_toArray]
                    try simp only [List.getElem_cons_succ]
                    try simp only [List.getElem_cons_zero]
                    try simp only [Act.put]
                    try simp only [List.setIfInBounds_toArray]
                    try simp only [List.set_cons_succ]
                    try simp only [List.set_cons_zero]
                    refine wpAnyH_take (i := 3) (v := ?_) rfl (by kernel_rfl) (by kernel_rfl) (by kernel_rfl) (fun _ _ _ h => h) (Or.inl ⟨by kernel_rfl, fun W hSW => by go_simp; try with_reducible rfl⟩) (by assumption) ?_
                    try simp only [List.getElem_toArray]
                    try simp only [List.getElem_cons_succ]
                    try simp only [List.getElem_cons_zero]
                    try simp only [Act.put]
                    try simp only [List.setIfInBounds_toArray]
                    try simp only [List.set_cons_succ]
                    try simp only [List.set_cons_zero]
                    refine wpAnyH_take (i := 4) (v := (.int .i64 ((F1 : Int) + (X.size : Int)))) rfl (by kernel_rfl) (by kernel_rfl) (by kernel_rfl) (fun _ _ _ h => h) (Or.inl ⟨by kernel_rfl, fun W hSW => by go_simp; try with_reducible rfl⟩) (by assumption) ?_
                    try simp only [List.getElem_toArray]
                    try simp only [List.getElem_cons_succ]
                    try simp only [List.getElem_cons_zero]
                    try simp only [Act.put]
                    try simp only [List.setIfInBounds_toArray]
                    try simp only [List.set_cons_succ]
                    try simp only [List.set_cons_zero]
                    refine wpAnyH_take (i := 5) (v := (.int .i64 ((F1 + X.size + 6 : Nat) : Int))) rfl (by kernel_rfl) (by kernel_rfl) (by kernel_rfl) (fun _ _ _ h => h) (Or.inl ⟨by kernel_rfl, fun W hSW => by go_simp; try with_reducible rfl⟩) (by assumption) ?_
                    try simp only [List.getElem_toArray]
                    try simp only [List.getElem_cons_succ]
                    try simp only [List.getElem_cons_zero]
                    try simp only [Act.put]
                    try simp only [List.setIfInBounds_toArray]
                    try simp only [List.set_cons_succ]
                    try simp only [List.set_cons_zero]
                    refine wpAnyH_take (i := 8) (v := ?_) rfl (by kernel_rfl) (by kernel_rfl) (by kernel_rfl) (fun _ _ _ h => h) (Or.inl ⟨by kernel_rfl, fun W hSW => by go_simp; try with_reducible rfl⟩) (by assumption) ?_
                    try simp only [List.getElem_toArray]
                    try simp only [List.getElem_cons_succ]
                    try simp only [List.getElem_cons_zero]
                    try simp only [Act.put]
                    try simp only [List.setIfInBounds_toArray]
                    try simp only [List.set_cons_succ]
                    try simp only [List.set_cons_zero]
                    refine wpAnyH_take (i := 9) (v := ?_) rfl (by kernel_rfl) (by kernel_rfl) (by kernel_rfl) (fun _ _ _ h => h) (Or.inl ⟨by kernel_rfl, fun W hSW => by go_simp; try with_reducible rfl⟩) (by assumption) ?_
                    try simp only [List.getElem_toArray]
                    try simp only [List.getElem_cons_succ]
                    try simp only [List.getElem_cons_zero]
                    try simp only [Act.put]
                    try simp only [List.setIfInBounds_toArray]
                    try simp only [List.set_cons_succ]
                    try simp only [List.set_cons_zero]
                    refine wpAnyH_take (i := 12) (v := ?_) rfl (by kernel_rfl) (by kernel_rfl) (by kernel_rfl) (fun _ _ _ h => h) (Or.inl ⟨by kernel_rfl, fun W hSW => by go_simp; try with_reducible rfl⟩) (by assumption) ?_
                    try simp only [List.getElem_toArray]
                    try simp only [List.getElem_cons_succ]
                    try simp only [List.getElem_cons_zero]
                    try simp only [Act.put]
                    try simp only [List.setIfInBounds_toArray]
                    try simp only [List.set_cons_succ]
                    try simp only [List.set_cons_zero]
                    refine wpAnyH_take (i := 13) (v := ?_) rfl (by kernel_rfl) (by kernel_rfl) (by kernel_rfl) (fun _ _ _ h => h) (Or.inl ⟨by kernel_rfl, fun W hSW => by go_simp; try with_reducible rfl⟩) (by assumption) ?_
                    try simp only [List.getElem_toArray]
                    try simp only [List.getElem_cons_succ]
                    try simp only [List.getElem_cons_zero]
                    try simp only [Act.put]
                    try simp only [List.setIfInBounds_toArray]
                    try simp only [List.set_cons_succ]
                    try simp only [List.set_cons_zero]
                    refine wpAnyH_take (i := 16) (v := ?_) rfl (by kernel_rfl) (by kernel_rfl) (by kernel_rfl) (fun _ _ _ h => h) (Or.inl ⟨by kernel_rfl, fun W hSW => by go_simp; try with_reducible rfl⟩) (by assumption) ?_
                    try simp only [List.getElem_toArray]
                    try simp only [List.getElem_cons_succ]
                    try simp only [List.getElem_cons_zero]
                    try simp only [Act.put]
                    try simp only [List.setIfInBounds_toArray]
                    try simp only [List.set_cons_succ]
                    try simp only [List.set_cons_zero]
                    refine wpAnyH_ready (rs := [6]) (by kernel_rfl) (by simp) ?_
                    refine AllReadyH.cons rfl (fun K hK => ?_) AllReadyH.nil
                    go_simp
                    refine (HT1.out _).mono ?_
                    rintro e x1 ⟨rfl, hk⟩
                    have hS1 : Kept (fun _ => False) W1' x1 := hSd.trans hk
                    clear hk
                    refine hK.out _ _ (hS1) (fun _ => ?_)
                    clear hK K
                    try simp only [List.getElem_toArray]
                    try simp only [List.getElem_cons_succ]
                    try simp only [List.getElem_cons_zero]
                    try simp only [Act.put]
                    try simp only [List.setIfInBounds_toArray]
                    try simp only [List.set_cons_succ]
                    try simp only [List.set_cons_zero]
                    refine wpAnyH_take (i := 7) (v := ?_) rfl (by kernel_rfl) (by kernel_rfl) (by kernel_rfl) (fun _ _ _ h => h) (Or.inl ⟨by kernel_rfl, fun W hSW => by go_simp; try with_reducible rfl⟩) (by assumption) ?_
                    try simp only [List.getElem_toArray]
                    try simp only [List.getElem_cons_succ]
                    try simp only [List.getElem_cons_zero]
                    try simp only [Act.put]
                    try simp only [List.setIfInBounds_toArray]
                    try simp only [List.set_cons_succ]
                    try simp only [List.set_cons_zero]
                    refine wpAnyH_ready (rs := [10]) (by kernel_rfl) (by simp) ?_
                    refine AllReadyH.cons rfl (fun K hK => ?_) AllReadyH.nil
                    go_simp
                    refine (HT2.out _).mono ?_
                    rintro e x2 ⟨rfl, hk⟩
                    have hS2 : Kept (fun _ => False) W1' x2 := hS1.trans hk
                    clear hk
                    refine hK.out _ _ (hS2) (fun _ => ?_)
                    clear hK K
                    try simp only [List.getElem_toArray]
                    try simp only [List.getElem_cons_succ]
                    try simp only [List.getElem_cons_zero]
                    try simp only [Act.put]
                    try simp only [List.setIfInBounds_toArray]
                    try simp only [List.set_cons_succ]
                    try simp only [List.set_cons_zero]
                    refine wpAnyH_take (i := 11) (v := ?_) rfl (by kernel_rfl) (by kernel_rfl) (by kernel_rfl) (fun _ _ _ h => h) (Or.inl ⟨by kernel_rfl, fun W hSW => by go_simp; try with_reducible rfl⟩) (by assumption) ?_
                    try simp only [List.getElem_toArray]
                    try simp only [List.getElem_cons_succ]
                    try simp only [List.getElem_cons_zero]
                    try simp only [Act.put]
                    try simp only [List.setIfInBounds_toArray]
                    try simp only [List.set_cons_succ]
                    try simp only [List.set_cons_zero]
                    refine wpAnyH_ready (rs := [14]) (by kernel_rfl) (by simp) ?_
                    refine AllReadyH.cons rfl (fun K hK => ?_) AllReadyH.nil
                    go_simp
                    refine (HT3.out _).mono ?_
                    rintro e x3 ⟨rfl, hk⟩
                    have hS3 : Kept (fun _ => False) W1' x3 := hS2.trans hk
                    clear hk
                    refine hK.out _ _ (hS3) (fun _ => ?_)
                    clear hK K
                    try simp only [List.getElem_toArray]
                    try simp only [List.getElem_cons_succ]
                    try simp only [List.getElem_cons_zero]
                    try simp only [Act.put]
                    try simp only [List.setIfInBounds_toArray]
                    try simp only [List.set_cons_succ]
                    try simp only [List.set_cons_zero]
                    refine wpAnyH_take (i := 15) (v := ?_) rfl (by kernel_rfl) (by kernel_rfl) (by kernel_rfl) (fun _ _ _ h => h) (Or.inl ⟨by kernel_rfl, fun W hSW => by go_simp; try with_reducible rfl⟩) (by assumption) ?_
                    try simp only [List.getElem_toArray]
                    try simp only [List.getElem_cons_succ]
                    try simp only [List.getElem_cons_zero]
                    try simp only [Act.put]
                    try simp only [List.setIfInBounds_toArray]
                    try simp only [List.set_cons_succ]
                    try simp only [List.set_cons_zero]
                    refine wpAnyH_take (i := 17) (v := ?_) rfl (by kernel_rfl) (by kernel_rfl) (by kernel_rfl) (fun _ _ _ h => h) (Or.inl ⟨by kernel_rfl, fun W hSW => by go_simp; try with_reducible rfl⟩) (by assumption) ?_
                    try simp only [List.getElem_toArray]
                    try simp only [List.getElem_cons_succ]
                    try simp only [List.getElem_cons_zero]
                    try simp only [Act.put]
                    try simp only [List.setIfInBounds_toArray]
                    try simp only [List.set_cons_succ]
                    try simp only [List.set_cons_zero]
                    refine wpAnyH_take (i := 18) (v := ?_) rfl (by kernel_rfl) (by kernel_rfl) (by kernel_rfl) (fun _ _ _ h => h) (Or.inl ⟨by kernel_rfl, fun W hSW => by go_simp; try with_reducible rfl⟩) (by assumption) ?_
                    try simp only [List.getElem_toArray]
                    try simp only [List.getElem_cons_succ]
                    try simp only [List.getElem_cons_zero]
                    try simp only [Act.put]
                    try simp only [List.setIfInBounds_toArray]
                    try simp only [List.set_cons_succ]
                    try simp only [List.set_cons_zero]
                    refine wpAnyH_done (by kernel_rfl) ?_ _
                    have HKz := hid (HK2.out.trans hS3)
                    have r0 := p0 _ hS3
                    have r1 := p1 _ hS3
                    have r2 := p2 _ hS3
                    have r3 := p3 _ hS3
                    have r4 := p4 _ hS3
                    clear hS1 hS2 hS3 o1 o2 o3 o4 p0 p1 p2 p3 p4 w1' w2'
                    go_wp2
                    exact ⟨⟨j + 1, _, _, hlt, by go_num, rfl, ⟨rfl, by rw [hh]⟩, ⟨HNx'.out, by rw [HE.out]; exact HT.out, by have := HZ.out; rw [HE.out, ByteArray.size_append]; omega, HKz.out⟩⟩, by simp [intOf]; omega⟩
                  | true =>
                    cases v2 : ((t' : Int) == 36) with
                    | false =>
                      have HV1 := HP0 false (by unfold isVec; simp [v1, v2])
                      rw [if_neg (by decide)] at HV1
                      rw [HV1] at HT HNx'
                      clear HV1 HP0
                      have HT1 := hid (refTwoA (F1 + X.size + 6))
                      have HT2 := hid (refTwoA n')
                      have HT3 := hid (refTwoA t')
                      have s1 := two_size (F1 + X.size + 6)
                      have s2 := two_size n'
                      have s3 := two_size t'
                      have HE : Hid (((acc ++ two (F1 + X.size + 6)) ++ two n') ++ two t' ++ X = acc ++ laidA ⟨m, true, n', t', V⟩ X) := by
                        show _ = _
                        rw [laid_eq m true V X F1 HF.out, app_assoc, app_assoc, app_assoc]
                      obtain ⟨T1, hT1⟩ : ∃ T1, T1 = two (F1 + X.size + 6) := ⟨_, rfl⟩
                      obtain ⟨T2, hT2⟩ : ∃ T2, T2 = two n' := ⟨_, rfl⟩
                      obtain ⟨T3, hT3⟩ : ∃ T3, T3 = two t' := ⟨_, rfl⟩
                      rw [← hT1] at HT1 s1 HE
                      rw [← hT2] at HT2 s2 HE
                      rw [← hT3] at HT3 s3 HE
                      clear hT1 hT2 hT3
                      have o1 : ¬ (9223372036854775807 < acc.size + T1.size) := by omega
                      have o2 : ¬ (9223372036854775807 < acc.size + T1.size + T2.size) := by omega
                      have o3 : ¬ (9223372036854775807 < acc.size + T1.size + T2.size + T3.size) := by omega
                      have o4 : ¬ (9223372036854775807 < acc.size + T1.size + T2.size + T3.size + X.size) := by omega
                      have w1' : IntKind.i64.wrap ((F1 : Int) + (X.size : Int)) = (F1 : Int) + (X.size : Int) := by rw [IntKind.wrap_i64]; omega
                      have w2' : IntKind.i64.wrap ((F1 : Int) + (X.size : Int) + 6) = ((F1 + X.size + 6 : Nat) : Int) := by rw [IntKind.wrap_i64]; omega
                      clear s1 s2 s3
                      go_upto_region 22 with fail
                      refine wp_region_held_drew (S := Kept (fun _ => False) W1') (by kernel_rfl) (HKr.out.drew) (fun hSd => ?_)
                      refine wpAnyH_take (i := 0) (v := ?_) rfl (by kernel_rfl) (by kernel_rfl) (by kernel_rfl) (fun _ _ _ h => h) (Or.inl ⟨by kernel_rfl, fun W hSW => by go_simp; try with_reducible rfl⟩) (by assumption) ?_
                      try simp only [List.getElem_toArray]
                      try simp only [List.getElem_cons_succ]
                      try simp only [List.getElem_cons_zero]
                      try simp only [Act.put]
                      try simp only [List.setIfInBounds_toArray]
                      try simp only [List.set_cons_succ]
                      try simp only [List.set_cons_zero]
                      refine wpAnyH_take (i := 1) (v := ?_) rfl (by kernel_rfl) (by kernel_rfl) (by kernel_rfl) (fun _ _ _ h => h) (Or.inl ⟨by kernel_rfl, fun W hSW => by go_simp; try with_reducible rfl⟩) (by assumption) ?_
                      try simp only [List.getElem_toArray]
                      try simp only [List.getElem_cons_succ]
                      try simp only [List.getElem_cons_zero]
                      try simp only [Act.put]
                      try simp only [List.setIfInBounds_toArray]
                      try simp only [List.set_cons_succ]
                      try simp only [List.set_cons_zero]
                      refine wpAnyH_take (i := 2) (v := ?_) rfl (by kernel_rfl) (by kernel_rfl) (by kernel_rfl) (fun _ _ _ h => h) (Or.inl ⟨by kernel_rfl, fun W hSW => by go_simp; try with_reducible rfl⟩) (by assumption) ?_
                      try simp only [List.getElem_toArray]
                      try simp only [List.getElem_cons_succ]
                      try simp only [List.getElem_cons_zero]
                      try simp only [Act.put]
                      try simp only [List.setIfInBounds_toArray]
                      try simp only [List.set_cons_succ]
                      try simp only [List.set_cons_zero]
                      refine wpAnyH_take (i := 3) (v := ?_) rfl (by kernel_rfl) (by kernel_rfl) (by kernel_rfl) (fun _ _ _ h => h) (Or.inl ⟨by kernel_rfl, fun W hSW => by go_simp; try with_reducible rfl⟩) (by assumption) ?_
                      try simp only [List.getElem_toArray]
                      try simp only [List.getElem_cons_succ]
                      try simp only [List.getElem_cons_zero]
                      try simp only [Act.put]
                      try simp only [List.setIfInBounds_toArray]
                      try simp only [List.set_cons_succ]
                      try simp only [List.set_cons_zero]
                      refine wpAnyH_take (i := 4) (v := (.int .i64 ((F1 : Int) + (X.size : Int)))) rfl (by kernel_rfl) (by kernel_rfl) (by kernel_rfl) (fun _ _ _ h => h) (Or.inl ⟨by kernel_rfl, fun W hSW => by go_simp; try with_reducible rfl⟩) (by assumption) ?_
                      try simp only [List.getElem_toArray]
                      try simp only [List.getElem_cons_succ]
                      try simp only [List.getElem_cons_zero]
                      try simp only [Act.put]
                      try simp only [List.setIfInBounds_toArray]
                      try simp only [List.set_cons_succ]
                      try simp only [List.set_cons_zero]
                      refine wpAnyH_take (i := 5) (v := (.int .i64 ((F1 + X.size + 6 : Nat) : Int))) rfl (by kernel_rfl) (by kernel_rfl) (by kernel_rfl) (fun _ _ _ h => h) (Or.inl ⟨by kernel_rfl, fun W hSW => by go_simp; try with_reducible rfl⟩) (by assumption) ?_
                      try simp only [List.getElem_toArray]
                      try simp only [List.getElem_cons_succ]
                      try simp only [List.getElem_cons_zero]
                      try simp only [Act.put]
                      try simp only [List.setIfInBounds_toArray]
                      try simp only [List.set_cons_succ]
                      try simp only [List.set_cons_zero]
                      refine wpAnyH_take (i := 8) (v := ?_) rfl (by kernel_rfl) (by kernel_rfl) (by kernel_rfl) (fun _ _ _ h => h) (Or.inl ⟨by kernel_rfl, fun W hSW => by go_simp; try with_reducible rfl⟩) (by assumption) ?_
                      try simp only [List.getElem_toArray]
                      try simp only [List.getElem_cons_succ]
                      try simp only [List.getElem_cons_zero]
                      try simp only [Act.put]
                      try simp only [List.setIfInBounds_toArray]
                      try simp only [List.set_cons_succ]
                      try simp only [List.set_cons_zero]
                      refine wpAnyH_take (i := 9) (v := ?_) rfl (by kernel_rfl) (by kernel_rfl) (by kernel_rfl) (fun _ _ _ h => h) (Or.inl ⟨by kernel_rfl, fun W hSW => by go_simp; try with_reducible rfl⟩) (by assumption) ?_
                      try simp only [List.getElem_toArray]
                      try simp only [List.getElem_cons_succ]
                      try simp only [List.getElem_cons_zero]
                      try simp only [Act.put]
                      try simp only [List.setIfInBounds_toArray]
                      try simp only [List.set_cons_succ]
                      try simp only [List.set_cons_zero]
                      refine wpAnyH_take (i := 12) (v := ?_) rfl (by kernel_rfl) (by kernel_rfl) (by kernel_rfl) (fun _ _ _ h => h) (Or.inl ⟨by kernel_rfl, fun W hSW => by go_simp; try with_reducible rfl⟩) (by assumption) ?_
                      try simp only [List.getElem_toArray]
                      try simp only [List.getElem_cons_succ]
                      try simp only [List.getElem_cons_zero]
                      try simp only [Act.put]
                      try simp only [List.setIfInBounds_toArray]
                      try simp only [List.set_cons_succ]
                      try simp only [List.set_cons_zero]
                      refine wpAnyH_take (i := 13) (v := ?_) rfl (by kernel_rfl) (by kernel_rfl) (by kernel_rfl) (fun _ _ _ h => h) (Or.inl ⟨by kernel_rfl, fun W hSW => by go_simp; try with_reducible rfl⟩) (by assumption) ?_
                      try simp only [List.getElem_toArray]
                      try simp only [List.getElem_cons_succ]
                      try simp only [List.getElem_cons_zero]
                      try simp only [Act.put]
                      try simp only [List.setIfInBounds_toArray]
                      try simp only [List.set_cons_succ]
                      try simp only [List.set_cons_zero]
                      refine wpAnyH_take (i := 16) (v := ?_) rfl (by kernel_rfl) (by kernel_rfl) (by kernel_rfl) (fun _ _ _ h => h) (Or.inl ⟨by kernel_rfl, fun W hSW => by go_simp; try with_reducible rfl⟩) (by assumption) ?_
                      try simp only [List.getElem_toArray]
                      try simp only [List.getElem_cons_succ]
                      try simp only [List.getElem_cons_zero]
                      try simp only [Act.put]
                      try simp only [List.setIfInBounds_toArray]
                      try simp only [List.set_cons_succ]
                      try simp only [List.set_cons_zero]
                      refine wpAnyH_ready (rs := [6]) (by kernel_rfl) (by simp) ?_
                      refine AllReadyH.cons rfl (fun K hK => ?_) AllReadyH.nil
                      go_simp
                      refine (HT1.out _).mono ?_
                      rintro e x1 ⟨rfl, hk⟩
                      have hS1 : Kept (fun _ => False) W1' x1 := hSd.trans hk
                      clear hk
                      refine hK.out _ _ (hS1) (fun _ => ?_)
                      clear hK K
                      try simp only [List.getElem_toArray]
                      try simp only [List.getElem_cons_succ]
                      try simp only [List.getElem_cons_zero]
                      try simp only [Act.put]
                      try simp only [List.setIfInBounds_toArray]
                      try simp only [List.set_cons_succ]
                      try simp only [List.set_cons_zero]
                      refine wpAnyH_take (i := 7) (v := ?_) rfl (by kernel_rfl) (by kernel_rfl) (by kernel_rfl) (fun _ _ _ h => h) (Or.inl ⟨by kernel_rfl, fun W hSW => by go_simp; try with_reducible rfl⟩) (by assumption) ?_
                      try simp only [List.getElem_toArray]
                      try simp only [List.getElem_cons_succ]
                      try simp only [List.getElem_cons_zero]
                      try simp only [Act.put]
                      try simp only [List.setIfInBounds_toArray]
                      try simp only [List.set_cons_succ]
                      try simp only [List.set_cons_zero]
                      refine wpAnyH_ready (rs := [10]) (by kernel_rfl) (by simp) ?_
                      refine AllReadyH.cons rfl (fun K hK => ?_) AllReadyH.nil
                      go_simp
                      refine (HT2.out _).mono ?_
                      rintro e x2 ⟨rfl, hk⟩
                      have hS2 : Kept (fun _ => False) W1' x2 := hS1.trans hk
                      clear hk
                      refine hK.out _ _ (hS2) (fun _ => ?_)
                      clear hK K
                      try simp only [List.getElem_toArray]
                      try simp only [List.getElem_cons_succ]
                      try simp only [List.getElem_cons_zero]
                      try simp only [Act.put]
                      try simp only [List.setIfInBounds_toArray]
                      try simp only [List.set_cons_succ]
                      try simp only [List.set_cons_zero]
                      refine wpAnyH_take (i := 11) (v := ?_) rfl (by kernel_rfl) (by kernel_rfl) (by kernel_rfl) (fun _ _ _ h => h) (Or.inl ⟨by kernel_rfl, fun W hSW => by go_simp; try with_reducible rfl⟩) (by assumption) ?_
                      try simp only [List.getElem_toArray]
                      try simp only [List.getElem_cons_succ]
                      try simp only [List.getElem_cons_zero]
                      try simp only [Act.put]
                      try simp only [List.setIfInBounds_toArray]
                      try simp only [List.set_cons_succ]
                      try simp only [List.set_cons_zero]
                      refine wpAnyH_ready (rs := [14]) (by kernel_rfl) (by simp) ?_
                      refine AllReadyH.cons rfl (fun K hK => ?_) AllReadyH.nil
                      go_simp
                      refine (HT3.out _).mono ?_
                      rintro e x3 ⟨rfl, hk⟩
                      have hS3 : Kept (fun _ => False) W1' x3 := hS2.trans hk
                      clear hk
                      refine hK.out _ _ (hS3) (fun _ => ?_)
                      clear hK K
                      try simp only [List.getElem_toArray]
                      try simp only [List.getElem_cons_succ]
                      try simp only [List.getElem_cons_zero]
                      try simp only [Act.put]
                      try simp only [List.setIfInBounds_toArray]
                      try simp only [List.set_cons_succ]
                      try simp only [List.set_cons_zero]
                      refine wpAnyH_take (i := 15) (v := ?_) rfl (by kernel_rfl) (by kernel_rfl) (by kernel_rfl) (fun _ _ _ h => h) (Or.inl ⟨by kernel_rfl, fun W hSW => by go_simp; try with_reducible rfl⟩) (by assumption) ?_
                      try simp only [List.getElem_toArray]
                      try simp only [List.getElem_cons_succ]
                      try simp only [List.getElem_cons_zero]
                      try simp only [Act.put]
                      try simp only [List.setIfInBounds_toArray]
                      try simp only [List.set_cons_succ]
                      try simp only [List.set_cons_zero]
                      refine wpAnyH_take (i := 17) (v := ?_) rfl (by kernel_rfl) (by kernel_rfl) (by kernel_rfl) (fun _ _ _ h => h) (Or.inl ⟨by kernel_rfl, fun W hSW => by go_simp; try with_reducible rfl⟩) (by assumption) ?_
                      try simp only [List.getElem_toArray]
                      try simp only [List.getElem_cons_succ]
                      try simp only [List.getElem_cons_zero]
                      try simp only [Act.put]
                      try simp only [List.setIfInBounds_toArray]
                      try simp only [List.set_cons_succ]
                      try simp only [List.set_cons_zero]
                      refine wpAnyH_take (i := 18) (v := ?_) rfl (by kernel_rfl) (by kernel_rfl) (by kernel_rfl) (fun _ _ _ h => h) (Or.inl ⟨by kernel_rfl, fun W hSW => by go_simp; try with_reducible rfl⟩) (by assumption) ?_
                      try simp only [List.getElem_toArray]
                      try simp only [List.getElem_cons_succ]
                      try simp only [List.getElem_cons_zero]
                      try simp only [Act.put]
                      try simp only [List.setIfInBounds_toArray]
                      try simp only [List.set_cons_succ]
                      try simp only [List.set_cons_zero]
                      refine wpAnyH_done (by kernel_rfl) ?_ _
                      have HKz := hid (HK2.out.trans hS3)
                      have r0 := p0 _ hS3
                      have r1 := p1 _ hS3
                      have r2 := p2 _ hS3
                      have r3 := p3 _ hS3
                      have r4 := p4 _ hS3
                      clear hS1 hS2 hS3 o1 o2 o3 o4 p0 p1 p2 p3 p4 w1' w2'
                      go_wp2
                      exact ⟨⟨j + 1, _, _, hlt, by go_num, rfl, ⟨rfl, by rw [hh]⟩, ⟨HNx'.out, by rw [HE.out]; exact HT.out, by have := HZ.out; rw [HE.out, ByteArray.size_append]; omega, HKz.out⟩⟩, by simp [intOf]; omega⟩
                    | true =>
                      have HV1 := HP0 false (by unfold isVec; simp [v1, v2])
                      rw [if_neg (by decide)] at HV1
                      rw [HV1] at HT HNx'
                      clear HV1 HP0
                      have HT1 := hid (refTwoA (F1 + X.size + 6))
                      have HT2 := hid (refTwoA n')
                      have HT3 := hid (refTwoA t')
                      have s1 := two_size (F1 + X.size + 6)
                      have s2 := two_size n'
                      have s3 := two_size t'
                      have HE : Hid (((acc ++ two (F1 + X.size + 6)) ++ two n') ++ two t' ++ X = acc ++ laidA ⟨m, true, n', t', V⟩ X) := by
                        show _ = _
                        rw [laid_eq m true V X F1 HF.out, app_assoc, app_assoc, app_assoc]
                      obtain ⟨T1, hT1⟩ : ∃ T1, T1 = two (F1 + X.size + 6) := ⟨_, rfl⟩
                      obtain ⟨T2, hT2⟩ : ∃ T2, T2 = two n' := ⟨_, rfl⟩
                      obtain ⟨T3, hT3⟩ : ∃ T3, T3 = two t' := ⟨_, rfl⟩
                      rw [← hT1] at HT1 s1 HE
                      rw [← hT2] at HT2 s2 HE
                      rw [← hT3] at HT3 s3 HE
                      clear hT1 hT2 hT3
                      have o1 : ¬ (9223372036854775807 < acc.size + T1.size) := by omega
                      have o2 : ¬ (9223372036854775807 < acc.size + T1.size + T2.size) := by omega
                      have o3 : ¬ (9223372036854775807 < acc.size + T1.size + T2.size + T3.size) := by omega
                      have o4 : ¬ (9223372036854775807 < acc.size + T1.size + T2.size + T3.size + X.size) := by omega
                      have w1' : IntKind.i64.wrap ((F1 : Int) + (X.size : Int)) = (F1 : Int) + (X.size : Int) := by rw [IntKind.wrap_i64]; omega
                      have w2' : IntKind.i64.wrap ((F1 : Int) + (X.size : Int) + 6) = ((F1 + X.size + 6 : Nat) : Int) := by rw [IntKind.wrap_i64]; omega
                      clear s1 s2 s3
                      go_upto_region 22 with fail
                      refine wp_region_held_drew (S := Kept (fun _ => False) W1') (by kernel_rfl) (HKr.out.drew) (fun hSd => ?_)
                      refine wpAnyH_take (i := 0) (v := ?_) rfl (by kernel_rfl) (by kernel_rfl) (by kernel_rfl) (fun _ _ _ h => h) (Or.inl ⟨by kernel_rfl, fun W hSW => by go_simp; try with_reducible rfl⟩) (by assumption) ?_
                      try simp only [List.getElem_toArray]
                      try simp only [List.getElem_cons_succ]
                      try simp only [List.getElem_cons_zero]
                      try simp only [Act.put]
                      try simp only [List.setIfInBounds_toArray]
                      try simp only [List.set_cons_succ]
                      try simp only [List.set_cons_zero]
                      refine wpAnyH_take (i := 1) (v := ?_) rfl (by kernel_rfl) (by kernel_rfl) (by kernel_rfl) (fun _ _ _ h => h) (Or.inl ⟨by kernel_rfl, fun W hSW => by go_simp; try with_reducible rfl⟩) (by assumption) ?_
                      try simp only [List.getElem_toArray]
                      try simp only [List.getElem_cons_succ]
                      try simp only [List.getElem_cons_zero]
                      try simp only [Act.put]
                      try simp only [List.setIfInBounds_toArray]
                      try simp only [List.set_cons_succ]
                      try simp only [List.set_cons_zero]
                      refine wpAnyH_take (i := 2) (v := ?_) rfl (by kernel_rfl) (by kernel_rfl) (by kernel_rfl) (fun _ _ _ h => h) (Or.inl ⟨by kernel_rfl, fun W hSW => by go_simp; try with_reducible rfl⟩) (by assumption) ?_
                      try simp only [List.getElem_toArray]
                      try simp only [List.getElem_cons_succ]
                      try simp only [List.getElem_cons_zero]
                      try simp only [Act.put]
                      try simp only [List.setIfInBounds_toArray]
                      try simp only [List.set_cons_succ]
                      try simp only [List.set_cons_zero]
                      refine wpAnyH_take (i := 3) (v := ?_) rfl (by kernel_rfl) (by kernel_rfl) (by kernel_rfl) (fun _ _ _ h => h) (Or.inl ⟨by kernel_rfl, fun W hSW => by go_simp; try with_reducible rfl⟩) (by assumption) ?_
                      try simp only [List.getElem_toArray]
                      try simp only [List.getElem_cons_succ]
                      try simp only [List.getElem_cons_zero]
                      try simp only [Act.put]
                      try simp only [List.setIfInBounds_toArray]
                      try simp only [List.set_cons_succ]
                      try simp only [List.set_cons_zero]
                      refine wpAnyH_take (i := 4) (v := (.int .i64 ((F1 : Int) + (X.size : Int)))) rfl (by kernel_rfl) (by kernel_rfl) (by kernel_rfl) (fun _ _ _ h => h) (Or.inl ⟨by kernel_rfl, fun W hSW => by go_simp; try with_reducible rfl⟩) (by assumption) ?_
                      try simp only [List.getElem_toArray]
                      try simp only [List.getElem_cons_succ]
                      try simp only [List.getElem_cons_zero]
                      try simp only [Act.put]
                      try simp only [List.setIfInBounds_toArray]
                      try simp only [List.set_cons_succ]
                      try simp only [List.set_cons_zero]
                      refine wpAnyH_take (i := 5) (v := (.int .i64 ((F1 + X.size + 6 : Nat) : Int))) rfl (by kernel_rfl) (by kernel_rfl) (by kernel_rfl) (fun _ _ _ h => h) (Or.inl ⟨by kernel_rfl, fun W hSW => by go_simp; try with_reducible rfl⟩) (by assumption) ?_
                      try simp only [List.getElem_toArray]
                      try simp only [List.getElem_cons_succ]
                      try simp only [List.getElem_cons_zero]
                      try simp only [Act.put]
                      try simp only [List.setIfInBounds_toArray]
                      try simp only [List.set_cons_succ]
                      try simp only [List.set_cons_zero]
                      refine wpAnyH_take (i := 8) (v := ?_) rfl (by kernel_rfl) (by kernel_rfl) (by kernel_rfl) (fun _ _ _ h => h) (Or.inl ⟨by kernel_rfl, fun W hSW => by go_simp; try with_reducible rfl⟩) (by assumption) ?_
                      try simp only [List.getElem_toArray]
                      try simp only [List.getElem_cons_succ]
                      try simp only [List.getElem_cons_zero]
                      try simp only [Act.put]
                      try simp only [List.setIfInBounds_toArray]
                      try simp only [List.set_cons_succ]
                      try simp only [List.set_cons_zero]
                      refine wpAnyH_take (i := 9) (v := ?_) rfl (by kernel_rfl) (by kernel_rfl) (by kernel_rfl) (fun _ _ _ h => h) (Or.inl ⟨by kernel_rfl, fun W hSW => by go_simp; try with_reducible rfl⟩) (by assumption) ?_
                      try simp only [List.getElem_toArray]
                      try simp only [List.getElem_cons_succ]
                      try simp only [List.getElem_cons_zero]
                      try simp only [Act.put]
                      try simp only [List.setIfInBounds_toArray]
                      try simp only [List.set_cons_succ]
                      try simp only [List.set_cons_zero]
                      refine wpAnyH_take (i := 12) (v := ?_) rfl (by kernel_rfl) (by kernel_rfl) (by kernel_rfl) (fun _ _ _ h => h) (Or.inl ⟨by kernel_rfl, fun W hSW => by go_simp; try with_reducible rfl⟩) (by assumption) ?_
                      try simp only [List.getElem_toArray]
                      try simp only [List.getElem_cons_succ]
                      try simp only [List.getElem_cons_zero]
                      try simp only [Act.put]
                      try simp only [List.setIfInBounds_toArray]
                      try simp only [List.set_cons_succ]
                      try simp only [List.set_cons_zero]
                      refine wpAnyH_take (i := 13) (v := ?_) rfl (by kernel_rfl) (by kernel_rfl) (by kernel_rfl) (fun _ _ _ h => h) (Or.inl ⟨by kernel_rfl, fun W hSW => by go_simp; try with_reducible rfl⟩) (by assumption) ?_
                      try simp only [List.getElem_toArray]
                      try simp only [List.getElem_cons_succ]
                      try simp only [List.getElem_cons_zero]
                      try simp only [Act.put]
                      try simp only [List.setIfInBounds_toArray]
                      try simp only [List.set_cons_succ]
                      try simp only [List.set_cons_zero]
                      refine wpAnyH_take (i := 16) (v := ?_) rfl (by kernel_rfl) (by kernel_rfl) (by kernel_rfl) (fun _ _ _ h => h) (Or.inl ⟨by kernel_rfl, fun W hSW => by go_simp; try with_reducible rfl⟩) (by assumption) ?_
                      try simp only [List.getElem_toArray]
                      try simp only [List.getElem_cons_succ]
                      try simp only [List.getElem_cons_zero]
                      try simp only [Act.put]
                      try simp only [List.setIfInBounds_toArray]
                      try simp only [List.set_cons_succ]
                      try simp only [List.set_cons_zero]
                      refine wpAnyH_ready (rs := [6]) (by kernel_rfl) (by simp) ?_
                      refine AllReadyH.cons rfl (fun K hK => ?_) AllReadyH.nil
                      go_simp
                      refine (HT1.out _).mono ?_
                      rintro e x1 ⟨rfl, hk⟩
                      have hS1 : Kept (fun _ => False) W1' x1 := hSd.trans hk
                      clear hk
                      refine hK.out _ _ (hS1) (fun _ => ?_)
                      clear hK K
                      try simp only [List.getElem_toArray]
                      try simp only [List.getElem_cons_succ]
                      try simp only [List.getElem_cons_zero]
                      try simp only [Act.put]
                      try simp only [List.setIfInBounds_toArray]
                      try simp only [List.set_cons_succ]
                      try simp only [List.set_cons_zero]
                      refine wpAnyH_take (i := 7) (v := ?_) rfl (by kernel_rfl) (by kernel_rfl) (by kernel_rfl) (fun _ _ _ h => h) (Or.inl ⟨by kernel_rfl, fun W hSW => by go_simp; try with_reducible rfl⟩) (by assumption) ?_
                      try simp only [List.getElem_toArray]
                      try simp only [List.getElem_cons_succ]
                      try simp only [List.getElem_cons_zero]
                      try simp only [Act.put]
                      try simp only [List.setIfInBounds_toArray]
                      try simp only [List.set_cons_succ]
                      try simp only [List.set_cons_zero]
                      refine wpAnyH_ready (rs := [10]) (by kernel_rfl) (by simp) ?_
                      refine AllReadyH.cons rfl (fun K hK => ?_) AllReadyH.nil
                      go_simp
                      refine (HT2.out _).mono ?_
                      rintro e x2 ⟨rfl, hk⟩
                      have hS2 : Kept (fun _ => False) W1' x2 := hS1.trans hk
                      clear hk
                      refine hK.out _ _ (hS2) (fun _ => ?_)
                      clear hK K
                      try simp only [List.getElem_toArray]
                      try simp only [List.getElem_cons_succ]
                      try simp only [List.getElem_cons_zero]
                      try simp only [Act.put]
                      try simp only [List.setIfInBounds_toArray]
                      try simp only [List.set_cons_succ]
                      try simp only [List.set_cons_zero]
                      refine wpAnyH_take (i := 11) (v := ?_) rfl (by kernel_rfl) (by kernel_rfl) (by kernel_rfl) (fun _ _ _ h => h) (Or.inl ⟨by kernel_rfl, fun W hSW => by go_simp; try with_reducible rfl⟩) (by assumption) ?_
                      try simp only [List.getElem_toArray]
                      try simp only [List.getElem_cons_succ]
                      try simp only [List.getElem_cons_zero]
                      try simp only [Act.put]
                      try simp only [List.setIfInBounds_toArray]
                      try simp only [List.set_cons_succ]
                      try simp only [List.set_cons_zero]
                      refine wpAnyH_ready (rs := [14]) (by kernel_rfl) (by simp) ?_
                      refine AllReadyH.cons rfl (fun K hK => ?_) AllReadyH.nil
                      go_simp
                      refine (HT3.out _).mono ?_
                      rintro e x3 ⟨rfl, hk⟩
                      have hS3 : Kept (fun _ => False) W1' x3 := hS2.trans hk
                      clear hk
                      refine hK.out _ _ (hS3) (fun _ => ?_)
                      clear hK K
                      try simp only [List.getElem_toArray]
                      try simp only [List.getElem_cons_succ]
                      try simp only [List.getElem_cons_zero]
                      try simp only [Act.put]
                      try simp only [List.setIfInBounds_toArray]
                      try simp only [List.set_cons_succ]
                      try simp only [List.set_cons_zero]
                      refine wpAnyH_take (i := 15) (v := ?_) rfl (by kernel_rfl) (by kernel_rfl) (by kernel_rfl) (fun _ _ _ h => h) (Or.inl ⟨by kernel_rfl, fun W hSW => by go_simp; try with_reducible rfl⟩) (by assumption) ?_
                      try simp only [List.getElem_toArray]
                      try simp only [List.getElem_cons_succ]
                      try simp only [List.getElem_cons_zero]
                      try simp only [Act.put]
                      try simp only [List.setIfInBounds_toArray]
                      try simp only [List.set_cons_succ]
                      try simp only [List.set_cons_zero]
                      refine wpAnyH_take (i := 17) (v := ?_) rfl (by kernel_rfl) (by kernel_rfl) (by kernel_rfl) (fun _ _ _ h => h) (Or.inl ⟨by kernel_rfl, fun W hSW => by go_simp; try with_reducible rfl⟩) (by assumption) ?_
                      try simp only [List.getElem_toArray]
                      try simp only [List.getElem_cons_succ]
                      try simp only [List.getElem_cons_zero]
                      try simp only [Act.put]
                      try simp only [List.setIfInBounds_toArray]
                      try simp only [List.set_cons_succ]
                      try simp only [List.set_cons_zero]
                      refine wpAnyH_take (i := 18) (v := ?_) rfl (by kernel_rfl) (by kernel_rfl) (by kernel_rfl) (fun _ _ _ h => h) (Or.inl ⟨by kernel_rfl, fun W hSW => by go_simp; try with_reducible rfl⟩) (by assumption) ?_
                      try simp only [List.getElem_toArray]
                      try simp only [List.getElem_cons_succ]
                      try simp only [List.getElem_cons_zero]
                      try simp only [Act.put]
                      try simp only [List.setIfInBounds_toArray]
                      try simp only [List.set_cons_succ]
                      try simp only [List.set_cons_zero]
                      refine wpAnyH_done (by kernel_rfl) ?_ _
                      have HKz := hid (HK2.out.trans hS3)
                      have r0 := p0 _ hS3
                      have r1 := p1 _ hS3
                      have r2 := p2 _ hS3
                      have r3 := p3 _ hS3
                      have r4 := p4 _ hS3
                      clear hS1 hS2 hS3 o1 o2 o3 o4 p0 p1 p2 p3 p4 w1' w2'
                      go_wp2
                      exact ⟨⟨j + 1, _, _, hlt, by go_num, rfl, ⟨rfl, by rw [hh]⟩, ⟨HNx'.out, by rw [HE.out]; exact HT.out, by have := HZ.out; rw [HE.out, ByteArray.size_append]; omega, HKz.out⟩⟩, by simp [intOf]; omega⟩
    · obtain rfl : j = l.length := by omega
      have hltz : ¬ (l.length : Int) < (l.length : Int) := by omega
      have hT := HI.out.on
      rw [List.drop_length] at hT
      simp only [putOn] at hT
      have HK := hid HI.out.kept
      by_cases h8 : 1488 < acc.size
      · have HT : Hid (Q = (⟨#[]⟩, 2)) := by
          show _ = _
          rw [HQ.out, ← hT, if_pos rfl]
          exact if_pos h8
        have h8z : (1488 : Int) < (acc.size : Int) := by omega
        clear hT HI hlt h8
        go_wp2
        go_ret2
        exact ⟨by rw [HT.out]; rfl, HK.out⟩
      · have HT : Hid (Q = (acc, 0)) := by
          show _ = _
          rw [HQ.out, ← hT, if_pos rfl]
          exact if_neg h8
        have h8z : ¬ (1488 : Int) < (acc.size : Int) := by omega
        clear hT HI hlt h8
        go_wp2
        go_ret2
        exact ⟨by rw [HT.out]; rfl, HK.out⟩
end Go.Proofs.YtnghakhgogfemaaGreatDoor

namespace Go.Proofs.YtnghakhgogfemaaGreatDoor
open Go.RowKit

/-- How far the document's loop has come. -/
structure RGet (w : World) (s : ByteArray) (R : List Av × Int) (b : ByteArray) (acc : List Av) (vl : Value) (c : Cov) (W : World) : Prop where
  own : OwnAv W w.heap.size vl acc
  few : Few c
  secret : c.secret = s
  on : getOn b acc c = R
  size : b.size ≤ 140737488351232
  most : acc.length ≤ 40
  kept : Kept (fun _ => False) w W

set_option maxHeartbeats 16000000 in
set_option maxRecDepth 100000 in
theorem rGet_any (hM : RefUnmAt) (b s : ByteArray) (hb : b.size ≤ 140737488351232) (hs : s.size ≤ 1000000) (w : World) :
    Calls Tryz.prog 10 #[.string b, .string s] w fun e w' => ∃ v, e = .returned (.tuple #[v, .int .i64 (getAF b s).2]) ∧ OwnAv w' w.heap.size v (getAF b s).1 ∧ Kept (fun _ => False) w w' := by
  obtain ⟨i0, hi, hz0, hz1, hz2⟩ := info_parts infoAv
  obtain ⟨R, hR⟩ : ∃ R, R = getAF b s := ⟨_, rfl⟩
  rw [← hR]
  have HM := hid hM
  have HI0 : Hid (RGet w s R b [] (.slice none 0 0) (cov0 s) w) := ⟨World.ownsRow_nil _ _ _ _, ⟨hs, Nat.zero_le _⟩, rfl, hR.symm, hb, Nat.zero_le _, Kept.refl _ _⟩
  have Hs := hid hs
  clear hM hR hb hs
  go_enter Tryz.func10, Tryz.ntmps10
  go_wp2
  go_loopw [0, 6, 7, 8] (fun vb vl vv vh wr => ∃ (d : ByteArray) (acc : List Av) (c : Cov), vb = .string d ∧ (vv = .string c.vector ∧ vh = .bool c.has) ∧ Hid (RGet w s R d acc vl c wr)) (fun vb _ _ _ _ => (strV vb).size)
  case atStart => exact ⟨b, [], cov0 s, rfl, ⟨rfl, rfl⟩, HI0.out⟩
  case round =>
    obtain ⟨d, acc, c, rfl, ⟨rfl, rfl⟩, HI⟩ := hrel
    clear HI0
    have hT := HI.out.on
    rw [getOn_eq] at hT
    have hds := HI.out.size
    have hmost := HI.out.most
    have HO := hid HI.out.own
    have HKr := hid HI.out.kept
    have HFw := hid HI.out.few
    have HSc := hid HI.out.secret
    obtain ⟨p, cap, hv⟩ := slice_of HI.out.own
    subst hv
    clear HI
    by_cases h0 : d.size = 0
    · rw [if_pos h0] at hT
      obtain rfl := str_nil d h0
      have HT := hid hT
      clear hT h0 hds
      go_wp2
      go_ret2
      exact ⟨_, by rw [← HT.out]; rfl, by rw [← HT.out]; exact HO.out, HKr.out⟩
    · rw [if_neg h0] at hT
      have h0z : (0 : Int) < (d.size : Int) := by omega
      by_cases h6 : d.size < 6
      · have eC : cutF d = (av0, ⟨#[]⟩, 5) := by unfold cutF; rw [if_pos h6]
        rw [eC] at hT
        simp only at hT
        rw [if_neg (by decide)] at hT
        have h6z : (d.size : Int) < 6 := by omega
        clear eC
        have HP : Hid (R = ([], 5)) := hT.symm
        clear hT
        go_wp2
        go_ret2
        exact ⟨_, by rw [HP.out]; rfl, by rw [HP.out]; exact OwnG.nil _ _, HKr.out⟩
      · have h6z : ¬ (d.size : Int) < 6 := by omega
        have HW0 := hid (refNumA d hds 0 (by omega))
        have HW2 := hid (refNumA d hds 2 (by omega))
        have HW4 := hid (refNumA d hds 4 (by omega))
        have hN := numAt_lt d 0
        have hN2 := numAt_lt d 2
        have hN4 := numAt_lt d 4
        obtain ⟨L, eL⟩ : ∃ L, L = numAt d 0 % 1024 := ⟨_, rfl⟩
        obtain ⟨G, eG⟩ : ∃ G, G = numAt d 0 / 1024 % 16 := ⟨_, rfl⟩
        obtain ⟨hq, ehq⟩ : ∃ hq, hq = hidB (numAt d 0) := ⟨_, rfl⟩
        obtain ⟨mq, emq⟩ : ∃ mq, mq = mustB (numAt d 0) := ⟨_, rfl⟩
        have q1 : (numAt d 0 : Int) % 1024 = (L : Int) := by omega
        have q2 : ((numAt d 0 : Int) / 16384 % 2 == 1) = hq := by
          rw [ehq]
          unfold hidB
          rw [Bool.eq_iff_iff, beq_iff_eq, decide_eq_true_iff]
          omega
        have q3 : (numAt d 0 : Int) / 1024 % 16 = (G : Int) := by omega
        have q4 : decide ((32768 : Int) ≤ (numAt d 0 : Int)) = mq := by
          rw [emq]
          unfold mustB
          rw [decide_eq_decide]
          omega
        have hL4 : L < 1024 := by omega
        have eD : ∀ r : Av × ByteArray × Int, cutF d = r → hT = hT := fun _ _ => rfl
        clear eD
        by_cases hf : G ≠ 0 ∨ L < 6
        · have eC : cutF d = (av0, ⟨#[]⟩, 4) := by
            unfold cutF
            rw [if_neg h6, ← eG, ← eL, if_pos hf]
          rw [eC] at hT
          simp only at hT
          rw [if_neg (by decide)] at hT
          have hfc : ((G : Int) != 0) = true ∨ (((G : Int) != 0) = false ∧ (L : Int) < 6) := by
            by_cases hg : G = 0
            · refine Or.inr ⟨?_, by omega⟩
              rw [bne_eq_false_iff_eq]
              omega
            · refine Or.inl ?_
              rw [bne_iff_ne]
              omega
          clear eC hf eL eG ehq emq
          generalize numAt d 0 = N at *
          have HP : Hid (R = ([], 4)) := hT.symm
          clear hT h6 h0
          rcases hfc with hg | ⟨hg, hl⟩
          · go_wp2_with fail
            refine (HW0.out _).mono ?_
            rintro e y0 ⟨rfl, hk⟩
            have HK0 := hid (HKr.out.trans hk)
            clear hk
            go_wp2
            go_ret2
            exact ⟨_, by rw [HP.out]; rfl, by rw [HP.out]; exact OwnG.nil _ _, HK0.out⟩
          · go_wp2_with fail
            refine (HW0.out _).mono ?_
            rintro e y0 ⟨rfl, hk⟩
            have HK0 := hid (HKr.out.trans hk)
            clear hk
            go_wp2
            go_ret2
            exact ⟨_, by rw [HP.out]; rfl, by rw [HP.out]; exact OwnG.nil _ _, HK0.out⟩
        · have hg : ((G : Int) != 0) = false := by rw [bne_eq_false_iff_eq]; omega
          have hl : ¬ (L : Int) < 6 := by omega
          have hl6 : 6 ≤ L := by omega
          by_cases hsh : d.size < L
          · have eC : cutF d = (av0, ⟨#[]⟩, 5) := by
              unfold cutF
              rw [if_neg h6, ← eG, ← eL, if_neg hf, if_pos hsh]
            rw [eC] at hT
            simp only at hT
            rw [if_neg (by decide)] at hT
            have hsz : (d.size : Int) < (L : Int) := by omega
            clear eC hf eL eG ehq emq
            generalize numAt d 0 = N at *
            have HP : Hid (R = ([], 5)) := hT.symm
            clear hT h6 h0 hsh
            go_wp2_with fail
            refine (HW0.out _).mono ?_
            rintro e y0 ⟨rfl, hk⟩
            have HK0 := hid (HKr.out.trans hk)
            clear hk
            go_wp2
            go_ret2
            exact ⟨_, by rw [HP.out]; rfl, by rw [HP.out]; exact OwnG.nil _ _, HK0.out⟩
          · have hsz : ¬ (d.size : Int) < (L : Int) := by omega
            by_cases hlong : mostF hq < L - 6 ∨ acc.length = 40
            · have hT2 : R = ([], 2) := by
                unfold cutF at hT
                rw [if_neg h6, ← eG, ← eL, ← ehq, ← emq, if_neg hf, if_neg hsh] at hT
                by_cases hm : mostF hq < L - 6
                · rw [if_pos hm] at hT
                  simp only at hT
                  rw [if_neg (by decide)] at hT
                  exact hT.symm
                · rw [if_neg hm] at hT
                  simp only at hT
                  rw [if_pos trivial, if_pos (by omega)] at hT
                  exact hT.symm
              have HP := hid hT2
              have hway : (hq = false ∧ 1006 < L) ∨ (hq = false ∧ ¬ 1006 < L ∧ 40 ≤ acc.length) ∨ (hq = true ∧ 1008 < L) ∨ (hq = true ∧ ¬ 1008 < L ∧ 40 ≤ acc.length) := by
                unfold mostF at hlong
                cases hq
                · simp at hlong
                  by_cases h : 1006 < L
                  · exact Or.inl ⟨rfl, h⟩
                  · exact Or.inr (Or.inl ⟨rfl, h, by omega⟩)
                · simp at hlong
                  by_cases h : 1008 < L
                  · exact Or.inr (Or.inr (Or.inl ⟨rfl, h⟩))
                  · exact Or.inr (Or.inr (Or.inr ⟨rfl, h, by omega⟩))
              clear hT hT2 hlong hf eL eG ehq emq
              generalize numAt d 0 = N at *
              clear h6 h0 hsh
              rcases hway with ⟨rfl, k1⟩ | ⟨rfl, k1, k2⟩ | ⟨rfl, k1⟩ | ⟨rfl, k1, k2⟩
              · have k1z : (1006 : Int) < (L : Int) := by omega
                go_wp2_with fail
                refine (HW0.out _).mono ?_
                rintro e y0 ⟨rfl, hk⟩
                have HK0 := hid (HKr.out.trans hk)
                clear hk
                go_wp2
                go_ret2
                exact ⟨_, by rw [HP.out]; rfl, by rw [HP.out]; exact OwnG.nil _ _, HK0.out⟩
              · have k1z : ¬ (1006 : Int) < (L : Int) := by omega
                have k3z : ¬ (1008 : Int) < (L : Int) := by omega
                have k2z : (40 : Int) ≤ (acc.length : Int) := by omega
                go_wp2_with fail
                refine (HW0.out _).mono ?_
                rintro e y0 ⟨rfl, hk⟩
                have HK0 := hid (HKr.out.trans hk)
                clear hk
                go_wp2
                go_ret2
                exact ⟨_, by rw [HP.out]; rfl, by rw [HP.out]; exact OwnG.nil _ _, HK0.out⟩
              · have k1z : (1008 : Int) < (L : Int) := by omega
                go_wp2_with fail
                refine (HW0.out _).mono ?_
                rintro e y0 ⟨rfl, hk⟩
                have HK0 := hid (HKr.out.trans hk)
                clear hk
                go_wp2
                go_ret2
                exact ⟨_, by rw [HP.out]; rfl, by rw [HP.out]; exact OwnG.nil _ _, HK0.out⟩
              · have k1z : ¬ (1008 : Int) < (L : Int) := by omega
                have k2z : (40 : Int) ≤ (acc.length : Int) := by omega
                go_wp2_with fail
                refine (HW0.out _).mono ?_
                rintro e y0 ⟨rfl, hk⟩
                have HK0 := hid (HKr.out.trans hk)
                clear hk
                go_wp2
                go_ret2
                exact ⟨_, by rw [HP.out]; rfl, by rw [HP.out]; exact OwnG.nil _ _, HK0.out⟩
            · have hnm : ¬ mostF hq < L - 6 := fun h => hlong (Or.inl h)
              have hn40 : ¬ acc.length = 40 := fun h => hlong (Or.inr h)
              have H40 : Hid (acc.length < 40) := by show _ < _; omega
              obtain ⟨X, hX⟩ : ∃ X, X = d.extract 6 L := ⟨_, rfl⟩
              obtain ⟨d2, hd2⟩ : ∃ d2, d2 = d.extract L d.size := ⟨_, rfl⟩
              have eC : cutF d = (⟨mq, hq, (numAt d 2 : Int), (numAt d 4 : Int), X⟩, d2, 0) := by
                unfold cutF
                rw [if_neg h6, ← eG, ← eL, ← ehq, ← emq, if_neg hf, if_neg hsh, if_neg hnm, hX, hd2]
              rw [eC] at hT
              simp only at hT
              rw [if_pos trivial, if_neg hn40] at hT
              have j1 := mid_at d 6 L (by omega) (by omega) 6 (L : Int) rfl rfl
              have j2 := last_at d L (by omega) (L : Int) rfl
              rw [← hX] at j1
              rw [← hd2] at j2
              have hXs : X.size = L - 6 := by rw [hX, ByteArray.size_extract]; omega
              have hd2s : d2.size + 6 ≤ d.size := by rw [hd2, ByteArray.size_extract]; omega
              have hX2 : X.size ≤ 1002 := by
                have : mostF hq ≤ 1002 := by unfold mostF; split <;> omega
                omega
              have HXs := hid hX2
              have k1z : hq = false → ¬ (1006 : Int) < (L : Int) := fun h => by
                rw [h] at hnm
                have : mostF false = 1000 := rfl
                omega
              have k3z : ¬ (1008 : Int) < (L : Int) := by omega
              have k2z : ¬ (40 : Int) ≤ (acc.length : Int) := by omega
              clear eC hf eL eG ehq emq hX hd2 hlong hnm hn40 hsh hXs h6 h0
              generalize hgN : numAt d 0 = N at *
              generalize hgN2 : numAt d 2 = N2 at *
              generalize hgN4 : numAt d 4 = N4 at *
              clear hgN hgN2 hgN4
              cases hq with
              | false =>
                have k1 := k1z rfl
                clear k1z
                have e1 : toldF c ⟨mq, false, (N2 : Int), (N4 : Int), X⟩ = (⟨mq, false, (N2 : Int), (N4 : Int), X⟩, 0) := rfl
                rw [e1, if_pos rfl] at hT
                have HT := hid hT
                clear hT e1
                go_wp2_with fail
                refine (HW0.out _).mono ?_
                rintro e wr' ⟨rfl, hk⟩
                have HO' := hid (OwnG.kept0 HO.out hk)
                have HKr' := hid (HKr.out.trans hk)
                clear hk HO HKr
                replace HO := HO'
                replace HKr := HKr'
                clear HO' HKr'
                generalize wr' = wr at *
                go_upto_region 15 with fail
                go_cut [12] from 55 to 65 (fun v wx => ∃ bx, v = .pointer (some ⟨bx, 0, none⟩) ∧ AvAt wx bx ⟨mq, false, (N2 : Int), (N4 : Int), X⟩ ∧ wr.heap.size ≤ bx ∧ Kept (fun _ => False) wr wx)
                case first =>
                  refine wp_region_held_drew (S := Kept (fun _ => False) wr) (by kernel_rfl) ((Kept.refl _ wr).drew) (fun hSd => ?_)
                  refine wpAnyH_take (i := 0) (v := ?_) rfl (by kernel_rfl) (by kernel_rfl) (by kernel_rfl) (fun _ _ _ h => h) (Or.inl ⟨by kernel_rfl, fun W hSW => by go_simp; try with_reducible rfl⟩) (by assumption) ?_
                  try simp only [List.getElem_toArray]
                  try simp only [List.getElem_cons_succ]
                  try simp only [List.getElem_cons_zero]
                  try simp only [Act.put]
                  try simp only [List.setIfInBounds_toArray]
                  try simp only [List.set_cons_succ]
                  try simp only [List.set_cons_zero]
                  refine wpAnyH_take (i := 1) (v := (.bool mq)) rfl (by kernel_rfl) (by kernel_rfl) (by kernel_rfl) (fun _ _ _ h => h) (Or.inl ⟨by kernel_rfl, fun W hSW => by go_simp; try with_reducible rfl⟩) (by assumption) ?_
                  try simp only [List.getElem_toArray]
                  try simp only [List.getElem_cons_succ]
                  try simp only [List.getElem_cons_zero]
                  try simp only [Act.put]
                  try simp only [List.setIfInBounds_toArray]
                  try simp only [List.set_cons_succ]
                  try simp only [List.set_cons_zero]
                  refine wpAnyH_take (i := 2) (v := ?_) rfl (by kernel_rfl) (by kernel_rfl) (by kernel_rfl) (fun _ _ _ h => h) (Or.inl ⟨by kernel_rfl, fun W hSW => by go_simp; try with_reducible rfl⟩) (by assumption) ?_
                  try simp only [List.getElem_toArray]
                  try simp only [List.getElem_cons_succ]
                  try simp only [List.getElem_cons_zero]
                  try simp only [Act.put]
                  try simp only [List.setIfInBounds_toArray]
                  try simp only [List.set_cons_succ]
                  try simp only [List.set_cons_zero]
                  refine wpAnyH_take (i := 3) (v := ?_) rfl (by kernel_rfl) (by kernel_rfl) (by kernel_rfl) (fun _ _ _ h => h) (Or.inl ⟨by kernel_rfl, fun W hSW => by go_simp; try with_reducible rfl⟩) (by assumption) ?_
                  try simp only [List.getElem_toArray]
                  try simp only [List.getElem_cons_succ]
                  try simp only [List.getElem_cons_zero]
                  try simp only [Act.put]
                  try simp only [List.setIfInBounds_toArray]
                  try simp only [List.set_cons_succ]
                  try simp only [List.set_cons_zero]
                  refine wpAnyH_take (i := 5) (v := ?_) rfl (by kernel_rfl) (by kernel_rfl) (by kernel_rfl) (fun _ _ _ h => h) (Or.inl ⟨by kernel_rfl, fun W hSW => by go_simp; try with_reducible rfl⟩) (by assumption) ?_
                  try simp only [List.getElem_toArray]
                  try simp only [List.getElem_cons_succ]
                  try simp only [List.getElem_cons_zero]
                  try simp only [Act.put]
                  try simp only [List.setIfInBounds_toArray]
                  try simp only [List.set_cons_succ]
                  try simp only [List.set_cons_zero]
                  refine wpAnyH_take (i := 7) (v := ?_) rfl (by kernel_rfl) (by kernel_rfl) (by kernel_rfl) (fun _ _ _ h => h) (Or.inl ⟨by kernel_rfl, fun W hSW => by go_simp; try with_reducible rfl⟩) (by assumption) ?_
                  try simp only [List.getElem_toArray]
                  try simp only [List.getElem_cons_succ]
                  try simp only [List.getElem_cons_zero]
                  try simp only [Act.put]
                  try simp only [List.setIfInBounds_toArray]
                  try simp only [List.set_cons_succ]
                  try simp only [List.set_cons_zero]
                  refine wpAnyH_take (i := 8) (v := ?_) rfl (by kernel_rfl) (by kernel_rfl) (by kernel_rfl) (fun _ _ _ h => h) (Or.inl ⟨by kernel_rfl, fun W hSW => by go_simp; try with_reducible rfl⟩) (by assumption) ?_
                  try simp only [List.getElem_toArray]
                  try simp only [List.getElem_cons_succ]
                  try simp only [List.getElem_cons_zero]
                  try simp only [Act.put]
                  try simp only [List.setIfInBounds_toArray]
                  try simp only [List.set_cons_succ]
                  try simp only [List.set_cons_zero]
                  refine wpAnyH_take (i := 9) (v := ?_) rfl (by kernel_rfl) (by kernel_rfl) (by kernel_rfl) (fun _ _ _ h => h) (Or.inl ⟨by kernel_rfl, fun W hSW => by go_simp; try with_reducible rfl⟩) (by assumption) ?_
                  try simp only [List.getElem_toArray]
                  try simp only [List.getElem_cons_succ]
                  try simp only [List.getElem_cons_zero]
                  try simp only [Act.put]
                  try simp only [List.setIfInBounds_toArray]
                  try simp only [List.set_cons_succ]
                  try simp only [List.set_cons_zero]
                  refine wpAnyH_ready (rs := [4, 11]) (by kernel_rfl) (by simp) ?_
                  refine AllReadyH.cons rfl (fun K hK => ?_) (AllReadyH.cons rfl (fun K hK => ?_) AllReadyH.nil)
                  · skip
                    go_simp
                    refine (HW2.out _).mono ?_
                    rintro e v1 ⟨rfl, hk⟩
                    have kv1 : Kept (fun _ => False) wr v1 := hSd.trans hk
                    clear hk
                    refine hK.out _ _ (kv1) (fun _ => ?_)
                    clear hK K
                    try simp only [List.getElem_toArray]
                    try simp only [List.getElem_cons_succ]
                    try simp only [List.getElem_cons_zero]
                    try simp only [Act.put]
                    try simp only [List.setIfInBounds_toArray]
                    try simp only [List.set_cons_succ]
                    try simp only [List.set_cons_zero]
                    refine wpAnyH_ready (rs := [6, 11]) (by kernel_rfl) (by simp) ?_
                    refine AllReadyH.cons rfl (fun K hK => ?_) (AllReadyH.cons rfl (fun K hK => ?_) AllReadyH.nil)
                    · skip
                      go_simp
                      refine (HW4.out _).mono ?_
                      rintro e v2 ⟨rfl, hk⟩
                      have kv2 : Kept (fun _ => False) wr v2 := kv1.trans hk
                      clear hk
                      refine hK.out _ _ (kv2) (fun _ => ?_)
                      clear hK K
                      try simp only [List.getElem_toArray]
                      try simp only [List.getElem_cons_succ]
                      try simp only [List.getElem_cons_zero]
                      try simp only [Act.put]
                      try simp only [List.setIfInBounds_toArray]
                      try simp only [List.set_cons_succ]
                      try simp only [List.set_cons_zero]
                      refine wpAnyH_take (i := 10) (v := ?_) rfl (by kernel_rfl) (by kernel_rfl) (by kernel_rfl) (fun _ _ _ h => h) (Or.inl ⟨by kernel_rfl, fun W hSW => by go_simp; try with_reducible rfl⟩) (by assumption) ?_
                      try simp only [List.getElem_toArray]
                      try simp only [List.getElem_cons_succ]
                      try simp only [List.getElem_cons_zero]
                      try simp only [Act.put]
                      try simp only [List.setIfInBounds_toArray]
                      try simp only [List.set_cons_succ]
                      try simp only [List.set_cons_zero]
                      refine wpAnyH_ready (rs := [11]) (by kernel_rfl) (by simp) ?_
                      refine AllReadyH.cons rfl (fun K hK => ?_) AllReadyH.nil
                      go_simp
                      have kv3 : Kept (fun _ => False) wr (World.alloc v2 (.cells #[.bool false, .bool false, .int .i64 0, .int .i64 0, .string ⟨#[]⟩] 59)) := kv2.alloc _
                      have bv3 : AvAt (World.alloc v2 (.cells #[.bool false, .bool false, .int .i64 0, .int .i64 0, .string ⟨#[]⟩] 59)) v2.heap.size av0 := AvAt.new v2 av0
                      have lv3 : wr.heap.size ≤ v2.heap.size := kv2.size
                      refine hK.out _ _ (kv3) (fun _ => ?_)
                      clear hK K
                      try simp only [List.getElem_toArray]
                      try simp only [List.getElem_cons_succ]
                      try simp only [List.getElem_cons_zero]
                      try simp only [Act.put]
                      try simp only [List.setIfInBounds_toArray]
                      try simp only [List.set_cons_succ]
                      try simp only [List.set_cons_zero]
                      generalize World.alloc v2 (.cells #[.bool false, .bool false, .int .i64 0, .int .i64 0, .string ⟨#[]⟩] 59) = v3 at *
                      obtain ⟨wz, hrun, hav, hkz⟩ := store_av bv3 ⟨mq, false, (N2 : Int), (N4 : Int), X⟩
                      have hSz : Kept (fun _ => False) wr wz := kv3.andThen hkz (fun i hi e => by have := lv3; omega)
                      refine wpAnyH_ready (rs := [12]) (by kernel_rfl) (by simp) ?_
                      refine AllReadyH.cons rfl (fun K hK => ?_) AllReadyH.nil
                      refine stepB_store rfl (.tmp 12) (.tmp 65) 59 rfl _ _ rfl rfl hrun ?_
                      refine hK.out _ _ (hSz) (fun _ => ?_)
                      clear hK K
                      try simp only [List.getElem_toArray]
                      try simp only [List.getElem_cons_succ]
                      try simp only [List.getElem_cons_zero]
                      try simp only [Act.put]
                      try simp only [List.setIfInBounds_toArray]
                      try simp only [List.set_cons_succ]
                      try simp only [List.set_cons_zero]
                      refine wpAnyH_done (by kernel_rfl) ?_ _
                      clear hrun hkz
                      go_wp2
                      go_meet
                      exact ⟨_, rfl, hav, lv3, hSz⟩
                    · skip
                      go_simp
                      have kv4 : Kept (fun _ => False) wr (World.alloc v1 (.cells #[.bool false, .bool false, .int .i64 0, .int .i64 0, .string ⟨#[]⟩] 59)) := kv1.alloc _
                      have bv4 : AvAt (World.alloc v1 (.cells #[.bool false, .bool false, .int .i64 0, .int .i64 0, .string ⟨#[]⟩] 59)) v1.heap.size av0 := AvAt.new v1 av0
                      have lv4 : wr.heap.size ≤ v1.heap.size := kv1.size
                      refine hK.out _ _ (kv4) (fun _ => ?_)
                      clear hK K
                      try simp only [List.getElem_toArray]
                      try simp only [List.getElem_cons_succ]
                      try simp only [List.getElem_cons_zero]
                      try simp only [Act.put]
                      try simp only [List.setIfInBounds_toArray]
                      try simp only [List.set_cons_succ]
                      try simp only [List.set_cons_zero]
                      generalize World.alloc v1 (.cells #[.bool false, .bool false, .int .i64 0, .int .i64 0, .string ⟨#[]⟩] 59) = v4 at *
                      refine wpAnyH_ready (rs := [6]) (by kernel_rfl) (by simp) ?_
                      refine AllReadyH.cons rfl (fun K hK => ?_) AllReadyH.nil
                      go_simp
                      refine (HW4.out _).mono ?_
                      rintro e v5 ⟨rfl, hk⟩
                      have kv5 : Kept (fun _ => False) wr v5 := kv4.trans hk
                      have bv5 := bv4.kept0 hk
                      clear hk
                      refine hK.out _ _ (kv5) (fun _ => ?_)
                      clear hK K
                      try simp only [List.getElem_toArray]
                      try simp only [List.getElem_cons_succ]
                      try simp only [List.getElem_cons_zero]
                      try simp only [Act.put]
                      try simp only [List.setIfInBounds_toArray]
                      try simp only [List.set_cons_succ]
                      try simp only [List.set_cons_zero]
                      refine wpAnyH_take (i := 10) (v := ?_) rfl (by kernel_rfl) (by kernel_rfl) (by kernel_rfl) (fun _ _ _ h => h) (Or.inl ⟨by kernel_rfl, fun W hSW => by go_simp; try with_reducible rfl⟩) (by assumption) ?_
                      try simp only [List.getElem_toArray]
                      try simp only [List.getElem_cons_succ]
                      try simp only [List.getElem_cons_zero]
                      try simp only [Act.put]
                      try simp only [List.setIfInBounds_toArray]
                      try simp only [List.set_cons_succ]
                      try simp only [List.set_cons_zero]
                      obtain ⟨wz, hrun, hav, hkz⟩ := store_av bv5 ⟨mq, false, (N2 : Int), (N4 : Int), X⟩
                      have hSz : Kept (fun _ => False) wr wz := kv5.andThen hkz (fun i hi e => by have := lv4; omega)
                      refine wpAnyH_ready (rs := [12]) (by kernel_rfl) (by simp) ?_
                      refine AllReadyH.cons rfl (fun K hK => ?_) AllReadyH.nil
                      refine stepB_store rfl (.tmp 12) (.tmp 65) 59 rfl _ _ rfl rfl hrun ?_
                      refine hK.out _ _ (hSz) (fun _ => ?_)
                      clear hK K
                      try simp only [List.getElem_toArray]
                      try simp only [List.getElem_cons_succ]
                      try simp only [List.getElem_cons_zero]
                      try simp only [Act.put]
                      try simp only [List.setIfInBounds_toArray]
                      try simp only [List.set_cons_succ]
                      try simp only [List.set_cons_zero]
                      refine wpAnyH_done (by kernel_rfl) ?_ _
                      clear hrun hkz
                      go_wp2
                      go_meet
                      exact ⟨_, rfl, hav, lv4, hSz⟩
                  · skip
                    go_simp
                    have kv6 : Kept (fun _ => False) wr (World.alloc wr (.cells #[.bool false, .bool false, .int .i64 0, .int .i64 0, .string ⟨#[]⟩] 59)).drew := ((Kept.refl (fun _ => False) wr).alloc _).drew
                    have bv6 : AvAt (World.alloc wr (.cells #[.bool false, .bool false, .int .i64 0, .int .i64 0, .string ⟨#[]⟩] 59)).drew wr.heap.size av0 := (AvAt.new wr av0).kept0 (Kept.refl _ _).drew
                    have lv6 : wr.heap.size ≤ wr.heap.size := Nat.le_refl _
                    refine hK.out _ _ (kv6) (fun _ => ?_)
                    clear hK K
                    try simp only [List.getElem_toArray]
                    try simp only [List.getElem_cons_succ]
                    try simp only [List.getElem_cons_zero]
                    try simp only [Act.put]
                    try simp only [List.setIfInBounds_toArray]
                    try simp only [List.set_cons_succ]
                    try simp only [List.set_cons_zero]
                    generalize (World.alloc wr (.cells #[.bool false, .bool false, .int .i64 0, .int .i64 0, .string ⟨#[]⟩] 59)).drew = v6 at *
                    refine wpAnyH_ready (rs := [4]) (by kernel_rfl) (by simp) ?_
                    refine AllReadyH.cons rfl (fun K hK => ?_) AllReadyH.nil
                    go_simp
                    refine (HW2.out _).mono ?_
                    rintro e v7 ⟨rfl, hk⟩
                    have kv7 : Kept (fun _ => False) wr v7 := kv6.trans hk
                    have bv7 := bv6.kept0 hk
                    clear hk
                    refine hK.out _ _ (kv7) (fun _ => ?_)
                    clear hK K
                    try simp only [List.getElem_toArray]
                    try simp only [List.getElem_cons_succ]
                    try simp only [List.getElem_cons_zero]
                    try simp only [Act.put]
                    try simp only [List.setIfInBounds_toArray]
                    try simp only [List.set_cons_succ]
                    try simp only [List.set_cons_zero]
                    refine wpAnyH_ready (rs := [6]) (by kernel_rfl) (by simp) ?_
                    refine AllReadyH.cons rfl (fun K hK => ?_) AllReadyH.nil
                    go_simp
                    refine (HW4.out _).mono ?_
                    rintro e v8 ⟨rfl, hk⟩
                    have kv8 : Kept (fun _ => False) wr v8 := kv7.trans hk
                    have bv8 := bv7.kept0 hk
                    clear hk
                    refine hK.out _ _ (kv8) (fun _ => ?_)
                    clear hK K
                    try simp only [List.getElem_toArray]
                    try simp only [List.getElem_cons_succ]
                    try simp only [List.getElem_cons_zero]
                    try simp only [Act.put]
                    try simp only [List.setIfInBounds_toArray]
                    try simp only [List.set_cons_succ]
                    try simp only [List.set_cons_zero]
                    refine wpAnyH_take (i := 10) (v := ?_) rfl (by kernel_rfl) (by kernel_rfl) (by kernel_rfl) (fun _ _ _ h => h) (Or.inl ⟨by kernel_rfl, fun W hSW => by go_simp; try with_reducible rfl⟩) (by assumption) ?_
                    try simp only [List.getElem_toArray]
                    try simp only [List.getElem_cons_succ]
                    try simp only [List.getElem_cons_zero]
                    try simp only [Act.put]
                    try simp only [List.setIfInBounds_toArray]
                    try simp only [List.set_cons_succ]
                    try simp only [List.set_cons_zero]
                    obtain ⟨wz, hrun, hav, hkz⟩ := store_av bv8 ⟨mq, false, (N2 : Int), (N4 : Int), X⟩
                    have hSz : Kept (fun _ => False) wr wz := kv8.andThen hkz (fun i hi e => by have := lv6; omega)
                    refine wpAnyH_ready (rs := [12]) (by kernel_rfl) (by simp) ?_
                    refine AllReadyH.cons rfl (fun K hK => ?_) AllReadyH.nil
                    refine stepB_store rfl (.tmp 12) (.tmp 65) 59 rfl _ _ rfl rfl hrun ?_
                    refine hK.out _ _ (hSz) (fun _ => ?_)
                    clear hK K
                    try simp only [List.getElem_toArray]
                    try simp only [List.getElem_cons_succ]
                    try simp only [List.getElem_cons_zero]
                    try simp only [Act.put]
                    try simp only [List.setIfInBounds_toArray]
                    try simp only [List.set_cons_succ]
                    try simp only [List.set_cons_zero]
                    refine wpAnyH_done (by kernel_rfl) ?_ _
                    clear hrun hkz
                    go_wp2
                    go_meet
                    exact ⟨_, rfl, hav, lv6, hSz⟩
                case rest =>
                  obtain ⟨bx, rfl, hav, hle, hkc⟩ := hcut
                  go_upto_region 25 with fail
                  have HA3 := hid hav
                  have HO3 := hid (OwnG.kept0 HO.out hkc)
                  have HK3 := hid (HKr.out.trans hkc)
                  clear hav hkc
                  generalize wc = W3 at *
                  have HP0 : ∀ b : Bool, isVec ⟨mq, false, (N2 : Int), (N4 : Int), X⟩ = b → passF c ⟨mq, false, (N2 : Int), (N4 : Int), X⟩ = if b = true then { c with vector := X, has := true } else c := fun b h => by
                    unfold passF
                    rw [h]
                  cases y1 : ((N2 : Int) == 0) with
                  | false =>
                    have HV1 := HP0 false (by unfold isVec; simp [y1])
                    rw [if_neg (by decide)] at HV1
                    rw [HV1] at HT
                    clear HV1 HP0
                    obtain ⟨a0, a1, a2, a3, a4⟩ := HA3.out.cells
                    simp only at a0 a1 a2 a3 a4
                    go_upto_region 27 with fail
                    have hown4 := World.ownsRow.alloc HO3.out (.cells #[.bool mq, .bool false, .int .i64 (N2 : Int), .int .i64 (N4 : Int), .string X] 59)
                    have hs3 := HK3.out.size
                    go_wp2_with (at_builtin; refine wpList_append_own _ rfl _ _ 22 rfl w.heap.size 59 i0 (.agg #[.bool false, .bool false, .int .i64 0, .int .i64 0, .string ⟨#[]⟩]) 5 40 Tryz.underlying22 hi hz0 hz1 hz2 rfl (by decide) _ _ _ rfl hown4 ⟨W3.heap.size, 0, none⟩ 1 1 [.bool mq, .bool false, .int .i64 (N2 : Int), .int .i64 (N4 : Int), .string X] rfl rfl ?c1 ?c2 ?c3 ?c4 ?c5 ?_)
                    case c1 => exact cells_new W3 [.bool mq, .bool false, .int .i64 (N2 : Int), .int .i64 (N4 : Int), .string X] _
                    case c2 => intro u hu; simp at hu; rcases hu with rfl | rfl | rfl | rfl | rfl <;> rfl
                    case c3 => unfold maxLen; omega
                    case c4 => omega
                    case c5 => simp; omega
                    intro v5 w5 hown5 hg5 _
                    have HO5 := hid (own_moreAv (x := ⟨mq, false, (N2 : Int), (N4 : Int), X⟩) hown5)
                    have HK5 := hid (HK3.out.andThen (((Kept.refl (fun i => (Value.slice p acc.length cap).ownBlock = some i) W3).alloc _).grown hg5 (fun j hj => Or.inr hj)) (fun i hi e => by have := (OwnG.block HO3.out e).2.1; omega))
                    have HN : Hid (RGet w s R d2 (acc ++ [⟨mq, false, (N2 : Int), (N4 : Int), X⟩]) v5 c w5) := ⟨HO5.out, HFw.out, HSc.out, HT.out, by omega, by have := H40.out; simp; omega, HK5.out⟩
                    clear hown5 hg5 hown4 a0 a1 a2 a3 a4
                    go_wp2
                    exact ⟨⟨_, _, _, rfl, ⟨rfl, rfl⟩, HN.out⟩, by simp [strV]; omega⟩
                  | true =>
                    cases y2 : ((N4 : Int) == 36) with
                    | false =>
                      have HV1 := HP0 false (by unfold isVec; simp [y1, y2])
                      rw [if_neg (by decide)] at HV1
                      rw [HV1] at HT
                      clear HV1 HP0
                      obtain ⟨a0, a1, a2, a3, a4⟩ := HA3.out.cells
                      simp only at a0 a1 a2 a3 a4
                      go_upto_region 27 with fail
                      have hown4 := World.ownsRow.alloc HO3.out (.cells #[.bool mq, .bool false, .int .i64 (N2 : Int), .int .i64 (N4 : Int), .string X] 59)
                      have hs3 := HK3.out.size
                      go_wp2_with (at_builtin; refine wpList_append_own _ rfl _ _ 22 rfl w.heap.size 59 i0 (.agg #[.bool false, .bool false, .int .i64 0, .int .i64 0, .string ⟨#[]⟩]) 5 40 Tryz.underlying22 hi hz0 hz1 hz2 rfl (by decide) _ _ _ rfl hown4 ⟨W3.heap.size, 0, none⟩ 1 1 [.bool mq, .bool false, .int .i64 (N2 : Int), .int .i64 (N4 : Int), .string X] rfl rfl ?c1 ?c2 ?c3 ?c4 ?c5 ?_)
                      case c1 => exact cells_new W3 [.bool mq, .bool false, .int .i64 (N2 : Int), .int .i64 (N4 : Int), .string X] _
                      case c2 => intro u hu; simp at hu; rcases hu with rfl | rfl | rfl | rfl | rfl <;> rfl
                      case c3 => unfold maxLen; omega
                      case c4 => omega
                      case c5 => simp; omega
                      intro v5 w5 hown5 hg5 _
                      have HO5 := hid (own_moreAv (x := ⟨mq, false, (N2 : Int), (N4 : Int), X⟩) hown5)
                      have HK5 := hid (HK3.out.andThen (((Kept.refl (fun i => (Value.slice p acc.length cap).ownBlock = some i) W3).alloc _).grown hg5 (fun j hj => Or.inr hj)) (fun i hi e => by have := (OwnG.block HO3.out e).2.1; omega))
                      have HN : Hid (RGet w s R d2 (acc ++ [⟨mq, false, (N2 : Int), (N4 : Int), X⟩]) v5 c w5) := ⟨HO5.out, HFw.out, HSc.out, HT.out, by omega, by have := H40.out; simp; omega, HK5.out⟩
                      clear hown5 hg5 hown4 a0 a1 a2 a3 a4
                      go_wp2
                      exact ⟨⟨_, _, _, rfl, ⟨rfl, rfl⟩, HN.out⟩, by simp [strV]; omega⟩
                    | true =>
                      have HV1 := HP0 true (by unfold isVec; simp [y1, y2])
                      rw [if_pos rfl] at HV1
                      rw [HV1] at HT
                      clear HV1 HP0
                      obtain ⟨a0, a1, a2, a3, a4⟩ := HA3.out.cells
                      simp only at a0 a1 a2 a3 a4
                      go_upto_region 27 with fail
                      have hown4 := World.ownsRow.alloc HO3.out (.cells #[.bool mq, .bool false, .int .i64 (N2 : Int), .int .i64 (N4 : Int), .string X] 59)
                      have hs3 := HK3.out.size
                      go_wp2_with (at_builtin; refine wpList_append_own _ rfl _ _ 22 rfl w.heap.size 59 i0 (.agg #[.bool false, .bool false, .int .i64 0, .int .i64 0, .string ⟨#[]⟩]) 5 40 Tryz.underlying22 hi hz0 hz1 hz2 rfl (by decide) _ _ _ rfl hown4 ⟨W3.heap.size, 0, none⟩ 1 1 [.bool mq, .bool false, .int .i64 (N2 : Int), .int .i64 (N4 : Int), .string X] rfl rfl ?c1 ?c2 ?c3 ?c4 ?c5 ?_)
                      case c1 => exact cells_new W3 [.bool mq, .bool false, .int .i64 (N2 : Int), .int .i64 (N4 : Int), .string X] _
                      case c2 => intro u hu; simp at hu; rcases hu with rfl | rfl | rfl | rfl | rfl <;> rfl
                      case c3 => unfold maxLen; omega
                      case c4 => omega
                      case c5 => simp; omega
                      intro v5 w5 hown5 hg5 _
                      have HO5 := hid (own_moreAv (x := ⟨mq, false, (N2 : Int), (N4 : Int), X⟩) hown5)
                      have HK5 := hid (HK3.out.andThen (((Kept.refl (fun i => (Value.slice p acc.length cap).ownBlock = some i) W3).alloc _).grown hg5 (fun j hj => Or.inr hj)) (fun i hi e => by have := (OwnG.block HO3.out e).2.1; omega))
                      have HN : Hid (RGet w s R d2 (acc ++ [⟨mq, false, (N2 : Int), (N4 : Int), X⟩]) v5 { c with vector := X, has := true } w5) := ⟨HO5.out, ⟨HFw.out.secret, by show (X).size ≤ 1000000; have := HXs.out; omega⟩, HSc.out, HT.out, by omega, by have := H40.out; simp; omega, HK5.out⟩
                      clear hown5 hg5 hown4 a0 a1 a2 a3 a4
                      go_wp2
                      exact ⟨⟨_, _, _, rfl, ⟨rfl, rfl⟩, HN.out⟩, by simp [strV]; omega⟩
              | true =>
                clear k1z
                have e1 : toldF c ⟨mq, true, (N2 : Int), (N4 : Int), X⟩ = (⟨mq, true, (N2 : Int), (N4 : Int), (showF c (N4 : Int) X).1⟩, (showF c (N4 : Int) X).2) := rfl
                rw [e1] at hT
                simp only at hT
                obtain ⟨R2, hR2⟩ : ∃ R2, R2 = showF c (N4 : Int) X := ⟨_, rfl⟩
                rw [← hR2] at hT
                have HR2 := hid hR2
                have HTT := hid hT
                clear hT e1 hR2
                go_wp2_with fail
                refine (HW0.out _).mono ?_
                rintro e wr' ⟨rfl, hk⟩
                have HO' := hid (OwnG.kept0 HO.out hk)
                have HKr' := hid (HKr.out.trans hk)
                clear hk HO HKr
                replace HO := HO'
                replace HKr := HKr'
                clear HO' HKr'
                generalize wr' = wr at *
                go_upto_region 15 with fail
                go_cut [12] from 55 to 65 (fun v wx => ∃ bx, v = .pointer (some ⟨bx, 0, none⟩) ∧ AvAt wx bx ⟨mq, true, (N2 : Int), (N4 : Int), X⟩ ∧ wr.heap.size ≤ bx ∧ Kept (fun _ => False) wr wx)
                case first =>
                  refine wp_region_held_drew (S := Kept (fun _ => False) wr) (by kernel_rfl) ((Kept.refl _ wr).drew) (fun hSd => ?_)
                  refine wpAnyH_take (i := 0) (v := ?_) rfl (by kernel_rfl) (by kernel_rfl) (by kernel_rfl) (fun _ _ _ h => h) (Or.inl ⟨by kernel_rfl, fun W hSW => by go_simp; try with_reducible rfl⟩) (by assumption) ?_
                  try simp only [List.getElem_toArray]
                  try simp only [List.getElem_cons_succ]
                  try simp only [List.getElem_cons_zero]
                  try simp only [Act.put]
                  try simp only [List.setIfInBounds_toArray]
                  try simp only [List.set_cons_succ]
                  try simp only [List.set_cons_zero]
                  refine wpAnyH_take (i := 1) (v := (.bool mq)) rfl (by kernel_rfl) (by kernel_rfl) (by kernel_rfl) (fun _ _ _ h => h) (Or.inl ⟨by kernel_rfl, fun W hSW => by go_simp; try with_reducible rfl⟩) (by assumption) ?_
                  try simp only [List.getElem_toArray]
                  try simp only [List.getElem_cons_succ]
                  try simp only [List.getElem_cons_zero]
                  try simp only [Act.put]
                  try simp only [List.setIfInBounds_toArray]
                  try simp only [List.set_cons_succ]
                  try simp only [List.set_cons_zero]
                  refine wpAnyH_take (i := 2) (v := ?_) rfl (by kernel_rfl) (by kernel_rfl) (by kernel_rfl) (fun _ _ _ h => h) (Or.inl ⟨by kernel_rfl, fun W hSW => by go_simp; try with_reducible rfl⟩) (by assumption) ?_
                  try simp only [List.getElem_toArray]
                  try simp only [List.getElem_cons_succ]
                  try simp only [List.getElem_cons_zero]
                  try simp only [Act.put]
                  try simp only [List.setIfInBounds_toArray]
                  try simp only [List.set_cons_succ]
                  try simp only [List.set_cons_zero]
                  refine wpAnyH_take (i := 3) (v := ?_) rfl (by kernel_rfl) (by kernel_rfl) (by kernel_rfl) (fun _ _ _ h => h) (Or.inl ⟨by kernel_rfl, fun W hSW => by go_simp; try with_reducible rfl⟩) (by assumption) ?_
                  try simp only [List.getElem_toArray]
                  try simp only [List.getElem_cons_succ]
                  try simp only [List.getElem_cons_zero]
                  try simp only [Act.put]
                  try simp only [List.setIfInBounds_toArray]
                  try simp only [List.set_cons_succ]
                  try simp only [List.set_cons_zero]
                  refine wpAnyH_take (i := 5) (v := ?_) rfl (by kernel_rfl) (by kernel_rfl) (by kernel_rfl) (fun _ _ _ h => h) (Or.inl ⟨by kernel_rfl, fun W hSW => by go_simp; try with_reducible rfl⟩) (by assumption) ?_
                  try simp only [List.getElem_toArray]
                  try simp only [List.getElem_cons_succ]
                  try simp only [List.getElem_cons_zero]
                  try simp only [Act.put]
                  try simp only [List.setIfInBounds_toArray]
                  try simp only [List.set_cons_succ]
                  try simp only [List.set_cons_zero]
                  refine wpAnyH_take (i := 7) (v := ?_) rfl (by kernel_rfl) (by kernel_rfl) (by kernel_rfl) (fun _ _ _ h => h) (Or.inl ⟨by kernel_rfl, fun W hSW => by go_simp; try with_reducible rfl⟩) (by assumption) ?_
                  try simp only [List.getElem_toArray]
                  try simp only [List.getElem_cons_succ]
                  try simp only [List.getElem_cons_zero]
                  try simp only [Act.put]
                  try simp only [List.setIfInBounds_toArray]
                  try simp only [List.set_cons_succ]
                  try simp only [List.set_cons_zero]
                  refine wpAnyH_take (i := 8) (v := ?_) rfl (by kernel_rfl) (by kernel_rfl) (by kernel_rfl) (fun _ _ _ h => h) (Or.inl ⟨by kernel_rfl, fun W hSW => by go_simp; try with_reducible rfl⟩) (by assumption) ?_
                  try simp only [List.getElem_toArray]
                  try simp only [List.getElem_cons_succ]
                  try simp only [List.getElem_cons_zero]
                  try simp only [Act.put]
                  try simp only [List.setIfInBounds_toArray]
                  try simp only [List.set_cons_succ]
                  try simp only [List.set_cons_zero]
                  refine wpAnyH_take (i := 9) (v := ?_) rfl (by kernel_rfl) (by kernel_rfl) (by kernel_rfl) (fun _ _ _ h => h) (Or.inl ⟨by kernel_rfl, fun W hSW => by go_simp; try with_reducible rfl⟩) (by assumption) ?_
                  try simp only [List.getElem_toArray]
                  try simp only [List.getElem_cons_succ]
                  try simp only [List.getElem_cons_zero]
                  try simp only [Act.put]
                  try simp only [List.setIfInBounds_toArray]
                  try simp only [List.set_cons_succ]
                  try simp only [List.set_cons_zero]
                  refine wpAnyH_ready (rs := [4, 11]) (by kernel_rfl) (by simp) ?_
                  refine AllReadyH.cons rfl (fun K hK => ?_) (AllReadyH.cons rfl (fun K hK => ?_) AllReadyH.nil)
                  · skip
                    go_simp
                    refine (HW2.out _).mono ?_
                    rintro e v1 ⟨rfl, hk⟩
                    have kv1 : Kept (fun _ => False) wr v1 := hSd.trans hk
                    clear hk
                    refine hK.out _ _ (kv1) (fun _ => ?_)
                    clear hK K
                    try simp only [List.getElem_toArray]
                    try simp only [List.getElem_cons_succ]
                    try simp only [List.getElem_cons_zero]
                    try simp only [Act.put]
                    try simp only [List.setIfInBounds_toArray]
                    try simp only [List.set_cons_succ]
                    try simp only [List.set_cons_zero]
                    refine wpAnyH_ready (rs := [6, 11]) (by kernel_rfl) (by simp) ?_
                    refine AllReadyH.cons rfl (fun K hK => ?_) (AllReadyH.cons rfl (fun K hK => ?_) AllReadyH.nil)
                    · skip
                      go_simp
                      refine (HW4.out _).mono ?_
                      rintro e v2 ⟨rfl, hk⟩
                      have kv2 : Kept (fun _ => False) wr v2 := kv1.trans hk
                      clear hk
                      refine hK.out _ _ (kv2) (fun _ => ?_)
                      clear hK K
                      try simp only [List.getElem_toArray]
                      try simp only [List.getElem_cons_succ]
                      try simp only [List.getElem_cons_zero]
                      try simp only [Act.put]
                      try simp only [List.setIfInBounds_toArray]
                      try simp only [List.set_cons_succ]
                      try simp only [List.set_cons_zero]
                      refine wpAnyH_take (i := 10) (v := ?_) rfl (by kernel_rfl) (by kernel_rfl) (by kernel_rfl) (fun _ _ _ h => h) (Or.inl ⟨by kernel_rfl, fun W hSW => by go_simp; try with_reducible rfl⟩) (by assumption) ?_
                      try simp only [List.getElem_toArray]
                      try simp only [List.getElem_cons_succ]
                      try simp only [List.getElem_cons_zero]
                      try simp only [Act.put]
                      try simp only [List.setIfInBounds_toArray]
                      try simp only [List.set_cons_succ]
                      try simp only [List.set_cons_zero]
                      refine wpAnyH_ready (rs := [11]) (by kernel_rfl) (by simp) ?_
                      refine AllReadyH.cons rfl (fun K hK => ?_) AllReadyH.nil
                      go_simp
                      have kv3 : Kept (fun _ => False) wr (World.alloc v2 (.cells #[.bool false, .bool false, .int .i64 0, .int .i64 0, .string ⟨#[]⟩] 59)) := kv2.alloc _
                      have bv3 : AvAt (World.alloc v2 (.cells #[.bool false, .bool false, .int .i64 0, .int .i64 0, .string ⟨#[]⟩] 59)) v2.heap.size av0 := AvAt.new v2 av0
                      have lv3 : wr.heap.size ≤ v2.heap.size := kv2.size
                      refine hK.out _ _ (kv3) (fun _ => ?_)
                      clear hK K
                      try simp only [List.getElem_toArray]
                      try simp only [List.getElem_cons_succ]
                      try simp only [List.getElem_cons_zero]
                      try simp only [Act.put]
                      try simp only [List.setIfInBounds_toArray]
                      try simp only [List.set_cons_succ]
                      try simp only [List.set_cons_zero]
                      generalize World.alloc v2 (.cells #[.bool false, .bool false, .int .i64 0, .int .i64 0, .string ⟨#[]⟩] 59) = v3 at *
                      obtain ⟨wz, hrun, hav, hkz⟩ := store_av bv3 ⟨mq, true, (N2 : Int), (N4 : Int), X⟩
                      have hSz : Kept (fun _ => False) wr wz := kv3.andThen hkz (fun i hi e => by have := lv3; omega)
                      refine wpAnyH_ready (rs := [12]) (by kernel_rfl) (by simp) ?_
                      refine AllReadyH.cons rfl (fun K hK => ?_) AllReadyH.nil
                      refine stepB_store rfl (.tmp 12) (.tmp 65) 59 rfl _ _ rfl rfl hrun ?_
                      refine hK.out _ _ (hSz) (fun _ => ?_)
                      clear hK K
                      try simp only [List.getElem_toArray]
                      try simp only [List.getElem_cons_succ]
                      try simp only [List.getElem_cons_zero]
                      try simp only [Act.put]
                      try simp only [List.setIfInBounds_toArray]
                      try simp only [List.set_cons_succ]
                      try simp only [List.set_cons_zero]
                      refine wpAnyH_done (by kernel_rfl) ?_ _
                      clear hrun hkz
                      go_wp2
                      go_meet
                      exact ⟨_, rfl, hav, lv3, hSz⟩
                    · skip
                      go_simp
                      have kv4 : Kept (fun _ => False) wr (World.alloc v1 (.cells #[.bool false, .bool false, .int .i64 0, .int .i64 0, .string ⟨#[]⟩] 59)) := kv1.alloc _
                      have bv4 : AvAt (World.alloc v1 (.cells #[.bool false, .bool false, .int .i64 0, .int .i64 0, .string ⟨#[]⟩] 59)) v1.heap.size av0 := AvAt.new v1 av0
                      have lv4 : wr.heap.size ≤ v1.heap.size := kv1.size
                      refine hK.out _ _ (kv4) (fun _ => ?_)
                      clear hK K
                      try simp only [List.getElem_toArray]
                      try simp only [List.getElem_cons_succ]
                      try simp only [List.getElem_cons_zero]
                      try simp only [Act.put]
                      try simp only [List.setIfInBounds_toArray]
                      try simp only [List.set_cons_succ]
                      try simp only [List.set_cons_zero]
                      generalize World.alloc v1 (.cells #[.bool false, .bool false, .int .i64 0, .int .i64 0, .string ⟨#[]⟩] 59) = v4 at *
                      refine wpAnyH_ready (rs := [6]) (by kernel_rfl) (by simp) ?_
                      refine AllReadyH.cons rfl (fun K hK => ?_) AllReadyH.nil
                      go_simp
                      refine (HW4.out _).mono ?_
                      rintro e v5 ⟨rfl, hk⟩
                      have kv5 : Kept (fun _ => False) wr v5 := kv4.trans hk
                      have bv5 := bv4.kept0 hk
                      clear hk
                      refine hK.out _ _ (kv5) (fun _ => ?_)
                      clear hK K
                      try simp only [List.getElem_toArray]
                      try simp only [List.getElem_cons_succ]
                      try simp only [List.getElem_cons_zero]
                      try simp only [Act.put]
                      try simp only [List.setIfInBounds_toArray]
                      try simp only [List.set_cons_succ]
                      try simp only [List.set_cons_zero]
                      refine wpAnyH_take (i := 10) (v := ?_) rfl (by kernel_rfl) (by kernel_rfl) (by kernel_rfl) (fun _ _ _ h => h) (Or.inl ⟨by kernel_rfl, fun W hSW => by go_simp; try with_reducible rfl⟩) (by assumption) ?_
                      try simp only [List.getElem_toArray]
                      try simp only [List.getElem_cons_succ]
                      try simp only [List.getElem_cons_zero]
                      try simp only [Act.put]
                      try simp only [List.setIfInBounds_toArray]
                      try simp only [List.set_cons_succ]
                      try simp only [List.set_cons_zero]
                      obtain ⟨wz, hrun, hav, hkz⟩ := store_av bv5 ⟨mq, true, (N2 : Int), (N4 : Int), X⟩
                      have hSz : Kept (fun _ => False) wr wz := kv5.andThen hkz (fun i hi e => by have := lv4; omega)
                      refine wpAnyH_ready (rs := [12]) (by kernel_rfl) (by simp) ?_
                      refine AllReadyH.cons rfl (fun K hK => ?_) AllReadyH.nil
                      refine stepB_store rfl (.tmp 12) (.tmp 65) 59 rfl _ _ rfl rfl hrun ?_
                      refine hK.out _ _ (hSz) (fun _ => ?_)
                      clear hK K
                      try simp only [List.getElem_toArray]
                      try simp only [List.getElem_cons_succ]
                      try simp only [List.getElem_cons_zero]
                      try simp only [Act.put]
                      try simp only [List.setIfInBounds_toArray]
                      try simp only [List.set_cons_succ]
                      try simp only [List.set_cons_zero]
                      refine wpAnyH_done (by kernel_rfl) ?_ _
                      clear hrun hkz
                      go_wp2
                      go_meet
                      exact ⟨_, rfl, hav, lv4, hSz⟩
                  · skip
                    go_simp
                    have kv6 : Kept (fun _ => False) wr (World.alloc wr (.cells #[.bool false, .bool false, .int .i64 0, .int .i64 0, .string ⟨#[]⟩] 59)).drew := ((Kept.refl (fun _ => False) wr).alloc _).drew
                    have bv6 : AvAt (World.alloc wr (.cells #[.bool false, .bool false, .int .i64 0, .int .i64 0, .string ⟨#[]⟩] 59)).drew wr.heap.size av0 := (AvAt.new wr av0).kept0 (Kept.refl _ _).drew
                    have lv6 : wr.heap.size ≤ wr.heap.size := Nat.le_refl _
                    refine hK.out _ _ (kv6) (fun _ => ?_)
                    clear hK K
                    try simp only [List.getElem_toArray]
                    try simp only [List.getElem_cons_succ]
                    try simp only [List.getElem_cons_zero]
                    try simp only [Act.put]
                    try simp only [List.setIfInBounds_toArray]
                    try simp only [List.set_cons_succ]
                    try simp only [List.set_cons_zero]
                    generalize (World.alloc wr (.cells #[.bool false, .bool false, .int .i64 0, .int .i64 0, .string ⟨#[]⟩] 59)).drew = v6 at *
                    refine wpAnyH_ready (rs := [4]) (by kernel_rfl) (by simp) ?_
                    refine AllReadyH.cons rfl (fun K hK => ?_) AllReadyH.nil
                    go_simp
                    refine (HW2.out _).mono ?_
                    rintro e v7 ⟨rfl, hk⟩
                    have kv7 : Kept (fun _ => False) wr v7 := kv6.trans hk
                    have bv7 := bv6.kept0 hk
                    clear hk
                    refine hK.out _ _ (kv7) (fun _ => ?_)
                    clear hK K
                    try simp only [List.getElem_toArray]
                    try simp only [List.getElem_cons_succ]
                    try simp only [List.getElem_cons_zero]
                    try simp only [Act.put]
                    try simp only [List.setIfInBounds_toArray]
                    try simp only [List.set_cons_succ]
                    try simp only [List.set_cons_zero]
                    refine wpAnyH_ready (rs := [6]) (by kernel_rfl) (by simp) ?_
                    refine AllReadyH.cons rfl (fun K hK => ?_) AllReadyH.nil
                    go_simp
                    refine (HW4.out _).mono ?_
                    rintro e v8 ⟨rfl, hk⟩
                    have kv8 : Kept (fun _ => False) wr v8 := kv7.trans hk
                    have bv8 := bv7.kept0 hk
                    clear hk
                    refine hK.out _ _ (kv8) (fun _ => ?_)
                    clear hK K
                    try simp only [List.getElem_toArray]
                    try simp only [List.getElem_cons_succ]
                    try simp only [List.getElem_cons_zero]
                    try simp only [Act.put]
                    try simp only [List.setIfInBounds_toArray]
                    try simp only [List.set_cons_succ]
                    try simp only [List.set_cons_zero]
                    refine wpAnyH_take (i := 10) (v := ?_) rfl (by kernel_rfl) (by kernel_rfl) (by kernel_rfl) (fun _ _ _ h => h) (Or.inl ⟨by kernel_rfl, fun W hSW => by go_simp; try with_reducible rfl⟩) (by assumption) ?_
                    try simp only [List.getElem_toArray]
                    try simp only [List.getElem_cons_succ]
                    try simp only [List.getElem_cons_zero]
                    try simp only [Act.put]
                    try simp only [List.setIfInBounds_toArray]
                    try simp only [List.set_cons_succ]
                    try simp only [List.set_cons_zero]
                    obtain ⟨wz, hrun, hav, hkz⟩ := store_av bv8 ⟨mq, true, (N2 : Int), (N4 : Int), X⟩
                    have hSz : Kept (fun _ => False) wr wz := kv8.andThen hkz (fun i hi e => by have := lv6; omega)
                    refine wpAnyH_ready (rs := [12]) (by kernel_rfl) (by simp) ?_
                    refine AllReadyH.cons rfl (fun K hK => ?_) AllReadyH.nil
                    refine stepB_store rfl (.tmp 12) (.tmp 65) 59 rfl _ _ rfl rfl hrun ?_
                    refine hK.out _ _ (hSz) (fun _ => ?_)
                    clear hK K
                    try simp only [List.getElem_toArray]
                    try simp only [List.getElem_cons_succ]
                    try simp only [List.getElem_cons_zero]
                    try simp only [Act.put]
                    try simp only [List.setIfInBounds_toArray]
                    try simp only [List.set_cons_succ]
                    try simp only [List.set_cons_zero]
                    refine wpAnyH_done (by kernel_rfl) ?_ _
                    clear hrun hkz
                    go_wp2
                    go_meet
                    exact ⟨_, rfl, hav, lv6, hSz⟩
                case rest =>
                  obtain ⟨bx, rfl, hav, hle, hkc⟩ := hcut
                  have HA1 := hid hav
                  have HO1 := hid (OwnG.kept0 HO.out hkc)
                  have HK1 := hid (HKr.out.trans hkc)
                  have Hle := hid hle
                  have Hkc := hid hkc
                  obtain ⟨z0, z1, z2, z3, z4⟩ := hav.cells
                  simp only at z0 z1 z2 z3 z4
                  clear hav hkc hle
                  by_cases hs0 : s.size = 0
                  · have hP : R = ([], 30) := by
                      have e : R2 = (⟨#[]⟩, 30) := by
                        rw [HR2.out]
                        have e1 : lacksF c = 30 := by unfold lacksF; rw [HSc.out, if_pos hs0]
                        unfold showF
                        rw [e1, if_neg (by decide)]
                      have h := HTT.out
                      rw [e] at h
                      simp only at h
                      rw [if_neg (by decide)] at h
                      exact h.symm
                    have HP := hid hP
                    clear hP
                    obtain rfl := str_nil s hs0
                    go_wp2
                    go_ret2
                    exact ⟨_, by rw [HP.out]; rfl, by rw [HP.out]; exact OwnG.nil _ _, HK1.out⟩
                  · have hsne := str_full hs0
                    cases hh : c.has with
                    | false =>
                      have hP : R = ([], 40) := by
                        have e : R2 = (⟨#[]⟩, 40) := by
                          rw [HR2.out]
                          have e1 : lacksF c = 40 := by unfold lacksF; rw [HSc.out, if_neg hs0, if_pos hh]
                          unfold showF
                          rw [e1, if_neg (by decide)]
                        have h := HTT.out
                        rw [e] at h
                        simp only at h
                        rw [if_neg (by decide)] at h
                        exact h.symm
                      have HP := hid hP
                      clear hP
                      go_wp2
                      go_ret2
                      exact ⟨_, by rw [HP.out]; rfl, by rw [HP.out]; exact OwnG.nil _ _, HK1.out⟩
                    | true =>
                      have e0 : lacksF c = 0 := by unfold lacksF; rw [HSc.out, if_neg hs0, hh, if_neg (by decide)]
                      have hMM := HM.out (N4 : Int) s c.vector X Hs.out HFw.out.vector (by omega)
                      have hUs := maskA_size true (N4 : Int) s c.vector X
                      have eR : R2 = if X.size < 2 then (⟨#[]⟩, 4) else if numAt (maskA true (N4 : Int) s c.vector X) 0 = X.size - 2 then ((maskA true (N4 : Int) s c.vector X).extract 2 X.size, 0) else (⟨#[]⟩, 4) := by
                        rw [HR2.out]
                        unfold showF
                        rw [if_pos e0, HSc.out]
                      obtain ⟨U, hU⟩ : ∃ U, U = maskA true (N4 : Int) s c.vector X := ⟨_, rfl⟩
                      rw [← hU] at hMM hUs eR
                      have HMM := hid hMM
                      have hUz : (U.size : Int) ≤ 1002 := by omega
                      clear hMM hU e0
                      by_cases hx2 : X.size < 2
                      · rw [if_pos hx2] at eR
                        have hP : R = ([], 4) := by
                          have h := HTT.out
                          rw [eR] at h
                          simp only at h
                          rw [if_neg (by decide)] at h
                          exact h.symm
                        have HP := hid hP
                        have hu2 : (U.size : Int) < 2 := by omega
                        clear hP eR hUs hx2
                        go_wp2_with fail
                        refine (HMM.out _).mono ?_
                        rintro e y1 ⟨rfl, hk⟩
                        have HK2 := hid (HK1.out.trans hk)
                        clear hk
                        go_wp2
                        go_ret2
                        exact ⟨_, by rw [HP.out]; rfl, by rw [HP.out]; exact OwnG.nil _ _, HK2.out⟩
                      · rw [if_neg hx2] at eR
                        have hu2 : ¬ (U.size : Int) < 2 := by omega
                        have HNu := hid (refNumA U (by omega) 0 (by omega))
                        by_cases h3 : numAt U 0 = X.size - 2
                        · rw [if_pos h3] at eR
                          have hne : ((numAt U 0 : Int) != (U.size : Int) - 2) = false := by rw [bne_eq_false_iff_eq]; omega
                          obtain ⟨v', hv'⟩ : ∃ v', v' = U.extract 2 X.size := ⟨_, rfl⟩
                          have jU := last_at U 2 (by omega) 2 rfl
                          rw [hUs, ← hv'] at jU
                          rw [← hv'] at eR
                          have hT3 := HTT.out
                          rw [eR] at hT3
                          simp only at hT3
                          rw [if_pos trivial] at hT3
                          have HT := hid hT3
                          have HXs' : Hid (v'.size ≤ 1002) := by show _ ≤ _; rw [hv', ByteArray.size_extract]; omega
                          replace HXs := HXs'
                          generalize numAt U 0 = NU at *
                          clear hT3 eR hUs hx2 h3 hv' HTT HR2
                          go_wp2_with fail
                          refine (HMM.out _).mono ?_
                          rintro e y1 ⟨rfl, hk⟩
                          have Hk1 := hid hk
                          clear hk z0 z1 z2 z3 z4
                          go_wp2_with fail
                          refine (HNu.out _).mono ?_
                          rintro e y2 ⟨rfl, hk⟩
                          have hk2 := Hk1.out.trans hk
                          have hA2 := HA1.out.kept0 hk2
                          have f4 := hA2.frozen 4
                          have hk3 : Kept (fun _ => False) wr (y2.setCell ⟨bx, 4, none⟩ (.string v')) := (Hkc.out.trans hk2).setCell (Or.inl Hle.out) _
                          have HA3 : Hid (AvAt (y2.setCell ⟨bx, 4, none⟩ (.string v')) bx ⟨mq, true, (N2 : Int), (N4 : Int), v'⟩) := hA2.setValue v'
                          have HO3 := hid (OwnG.kept0 HO.out hk3)
                          have HK3 := hid (HKr.out.trans hk3)
                          obtain ⟨b0, b1, b2, b3, b4⟩ := hA2.cells
                          simp only at b0 b1 b2 b3 b4
                          clear hk hk2 hk3 hA2
                          go_upto_region 25 with fail
                          generalize y2.setCell ⟨bx, 4, none⟩ (.string v') = W3 at *
                          clear b0 b1 b2 b3 b4 f4
                          have HP0 : ∀ b : Bool, isVec ⟨mq, true, (N2 : Int), (N4 : Int), v'⟩ = b → passF c ⟨mq, true, (N2 : Int), (N4 : Int), v'⟩ = if b = true then { c with vector := v', has := true } else c := fun b h => by
                            unfold passF
                            rw [h]
                          cases y1 : ((N2 : Int) == 0) with
                          | false =>
                            have HV1 := HP0 false (by unfold isVec; simp [y1])
                            rw [if_neg (by decide)] at HV1
                            rw [HV1] at HT
                            clear HV1 HP0
                            obtain ⟨a0, a1, a2, a3, a4⟩ := HA3.out.cells
                            simp only at a0 a1 a2 a3 a4
                            go_upto_region 27 with fail
                            have hown4 := World.ownsRow.alloc HO3.out (.cells #[.bool mq, .bool true, .int .i64 (N2 : Int), .int .i64 (N4 : Int), .string v'] 59)
                            have hs3 := HK3.out.size
                            go_wp2_with (at_builtin; refine wpList_append_own _ rfl _ _ 22 rfl w.heap.size 59 i0 (.agg #[.bool false, .bool false, .int .i64 0, .int .i64 0, .string ⟨#[]⟩]) 5 40 Tryz.underlying22 hi hz0 hz1 hz2 rfl (by decide) _ _ _ rfl hown4 ⟨W3.heap.size, 0, none⟩ 1 1 [.bool mq, .bool true, .int .i64 (N2 : Int), .int .i64 (N4 : Int), .string v'] rfl rfl ?c1 ?c2 ?c3 ?c4 ?c5 ?_)
                            case c1 => exact cells_new W3 [.bool mq, .bool true, .int .i64 (N2 : Int), .int .i64 (N4 : Int), .string v'] _
                            case c2 => intro u hu; simp at hu; rcases hu with rfl | rfl | rfl | rfl | rfl <;> rfl
                            case c3 => unfold maxLen; omega
                            case c4 => omega
                            case c5 => simp; omega
                            intro v5 w5 hown5 hg5 _
                            have HO5 := hid (own_moreAv (x := ⟨mq, true, (N2 : Int), (N4 : Int), v'⟩) hown5)
                            have HK5 := hid (HK3.out.andThen (((Kept.refl (fun i => (Value.slice p acc.length cap).ownBlock = some i) W3).alloc _).grown hg5 (fun j hj => Or.inr hj)) (fun i hi e => by have := (OwnG.block HO3.out e).2.1; omega))
                            have HN : Hid (RGet w s R d2 (acc ++ [⟨mq, true, (N2 : Int), (N4 : Int), v'⟩]) v5 c w5) := ⟨HO5.out, HFw.out, HSc.out, HT.out, by omega, by have := H40.out; simp; omega, HK5.out⟩
                            clear hown5 hg5 hown4 a0 a1 a2 a3 a4
                            go_wp2
                            exact ⟨⟨_, _, _, rfl, ⟨rfl, by rw [hh]⟩, HN.out⟩, by simp [strV]; omega⟩
                          | true =>
                            cases y2 : ((N4 : Int) == 36) with
                            | false =>
                              have HV1 := HP0 false (by unfold isVec; simp [y1, y2])
                              rw [if_neg (by decide)] at HV1
                              rw [HV1] at HT
                              clear HV1 HP0
                              obtain ⟨a0, a1, a2, a3, a4⟩ := HA3.out.cells
                              simp only at a0 a1 a2 a3 a4
                              go_upto_region 27 with fail
                              have hown4 := World.ownsRow.alloc HO3.out (.cells #[.bool mq, .bool true, .int .i64 (N2 : Int), .int .i64 (N4 : Int), .string v'] 59)
                              have hs3 := HK3.out.size
                              go_wp2_with (at_builtin; refine wpList_append_own _ rfl _ _ 22 rfl w.heap.size 59 i0 (.agg #[.bool false, .bool false, .int .i64 0, .int .i64 0, .string ⟨#[]⟩]) 5 40 Tryz.underlying22 hi hz0 hz1 hz2 rfl (by decide) _ _ _ rfl hown4 ⟨W3.heap.size, 0, none⟩ 1 1 [.bool mq, .bool true, .int .i64 (N2 : Int), .int .i64 (N4 : Int), .string v'] rfl rfl ?c1 ?c2 ?c3 ?c4 ?c5 ?_)
                              case c1 => exact cells_new W3 [.bool mq, .bool true, .int .i64 (N2 : Int), .int .i64 (N4 : Int), .string v'] _
                              case c2 => intro u hu; simp at hu; rcases hu with rfl | rfl | rfl | rfl | rfl <;> rfl
                              case c3 => unfold maxLen; omega
                              case c4 => omega
                              case c5 => simp; omega
                              intro v5 w5 hown5 hg5 _
                              have HO5 := hid (own_moreAv (x := ⟨mq, true, (N2 : Int), (N4 : Int), v'⟩) hown5)
                              have HK5 := hid (HK3.out.andThen (((Kept.refl (fun i => (Value.slice p acc.length cap).ownBlock = some i) W3).alloc _).grown hg5 (fun j hj => Or.inr hj)) (fun i hi e => by have := (OwnG.block HO3.out e).2.1; omega))
                              have HN : Hid (RGet w s R d2 (acc ++ [⟨mq, true, (N2 : Int), (N4 : Int), v'⟩]) v5 c w5) := ⟨HO5.out, HFw.out, HSc.out, HT.out, by omega, by have := H40.out; simp; omega, HK5.out⟩
                              clear hown5 hg5 hown4 a0 a1 a2 a3 a4
                              go_wp2
                              exact ⟨⟨_, _, _, rfl, ⟨rfl, by rw [hh]⟩, HN.out⟩, by simp [strV]; omega⟩
                            | true =>
                              have HV1 := HP0 false (by unfold isVec; simp [y1, y2])
                              rw [if_neg (by decide)] at HV1
                              rw [HV1] at HT
                              clear HV1 HP0
                              obtain ⟨a0, a1, a2, a3, a4⟩ := HA3.out.cells
                              simp only at a0 a1 a2 a3 a4
                              go_upto_region 27 with fail
                              have hown4 := World.ownsRow.alloc HO3.out (.cells #[.bool mq, .bool true, .int .i64 (N2 : Int), .int .i64 (N4 : Int), .string v'] 59)
                              have hs3 := HK3.out.size
                              go_wp2_with (at_builtin; refine wpList_append_own _ rfl _ _ 22 rfl w.heap.size 59 i0 (.agg #[.bool false, .bool false, .int .i64 0, .int .i64 0, .string ⟨#[]⟩]) 5 40 Tryz.underlying22 hi hz0 hz1 hz2 rfl (by decide) _ _ _ rfl hown4 ⟨W3.heap.size, 0, none⟩ 1 1 [.bool mq, .bool true, .int .i64 (N2 : Int), .int .i64 (N4 : Int), .string v'] rfl rfl ?c1 ?c2 ?c3 ?c4 ?c5 ?_)
                              case c1 => exact cells_new W3 [.bool mq, .bool true, .int .i64 (N2 : Int), .int .i64 (N4 : Int), .string v'] _
                              case c2 => intro u hu; simp at hu; rcases hu with rfl | rfl | rfl | rfl | rfl <;> rfl
                              case c3 => unfold maxLen; omega
                              case c4 => omega
                              case c5 => simp; omega
                              intro v5 w5 hown5 hg5 _
                              have HO5 := hid (own_moreAv (x := ⟨mq, true, (N2 : Int), (N4 : Int), v'⟩) hown5)
                              have HK5 := hid (HK3.out.andThen (((Kept.refl (fun i => (Value.slice p acc.length cap).ownBlock = some i) W3).alloc _).grown hg5 (fun j hj => Or.inr hj)) (fun i hi e => by have := (OwnG.block HO3.out e).2.1; omega))
                              have HN : Hid (RGet w s R d2 (acc ++ [⟨mq, true, (N2 : Int), (N4 : Int), v'⟩]) v5 c w5) := ⟨HO5.out, HFw.out, HSc.out, HT.out, by omega, by have := H40.out; simp; omega, HK5.out⟩
                              clear hown5 hg5 hown4 a0 a1 a2 a3 a4
                              go_wp2
                              exact ⟨⟨_, _, _, rfl, ⟨rfl, by rw [hh]⟩, HN.out⟩, by simp [strV]; omega⟩
                        · rw [if_neg h3] at eR
                          have hne : ((numAt U 0 : Int) != (U.size : Int) - 2) = true := by rw [bne_iff_ne]; omega
                          have hP : R = ([], 4) := by
                            have h := HTT.out
                            rw [eR] at h
                            simp only at h
                            rw [if_neg (by decide)] at h
                            exact h.symm
                          have HP := hid hP
                          generalize numAt U 0 = NU at *
                          clear hP eR hUs hx2 h3
                          go_wp2_with fail
                          refine (HMM.out _).mono ?_
                          rintro e y1 ⟨rfl, hk⟩
                          have HK2 := hid (HK1.out.trans hk)
                          clear hk
                          go_wp2_with fail
                          refine (HNu.out _).mono ?_
                          rintro e y2 ⟨rfl, hk⟩
                          have HK3 := hid (HK2.out.trans hk)
                          clear hk
                          go_wp2
                          go_ret2
                          exact ⟨_, by rw [HP.out]; rfl, by rw [HP.out]; exact OwnG.nil _ _, HK3.out⟩
end Go.Proofs.YtnghakhgogfemaaGreatDoor
