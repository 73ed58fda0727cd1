/- The walk of the law AvpNums. -/
import Derived.Test.YtnghakhgogfemaaDoorAvApp
namespace Go.Proofs.YtnghakhgogfemaaDoor
open Go.RowKit

set_option maxRecDepth 100000 in
theorem numOf_lowI (v : Int) (n : Nat) (h0 : 0 ≤ v) (h : v < 256 ^ n) : (numOf (lowI v n) : Int) = v := by
  induction n generalizing v with
  | zero =>
    have : v = 0 := by simp at h; omega
    subst this
    rfl
  | succ n ih =>
    have h1 := ih (v / 256) (by omega) (by rw [Int.pow_succ] at h; omega)
    unfold lowI
    rw [numOf_snoc]
    have e : ((UInt8.ofNat (v % 256).toNat).toNat : Int) = v % 256 := by
      rw [UInt8.toNat_ofNat']
      omega
    push_cast
    rw [h1, e]
    omega
/-- What the law asks ahead. -/
def numsB (v n : Int) : Bool := decide (1 ≤ n) && (decide (n ≤ 7) && (decide (0 ≤ v) && decide (v < 256 ^ n.toNat)))

set_option maxHeartbeats 4000000 in
set_option maxRecDepth 100000 in
theorem avpNums_not (k v n : Int) (u : Value) (l : List Av) (w : World) (hv : -9223372036854775808 ≤ v ∧ v ≤ 9223372036854775807) (hn : -9223372036854775808 ≤ n ∧ n ≤ 9223372036854775807) (hI : AvsIn w u l) (h : numsB v n = false ∨ lightA l = false) :
    Calls Tryd.prog 5 #[.int .i64 k, .int .i64 v, .int .i64 n, u] w fun e w' => e = .returned (.bool true) ∧ Kept (fun _ => False) w w' := by
  have HA := hid aliveA_any
  have HL := hid (lightA_any u l w hI.at_ hI.len hI.size)
  obtain ⟨p, cap, rfl⟩ := RowsAt.slice hI.at_
  clear hI
  have END : True := trivial
  by_cases h1 : n < 1
  · clear h HL
    go_enter Tryd.func5, Tryd.ntmps5
    go_wp2_with fail
    refine (HA.out _).mono ?_
    rintro e w1 ⟨rfl, hk1⟩
    go_wp2
    go_ret
    exact ⟨rfl, hk1⟩
  by_cases h7 : 7 < n
  · clear h HL
    go_enter Tryd.func5, Tryd.ntmps5
    go_wp2_with fail
    refine (HA.out _).mono ?_
    rintro e w1 ⟨rfl, hk1⟩
    go_wp2
    go_ret
    exact ⟨rfl, hk1⟩
  by_cases h0 : v < 0
  · clear h HL
    go_enter Tryd.func5, Tryd.ntmps5
    go_wp2_with fail
    refine (HA.out _).mono ?_
    rintro e w1 ⟨rfl, hk1⟩
    go_wp2
    go_ret
    exact ⟨rfl, hk1⟩
  obtain ⟨j, rfl⟩ := Int.eq_ofNat_of_zero_le (show 0 ≤ n by omega)
  have hj7 : j ≤ 7 := by omega
  have hj1 : 1 ≤ j := by omega
  have hp8 : (1 : Int) * 2 ^ (8 * j) ≤ 72057594037927936 := by
    have h256 : (2 : Nat) ^ (8 * j) ≤ 2 ^ 56 := Nat.pow_le_pow_right (by decide) (by omega)
    have : ((2 : Nat) ^ (8 * j) : Int) ≤ 2 ^ 56 := by exact_mod_cast h256
    push_cast at this
    omega
  have hp0 : (0 : Int) < 2 ^ (8 * j) := Int.pow_pos (by decide)
  have ePow : (256 : Int) ^ j = 2 ^ (8 * j) := by rw [Int.pow_mul]; rfl
  by_cases hb : 2 ^ (8 * j) ≤ v
  · clear h HL
    clear ePow
    go_enter Tryd.func5, Tryd.ntmps5
    go_wp2_with fail
    refine (HA.out _).mono ?_
    rintro e w1 ⟨rfl, hk1⟩
    go_wp2
    go_ret
    exact ⟨rfl, hk1⟩
  · have hl : lightA l = false := by
      rcases h with h | h
      · rw [show numsB v (j : Int) = true from by
          unfold numsB
          rw [Int.toNat_natCast, ePow]
          simp only [Bool.and_eq_true, decide_eq_true_eq]
          exact ⟨by omega, by omega, by omega, by omega⟩] at h
        cases h
      · exact h
    rw [hl] at HL
    clear h hl ePow
    go_enter Tryd.func5, Tryd.ntmps5
    go_wp2_with fail
    refine HL.out.mono ?_
    rintro e w0 ⟨rfl, hk0⟩
    have HK0 := hid hk0
    clear hk0
    go_wp2_with fail
    refine (HA.out _).mono ?_
    rintro e w1 ⟨rfl, hk1⟩
    have HK1 := hid (HK0.out.trans hk1)
    clear hk1
    go_wp2
    go_ret
    exact ⟨rfl, HK1.out⟩

theorem number_one (k v : Int) (j : Nat) (l : List Av) (h0 : 0 ≤ v) (h : v < 256 ^ j) (h1 : 1 ≤ j) (h7 : j ≤ 7) : ((numberA (⟨true, false, 0, k, ⟨(lowI v j).toArray⟩⟩ :: l) k).1 : Int) = v ∧ (numberA (⟨true, false, 0, k, ⟨(lowI v j).toArray⟩⟩ :: l) k).2 = true := by
  have hf : findA (⟨true, false, 0, k, ⟨(lowI v j).toArray⟩⟩ :: l) k = some ⟨true, false, 0, k, ⟨(lowI v j).toArray⟩⟩ := by
    unfold findA
    rw [List.find?_cons]
    simp
  have hs : (⟨(lowI v j).toArray⟩ : ByteArray).size = j := by
    rw [Lib.size_eq]
    exact lowI_length v j
  unfold numberA findAB
  rw [hf]
  simp only
  rw [if_pos ⟨rfl, by omega, by omega⟩]
  exact ⟨numOf_lowI v j h0 h, rfl⟩

set_option maxHeartbeats 4000000 in
set_option maxRecDepth 100000 in
theorem avpNums_in (k v : Int) (j : Nat) (u : Value) (l : List Av) (w : World) (hv0 : 0 ≤ v) (hvj : v < 256 ^ j) (hj1 : 1 ≤ j) (hj7 : j ≤ 7) (hI : AvsIn w u l) (hl : lightA l = true) :
    Calls Tryd.prog 5 #[.int .i64 k, .int .i64 v, .int .i64 (j : Int), u] w fun e w' => e = .returned (.bool true) ∧ Kept (fun _ => False) w w' := by
  have HA := hid aliveA_any
  have HL := hid (lightA_any u l w hI.at_ hI.len hI.size)
  rw [hl] at HL
  have hlen := (lightA_true hl).1
  have HN := hid (num_any k v (j : Int) ⟨by omega, by omega⟩)
  have eN : numV v (j : Int) = ⟨(lowI v j).toArray⟩ := by
    unfold numV
    rw [if_neg (by omega), Int.toNat_natCast]
  rw [eN] at HN
  have hsz : (⟨(lowI v j).toArray⟩ : ByteArray).size = j := by
    rw [Lib.size_eq]
    exact lowI_length v j
  obtain ⟨q1, q2⟩ := number_one k v j l hv0 hvj hj1 hj7
  obtain ⟨X, hX⟩ : ∃ X : ByteArray, X = ⟨(lowI v j).toArray⟩ := ⟨_, rfl⟩
  rw [← hX] at HN hsz q1 q2
  have HNu := hid (fun W x (h : AvsAt W x (⟨true, false, 0, k, X⟩ :: l)) => numberA_any x (⟨true, false, 0, k, X⟩ :: l) k W h (by simp; omega) (by
    intro y hy
    rcases List.mem_cons.1 hy with rfl | hy
    · show X.size ≤ _
      omega
    · exact hI.size y hy))
  rw [q1, q2] at HNu
  have HF := hid (fun W x (h : AvsAt W x [⟨true, false, 0, k, X⟩]) => findA_any x [⟨true, false, 0, k, X⟩] k W h (by simp) (by
    intro y hy
    simp at hy
    subst hy
    show X.size ≤ _
    omega))
  have ef : findAB [⟨true, false, 0, k, X⟩] k = X ∧ (findA [⟨true, false, 0, k, X⟩] k).isSome = true := by
    unfold findAB findA
    rw [List.find?_cons]
    simp
  rw [ef.1, ef.2] at HF
  have HI := hid hI
  obtain ⟨p, cap, rfl⟩ := RowsAt.slice hI.at_
  have hp8 : (1 : Int) * 2 ^ (8 * j) ≤ 72057594037927936 := by
    have h256 : (2 : Nat) ^ (8 * j) ≤ 2 ^ 56 := Nat.pow_le_pow_right (by decide) (by omega)
    have : ((2 : Nat) ^ (8 * j) : Int) ≤ 2 ^ 56 := by exact_mod_cast h256
    push_cast at this
    omega
  have ePow : (256 : Int) ^ j = 2 ^ (8 * j) := by rw [Int.pow_mul]; rfl
  rw [ePow] at hvj
  have h1 : ¬ (j : Int) < 1 := by omega
  have h7 : ¬ 7 < (j : Int) := by omega
  have h0 : ¬ v < 0 := by omega
  have hb : ¬ 2 ^ (8 * j) ≤ v := by omega
  have hxj : (X.size : Int) = (j : Int) := by omega
  clear hI hX eN q1 q2 ef ePow hl
  unfold avV at HN
  go_enter Tryd.func5, Tryd.ntmps5
  go_wp2_with fail
  refine HL.out.mono ?_
  rintro e w0 ⟨rfl, hk0⟩
  have HK0 := hid hk0
  clear hk0
  go_wp2_with fail
  refine (HN.out _).mono ?_
  rintro e w1 ⟨rfl, hk1⟩
  have HB : Hid (AvAt (w1.alloc (.cells #[.bool true, .bool false, .int .i64 0, .int .i64 k, .string X] 33)) w1.heap.size ⟨true, false, 0, k, X⟩) := AvAt.new w1 ⟨true, false, 0, k, X⟩
  have HK2 := hid ((HK0.out.trans hk1).alloc (.cells #[.bool true, .bool false, .int .i64 0, .int .i64 k, .string X] 33))
  clear hk1 HK0 hp8 hvj
  go_upto_region 4 with fail
  generalize w1.alloc (.cells #[.bool true, .bool false, .int .i64 0, .int .i64 k, .string X] 33) = W2 at *
  generalize w1.heap.size = bx at *
  obtain ⟨t0, t1, t2, t3, t4⟩ := HB.out.cells
  simp only at t0 t1 t2 t3 t4
  have ho3 := own_one_av W2 ⟨true, false, 0, k, X⟩ W2.heap.size (Nat.le_refl _)
  have hk3 := (Kept.refl (fun _ => False) W2).alloc (.cells #[.bool true, .bool false, .int .i64 0, .int .i64 k, .string X] 33)
  simp only at ho3
  have hat := (HI.out.kept (HK2.out.trans hk3)).at_
  obtain ⟨v4, w4, hrun, hown4, hk4⟩ := OwnG.appendList tyAv encAv ho3 hk3.size p cap l (fun hne => AvsAt.src hat hne) (by simp; omega)
  unfold AppG at hrun
  have HK4 := hid (hk3.andThen hk4 (fun i hi e => by have := (OwnG.block ho3 e).2.1; omega))
  have HO4 := hid (OwnAv.at hown4)
  clear hk3 hk4 hown4 ho3 hat
  go_wp2_with (at_builtin; refine Lib.wpList_append_run _ rfl _ _ _ _ rfl _ _ rfl rfl _ _ (hrun _) ?_)
  clear hrun
  go_wp2_with fail
  refine (HNu.out _ _ HO4.out).mono ?_
  rintro e w5 ⟨rfl, hk5⟩
  have HK5 := hid (HK4.out.trans hk5)
  clear hk5 t0 t1 t2 t3 t4
  obtain ⟨t0, t1, t2, t3, t4⟩ := (HB.out.kept0 HK5.out).cells
  simp only at t0 t1 t2 t3 t4
  have ho6 := avs_one w5 ⟨true, false, 0, k, X⟩
  have hk6 := (Kept.refl (fun _ => False) w5).alloc (.cells #[.bool true, .bool false, .int .i64 0, .int .i64 k, .string X] 33)
  have HO6 := hid ho6
  have HK6 := hid (HK5.out.trans hk6)
  clear ho6 hk6
  go_wp2_with fail
  refine (HF.out _ _ HO6.out).mono ?_
  rintro e w7 ⟨rfl, hk7⟩
  have HK7 := hid (HK6.out.trans hk7)
  clear hk7 t0 t1 t2 t3 t4
  have q : ∀ W, Kept (fun _ => False) w7 W → W.cell? ⟨bx, 0, none⟩ = some (.bool true) ∧ W.cell? ⟨bx, 1, none⟩ = some (.bool false) ∧ W.cell? ⟨bx, 2, none⟩ = some (.int .i64 0) ∧ W.cell? ⟨bx, 3, none⟩ = some (.int .i64 k) ∧ W.cell? ⟨bx, 4, none⟩ = some (.string X) := fun W h => (HB.out.kept0 (HK7.out.trans h)).cells
  go_wp2_with fail
  refine (HA.out _).mono ?_
  rintro e w8 ⟨rfl, hk8⟩
  obtain ⟨t0, t1, t2, t3, t4⟩ := q _ hk8
  have HK8 := hid (HK2.out.trans (HK7.out.trans hk8))
  clear hk8 q
  go_wp2
  go_ret
  exact ⟨by first | rfl | simp, HK8.out⟩

theorem avpNums_walk (k v n : Int) (u : Value) (l : List Av) (w : World) (_hk : -9223372036854775808 ≤ k ∧ k ≤ 9223372036854775807) (hv : -9223372036854775808 ≤ v ∧ v ≤ 9223372036854775807) (hn : -9223372036854775808 ≤ n ∧ n ≤ 9223372036854775807) (hI : AvsIn w u l) (_hT : Tables w) :
    Calls Tryd.prog 5 #[.int .i64 k, .int .i64 v, .int .i64 n, u] w fun e w' => e = .returned (.bool true) ∧ Below w.heap.size w w' := by
  refine (?_ : Calls Tryd.prog 5 #[.int .i64 k, .int .i64 v, .int .i64 n, u] w fun e w' => e = .returned (.bool true) ∧ Kept (fun _ => False) w w').mono fun _ _ ⟨h1, h2⟩ => ⟨h1, below_of h2⟩
  cases hb : numsB v n with
  | false => exact avpNums_not k v n u l w hv hn hI (Or.inl hb)
  | true =>
    cases hl : lightA l with
    | false => exact avpNums_not k v n u l w hv hn hI (Or.inr hl)
    | true =>
      unfold numsB at hb
      simp only [Bool.and_eq_true, decide_eq_true_eq] at hb
      obtain ⟨b1, b2, b3, b4⟩ := hb
      obtain ⟨j, rfl⟩ := Int.eq_ofNat_of_zero_le (show 0 ≤ n by omega)
      rw [Int.toNat_natCast] at b4
      exact avpNums_in k v j u l w b3 b4 (by omega) (by omega) hI hl
end Go.Proofs.YtnghakhgogfemaaDoor
