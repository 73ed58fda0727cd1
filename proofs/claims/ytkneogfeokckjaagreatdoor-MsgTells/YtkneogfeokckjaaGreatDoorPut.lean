/- The contracts of wire.Put, wire.Get and wire.GetPpp: what each returns, for every argument, the string's length being at most that of any string. -/
import Derived.Test.YtkneogfeokckjaaGreatDoorLow
import Derived.Test.YtkneogfeokckjaaGreatDoorClone
namespace Go.Proofs.YtkneogfeokckjaaGreatDoor
open Go.RowKit

theorem addr_add (g i : Nat) : (⟨g, 0, none⟩ : Addr).add i = ⟨g, i, none⟩ := by
  unfold Addr.add
  split
  · simp_all
  · simp

/-- 'string(b)' where the call itself owns b's bytes. -/
theorem conv_own {P : Program} {w : World} {base n : Nat} {e : TypeId} {v : Value} {l : List UInt8} (hown : w.ownsRow base e 1 v n (Lib.byteCells l)) (src dst : TypeId)
    (hs : P.underlying src = some (.slice e)) (he : P.underlying e = some (.int .u8)) (hd : P.underlying dst = some .string) :
    (convert src dst v).run P w = .ok (.string ⟨l.toArray⟩) w := by
  have hl : l.length = n := by have := hown.1; rw [Lib.byteCells_length] at this; omega
  rcases hown.2 with ⟨rfl, rfl⟩ | ⟨g, cap, cur, rfl, hg, hh, hn, hm, hc, ht⟩
  · have : l = [] := List.eq_nil_of_length_eq_zero hl
    subst this
    exact run_convert_bytes_nil w src e hs he 0 0 dst hd
  · have hb := run_convert_bytes_arg (P := P) w src e hs he g 0 n cap (l.map fun b => (b.toNat : Int)) (by simp [hl]) (fun i hi => by
      have hcell := hown.cells (g := g) rfl i (.int .u8 ((l[i]'(by omega)).toNat : Int)) (by simp [Lib.byteCells, List.getElem?_eq_getElem (show i < l.length by omega)])
      rw [addr_add] at hcell
      rw [Nat.zero_add, hcell]
      simp [List.getElem?_eq_getElem (show i < l.length by omega)]) dst hd
    rw [hb]
    congr 2
    apply ByteArray.ext
    apply Array.toList_inj.1
    rw [strOfNums_data, List.map_map]
    refine (List.map_congr_left (g := id) ?_).trans (List.map_id l)
    intro x _
    simp

theorem put_conv {w : World} {base n : Nat} {v : Value} {l : List UInt8} (hown : w.ownsRow base 5 1 v n (Lib.byteCells l)) :
    (convert 127 9 v).run Tryz.prog w = .ok (.string ⟨l.toArray⟩) w :=
  conv_own hown _ _ Tryz.underlying127 Tryz.underlying5 Tryz.underlying9

set_option maxRecDepth 100000 in
set_option maxHeartbeats 400000 in
theorem put_yes (a k : Nat) (hk1 : 1 ≤ k) (hk : k ≤ 4) (ha : a < 256 ^ k) (w : World) :
    Calls Tryz.prog 182 #[.int .i64 (a : Int), .int .i64 (k : Int)] w fun e w' => e = .returned (.tuple #[.string ⟨(low a k).toArray⟩, .int .i64 0]) ∧ Below w.heap.size w w' := by
  have hp : 256 ^ k ≤ 256 ^ 4 := Nat.pow_le_pow_right (by decide) hk
  have ha4 : a < 4294967296 := by omega
  have hsh : (a : Int) / 2 ^ (8 * k) = 0 := by
    have : a / 2 ^ (8 * k) = 0 := Nat.div_eq_of_lt (by rw [Nat.pow_mul]; exact ha)
    exact_mod_cast this
  have hnil : w.ownsRow w.heap.size 5 1 (.slice none 0 0) 0 (Lib.byteCells []) := World.ownsRow_nil _ _ _ _
  go_enter Tryz.func182, Tryz.ntmps182
  go_wp2_with (go_at_call 189; refine (lay_any w.heap.size (.slice none 0 0) 0 [] a (by omega) k hk1 hk w (Nat.le_refl _) hnil (by omega)).mono ?_; rintro e w1 ⟨v', rfl, hown1, hb1⟩; have hcv := put_conv hown1)
  go_ret2
  exact ⟨by simp, by assumption⟩

set_option maxRecDepth 100000 in
set_option maxHeartbeats 400000 in
theorem put_no (v n : Int) (hn : -9223372036854775808 ≤ n) (h : n < 1 ∨ 4 < n ∨ v < 0 ∨ ∃ k : Nat, n = k ∧ (256 ^ k : Nat) ≤ v) (w : World) :
    Calls Tryz.prog 182 #[.int .i64 v, .int .i64 n] w fun e w' => e = .returned (.tuple #[.string ⟨#[]⟩, .int .i64 1]) ∧ w' = w := by
  by_cases h1 : n < 1
  · go_enter Tryz.func182, Tryz.ntmps182
    go_wp2
    go_ret2
    exact ⟨rfl, rfl⟩
  by_cases h4 : 4 < n
  · go_enter Tryz.func182, Tryz.ntmps182
    go_wp2
    go_ret2
    exact ⟨rfl, rfl⟩
  by_cases h0 : v < 0
  · clear h
    go_enter Tryz.func182, Tryz.ntmps182
    go_wp2
    go_ret2
    exact ⟨rfl, rfl⟩
  obtain ⟨k, rfl, hk⟩ : ∃ k : Nat, n = k ∧ (256 ^ k : Nat) ≤ v := by
    rcases h with h | h | h | h
    · exact absurd h h1
    · exact absurd h h4
    · exact absurd h h0
    · exact h
  have hsh : (v / 2 ^ (8 * k) == 0) = false := by
    have hp : (2 : Int) ^ (8 * k) = ((256 ^ k : Nat) : Int) := by rw [Int.pow_mul]; norm_cast
    rw [hp, beq_eq_false_iff_ne]
    have : 1 ≤ v / ((256 ^ k : Nat) : Int) := by
      apply Int.le_ediv_of_mul_le
      · exact_mod_cast Nat.pow_pos (by decide)
      · omega
    omega
  clear h hk
  go_enter Tryz.func182, Tryz.ntmps182
  go_wp2
  go_ret2
  exact ⟨rfl, rfl⟩

set_option maxRecDepth 100000 in
set_option maxHeartbeats 400000 in
theorem get_yes (s : ByteArray) (hs : s.size ≤ maxLen) (at_ n : Nat) (hn1 : 1 ≤ n) (hn : n ≤ 4) (hle : at_ + n ≤ s.size) (w : World) :
    Calls Tryz.prog 185 #[.string s, .int .i64 (at_ : Int), .int .i64 (n : Int)] w fun e w' => e = .returned (.tuple #[.int .i64 (numOf ((s.data.toList.drop at_).take n) : Int), .int .i64 0]) ∧ w' = w := by
  unfold maxLen at hs
  have hsz : (s.extract at_ (at_ + n)).size ≤ 4 := by rw [ByteArray.size_extract]; omega
  go_enter Tryz.func185, Tryz.ntmps185
  go_wp2_with (go_at_call 191; refine (lift_any _ hsz _).mono ?_; rintro e w' ⟨rfl, rfl⟩)
  go_ret2
  exact ⟨rfl, rfl⟩

set_option maxRecDepth 100000 in
set_option maxHeartbeats 400000 in
theorem get_no (s : ByteArray) (a n : Int) (h : n < 1 ∨ 4 < n ∨ a < 0) (w : World) :
    Calls Tryz.prog 185 #[.string s, .int .i64 a, .int .i64 n] w fun e w' => e = .returned (.tuple #[.int .i64 0, .int .i64 1]) ∧ w' = w := by
  by_cases h1 : n < 1
  · go_enter Tryz.func185, Tryz.ntmps185
    go_wp2
    go_ret2
    exact ⟨rfl, rfl⟩
  by_cases h4 : 4 < n
  · go_enter Tryz.func185, Tryz.ntmps185
    go_wp2
    go_ret2
    exact ⟨rfl, rfl⟩
  have h0 : a < 0 := by omega
  go_enter Tryz.func185, Tryz.ntmps185
  go_wp2
  go_ret2
  exact ⟨rfl, rfl⟩

set_option maxRecDepth 100000 in
set_option maxHeartbeats 400000 in
theorem get_short (s : ByteArray) (hs : s.size ≤ maxLen) (a n : Int) (h1 : 1 ≤ n) (h4 : n ≤ 4) (h0 : 0 ≤ a) (hl : (s.size : Int) < a + n) (w : World) :
    Calls Tryz.prog 185 #[.string s, .int .i64 a, .int .i64 n] w fun e w' => e = .returned (.tuple #[.int .i64 0, .int .i64 5]) ∧ w' = w := by
  unfold maxLen at hs
  have hl2 : (s.size : Int) - n < a := by omega
  go_enter Tryz.func185, Tryz.ntmps185
  go_wp2
  go_ret2
  exact ⟨rfl, rfl⟩

set_option maxRecDepth 100000 in
/-- 'Put(v, n)'. -/
theorem put_any (v n : Int) (hn : -9223372036854775808 ≤ n) (w : World) :
    Calls Tryz.prog 182 #[.int .i64 v, .int .i64 n] w fun e w' => e = .returned (.tuple #[.string ⟨(putF v n).1.toArray⟩, .int .i64 (putF v n).2]) ∧ Below w.heap.size w w' := by
  by_cases h : 1 ≤ n ∧ n ≤ 4 ∧ 0 ≤ v ∧ v < ((256 ^ n.toNat : Nat) : Int)
  · have e : putF v n = (low v.toNat n.toNat, 0) := if_pos h
    rw [e]
    obtain ⟨h1, h4, h0, hv⟩ := h
    obtain ⟨k, rfl⟩ := Int.eq_ofNat_of_zero_le (show 0 ≤ n by omega)
    obtain ⟨a, rfl⟩ := Int.eq_ofNat_of_zero_le h0
    exact put_yes a k (by omega) (by omega) (by rw [Int.toNat_natCast] at hv; exact Int.ofNat_lt.1 hv) w
  · have e : putF v n = ([], 1) := if_neg h
    rw [e]
    refine (put_no v n hn ?_ w).mono ?_
    · by_cases h1 : n < 1
      · exact .inl h1
      by_cases h4 : 4 < n
      · exact .inr (.inl h4)
      by_cases h0 : v < 0
      · exact .inr (.inr (.inl h0))
      refine .inr (.inr (.inr ⟨n.toNat, by omega, ?_⟩))
      have : ¬ v < ((256 ^ n.toNat : Nat) : Int) := fun hc => h ⟨by omega, by omega, by omega, hc⟩
      omega
    · rintro e w' ⟨rfl, rfl⟩
      exact ⟨rfl, Below.refl _ _⟩

set_option maxRecDepth 100000 in
/-- 'Get(b, at, n)'. -/
theorem get_any (s : ByteArray) (hs : s.size ≤ maxLen) (a n : Int) (w : World) :
    Calls Tryz.prog 185 #[.string s, .int .i64 a, .int .i64 n] w fun e w' => e = .returned (.tuple #[.int .i64 ((getF s.data.toList a n).1 : Int), .int .i64 (getF s.data.toList a n).2]) ∧ w' = w := by
  by_cases h : 1 ≤ n ∧ n ≤ 4 ∧ 0 ≤ a
  · by_cases hl : a + n ≤ s.data.toList.length
    · have e : getF s.data.toList a n = (numOf ((s.data.toList.drop a.toNat).take n.toNat), 0) := by unfold getF; rw [if_pos h, if_pos hl]
      rw [e]
      obtain ⟨h1, h4, h0⟩ := h
      obtain ⟨k, rfl⟩ := Int.eq_ofNat_of_zero_le (show 0 ≤ n by omega)
      obtain ⟨b, rfl⟩ := Int.eq_ofNat_of_zero_le h0
      rw [← Lib.size_eq] at hl
      exact get_yes s hs b k (by omega) (by omega) (by omega) w
    · have e : getF s.data.toList a n = (0, 5) := by unfold getF; rw [if_pos h, if_neg hl]
      rw [e]
      rw [← Lib.size_eq] at hl
      exact get_short s hs a n h.1 h.2.1 h.2.2 (by omega) w
  · have e : getF s.data.toList a n = (0, 1) := if_neg h
    rw [e]
    exact get_no s a n (by omega) w

theorem size_two (s : ByteArray) : (s.extract 0 2).data.toList = s.data.toList.take 2 := by rw [Lib.extract_data]; simp
theorem numOf_two_lt (l : List UInt8) : numOf (l.take 2) ≤ 65535 := by
  have h := numOf_lt (l.take 2)
  have h2 : (l.take 2).length ≤ 2 := List.length_take_le _ _
  have : 256 ^ (l.take 2).length ≤ 256 ^ 2 := Nat.pow_le_pow_right (by decide) h2
  omega

end Go.Proofs.YtkneogfeokckjaaGreatDoor
