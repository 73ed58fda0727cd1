/- math/bits.Mul64 by seven, Rem64 of a number of one word, and the tape's modulo. -/
import Derived.Test.YtklapjfljffahaaGreatProg
import Derived.WalkKit
import Derived.WalkSpells
import Derived.WalkLawsBesides
import Derived.Shelf.Bits.Mul64
import Derived.RegionTactic
import Derived.ChangeAlike
import Derived.BigRegion
import Derived.Deep.QuietTactic
import Derived.BigQuiet
namespace Go.Proofs.YtklapjfljffahaaGreat.Tp
open Go.RowKit Go.Shelf

def mulRen : Ren := ⟨fun | 264 => 129 | n => n, fun | 46 => 63 | 53 => 157 | n => n, fun n => n⟩
theorem mulLays : Lays.n264 Tryz.prog mulRen := {
  mixed := by kernel_rfl, f264 := by kernel_rfl,
  t46 := by kernel_rfl, a46 := fun w => by kernel_rfl, z46 := fun w => by kernel_rfl, v46 := fun w => by kernel_rfl,
  t53 := by kernel_rfl, a53 := fun w => by kernel_rfl, z53 := fun w => by kernel_rfl, v53 := fun w => by kernel_rfl }

theorem mul7 (y : Nat) (hy : y ≤ 1152921504606846976) (w : World) :
    Calls Tryz.prog 129 #[.int .u64 7, .int .u64 (y : Int)] w fun e w' => e = .returned (.tuple #[.int .u64 0, .int .u64 ((7 * y : Nat) : Int)]) ∧ w' = w := by
  refine (show Calls Tryz.prog 129 #[.int .u64 ((7 : Nat) : Int), .int .u64 (y : Int)] w _ from Any.bits_Mul64 mulLays 7 y (by omega) (by omega) w).mono ?_
  rintro e w' ⟨rfl, rfl⟩
  rw [Nat.div_eq_of_lt (by omega), Nat.mod_eq_of_lt (by omega)]
  exact ⟨rfl, rfl⟩
set_option maxHeartbeats 1000000 in
set_option maxRecDepth 100000 in
theorem div_low (lo n : Nat) (hn : 1 ≤ n) (hl : lo ≤ 9223372036854775807) (hn2 : n ≤ 9223372036854775807) (w : World) :
    Calls Tryz.prog 131 #[.int .u64 0, .int .u64 (lo : Int), .int .u64 (n : Int)] w fun e w' => (∃ a : Int, e = .returned (.tuple #[.int .u64 a, .int .u64 ((lo : Int) % (n : Int))])) ∧ ∃ q, w' = w.drewN q := by
  have h0 : ((n : Int) == 0) = false := by rw [beq_eq_false_iff_ne]; omega
  have h1 : ¬ ((n : Int) ≤ 0) := by omega
  go_enter Tryz.func131, Tryz.ntmps131
  go_wp2
  go_quiet (fail)
  go_wp2
  go_ret2
  exact ⟨⟨_, rfl⟩, _, rfl⟩

set_option maxHeartbeats 1000000 in
theorem rem_low (lo n : Nat) (hn : 1 ≤ n) (hl : lo ≤ 9223372036854775807) (hn2 : n ≤ 9223372036854775807) (w : World) :
    Calls Tryz.prog 130 #[.int .u64 0, .int .u64 (lo : Int), .int .u64 (n : Int)] w fun e w' => e = .returned (.int .u64 ((lo : Int) % (n : Int))) ∧ ∃ q, w' = w.drewN q := by
  have h0 : ((n : Int) == 0) = false := by rw [beq_eq_false_iff_ne]; omega
  have h1 : (0 : Int) % (n : Int) = 0 := by simp
  have hd := fun W => div_low lo n hn hl hn2 W
  have Hd : Hid (∀ W, Calls Tryz.prog 131 #[.int .u64 0, .int .u64 (lo : Int), .int .u64 (n : Int)] W fun e w' => (∃ a : Int, e = .returned (.tuple #[.int .u64 a, .int .u64 ((lo : Int) % (n : Int))])) ∧ ∃ q, w' = W.drewN q) := hd
  clear hd
  go_enter Tryz.func130, Tryz.ntmps130
  go_wp2_with (go_at_call 131; refine (Hd.out _).mono ?_; rintro e w' ⟨⟨a, rfl⟩, q, rfl⟩)
  go_ret
  exact ⟨rfl, q, rfl⟩

theorem tmod_mod (v n : Int) (hn : 1 ≤ n) : (if v.tmod n < 0 then v.tmod n + n else v.tmod n) = v % n := by
  rw [Int.tmod_eq_emod]
  have h1 := Int.emod_nonneg v (show n ≠ 0 by omega)
  have h2 := Int.emod_lt_of_pos v (show 0 < n by omega)
  split
  · split
    · omega
    · omega
  · rename_i h
    rw [Int.natAbs_of_nonneg (by omega)] 
    have : v % n ≠ 0 := fun e => h (Or.inr (Int.dvd_of_emod_eq_zero e))
    split
    · omega
    · omega

theorem modulo_any (v n : Int) (hn : 1 ≤ n) (hn2 : n ≤ 9223372036854775807) (w : World) :
    Calls Tryz.prog 128 #[.int .i64 v, .int .i64 n] w fun e w' => e = .returned (.int .i64 (v % n)) ∧ w' = w := by
  have hb : -n ≤ v.tmod n := by
    have h := tmod_mod v n hn
    have h1 := Int.emod_nonneg v (show n ≠ 0 by omega)
    split at h
    · omega
    · omega
  rw [← tmod_mod v n hn]
  have h0 : (n == 0) = false := by rw [beq_eq_false_iff_ne]; omega
  go_enter Tryz.func128, Tryz.ntmps128
  go_wp2
  all_goals go_ret
  · have e : wrap64 (v.tmod n + n) = v.tmod n + n := by unfold wrap64; omega
    exact ⟨by rw [← e]; rfl, rfl⟩
  · exact ⟨rfl, rfl⟩
end Go.Proofs.YtklapjfljffahaaGreat.Tp
