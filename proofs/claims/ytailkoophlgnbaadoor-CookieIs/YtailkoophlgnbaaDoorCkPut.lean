/- The contracts of package wire's inner lay and of Put where the number fits: the n lowest bytes of a number. -/
import Derived.Test.YtailkoophlgnbaaDoorCkLay
namespace Go.Proofs.YtailkoophlgnbaaDoor
open Go.RowKit

set_option maxHeartbeats 400000 in
/-- 'lay(b, v, n)': what b held, and the n lowest bytes of v. -/
theorem lay_any (base : Nat) (v : Value) (n0 : Nat) (bs : List UInt8) (a : Nat) (_ha : a < 9223372036854775808) (k : Nat) (hk1 : 1 ≤ k) (hk : k ≤ 4) (w : World) (hb : base ≤ w.heap.size)
    (hown : w.ownsRow base 5 1 v n0 (Lib.byteCells bs)) (hn0 : n0 ≤ 1099511627776) :
    Calls Tryd.prog 20 #[v, .int .i64 (a : Int), .int .i64 (k : Int)] w fun e w' => ∃ v', e = .returned v' ∧ w'.ownsRow base 5 1 v' (n0 + k) (Lib.byteCells (bs ++ low a k)) ∧ Below base w w' := by
  obtain ⟨i0, hi, hz0, hz1, hz2⟩ := info_parts info5
  go_enter Tryd.func20, Tryd.ntmps20
  go_wp2
  go_loopw [0, 7] (fun v1 s wr => ∃ j : Nat, j ≤ k ∧ s = .int .i64 (8 * (k - 1 - j : Int)) ∧ wr.ownsRow base 5 1 v1 (n0 + j) (Lib.byteCells (bs ++ low (a / 256 ^ (k - j)) j)) ∧ Below base w wr ∧ base ≤ wr.heap.size)
    (fun _ s _ => (intOf s + 8).toNat)
  case atStart => exact ⟨0, Nat.zero_le _, by simp, by simpa [low] using hown, Below.refl _ _, hb⟩
  case round =>
    obtain ⟨j, hj, rfl, hownr, hbel, hbs⟩ := hrel
    by_cases hlt : j < k
    · go_wp2_with (at_builtin; refine wpList_append_own _ rfl _ _ 34 rfl base 5 i0 (.int .u8 0) 1 1 Tryd.underlying34 hi hz0 hz1 hz2 rfl (by decide) _ _ _ rfl (hownr.alloc _) ⟨wr.heap.size, 0, none⟩ 1 1 [.int .u8 ((a : Int) / 2 ^ (8 * (k - 1 - j)) % 256)] rfl rfl ?c1 ?c2 ?c3 ?c4 ?c5 ?_)
      case c1 => exact cell_one_new _ _ _
      case c2 => intro u hu; simp at hu; subst hu; rfl
      case c3 => unfold maxLen; omega
      case c4 => omega
      case c5 => simp; omega
      intro v' w1 hown' hgrow _
      have R := lay_step hlt hbs hbel hownr hown' hgrow
      clear hown' hgrow hownr
      go_wp2
      go_roundw
      case rel => exact ⟨j + 1, by omega, by go_num, R.1, R.2.1, R.2.2⟩
      case measure => simp [intOf]; omega
    · go_wp2
      go_ret
      obtain rfl : j = k := by omega
      exact ⟨_, rfl, by simpa using hownr, hbel⟩

set_option maxHeartbeats 400000 in
theorem put_yes (a k : Nat) (hk1 : 1 ≤ k) (hk : k ≤ 4) (ha : a < 256 ^ k) (w : World) :
    Calls Tryd.prog 14 #[.int .i64 (a : Int), .int .i64 (k : Int)] w fun e w' => e = .returned (.tuple #[.string ⟨(low a k).toArray⟩, .int .i64 0]) ∧ Below w.heap.size w w' := by
  have hp : 256 ^ k ≤ 256 ^ 4 := Nat.pow_le_pow_right (by decide) hk
  have ha4 : a < 4294967296 := by omega
  have hsh : (a : Int) / 2 ^ (8 * k) = 0 := by
    have : a / 2 ^ (8 * k) = 0 := Nat.div_eq_of_lt (by rw [Nat.pow_mul]; exact ha)
    exact_mod_cast this
  have hnil : w.ownsRow w.heap.size 5 1 (.slice none 0 0) 0 (Lib.byteCells []) := World.ownsRow_nil _ _ _ _
  go_enter Tryd.func14, Tryd.ntmps14
  go_wp2_with (go_at_call 20; refine (lay_any w.heap.size (.slice none 0 0) 0 [] a (by omega) k hk1 hk w (Nat.le_refl _) hnil (by omega)).mono ?_; rintro e w1 ⟨v', rfl, hown1, hb1⟩; have hcv := put_conv hown1)
  go_ret2
  exact ⟨by simp, by assumption⟩

end Go.Proofs.YtailkoophlgnbaaDoor
