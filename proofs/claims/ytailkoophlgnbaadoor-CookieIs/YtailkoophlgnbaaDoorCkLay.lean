/- The contract of package cookie's inner lay: what b held, and the n lowest bytes of v; n is 1 to 8. And words on rows of bytes that grow. -/
import Derived.Test.YtailkoophlgnbaaDoorSame
import Derived.Test.YtailkoophlgnbaaDoorMd5
import Derived.Deep.AppendLies
import Derived.Lib.AppendZerosOnto
namespace Go.Proofs.YtailkoophlgnbaaDoor
open Go.RowKit

theorem lay_step {base : Nat} {w wr w1 : World} {u v' : Value} {n0 k j a : Nat} {bs : List UInt8} {o : Obj} (hj : j < k) (hb : base ≤ wr.heap.size) (hbel : Below base w wr)
    (hown : wr.ownsRow base 5 1 u (n0 + j) (Lib.byteCells (bs ++ low (a / 256 ^ (k - j)) j)))
    (hown' : w1.ownsRow base 5 1 v' (n0 + j + 1) (Lib.byteCells (bs ++ low (a / 256 ^ (k - j)) j) ++ [Value.int .u8 ((a : Int) / 2 ^ (8 * (k - 1 - j)) % 256)]))
    (hg : (wr.alloc o).grownBy w1 u.ownBlock) :
    w1.ownsRow base 5 1 v' (n0 + (j + 1)) (Lib.byteCells (bs ++ low (a / 256 ^ (k - (j + 1))) (j + 1))) ∧ Below base w w1 ∧ base ≤ w1.heap.size := by
  have hs : (wr.alloc o).heap.size = wr.heap.size + 1 := by simp
  have hb1 : Below base w w1 := (hbel.alloc hb o).grown hg (by omega) (fun g hgk => (hown.lt g hgk).1)
  have hs1 := hg.size
  refine ⟨?_, hb1, by omega⟩
  rw [low_snoc a k j hj, ← List.append_assoc, cells_snoc _ _ (Nat.mod_lt _ (by decide)), ← Nat.add_assoc]
  simpa using hown'
theorem append_more {base n m : Nat} {w w1 : World} {u v' : Value} {bs ns : List UInt8} (hb : base ≤ w.heap.size) (hown : w.ownsRow base 5 1 u n (Lib.byteCells bs))
    (hown' : w1.ownsRow base 5 1 v' (n + m) (Lib.byteCells bs ++ Lib.byteCells ns)) (hg : w.grownBy w1 u.ownBlock) :
    w1.ownsRow base 5 1 v' (n + m) (Lib.byteCells (bs ++ ns)) ∧ Below base w w1 := by
  refine ⟨?_, (Below.refl base w).grown hg hb (fun g hgk => (hown.lt g hgk).1)⟩
  rw [Lib.byteCells_append]
  exact hown'

set_option maxHeartbeats 400000 in
theorem ckLay_any (base : Nat) (v : Value) (n0 : Nat) (bs : List UInt8) (a : Nat) (_ha : a < 18446744073709551616) (k : Nat) (hk1 : 1 ≤ k) (hk : k ≤ 8) (w : World) (hb : base ≤ w.heap.size)
    (hown : w.ownsRow base 5 1 v n0 (Lib.byteCells bs)) (hn0 : n0 ≤ 1099511627776) :
    Calls Tryd.prog 24 #[v, .int .u64 (a : Int), .int .i64 (k : Int)] w fun e w' => ∃ v', e = .returned v' ∧ w'.ownsRow base 5 1 v' (n0 + k) (Lib.byteCells (bs ++ low a k)) ∧ Below base w w' := by
  obtain ⟨i0, hi, hz0, hz1, hz2⟩ := info_parts info5
  go_enter Tryd.func24, Tryd.ntmps24
  go_wp2
  go_loopw [0, 7] (fun v1 s wr => ∃ j : Nat, j ≤ k ∧ s = .int .i64 (8 * (k - 1 - j : Int)) ∧ wr.ownsRow base 5 1 v1 (n0 + j) (Lib.byteCells (bs ++ low (a / 256 ^ (k - j)) j)) ∧ Below base w wr ∧ base ≤ wr.heap.size)
    (fun _ s _ => (intOf s + 8).toNat)
  case atStart => exact ⟨0, Nat.zero_le _, by simp, by simpa [low] using hown, Below.refl _ _, hb⟩
  case round =>
    obtain ⟨j, hj, rfl, hownr, hbel, hbs⟩ := hrel
    by_cases hlt : j < k
    · go_wp2_with (at_builtin; refine wpList_append_own _ rfl _ _ 34 rfl base 5 i0 (.int .u8 0) 1 1 Tryd.underlying34 hi hz0 hz1 hz2 rfl (by decide) _ _ _ rfl (hownr.alloc _) ⟨wr.heap.size, 0, none⟩ 1 1 [.int .u8 ((a : Int) / 2 ^ (8 * (k - 1 - j)) % 256)] rfl rfl ?c1 ?c2 ?c3 ?c4 ?c5 ?_)
      case c1 => exact cell_one_new _ _ _
      case c2 => intro u hu; simp at hu; subst hu; rfl
      case c3 => unfold maxLen; omega
      case c4 => omega
      case c5 => simp; omega
      intro v' w1 hown' hgrow _
      have R := lay_step hlt hbs hbel hownr hown' hgrow
      clear hown' hgrow hownr
      go_wp2
      go_roundw
      case rel => exact ⟨j + 1, by omega, by go_num, R.1, R.2.1, R.2.2⟩
      case measure => simp [intOf]; omega
    · go_wp2
      go_ret
      obtain rfl : j = k := by omega
      exact ⟨_, rfl, by simpa using hownr, hbel⟩
end Go.Proofs.YtailkoophlgnbaaDoor
