/- Two small steps over package wire's lay and over append from a string: what the call owns behind them, within the bounds that stand in each theorem. -/
import Derived.Test.YtlimnhlgjjgdeaaPut
import Derived.Lib.AppendStr
namespace Go.Proofs.Ytlimnhlgjjgdeaa
open Go.RowKit

theorem lay_two (base : Nat) (v : Value) (n0 : Nat) (bs : List UInt8) (a : Nat) (ha : a < 9223372036854775808) (w : World) (hb : base ≤ w.heap.size)
    (hown : w.ownsRow base 5 1 v n0 (Lib.byteCells bs)) (hn0 : n0 ≤ 1099511627776) :
    Calls Try.prog 22 #[v, .int .i64 (a : Int), .int .i64 2] w fun e w' => ∃ v', e = .returned v' ∧ w'.ownsRow base 5 1 v' (n0 + 2) (Lib.byteCells (bs ++ low a 2)) ∧ Below base w w' :=
  lay_any base v n0 bs a ha 2 (by decide) (by decide) w hb hown hn0
theorem append_str {base n : Nat} {w w1 : World} {u v' : Value} {bs : List UInt8} {s : ByteArray} (hb : base ≤ w.heap.size) (hown : w.ownsRow base 5 1 u n (Lib.byteCells bs))
    (hown' : w1.ownsRow base 5 1 v' (n + s.size) (Lib.byteCells bs ++ Lib.strCells s)) (hg : w.grownBy w1 u.ownBlock) :
    w1.ownsRow base 5 1 v' (n + s.size) (Lib.byteCells (bs ++ s.data.toList)) ∧ Below base w w1 := by
  refine ⟨?_, (Below.refl base w).grown hg hb (fun g hgk => (hown.lt g hgk).1)⟩
  rw [Lib.byteCells_append]
  exact hown'
end Go.Proofs.Ytlimnhlgjjgdeaa
