/- The library's table of powers of ten; strconv.Itoa by the library's contract. -/
import Derived.Test.YtblcojggjplndaaDoorLayItoa
import Derived.Test.YtblcojggjplndaaDoorKept
import Derived.Shelf.Strconv.Itoa3
import Derived.Lib.AppendIntMem
namespace Go.Proofs.YtblcojggjplndaaDoor
open Go.RowKit

/-- The library's table of powers of ten. -/
def PowTab (w : World) : Prop := Lib.TabIs Tryd.prog w "internal/strconv.uint64pow10" .u64 Lib.pow10Tab
theorem gPow0 : Tryd.prog.globalNamed "internal/strconv.uint64pow10" = some 0 := by kernel_rfl
theorem PowTab.lt {w : World} (h : PowTab w) : 0 < w.heap.size := by
  unfold PowTab Lib.TabIs World.var? at h
  rw [gPow0] at h
  simp only [Option.bind_some] at h
  rcases Nat.lt_or_ge 0 w.heap.size with h1 | h1
  · exact h1
  · rw [Array.getElem?_eq_none h1] at h
    simp at h
theorem PowTab.same {w w' : World} (h : PowTab w) (hb : w'.heap[0]? = w.heap[0]?) : PowTab w' := by
  unfold PowTab Lib.TabIs World.var? at *
  rw [gPow0] at h ⊢
  simp only [Option.bind_some] at h ⊢
  rw [hb]
  exact h
theorem PowTab.next {w w' : World} (h : PowTab w) (hb : Below w.heap.size w w') : PowTab w' := h.same (hb.block _ h.lt)
theorem PowTab.kept {w w' : World} (h : PowTab w) (hk : Kept (fun _ => False) w w') : PowTab w' := h.same (hk.block _ h.lt id)
/-- The table stays where nothing turns but what lies at base or behind. -/
theorem PowTab.keptAt {S : Nat → Prop} {w0 w w' : World} (h : PowTab w0) (h1 : Kept (fun _ => False) w0 w) (hk : Kept S w w') (hS : ∀ i, S i → w0.heap.size ≤ i) : PowTab w' :=
  (h.kept h1).same (hk.block _ (h.kept h1).lt (fun e => Nat.lt_irrefl _ (Nat.lt_of_lt_of_le h.lt (hS _ e))))
def itS (n : Int) : ByteArray := ⟨(Lib.itoa n).toArray⟩
theorem itoa_any (n : Int) (h0 : -9223372036854775808 ≤ n) (h1 : n ≤ 9223372036854775807) (w : World) (hT : PowTab w) :
    Calls Tryd.prog 29 #[.int .i64 n] w fun e w' => e = .returned (.string (itS n)) ∧ Kept (fun _ => False) w w' :=
  (Any.strconv_Itoa itoaLays n h0 h1 w hT).mono fun e w' ⟨he, k, os, hw⟩ => ⟨he, by
    rw [hw]
    exact Kept.of_below (Lib.below_grow _ w (Nat.le_refl _) k os) (fun i h2 h3 => by omega)⟩
end Go.Proofs.YtblcojggjplndaaDoor
