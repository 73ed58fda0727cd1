/- '==' of two items, by Go's comparison. -/
import Derived.Test.YtoflohomnoppnaaCnItem
import Derived.DeepKeys
namespace Go.Proofs.Ytoflohomnoppnaa
open Go.RowKit

structure IteOk (i : Ite) : Prop where
  ns : -9223372036854775808 ≤ i.ns ∧ i.ns ≤ 9223372036854775807
  nr : -9223372036854775808 ≤ i.nr ∧ i.nr ≤ 9223372036854775807
  body : i.body.size ≤ maxLen
def sameI (i j : Ite) : Bool := decide (i.ns = j.ns) && (decide (i.nr = j.nr) && decide (i.body = j.body))
theorem sameI_iff {i j : Ite} : sameI i j = true ↔ i = j := by
  obtain ⟨a, b, x⟩ := i
  obtain ⟨c, d, y⟩ := j
  simp [sameI]
theorem cellsIte : Try.prog.cellsOf 25 = 3 := by kernel_rfl
theorem cellsIntN : Try.prog.cellsOf 3 = 1 := by kernel_rfl
theorem cellsStrN : Try.prog.cellsOf 9 = 1 := by kernel_rfl
theorem bytes_ext' {x y : ByteArray} (h : x.data.toList = y.data.toList) : x = y := by
  cases x; cases y
  simp at h
  simp [h]
theorem iteLits (d : Nat) {i : Ite} (h : IteOk i) : Try.prog.keyLits (d + 2) 25 [.int .i64 i.ns, .int .i64 i.nr, .string i.body] = some [.int .i64 i.ns, .int .i64 i.nr, .string i.body.data.toList] := by
  have hn : ∀ z : Int, -9223372036854775808 ≤ z ∧ z ≤ 9223372036854775807 → Try.prog.keyLits (d + 1) 3 [.int .i64 z] = some [.int .i64 z] := fun z hz => by
    unfold Program.keyLits
    rw [Try.underlying3]
    simp [WalkArith.wf_i64 hz]
  have hs : Try.prog.keyLits (d + 1) 9 [.string i.body] = some [.string i.body.data.toList] := by
    unfold Program.keyLits
    rw [Try.underlying9]
    simp [h.body]
  unfold Program.keyLits
  rw [Try.underlying25]
  simp [cellsIte, cellsIntN, cellsStrN, hn _ h.ns, hn _ h.nr, hs]
set_option maxRecDepth 100000 in
theorem ite_eqIn {i j : Ite} (hi : IteOk i) (hj : IteOk j) (W : World) : Sem.run Try.prog (Op.equalIn 10000 25 (iteV i) (iteV j)) W = .ok (sameI i j) W := by
  have hk : Try.prog.keyTypeAt 2 25 = true := by kernel_rfl
  have hf : ∀ i, (iteV i).formed Try.prog 25 = true := fun i => by simp [iteV, Value.formed, Try.underlying25, cellsIte]
  obtain ⟨r, hr, hiff⟩ := run_equalIn_deep (P := Try.prog) 9998 2 25 hk W 2 2 (iteV i) (iteV j) _ _ (hf i) (hf j) (iteLits 0 hi) (iteLits 0 hj)
  have hr' : (Op.equalIn 10000 25 (iteV i) (iteV j)).run Try.prog W = .ok r W := hr
  have hd : sameI i j = r := by
    cases r with
    | true =>
      have h3 := hiff.1 rfl
      simp only [List.cons.injEq, Lit.int.injEq, Lit.string.injEq, and_true, true_and] at h3
      rw [sameI_iff]
      obtain ⟨a, b, x⟩ := i
      obtain ⟨c, d, y⟩ := j
      obtain ⟨h4, h5, h6⟩ := h3
      dsimp only at h4 h5 h6
      rw [h4, h5, bytes_ext' h6]
    | false =>
      cases hs : sameI i j with
      | false => rfl
      | true =>
        have := hiff.2 (by rw [sameI_iff.1 hs])
        cases this
  rw [hd]
  exact hr'
theorem ite_eql {i j : Ite} (hi : IteOk i) (hj : IteOk j) (W : World) : (binOp .eql 25 (iteV i) (iteV j)).run Try.prog W = .ok (.bool (sameI i j)) W := by
  have e := ite_eqIn hi hj W
  unfold iteV at e ⊢
  rw [run_eql_struct, e]
  rfl
end Go.Proofs.Ytoflohomnoppnaa
