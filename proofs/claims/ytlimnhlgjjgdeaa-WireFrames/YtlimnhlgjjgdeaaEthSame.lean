/- Two frames that are the same are the same by Go's comparison; for every frame whose data is no longer than a string may be. -/
import Derived.Test.YtlimnhlgjjgdeaaArgs
import Derived.DeepKeys
import Derived.WalkKit
namespace Go.Proofs.Ytlimnhlgjjgdeaa
open Go.RowKit
theorem six {l : List UInt8} (h : l.length = 6) : ∃ a b c d e f, l = [a, b, c, d, e, f] := by
  match l, h with
  | [a, b, c, d, e, f], _ => exact ⟨a, b, c, d, e, f, rfl⟩
theorem byte_lits (d : Nat) (b : UInt8) : Try.prog.keyLits (d + 1) 5 [.int .u8 (b.toNat : Int)] = some [.int .u8 (b.toNat : Int)] := by
  have hb := b.toNat_lt
  have hw : (Lit.int .u8 (b.toNat : Int)).wf = true := WalkArith.wf_u8 (by omega)
  unfold Program.keyLits
  rw [Try.underlying5]
  simp [hw]
theorem mac_lits (d : Nat) (l : List UInt8) (h : l.length = 6) : ∃ L, Try.prog.keyLits (d + 2) 23 (Lib.byteCells l) = some L := by
  obtain ⟨a, b, c, e, f, g, rfl⟩ := six h
  refine ⟨[.int .u8 (a.toNat : Int), .int .u8 (b.toNat : Int), .int .u8 (c.toNat : Int), .int .u8 (e.toNat : Int), .int .u8 (f.toNat : Int), .int .u8 (g.toNat : Int)], ?_⟩
  have hr : List.range 6 = [0, 1, 2, 3, 4, 5] := rfl
  unfold Program.keyLits
  rw [Try.underlying23]
  simp [cellsMac, cells5, Lib.byteCells, hr, byte_lits]
theorem eth_lits (d s : List UInt8) (hd : d.length = 6) (hs : s.length = 6) (ty : Int) (ht : (Lit.int .i64 ty).wf = true) (x : ByteArray) (hx : x.size ≤ maxLen) : ∃ L, Try.prog.keyLits 3 25 (ethCells d s ty x) = some L := by
  obtain ⟨L1, h1⟩ := mac_lits 0 d hd
  obtain ⟨L2, h2⟩ := mac_lits 0 s hs
  have h3 : Try.prog.keyLits 2 3 [.int .i64 ty] = some [.int .i64 ty] := by
    unfold Program.keyLits
    rw [Try.underlying3]
    simp [ht]
  have h4 : Try.prog.keyLits 2 9 [.string x] = some [.string x.data.toList] := by
    unfold Program.keyLits
    rw [Try.underlying9]
    simp [hx]
  refine ⟨L1 ++ (L2 ++ ([.int .i64 ty] ++ [.string x.data.toList])), ?_⟩
  have e1 : (ethCells d s ty x).take 6 = Lib.byteCells d := by
    unfold ethCells
    rw [List.take_append_of_le_length (by rw [Lib.byteCells_length]; omega)]
    exact List.take_of_length_le (by rw [Lib.byteCells_length]; omega)
  have e2 : ((ethCells d s ty x).drop 6).take 6 = Lib.byteCells s := by
    have h := List.drop_left (l₁ := Lib.byteCells d) (l₂ := Lib.byteCells s ++ [.int .i64 ty, .string x])
    rw [Lib.byteCells_length, hd] at h
    unfold ethCells
    rw [h, List.take_append_of_le_length (by rw [Lib.byteCells_length]; omega)]
    exact List.take_of_length_le (by rw [Lib.byteCells_length]; omega)
  have e3 : (ethCells d s ty x).drop 12 = [.int .i64 ty, .string x] := by
    have h := List.drop_left (l₁ := Lib.byteCells d ++ Lib.byteCells s) (l₂ := [.int .i64 ty, .string x])
    rw [List.length_append, Lib.byteCells_length, Lib.byteCells_length, hd, hs] at h
    unfold ethCells
    rw [← List.append_assoc]
    exact h
  have e4 : (ethCells d s ty x).drop 13 = [.string x] := by
    have h : ((ethCells d s ty x).drop 12).drop 1 = [.string x] := by rw [e3]; rfl
    rw [List.drop_drop] at h
    exact h
  have hl : (ethCells d s ty x).length = 14 := by simp [ethCells, Lib.byteCells, hd, hs]
  unfold Program.keyLits
  rw [Try.underlying25]
  simp [cellsEth, hl, cellsMac, cells3, cells9, e1, e2, e3, e4, h1, h2, h3, h4]
theorem eth_same (d s : List UInt8) (hd : d.length = 6) (hs : s.length = 6) (ty : Int) (ht : (Lit.int .i64 ty).wf = true) (x : ByteArray) (hx : x.size ≤ maxLen) (W : World) :
    (binOp .neq 25 (.agg (ethCells d s ty x).toArray) (.agg (ethCells d s ty x).toArray)).run Try.prog W = .ok (.bool false) W := by
  obtain ⟨L, h⟩ := eth_lits d s hd hs ty ht x hx
  have hk : Try.prog.keyTypeAt 3 25 = true := by kernel_rfl
  have hl : (ethCells d s ty x).length = 14 := by simp [ethCells, Lib.byteCells, hd, hs]
  have hf : (Value.agg (ethCells d s ty x).toArray).formed Try.prog 25 = true := by simp [Value.formed, Try.underlying25, cellsEth, hl]
  obtain ⟨r, hr, hiff⟩ := run_equalIn_deep (P := Try.prog) 9997 3 25 hk W 3 3 (.agg (ethCells d s ty x).toArray) (.agg (ethCells d s ty x).toArray) L L hf hf h h
  rw [run_neq_struct]
  have hr' : (Op.equalIn 10000 25 (.agg (ethCells d s ty x).toArray) (.agg (ethCells d s ty x).toArray)).run Try.prog W = .ok r W := hr
  rw [hr', hiff.2 rfl]
  rfl
end Go.Proofs.Ytlimnhlgjjgdeaa
