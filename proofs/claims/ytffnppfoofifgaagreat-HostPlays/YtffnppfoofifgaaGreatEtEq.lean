/- Go's comparison of two cards: they are the same, or not. -/
import Derived.Test.YtffnppfoofifgaaGreatEtKit
import Derived.DeepKeys
import Derived.WalkKit
namespace Go.Proofs.YtffnppfoofifgaaGreat
open Go.RowKit

theorem cellsMac : Tryz.prog.cellsOf 23 = 6 := by kernel_rfl
theorem cells5 : Tryz.prog.cellsOf 5 = 1 := by kernel_rfl
theorem six_bytes {l : List UInt8} (h : l.length = 6) : ∃ a b c d e f, l = [a, b, c, d, e, f] := by
  match l, h with
  | [a, b, c, d, e, f], _ => exact ⟨a, b, c, d, e, f, rfl⟩
theorem byte_lits (d : Nat) (b : UInt8) : Tryz.prog.keyLits (d + 1) 5 [.int .u8 (b.toNat : Int)] = some [.int .u8 (b.toNat : Int)] := by
  have hb := b.toNat_lt
  have hw : (Lit.int .u8 (b.toNat : Int)).wf = true := WalkArith.wf_u8 (by omega)
  unfold Program.keyLits
  rw [Tryz.underlying5]
  simp [hw]
theorem mac_lits2 (d : Nat) (l : List UInt8) (h : l.length = 6) : Tryz.prog.keyLits (d + 2) 23 (Lib.byteCells l) = some (l.map fun b => Lit.int .u8 (b.toNat : Int)) := by
  obtain ⟨a, b, c, e, f, g, rfl⟩ := six_bytes h
  have hr : List.range 6 = [0, 1, 2, 3, 4, 5] := rfl
  unfold Program.keyLits
  rw [Tryz.underlying23]
  simp [cellsMac, cells5, Lib.byteCells, hr, byte_lits]
theorem lits_inj {a b : List UInt8} (h : (a.map fun b => Lit.int .u8 (b.toNat : Int)) = (b.map fun b => Lit.int .u8 (b.toNat : Int))) : a = b := by
  induction a generalizing b with
  | nil => cases b with
    | nil => rfl
    | cons y b => simp at h
  | cons x a ih => cases b with
    | nil => simp at h
    | cons y b =>
      simp only [List.map_cons, List.cons.injEq, Lit.int.injEq] at h
      obtain ⟨⟨_, h1⟩, h2⟩ := h
      have h3 : x.toNat = y.toNat := by omega
      rw [UInt8.toNat_inj.1 h3, ih h2]
theorem mac_eq_at (n : Nat) (a b : List UInt8) (ha : a.length = 6) (hb : b.length = 6) (W : World) :
    Sem.run Tryz.prog (Op.equalIn (n + 2) 23 (.agg (Lib.byteCells a).toArray) (.agg (Lib.byteCells b).toArray)) W = .ok (decide (a = b)) W := by
  have hk : Tryz.prog.keyTypeAt 2 23 = true := by kernel_rfl
  have hf : ∀ l : List UInt8, l.length = 6 → (Value.agg (Lib.byteCells l).toArray).formed Tryz.prog 23 = true := fun l hl => by simp [Value.formed, Tryz.underlying23, cellsMac, Lib.byteCells_length, hl]
  obtain ⟨r, hr, hiff⟩ := run_equalIn_deep (P := Tryz.prog) n 2 23 hk W 2 2 (.agg (Lib.byteCells a).toArray) (.agg (Lib.byteCells b).toArray) _ _ (hf a ha) (hf b hb) (mac_lits2 0 a ha) (mac_lits2 0 b hb)
  have hd : decide (a = b) = r := by
    cases r with
    | true => exact decide_eq_true (lits_inj (hiff.1 rfl))
    | false =>
      refine decide_eq_false (fun e => ?_)
      have := hiff.2 (by rw [e])
      cases this
  rw [hd]
  exact hr
theorem mac_eq (a b : List UInt8) (ha : a.length = 6) (hb : b.length = 6) (W : World) :
    Sem.run Tryz.prog (Op.equalIn 10000 23 (.agg (Lib.byteCells a).toArray) (.agg (Lib.byteCells b).toArray)) W = .ok (decide (a = b)) W := mac_eq_at 9998 a b ha hb W
theorem mac_eq9 (a b : List UInt8) (ha : a.length = 6) (hb : b.length = 6) (W : World) :
    Sem.run Tryz.prog (Op.equalIn 9999 23 (.agg (Lib.byteCells a).toArray) (.agg (Lib.byteCells b).toArray)) W = .ok (decide (a = b)) W := mac_eq_at 9997 a b ha hb W
end Go.Proofs.YtffnppfoofifgaaGreat
