/- The contract of Net.Cut. -/
import Derived.Test.YtegofkpiipomfaaAlive4
namespace Go.Proofs.Ytegofkpiipomfaa
open Go.RowKit

/-- A pair is cut from now on, or not. -/
def cutS (s : NetSt) (k i : Int) (on : Bool) : NetSt := { s with cuts := if on then dropC s.cuts k i ++ [(k, i)] else dropC s.cuts k i }

section
variable {S : Nat → Prop} {w : World} {b : Nat} {s : NetSt}

set_option maxHeartbeats 1000000 in
set_option maxRecDepth 100000 in
theorem mend_any (h : NetAt S w b s) {k i : Int} (hk : In64 k) (hi : In64 i) :
    Calls Try.prog 16 #[.pointer (some ⟨b, 0, none⟩), .agg #[.int .i64 k, .int .i64 i], .bool false] w fun e w' => e = .returned (.tuple #[]) ∧ Next S w w' b (cutS s k i false) := by
  obtain ⟨gv, tm, cm, hN, hS⟩ := h
  have c2 := fun o => (hN.alloc o).c2
  have hd := fun o => (hN.alloc o).drew.cs.drop hk hi 0
  obtain ⟨F, hF⟩ := skolem1 hd
  have s1 : ∀ o ty, (Builtin.delete_ #[33, 48] ty #[.map cm, .agg #[.int .i64 k, .int .i64 i]]).run Try.prog (w.alloc o).drew = .ok (.tuple #[]) (F o) := fun o ty => (hF o).1
  have fin : Hid (∀ o, Next S w (F o) b (cutS s k i false)) := fun o =>
    ⟨ofNet b gv tm cm, ⟨gv, tm, cm, (hN.alloc o).drew.cutted (hF o).2.2.1 (hF o).2.1, fun _ => Iff.rfl⟩, fun j hj => Or.inl ((hS j).2 hj), (((Kept.refl S w).alloc o).drew).grown (hF o).2.2.1 (fun j hj => Or.inr ((hS j).2 (Or.inr (Or.inr (Or.inr hj)))))⟩
  clear hF hd hN hS
  go_enter Try.func16, Try.ntmps16
  go_wp2
  go_region
  all_goals go_wp2
  all_goals (try simp only [Exit.inBlock, Exit.then])
  all_goals refine bodyPost_ret (results_none rfl _ _ _) rfl ?_
  all_goals exact ⟨rfl, fin.out _⟩

/-- There is a map of cuts now; the box of the pair. -/
def CMapped (w wx : World) (b : Nat) (gv : Value) (tm cm : Option Nat) (mb : Nat) (s : NetSt) (k i : Int) : Prop :=
  NetIn wx b gv tm (some mb) s ∧ Kept (ofNet b gv tm cm) w wx ∧ wx.cell? ⟨w.heap.size, 0, none⟩ = some (.int .i64 k) ∧ wx.cell? ⟨w.heap.size, 1, none⟩ = some (.int .i64 i) ∧ (cm = some mb ∨ w.heap.size ≤ mb)

set_option maxHeartbeats 1000000 in
set_option maxRecDepth 100000 in
theorem cut_any (h : NetAt S w b s) {k i : Int} (hk : In64 k) (hi : In64 i) (hroom : s.cuts.length < 1000000) :
    Calls Try.prog 16 #[.pointer (some ⟨b, 0, none⟩), .agg #[.int .i64 k, .int .i64 i], .bool true] w fun e w' => e = .returned (.tuple #[]) ∧ Next S w w' b (cutS s k i true) := by
  obtain ⟨gv, tm, cm, h1, hS⟩ := h
  have H1 := hid h1
  have HS := hid hS
  have hne := h1.lt (Or.inl rfl)
  have HK : Hid (In64 k ∧ In64 i ∧ s.cuts.length < 1000000) := ⟨hk, hi, hroom⟩
  have c2 := fun o => (h1.alloc o).c2
  have hE : ∀ w, (binOp .eql 33 (.map cm) (.map none)).run Try.prog w = .ok (.bool cm.isNone) w := fun w => by
    cases cm
    · exact eqCutNil w
    · exact eqCutSome _ w
  clear h1 hS hk hi hroom
  go_enter Try.func16, Try.ntmps16
  go_upto_if 19 with fail
  go_cut [4] (fun v4 wx => v4 = .pointer (some ⟨w.heap.size, 0, none⟩) ∧ ∃ mb', CMapped w wx b gv tm cm mb' s k i)
  case first =>
    have h1 := H1.out
    cases cm with
    | some mb =>
      clear h1
      go_wp2
      go_meet
      refine ⟨rfl, mb, H1.out.alloc _, (Kept.refl _ w).alloc _, ?_, ?_, Or.inl rfl⟩
      all_goals go_simp
    | none =>
      have c2' := fun o o' => ((h1.alloc o).alloc o').c2
      have f2 := fun o => (h1.alloc o).f 2
      have f2' := fun o o' => ((h1.alloc o).alloc o').f 2
      have het : s.cuts = [] := h1.cs
      have hes : ({ s with cuts := [] } : NetSt) = s := by rw [← het]
      have hmm := @run_makeMap Try.prog
      clear h1
      go_wp2
      go_meet
      have h2 := (H1.out.alloc (.cells #[.int .i64 k, .int .i64 i] 48)).set2
      rw [hes] at h2
      have hk2 : Kept (fun i => i = b) (w.alloc (.cells #[.int .i64 k, .int .i64 i] 48)) _ := ((Kept.refl (fun i => i = b) (w.alloc (.cells #[.int .i64 k, .int .i64 i] 48))).alloc (.map #[] 0)).setCell (p := ⟨b, 2, none⟩) (Or.inr rfl) (.map (some (w.alloc (.cells #[.int .i64 k, .int .i64 i] 48)).heap.size))
      have hsz : (w.alloc (.cells #[.int .i64 k, .int .i64 i] 48)).heap.size = w.heap.size + 1 := by simp
      rw [hsz] at h2 hk2
      rw [World.setCell_alloc_past _ _ _ _ (by rw [hsz]; omega), World.setCell_alloc_past _ _ _ _ hne] at h2 hk2
      refine ⟨rfl, w.heap.size + 1, h2, (((Kept.refl _ w).setCell (p := ⟨b, 2, none⟩) (Or.inr (Or.inl rfl)) _).alloc _).alloc _, (hk2.cell (p := ⟨w.heap.size, 0, none⟩) (by simp) (fun e => by simp at e; omega)).trans (by simp), (hk2.cell (p := ⟨w.heap.size, 1, none⟩) (by simp) (fun e => by simp at e; omega)).trans (by simp), Or.inr (by omega)⟩
  case rest =>
    clear c2 hE
    obtain ⟨rfl, mb, h1, hkp, p0, p1, hmt⟩ := hcut
    obtain ⟨hk, hi, hroom⟩ := HK.out
    obtain ⟨wF, s1, s2, s3, s4⟩ := h1.drew.cs.store hroom hk hi
    have fin : Hid (Next S w wF b (cutS s k i true)) := by
      refine ⟨ofNet b gv tm (some mb), ⟨gv, tm, some mb, h1.drew.cutted s3 s2, fun _ => Iff.rfl⟩, fun j hj => ?_, (hkp.drew.grown s3 (fun j hj => ?_)).mono (fun j _ hj => (HS.out j).2 hj)⟩
      · rcases hj with hj | hj | hj | hj
        · exact Or.inl ((HS.out j).2 (Or.inl hj))
        · exact Or.inl ((HS.out j).2 (Or.inr (Or.inl hj)))
        · exact Or.inl ((HS.out j).2 (Or.inr (Or.inr (Or.inl hj))))
        · cases hj
          exact hmt.elim (fun h => Or.inl ((HS.out _).2 (Or.inr (Or.inr (Or.inr h))))) Or.inr
      · cases hj
        exact hmt.elim (fun h => Or.inr (Or.inr (Or.inr (Or.inr h)))) Or.inl
    have c2 := h1.c2
    unfold keyV at s1
    clear h1 hkp hk hi hroom s2 s3 s4 HK hmt
    go_wp2
    go_region
    all_goals go_wp2
    all_goals go_end0
    all_goals exact ⟨rfl, fin.out⟩

end
end Go.Proofs.Ytegofkpiipomfaa
