/- The contracts of the concentrator's inner use and known. -/
import Derived.Test.YtgaamehjdoakhaaDoorAcTake
namespace Go.Proofs.YtgaamehjdoakhaaDoor
open Go.RowKit

set_option maxHeartbeats 4000000 in
set_option maxRecDepth 100000 in
theorem use_none {S : Nat → Prop} (b : Nat) (c : Cs) (hg : Good c) (m : List UInt8) (hm : m.length = 6) (n : Int) (hn : In64 n) (w : World) (hA : CAt S w b c) (hf : findS c.sess m n = none) :
    Calls Tryd.prog 24 #[.pointer (some ⟨b, 0, none⟩), idV m n] w fun e w' => e = .returned (.bool false) ∧ Kept (fun _ => False) w w' := by
  obtain ⟨mb, gv, hC, hS⟩ := hA
  obtain ⟨y0, y1, y2, y3, y4, y5, hy⟩ := six_cells hm
  obtain ⟨x0, x1, x2, x3, x4, x5, hx⟩ := six_cells hg.mac
  have hiv : idV m n = .agg #[.int .u8 y0, .int .u8 y1, .int .u8 y2, .int .u8 y3, .int .u8 y4, .int .u8 y5, .int .i64 n] := by unfold idV idCells; rw [hy]; rfl
  obtain ⟨w1, hw1⟩ : ∃ w1, w1 = w.alloc (.cells #[.int .u8 y0, .int .u8 y1, .int .u8 y2, .int .u8 y3, .int .u8 y4, .int .u8 y5, .int .i64 n] 27) := ⟨_, rfl⟩
  have hk1 : Kept (fun _ => False) w w1 := by rw [hw1]; exact (Kept.refl _ w).alloc _
  have hB1 : Box7 w1 w.heap.size #[.int .u8 y0, .int .u8 y1, .int .u8 y2, .int .u8 y3, .int .u8 y4, .int .u8 y5, .int .i64 n] := by rw [hw1]; exact heap_alloc_new w _
  have hC1 := hC.kept0 hk1
  have hcc := hC1.cells hx
  have ql : ∀ W, Kept (fun _ => False) w1 W → Sem.run Tryd.prog (Instr.lookup 31 (.map (some mb)) (.agg #[.int .u8 y0, .int .u8 y1, .int .u8 y2, .int .u8 y3, .int .u8 y4, .int .u8 y5, .int .i64 n]) true) W = .ok (.tuple #[.agg #[.string ⟨#[]⟩, .bool false], .bool false]) W := fun W h => by
    have := (hC1.kept0 h).ses.look true hm hn
    rw [hf, hiv] at this
    exact this
  have q10 : ∀ W, Kept (fun _ => False) w1 W → W.cell? ⟨b, 10, none⟩ = some (.map (some mb)) := fun W h => (h.cell (p := ⟨b, 10, none⟩) (lt_of_cell hcc.c10) id).trans hcc.c10
  have r0 : ∀ W, Kept (fun _ => False) w1 W → W.cell? ⟨w.heap.size, 0, none⟩ = some (.int .u8 y0) := fun W h => (hB1.kept h id).cell 0
  have r1 : ∀ W, Kept (fun _ => False) w1 W → W.cell? ⟨w.heap.size, 1, none⟩ = some (.int .u8 y1) := fun W h => (hB1.kept h id).cell 1
  have r2 : ∀ W, Kept (fun _ => False) w1 W → W.cell? ⟨w.heap.size, 2, none⟩ = some (.int .u8 y2) := fun W h => (hB1.kept h id).cell 2
  have r3 : ∀ W, Kept (fun _ => False) w1 W → W.cell? ⟨w.heap.size, 3, none⟩ = some (.int .u8 y3) := fun W h => (hB1.kept h id).cell 3
  have r4 : ∀ W, Kept (fun _ => False) w1 W → W.cell? ⟨w.heap.size, 4, none⟩ = some (.int .u8 y4) := fun W h => (hB1.kept h id).cell 4
  have r5 : ∀ W, Kept (fun _ => False) w1 W → W.cell? ⟨w.heap.size, 5, none⟩ = some (.int .u8 y5) := fun W h => (hB1.kept h id).cell 5
  have r6 : ∀ W, Kept (fun _ => False) w1 W → W.cell? ⟨w.heap.size, 6, none⟩ = some (.int .i64 n) := fun W h => (hB1.kept h id).cell 6
  rw [hiv]
  have hsz1 : w1.heap.size = w.heap.size + 1 := by rw [hw1]; simp
  have Hk1 := hid hk1
  have hL : (w1.alloc (.cells #[.string ⟨#[]⟩, .bool false] 82)).drew.heap[w.heap.size + 1]? = some (.cells #[.string ⟨#[]⟩, .bool false] 82 (0, 0)) := by rw [← hsz1]; exact heap_alloc_new w1 _
  go_enter Tryd.func24, Tryd.ntmps24
  go_wp2
  rw [← hw1]
  clear hw1
  refine wp_region_held_drew (S := Kept (fun _ => False) w1) (by kernel_rfl) ((Kept.refl _ w1).drew) (fun hSd => ?_)
  refine wpAnyH_take (i := 0) (v := ?_) rfl (by kernel_rfl) (by kernel_rfl) (by kernel_rfl) (fun _ _ _ h => h) (Or.inl ⟨by kernel_rfl, fun W hSW => by go_simp; try with_reducible rfl⟩) (by assumption) ?_
  try simp only [List.getElem_toArray]
  try simp only [List.getElem_cons_succ]
  try simp only [List.getElem_cons_zero]
  try simp only [Act.put]
  try simp only [List.setIfInBounds_toArray]
  try simp only [List.set_cons_succ]
  try simp only [List.set_cons_zero]
  refine wpAnyH_take (i := 1) (v := ?_) rfl (by kernel_rfl) (by kernel_rfl) (by kernel_rfl) (fun _ _ _ h => h) (Or.inl ⟨by kernel_rfl, fun W hSW => by go_simp; try with_reducible rfl⟩) (by assumption) ?_
  try simp only [List.getElem_toArray]
  try simp only [List.getElem_cons_succ]
  try simp only [List.getElem_cons_zero]
  try simp only [Act.put]
  try simp only [List.setIfInBounds_toArray]
  try simp only [List.set_cons_succ]
  try simp only [List.set_cons_zero]
  refine wpAnyH_take (i := 2) (v := ?_) rfl (by kernel_rfl) (by kernel_rfl) (by kernel_rfl) (fun _ _ _ h => h) (Or.inl ⟨by kernel_rfl, fun W hSW => by go_simp; try with_reducible rfl⟩) (by assumption) ?_
  try simp only [List.getElem_toArray]
  try simp only [List.getElem_cons_succ]
  try simp only [List.getElem_cons_zero]
  try simp only [Act.put]
  try simp only [List.setIfInBounds_toArray]
  try simp only [List.set_cons_succ]
  try simp only [List.set_cons_zero]
  refine wpAnyH_take (i := 3) (v := ?_) rfl (by kernel_rfl) (by kernel_rfl) (by kernel_rfl) (fun _ _ _ h => h) (Or.inl ⟨by kernel_rfl, fun W hSW => by go_simp; try with_reducible rfl⟩) (by assumption) ?_
  try simp only [List.getElem_toArray]
  try simp only [List.getElem_cons_succ]
  try simp only [List.getElem_cons_zero]
  try simp only [Act.put]
  try simp only [List.setIfInBounds_toArray]
  try simp only [List.set_cons_succ]
  try simp only [List.set_cons_zero]
  refine wpAnyH_take (i := 4) (v := ?_) rfl (by kernel_rfl) (by kernel_rfl) (by kernel_rfl) (fun _ _ _ h => h) (Or.inl ⟨by kernel_rfl, fun W hSW => by go_simp; try with_reducible rfl⟩) (by assumption) ?_
  try simp only [List.getElem_toArray]
  try simp only [List.getElem_cons_succ]
  try simp only [List.getElem_cons_zero]
  try simp only [Act.put]
  try simp only [List.setIfInBounds_toArray]
  try simp only [List.set_cons_succ]
  try simp only [List.set_cons_zero]
  refine wpAnyH_take (i := 5) (v := ?_) rfl (by kernel_rfl) (by kernel_rfl) (by kernel_rfl) (fun _ _ _ h => h) (Or.inl ⟨by kernel_rfl, fun W hSW => by go_simp; try with_reducible rfl⟩) (by assumption) ?_
  try simp only [List.getElem_toArray]
  try simp only [List.getElem_cons_succ]
  try simp only [List.getElem_cons_zero]
  try simp only [Act.put]
  try simp only [List.setIfInBounds_toArray]
  try simp only [List.set_cons_succ]
  try simp only [List.set_cons_zero]
  refine wpAnyH_take (i := 6) (v := ?_) rfl (by kernel_rfl) (by kernel_rfl) (by kernel_rfl) (fun _ _ _ h => h) (Or.inl ⟨by kernel_rfl, fun W hSW => by go_simp; try with_reducible rfl⟩) (by assumption) ?_
  try simp only [List.getElem_toArray]
  try simp only [List.getElem_cons_succ]
  try simp only [List.getElem_cons_zero]
  try simp only [Act.put]
  try simp only [List.setIfInBounds_toArray]
  try simp only [List.set_cons_succ]
  try simp only [List.set_cons_zero]
  refine wpAnyH_take (i := 7) (v := ?_) rfl (by kernel_rfl) (by kernel_rfl) (by kernel_rfl) (fun _ _ _ h => h) (Or.inl ⟨by kernel_rfl, fun W hSW => by go_simp; try with_reducible rfl⟩) (by assumption) ?_
  try simp only [List.getElem_toArray]
  try simp only [List.getElem_cons_succ]
  try simp only [List.getElem_cons_zero]
  try simp only [Act.put]
  try simp only [List.setIfInBounds_toArray]
  try simp only [List.set_cons_succ]
  try simp only [List.set_cons_zero]
  refine wpAnyH_take (i := 8) (v := ?_) rfl (by kernel_rfl) (by kernel_rfl) (by kernel_rfl) (fun _ _ _ h => h) (Or.inl ⟨by kernel_rfl, fun W hSW => by go_simp; try with_reducible rfl⟩) (by assumption) ?_
  try simp only [List.getElem_toArray]
  try simp only [List.getElem_cons_succ]
  try simp only [List.getElem_cons_zero]
  try simp only [Act.put]
  try simp only [List.setIfInBounds_toArray]
  try simp only [List.set_cons_succ]
  try simp only [List.set_cons_zero]
  refine wpAnyH_ready (rs := [9]) (by kernel_rfl) (by simp) ?_
  refine AllReadyH.cons rfl (fun K hK => ?_) AllReadyH.nil
  go_simp
  refine hK.out _ _ (((Kept.refl _ w1).alloc _).drew) (fun _ => ?_)
  clear hK K
  try simp only [List.getElem_toArray]
  try simp only [List.getElem_cons_succ]
  try simp only [List.getElem_cons_zero]
  try simp only [Act.put]
  try simp only [List.setIfInBounds_toArray]
  try simp only [List.set_cons_succ]
  try simp only [List.set_cons_zero]
  refine wpAnyH_ready (rs := [10]) (by kernel_rfl) (by simp) ?_
  refine AllReadyH.cons rfl (fun K hK => ?_) AllReadyH.nil
  refine step_store_row rfl _ _ _ rfl (w.heap.size + 1) #[.string ⟨#[]⟩, .bool false] #[.string ⟨#[]⟩, .bool false] rfl rfl hL (by kernel_rfl) rfl (by simp [Value.oneCell']) ?_
  refine hK.out _ _ (((Kept.refl _ w1).alloc _).drew.setRow (Or.inl (by omega)) _) (fun _ => ?_)
  clear hK K
  try simp only [List.getElem_toArray]
  try simp only [List.getElem_cons_succ]
  try simp only [List.getElem_cons_zero]
  try simp only [Act.put]
  try simp only [List.setIfInBounds_toArray]
  try simp only [List.set_cons_succ]
  try simp only [List.set_cons_zero]
  refine wpAnyH_take (i := 11) (v := ?_) rfl (by kernel_rfl) (by kernel_rfl) (by kernel_rfl) (fun _ _ _ h => h) (Or.inl ⟨by kernel_rfl, fun W hSW => by go_simp; try with_reducible rfl⟩) (by assumption) ?_
  try simp only [List.getElem_toArray]
  try simp only [List.getElem_cons_succ]
  try simp only [List.getElem_cons_zero]
  try simp only [Act.put]
  try simp only [List.setIfInBounds_toArray]
  try simp only [List.set_cons_succ]
  try simp only [List.set_cons_zero]
  refine wpAnyH_done (by kernel_rfl) ?_ _
  have K3 : Kept (fun _ => False) w1 ((w1.alloc (.cells #[.string ⟨#[]⟩, .bool false] 82)).drew.setRow (w.heap.size + 1) #[.string ⟨#[]⟩, .bool false]) := ((Kept.refl _ w1).alloc _).drew.setRow (Or.inl (by omega)) _
  have hL3 := setRow_heap (w1.alloc (.cells #[.string ⟨#[]⟩, .bool false] 82)).drew (w.heap.size + 1) #[.string ⟨#[]⟩, .bool false] #[.string ⟨#[]⟩, .bool false] 82 (0, 0) hL
  generalize (w1.alloc (.cells #[.string ⟨#[]⟩, .bool false] 82)).drew.setRow (w.heap.size + 1) #[.string ⟨#[]⟩, .bool false] = w3 at *
  go_wp2
  go_ret
  exact ⟨rfl, Hk1.out.trans K3⟩

set_option maxHeartbeats 4000000 in
set_option maxRecDepth 100000 in
theorem use_some {S : Nat → Prop} (b : Nat) (c : Cs) (hg : Good c) (m : List UInt8) (hm : m.length = 6) (n : Int) (hn : In64 n) (w : World) (hA : CAt S w b c) (k : Nat) (hk : k ≤ 65535) (hnk : n = (k : Int)) (x : Sn) (hf : findS c.sess m n = some x) :
    Calls Tryd.prog 24 #[.pointer (some ⟨b, 0, none⟩), idV m n] w fun e w' => e = .returned (.bool true) ∧ CNext S w w' b { c with sess := dropS c.sess m n ++ [⟨m, k, x.uniq, true⟩] } := by
  have Hnk := hid hnk
  clear hnk
  obtain ⟨mb, gv, hC, hS⟩ := hA
  obtain ⟨y0, y1, y2, y3, y4, y5, hy⟩ := six_cells hm
  obtain ⟨x0, x1, x2, x3, x4, x5, hx⟩ := six_cells hg.mac
  have hiv : idV m n = .agg #[.int .u8 y0, .int .u8 y1, .int .u8 y2, .int .u8 y3, .int .u8 y4, .int .u8 y5, .int .i64 n] := by unfold idV idCells; rw [hy]; rfl
  obtain ⟨w1, hw1⟩ : ∃ w1, w1 = w.alloc (.cells #[.int .u8 y0, .int .u8 y1, .int .u8 y2, .int .u8 y3, .int .u8 y4, .int .u8 y5, .int .i64 n] 27) := ⟨_, rfl⟩
  have hk1 : Kept (fun _ => False) w w1 := by rw [hw1]; exact (Kept.refl _ w).alloc _
  have hB1 : Box7 w1 w.heap.size #[.int .u8 y0, .int .u8 y1, .int .u8 y2, .int .u8 y3, .int .u8 y4, .int .u8 y5, .int .i64 n] := by rw [hw1]; exact heap_alloc_new w _
  have hC1 := hC.kept0 hk1
  have hcc := hC1.cells hx
  have ql : ∀ W, Kept (fun _ => False) w1 W → Sem.run Tryd.prog (Instr.lookup 31 (.map (some mb)) (.agg #[.int .u8 y0, .int .u8 y1, .int .u8 y2, .int .u8 y3, .int .u8 y4, .int .u8 y5, .int .i64 n]) true) W = .ok (.tuple #[.agg #[.string x.uniq, .bool x.used], .bool true]) W := fun W h => by
    have := (hC1.kept0 h).ses.look true hm hn
    rw [hf, hiv] at this
    exact this
  have q10 : ∀ W, Kept (fun _ => False) w1 W → W.cell? ⟨b, 10, none⟩ = some (.map (some mb)) := fun W h => (h.cell (p := ⟨b, 10, none⟩) (lt_of_cell hcc.c10) id).trans hcc.c10
  have r0 : ∀ W, Kept (fun _ => False) w1 W → W.cell? ⟨w.heap.size, 0, none⟩ = some (.int .u8 y0) := fun W h => (hB1.kept h id).cell 0
  have r1 : ∀ W, Kept (fun _ => False) w1 W → W.cell? ⟨w.heap.size, 1, none⟩ = some (.int .u8 y1) := fun W h => (hB1.kept h id).cell 1
  have r2 : ∀ W, Kept (fun _ => False) w1 W → W.cell? ⟨w.heap.size, 2, none⟩ = some (.int .u8 y2) := fun W h => (hB1.kept h id).cell 2
  have r3 : ∀ W, Kept (fun _ => False) w1 W → W.cell? ⟨w.heap.size, 3, none⟩ = some (.int .u8 y3) := fun W h => (hB1.kept h id).cell 3
  have r4 : ∀ W, Kept (fun _ => False) w1 W → W.cell? ⟨w.heap.size, 4, none⟩ = some (.int .u8 y4) := fun W h => (hB1.kept h id).cell 4
  have r5 : ∀ W, Kept (fun _ => False) w1 W → W.cell? ⟨w.heap.size, 5, none⟩ = some (.int .u8 y5) := fun W h => (hB1.kept h id).cell 5
  have r6 : ∀ W, Kept (fun _ => False) w1 W → W.cell? ⟨w.heap.size, 6, none⟩ = some (.int .i64 n) := fun W h => (hB1.kept h id).cell 6
  rw [hiv]
  have hsz1 : w1.heap.size = w.heap.size + 1 := by rw [hw1]; simp
  have Hk1 := hid hk1
  have hL : (w1.alloc (.cells #[.string ⟨#[]⟩, .bool false] 82)).drew.heap[w.heap.size + 1]? = some (.cells #[.string ⟨#[]⟩, .bool false] 82 (0, 0)) := by rw [← hsz1]; exact heap_alloc_new w1 _
  go_enter Tryd.func24, Tryd.ntmps24
  go_wp2
  rw [← hw1]
  clear hw1
  refine wp_region_held_drew (S := Kept (fun _ => False) w1) (by kernel_rfl) ((Kept.refl _ w1).drew) (fun hSd => ?_)
  refine wpAnyH_take (i := 0) (v := ?_) rfl (by kernel_rfl) (by kernel_rfl) (by kernel_rfl) (fun _ _ _ h => h) (Or.inl ⟨by kernel_rfl, fun W hSW => by go_simp; try with_reducible rfl⟩) (by assumption) ?_
  try simp only [List.getElem_toArray]
  try simp only [List.getElem_cons_succ]
  try simp only [List.getElem_cons_zero]
  try simp only [Act.put]
  try simp only [List.setIfInBounds_toArray]
  try simp only [List.set_cons_succ]
  try simp only [List.set_cons_zero]
  refine wpAnyH_take (i := 1) (v := ?_) rfl (by kernel_rfl) (by kernel_rfl) (by kernel_rfl) (fun _ _ _ h => h) (Or.inl ⟨by kernel_rfl, fun W hSW => by go_simp; try with_reducible rfl⟩) (by assumption) ?_
  try simp only [List.getElem_toArray]
  try simp only [List.getElem_cons_succ]
  try simp only [List.getElem_cons_zero]
  try simp only [Act.put]
  try simp only [List.setIfInBounds_toArray]
  try simp only [List.set_cons_succ]
  try simp only [List.set_cons_zero]
  refine wpAnyH_take (i := 2) (v := ?_) rfl (by kernel_rfl) (by kernel_rfl) (by kernel_rfl) (fun _ _ _ h => h) (Or.inl ⟨by kernel_rfl, fun W hSW => by go_simp; try with_reducible rfl⟩) (by assumption) ?_
  try simp only [List.getElem_toArray]
  try simp only [List.getElem_cons_succ]
  try simp only [List.getElem_cons_zero]
  try simp only [Act.put]
  try simp only [List.setIfInBounds_toArray]
  try simp only [List.set_cons_succ]
  try simp only [List.set_cons_zero]
  refine wpAnyH_take (i := 3) (v := ?_) rfl (by kernel_rfl) (by kernel_rfl) (by kernel_rfl) (fun _ _ _ h => h) (Or.inl ⟨by kernel_rfl, fun W hSW => by go_simp; try with_reducible rfl⟩) (by assumption) ?_
  try simp only [List.getElem_toArray]
  try simp only [List.getElem_cons_succ]
  try simp only [List.getElem_cons_zero]
  try simp only [Act.put]
  try simp only [List.setIfInBounds_toArray]
  try simp only [List.set_cons_succ]
  try simp only [List.set_cons_zero]
  refine wpAnyH_take (i := 4) (v := ?_) rfl (by kernel_rfl) (by kernel_rfl) (by kernel_rfl) (fun _ _ _ h => h) (Or.inl ⟨by kernel_rfl, fun W hSW => by go_simp; try with_reducible rfl⟩) (by assumption) ?_
  try simp only [List.getElem_toArray]
  try simp only [List.getElem_cons_succ]
  try simp only [List.getElem_cons_zero]
  try simp only [Act.put]
  try simp only [List.setIfInBounds_toArray]
  try simp only [List.set_cons_succ]
  try simp only [List.set_cons_zero]
  refine wpAnyH_take (i := 5) (v := ?_) rfl (by kernel_rfl) (by kernel_rfl) (by kernel_rfl) (fun _ _ _ h => h) (Or.inl ⟨by kernel_rfl, fun W hSW => by go_simp; try with_reducible rfl⟩) (by assumption) ?_
  try simp only [List.getElem_toArray]
  try simp only [List.getElem_cons_succ]
  try simp only [List.getElem_cons_zero]
  try simp only [Act.put]
  try simp only [List.setIfInBounds_toArray]
  try simp only [List.set_cons_succ]
  try simp only [List.set_cons_zero]
  refine wpAnyH_take (i := 6) (v := ?_) rfl (by kernel_rfl) (by kernel_rfl) (by kernel_rfl) (fun _ _ _ h => h) (Or.inl ⟨by kernel_rfl, fun W hSW => by go_simp; try with_reducible rfl⟩) (by assumption) ?_
  try simp only [List.getElem_toArray]
  try simp only [List.getElem_cons_succ]
  try simp only [List.getElem_cons_zero]
  try simp only [Act.put]
  try simp only [List.setIfInBounds_toArray]
  try simp only [List.set_cons_succ]
  try simp only [List.set_cons_zero]
  refine wpAnyH_take (i := 7) (v := ?_) rfl (by kernel_rfl) (by kernel_rfl) (by kernel_rfl) (fun _ _ _ h => h) (Or.inl ⟨by kernel_rfl, fun W hSW => by go_simp; try with_reducible rfl⟩) (by assumption) ?_
  try simp only [List.getElem_toArray]
  try simp only [List.getElem_cons_succ]
  try simp only [List.getElem_cons_zero]
  try simp only [Act.put]
  try simp only [List.setIfInBounds_toArray]
  try simp only [List.set_cons_succ]
  try simp only [List.set_cons_zero]
  refine wpAnyH_take (i := 8) (v := ?_) rfl (by kernel_rfl) (by kernel_rfl) (by kernel_rfl) (fun _ _ _ h => h) (Or.inl ⟨by kernel_rfl, fun W hSW => by go_simp; try with_reducible rfl⟩) (by assumption) ?_
  try simp only [List.getElem_toArray]
  try simp only [List.getElem_cons_succ]
  try simp only [List.getElem_cons_zero]
  try simp only [Act.put]
  try simp only [List.setIfInBounds_toArray]
  try simp only [List.set_cons_succ]
  try simp only [List.set_cons_zero]
  refine wpAnyH_ready (rs := [9]) (by kernel_rfl) (by simp) ?_
  refine AllReadyH.cons rfl (fun K hK => ?_) AllReadyH.nil
  go_simp
  refine hK.out _ _ (((Kept.refl _ w1).alloc _).drew) (fun _ => ?_)
  clear hK K
  try simp only [List.getElem_toArray]
  try simp only [List.getElem_cons_succ]
  try simp only [List.getElem_cons_zero]
  try simp only [Act.put]
  try simp only [List.setIfInBounds_toArray]
  try simp only [List.set_cons_succ]
  try simp only [List.set_cons_zero]
  refine wpAnyH_ready (rs := [10]) (by kernel_rfl) (by simp) ?_
  refine AllReadyH.cons rfl (fun K hK => ?_) AllReadyH.nil
  refine step_store_row rfl _ _ _ rfl (w.heap.size + 1) #[.string ⟨#[]⟩, .bool false] #[.string x.uniq, .bool x.used] rfl rfl hL (by kernel_rfl) rfl (by simp [Value.oneCell']) ?_
  refine hK.out _ _ (((Kept.refl _ w1).alloc _).drew.setRow (Or.inl (by omega)) _) (fun _ => ?_)
  clear hK K
  try simp only [List.getElem_toArray]
  try simp only [List.getElem_cons_succ]
  try simp only [List.getElem_cons_zero]
  try simp only [Act.put]
  try simp only [List.setIfInBounds_toArray]
  try simp only [List.set_cons_succ]
  try simp only [List.set_cons_zero]
  refine wpAnyH_take (i := 11) (v := ?_) rfl (by kernel_rfl) (by kernel_rfl) (by kernel_rfl) (fun _ _ _ h => h) (Or.inl ⟨by kernel_rfl, fun W hSW => by go_simp; try with_reducible rfl⟩) (by assumption) ?_
  try simp only [List.getElem_toArray]
  try simp only [List.getElem_cons_succ]
  try simp only [List.getElem_cons_zero]
  try simp only [Act.put]
  try simp only [List.setIfInBounds_toArray]
  try simp only [List.set_cons_succ]
  try simp only [List.set_cons_zero]
  refine wpAnyH_done (by kernel_rfl) ?_ _
  have K3 : Kept (fun _ => False) w1 ((w1.alloc (.cells #[.string ⟨#[]⟩, .bool false] 82)).drew.setRow (w.heap.size + 1) #[.string x.uniq, .bool x.used]) := ((Kept.refl _ w1).alloc _).drew.setRow (Or.inl (by omega)) _
  have hL3 := setRow_heap (w1.alloc (.cells #[.string ⟨#[]⟩, .bool false] 82)).drew (w.heap.size + 1) #[.string ⟨#[]⟩, .bool false] #[.string x.uniq, .bool x.used] 82 (0, 0) hL
  generalize (w1.alloc (.cells #[.string ⟨#[]⟩, .bool false] 82)).drew.setRow (w.heap.size + 1) #[.string x.uniq, .bool x.used] = w3 at *
  have e1 : w3.cell? ⟨w.heap.size + 1, 1, none⟩ = some (.bool x.used) := cell_of_row w3 (w.heap.size + 1) 1 _ _ _ hL3
  have g1 : w3.frozen? ⟨w.heap.size + 1, 1, none⟩ = false := frozen_of_row w3 (w.heap.size + 1) 1 _ _ hL3
  have K4 : Kept (fun _ => False) w1 (w3.setCell ⟨w.heap.size + 1, 1, none⟩ (.bool true)) := K3.setCell (p := ⟨w.heap.size + 1, 1, none⟩) (Or.inl (by show w1.heap.size ≤ w.heap.size + 1; omega)) _
  have hL4 : (w3.setCell ⟨w.heap.size + 1, 1, none⟩ (.bool true)).heap[w.heap.size + 1]? = some (.cells #[.string x.uniq, .bool true] 82 (0, 0)) := Joins.block_setCell hL3 (i := 1) (.bool true)
  clear ql q10 r0 r1 r2 r3 r4 r5 r6 hL3 K3 hL
  go_wp2
  generalize w3.setCell ⟨w.heap.size + 1, 1, none⟩ (.bool true) = w4 at *
  clear e1 g1
  have hC4 := hC1.kept0 K4
  have hB4 := hB1.kept K4 id
  have hlen : c.sess.length < 1000 := by have := hg.len; have := hg.most; omega
  have hnm := hC4.nm
  have hmlt : mb < w.heap.size := hC.lt (Or.inr (Or.inl rfl))
  have hblt : b < w.heap.size := hC.lt (Or.inl rfl)
  have hcc4 := hC4.cells hx
  have hl4 : w.heap.size + 1 < w4.heap.size := (Array.getElem?_eq_some_iff.1 hL4).1
  obtain ⟨F, hF1, hF2, hF3, hF4⟩ : ∃ F, Sem.run Tryd.prog (Instr.mapUpdate 31 (.map (some mb)) (.agg #[.int .u8 y0, .int .u8 y1, .int .u8 y2, .int .u8 y3, .int .u8 y4, .int .u8 y5, .int .i64 n]) (.agg #[.string x.uniq, .bool true])) w4.drew = .ok () F ∧ SsIn F mb (dropS c.sess m n ++ [⟨m, k, x.uniq, true⟩]) ∧ w4.drew.grownBy F (some mb) ∧ F.heap.size = w4.drew.heap.size := by
    obtain ⟨F, h1, h2, h3, h4⟩ := hC4.drew.ses.store hlen hm hk x.uniq true
    rw [← Hnk.out, hiv] at h1
    rw [← Hnk.out] at h2
    exact ⟨F, h1, h2, h3, h4⟩
  have hSF : Kept (fun i => i = mb) w4 F := (Kept.refl _ w4).drew.grown hF3 (fun j hj => by cases hj; exact Or.inr rfl)
  have s10 : ∀ W, Kept (fun i => i = mb) w4 W → W.cell? ⟨b, 10, none⟩ = some (.map (some mb)) := fun W h => (h.cell (p := ⟨b, 10, none⟩) (lt_of_cell hcc4.c10) (fun e => hnm e.symm)).trans hcc4.c10
  have t0 : ∀ W, Kept (fun i => i = mb) w4 W → W.cell? ⟨w.heap.size, 0, none⟩ = some (.int .u8 y0) := fun W h => (hB4.kept h (by show w.heap.size ≠ mb; omega)).cell 0
  have t1 : ∀ W, Kept (fun i => i = mb) w4 W → W.cell? ⟨w.heap.size, 1, none⟩ = some (.int .u8 y1) := fun W h => (hB4.kept h (by show w.heap.size ≠ mb; omega)).cell 1
  have t2 : ∀ W, Kept (fun i => i = mb) w4 W → W.cell? ⟨w.heap.size, 2, none⟩ = some (.int .u8 y2) := fun W h => (hB4.kept h (by show w.heap.size ≠ mb; omega)).cell 2
  have t3 : ∀ W, Kept (fun i => i = mb) w4 W → W.cell? ⟨w.heap.size, 3, none⟩ = some (.int .u8 y3) := fun W h => (hB4.kept h (by show w.heap.size ≠ mb; omega)).cell 3
  have t4 : ∀ W, Kept (fun i => i = mb) w4 W → W.cell? ⟨w.heap.size, 4, none⟩ = some (.int .u8 y4) := fun W h => (hB4.kept h (by show w.heap.size ≠ mb; omega)).cell 4
  have t5 : ∀ W, Kept (fun i => i = mb) w4 W → W.cell? ⟨w.heap.size, 5, none⟩ = some (.int .u8 y5) := fun W h => (hB4.kept h (by show w.heap.size ≠ mb; omega)).cell 5
  have t6 : ∀ W, Kept (fun i => i = mb) w4 W → W.cell? ⟨w.heap.size, 6, none⟩ = some (.int .i64 n) := fun W h => (hB4.kept h (by show w.heap.size ≠ mb; omega)).cell 6
  have l0 : ∀ W, Kept (fun i => i = mb) w4 W → W.cell? ⟨w.heap.size + 1, 0, none⟩ = some (.string x.uniq) := fun W h => (h.cell (p := ⟨w.heap.size + 1, 0, none⟩) hl4 (by show w.heap.size + 1 ≠ mb; omega)).trans (cell_of_row w4 (w.heap.size + 1) 0 _ _ _ hL4)
  have l1 : ∀ W, Kept (fun i => i = mb) w4 W → W.cell? ⟨w.heap.size + 1, 1, none⟩ = some (.bool true) := fun W h => (h.cell (p := ⟨w.heap.size + 1, 1, none⟩) hl4 (by show w.heap.size + 1 ≠ mb; omega)).trans (cell_of_row w4 (w.heap.size + 1) 1 _ _ _ hL4)
  have Hfin : Hid (CNext S w F b { c with sess := dropS c.sess m n ++ [⟨m, k, x.uniq, true⟩] }) := by
    refine ⟨S, ⟨mb, gv, hC4.drew.turned hF3 hF2, hS⟩, fun _ h => Or.inl h, ?_⟩
    exact ((Hk1.out.trans K4).mono (T := S) (fun _ _ h => h.elim)).andThen hSF (fun i _ e => (hS i).2 (Or.inr (Or.inl e)))
  clear hF2 hF3 hF4 hcc4 hC4 hB4 hL4
  refine wp_region_held_drew (S := Kept (fun i => i = mb) w4) (by kernel_rfl) ((Kept.refl _ w4).drew) (fun hSd => ?_)
  refine wpAnyH_take (i := 0) (v := ?_) rfl (by kernel_rfl) (by kernel_rfl) (by kernel_rfl) (fun _ _ _ h => h) (Or.inl ⟨by kernel_rfl, fun W hSW => by go_simp; try with_reducible rfl⟩) (by assumption) ?_
  try simp only [List.getElem_toArray]
  try simp only [List.getElem_cons_succ]
  try simp only [List.getElem_cons_zero]
  try simp only [Act.put]
  try simp only [List.setIfInBounds_toArray]
  try simp only [List.set_cons_succ]
  try simp only [List.set_cons_zero]
  refine wpAnyH_take (i := 1) (v := ?_) rfl (by kernel_rfl) (by kernel_rfl) (by kernel_rfl) (fun _ _ _ h => h) (Or.inl ⟨by kernel_rfl, fun W hSW => by go_simp; try with_reducible rfl⟩) (by assumption) ?_
  try simp only [List.getElem_toArray]
  try simp only [List.getElem_cons_succ]
  try simp only [List.getElem_cons_zero]
  try simp only [Act.put]
  try simp only [List.setIfInBounds_toArray]
  try simp only [List.set_cons_succ]
  try simp only [List.set_cons_zero]
  refine wpAnyH_take (i := 2) (v := ?_) rfl (by kernel_rfl) (by kernel_rfl) (by kernel_rfl) (fun _ _ _ h => h) (Or.inl ⟨by kernel_rfl, fun W hSW => by go_simp; try with_reducible rfl⟩) (by assumption) ?_
  try simp only [List.getElem_toArray]
  try simp only [List.getElem_cons_succ]
  try simp only [List.getElem_cons_zero]
  try simp only [Act.put]
  try simp only [List.setIfInBounds_toArray]
  try simp only [List.set_cons_succ]
  try simp only [List.set_cons_zero]
  refine wpAnyH_take (i := 3) (v := ?_) rfl (by kernel_rfl) (by kernel_rfl) (by kernel_rfl) (fun _ _ _ h => h) (Or.inl ⟨by kernel_rfl, fun W hSW => by go_simp; try with_reducible rfl⟩) (by assumption) ?_
  try simp only [List.getElem_toArray]
  try simp only [List.getElem_cons_succ]
  try simp only [List.getElem_cons_zero]
  try simp only [Act.put]
  try simp only [List.setIfInBounds_toArray]
  try simp only [List.set_cons_succ]
  try simp only [List.set_cons_zero]
  refine wpAnyH_take (i := 4) (v := ?_) rfl (by kernel_rfl) (by kernel_rfl) (by kernel_rfl) (fun _ _ _ h => h) (Or.inl ⟨by kernel_rfl, fun W hSW => by go_simp; try with_reducible rfl⟩) (by assumption) ?_
  try simp only [List.getElem_toArray]
  try simp only [List.getElem_cons_succ]
  try simp only [List.getElem_cons_zero]
  try simp only [Act.put]
  try simp only [List.setIfInBounds_toArray]
  try simp only [List.set_cons_succ]
  try simp only [List.set_cons_zero]
  refine wpAnyH_take (i := 5) (v := ?_) rfl (by kernel_rfl) (by kernel_rfl) (by kernel_rfl) (fun _ _ _ h => h) (Or.inl ⟨by kernel_rfl, fun W hSW => by go_simp; try with_reducible rfl⟩) (by assumption) ?_
  try simp only [List.getElem_toArray]
  try simp only [List.getElem_cons_succ]
  try simp only [List.getElem_cons_zero]
  try simp only [Act.put]
  try simp only [List.setIfInBounds_toArray]
  try simp only [List.set_cons_succ]
  try simp only [List.set_cons_zero]
  refine wpAnyH_ready (rs := [6]) (by kernel_rfl) (by simp) ?_
  refine AllReadyH.cons rfl (fun K hK => ?_) AllReadyH.nil
  go_simp
  refine hK.out _ _ (hSF) (fun _ => ?_)
  clear hK K
  try simp only [List.getElem_toArray]
  try simp only [List.getElem_cons_succ]
  try simp only [List.getElem_cons_zero]
  try simp only [Act.put]
  try simp only [List.setIfInBounds_toArray]
  try simp only [List.set_cons_succ]
  try simp only [List.set_cons_zero]
  refine wpAnyH_done (by kernel_rfl) ?_ _
  clear s10 t0 t1 t2 t3 t4 t5 t6 l0 l1 hF1
  go_wp2
  go_ret
  exact ⟨rfl, Hfin.out⟩

theorem use_any {S : Nat → Prop} (b : Nat) (c : Cs) (hg : Good c) (m : List UInt8) (hm : m.length = 6) (k : Nat) (hk : k ≤ 65535) (w : World) (hA : CAt S w b c) :
    Calls Tryd.prog 24 #[.pointer (some ⟨b, 0, none⟩), idV m (k : Int)] w fun e w' => e = .returned (.bool (findS c.sess m (k : Int)).isSome) ∧ CNext S w w' b (useF c m k) := by
  have hn : In64 (k : Int) := by unfold In64; omega
  unfold useF
  cases hf : findS c.sess m (k : Int) with
  | none =>
    rw [if_neg (by simp)]
    exact (use_none b c hg m hm (k : Int) hn w hA hf).mono fun _ _ ⟨he, hk⟩ => ⟨he, hA.next.still hk⟩
  | some x =>
    rw [if_pos (by simp)]
    exact use_some b c hg m hm (k : Int) hn w hA k hk rfl x hf

set_option maxHeartbeats 4000000 in
set_option maxRecDepth 100000 in
theorem knows_none {S : Nat → Prop} (b : Nat) (c : Cs) (hg : Good c) (m : List UInt8) (hm : m.length = 6) (n : Int) (hn : In64 n) (w : World) (hA : CAt S w b c) (hname : c.name.toList.isEmpty = false) (hf : findS c.sess m n = none) :
    Calls Tryd.prog 25 #[.pointer (some ⟨b, 0, none⟩), idV m n] w fun e w' => e = .returned (.int .i64 3) ∧ Kept (fun _ => False) w w' := by
  obtain ⟨mb, gv, hC, hS⟩ := hA
  obtain ⟨y0, y1, y2, y3, y4, y5, hy⟩ := six_cells hm
  obtain ⟨x0, x1, x2, x3, x4, x5, hx⟩ := six_cells hg.mac
  have hiv : idV m n = .agg #[.int .u8 y0, .int .u8 y1, .int .u8 y2, .int .u8 y3, .int .u8 y4, .int .u8 y5, .int .i64 n] := by unfold idV idCells; rw [hy]; rfl
  obtain ⟨w1, hw1⟩ : ∃ w1, w1 = w.alloc (.cells #[.int .u8 y0, .int .u8 y1, .int .u8 y2, .int .u8 y3, .int .u8 y4, .int .u8 y5, .int .i64 n] 27) := ⟨_, rfl⟩
  have hk1 : Kept (fun _ => False) w w1 := by rw [hw1]; exact (Kept.refl _ w).alloc _
  have hB1 : Box7 w1 w.heap.size #[.int .u8 y0, .int .u8 y1, .int .u8 y2, .int .u8 y3, .int .u8 y4, .int .u8 y5, .int .i64 n] := by rw [hw1]; exact heap_alloc_new w _
  have hC1 := hC.kept0 hk1
  have hcc := hC1.cells hx
  have ql : ∀ W, Kept (fun _ => False) w1 W → Sem.run Tryd.prog (Instr.lookup 31 (.map (some mb)) (.agg #[.int .u8 y0, .int .u8 y1, .int .u8 y2, .int .u8 y3, .int .u8 y4, .int .u8 y5, .int .i64 n]) true) W = .ok (.tuple #[.agg #[.string ⟨#[]⟩, .bool false], .bool false]) W := fun W h => by
    have := (hC1.kept0 h).ses.look true hm hn
    rw [hf, hiv] at this
    exact this
  have q10 : ∀ W, Kept (fun _ => False) w1 W → W.cell? ⟨b, 10, none⟩ = some (.map (some mb)) := fun W h => (h.cell (p := ⟨b, 10, none⟩) (lt_of_cell hcc.c10) id).trans hcc.c10
  have r0 : ∀ W, Kept (fun _ => False) w1 W → W.cell? ⟨w.heap.size, 0, none⟩ = some (.int .u8 y0) := fun W h => (hB1.kept h id).cell 0
  have r1 : ∀ W, Kept (fun _ => False) w1 W → W.cell? ⟨w.heap.size, 1, none⟩ = some (.int .u8 y1) := fun W h => (hB1.kept h id).cell 1
  have r2 : ∀ W, Kept (fun _ => False) w1 W → W.cell? ⟨w.heap.size, 2, none⟩ = some (.int .u8 y2) := fun W h => (hB1.kept h id).cell 2
  have r3 : ∀ W, Kept (fun _ => False) w1 W → W.cell? ⟨w.heap.size, 3, none⟩ = some (.int .u8 y3) := fun W h => (hB1.kept h id).cell 3
  have r4 : ∀ W, Kept (fun _ => False) w1 W → W.cell? ⟨w.heap.size, 4, none⟩ = some (.int .u8 y4) := fun W h => (hB1.kept h id).cell 4
  have r5 : ∀ W, Kept (fun _ => False) w1 W → W.cell? ⟨w.heap.size, 5, none⟩ = some (.int .u8 y5) := fun W h => (hB1.kept h id).cell 5
  have r6 : ∀ W, Kept (fun _ => False) w1 W → W.cell? ⟨w.heap.size, 6, none⟩ = some (.int .i64 n) := fun W h => (hB1.kept h id).cell 6
  rw [hiv]
  have hsz1 : w1.heap.size = w.heap.size + 1 := by rw [hw1]; simp
  have Hk1 := hid hk1
  have hL : (w1.alloc (.cells #[.string ⟨#[]⟩, .bool false] 82)).drew.heap[w.heap.size + 1]? = some (.cells #[.string ⟨#[]⟩, .bool false] 82 (0, 0)) := by rw [← hsz1]; exact heap_alloc_new w1 _
  go_enter Tryd.func25, Tryd.ntmps25
  have hisn := fun W (h : Kept (fun _ => False) w1 W) => isNone_some b c.name W ((h.cell (p := ⟨b, 6, none⟩) (lt_of_cell hcc.c6) id).trans hcc.c6)
  rw [hname] at hisn
  go_wp2_with fail
  rw [← hw1]
  refine (hisn w1 (Kept.refl _ w1)).mono ?_
  rintro e w' ⟨rfl, hw'⟩
  rw [hw']
  clear hw1 hisn hw'
  go_wp2_with fail
  refine wp_region_held_drew (S := Kept (fun _ => False) w1) (by kernel_rfl) ((Kept.refl _ w1).drew) (fun hSd => ?_)
  refine wpAnyH_take (i := 0) (v := ?_) rfl (by kernel_rfl) (by kernel_rfl) (by kernel_rfl) (fun _ _ _ h => h) (Or.inl ⟨by kernel_rfl, fun W hSW => by go_simp; try with_reducible rfl⟩) (by assumption) ?_
  try simp only [List.getElem_toArray]
  try simp only [List.getElem_cons_succ]
  try simp only [List.getElem_cons_zero]
  try simp only [Act.put]
  try simp only [List.setIfInBounds_toArray]
  try simp only [List.set_cons_succ]
  try simp only [List.set_cons_zero]
  refine wpAnyH_take (i := 1) (v := ?_) rfl (by kernel_rfl) (by kernel_rfl) (by kernel_rfl) (fun _ _ _ h => h) (Or.inl ⟨by kernel_rfl, fun W hSW => by go_simp; try with_reducible rfl⟩) (by assumption) ?_
  try simp only [List.getElem_toArray]
  try simp only [List.getElem_cons_succ]
  try simp only [List.getElem_cons_zero]
  try simp only [Act.put]
  try simp only [List.setIfInBounds_toArray]
  try simp only [List.set_cons_succ]
  try simp only [List.set_cons_zero]
  refine wpAnyH_take (i := 2) (v := ?_) rfl (by kernel_rfl) (by kernel_rfl) (by kernel_rfl) (fun _ _ _ h => h) (Or.inl ⟨by kernel_rfl, fun W hSW => by go_simp; try with_reducible rfl⟩) (by assumption) ?_
  try simp only [List.getElem_toArray]
  try simp only [List.getElem_cons_succ]
  try simp only [List.getElem_cons_zero]
  try simp only [Act.put]
  try simp only [List.setIfInBounds_toArray]
  try simp only [List.set_cons_succ]
  try simp only [List.set_cons_zero]
  refine wpAnyH_take (i := 3) (v := ?_) rfl (by kernel_rfl) (by kernel_rfl) (by kernel_rfl) (fun _ _ _ h => h) (Or.inl ⟨by kernel_rfl, fun W hSW => by go_simp; try with_reducible rfl⟩) (by assumption) ?_
  try simp only [List.getElem_toArray]
  try simp only [List.getElem_cons_succ]
  try simp only [List.getElem_cons_zero]
  try simp only [Act.put]
  try simp only [List.setIfInBounds_toArray]
  try simp only [List.set_cons_succ]
  try simp only [List.set_cons_zero]
  refine wpAnyH_take (i := 4) (v := ?_) rfl (by kernel_rfl) (by kernel_rfl) (by kernel_rfl) (fun _ _ _ h => h) (Or.inl ⟨by kernel_rfl, fun W hSW => by go_simp; try with_reducible rfl⟩) (by assumption) ?_
  try simp only [List.getElem_toArray]
  try simp only [List.getElem_cons_succ]
  try simp only [List.getElem_cons_zero]
  try simp only [Act.put]
  try simp only [List.setIfInBounds_toArray]
  try simp only [List.set_cons_succ]
  try simp only [List.set_cons_zero]
  refine wpAnyH_take (i := 5) (v := ?_) rfl (by kernel_rfl) (by kernel_rfl) (by kernel_rfl) (fun _ _ _ h => h) (Or.inl ⟨by kernel_rfl, fun W hSW => by go_simp; try with_reducible rfl⟩) (by assumption) ?_
  try simp only [List.getElem_toArray]
  try simp only [List.getElem_cons_succ]
  try simp only [List.getElem_cons_zero]
  try simp only [Act.put]
  try simp only [List.setIfInBounds_toArray]
  try simp only [List.set_cons_succ]
  try simp only [List.set_cons_zero]
  refine wpAnyH_take (i := 6) (v := ?_) rfl (by kernel_rfl) (by kernel_rfl) (by kernel_rfl) (fun _ _ _ h => h) (Or.inl ⟨by kernel_rfl, fun W hSW => by go_simp; try with_reducible rfl⟩) (by assumption) ?_
  try simp only [List.getElem_toArray]
  try simp only [List.getElem_cons_succ]
  try simp only [List.getElem_cons_zero]
  try simp only [Act.put]
  try simp only [List.setIfInBounds_toArray]
  try simp only [List.set_cons_succ]
  try simp only [List.set_cons_zero]
  refine wpAnyH_take (i := 7) (v := ?_) rfl (by kernel_rfl) (by kernel_rfl) (by kernel_rfl) (fun _ _ _ h => h) (Or.inl ⟨by kernel_rfl, fun W hSW => by go_simp; try with_reducible rfl⟩) (by assumption) ?_
  try simp only [List.getElem_toArray]
  try simp only [List.getElem_cons_succ]
  try simp only [List.getElem_cons_zero]
  try simp only [Act.put]
  try simp only [List.setIfInBounds_toArray]
  try simp only [List.set_cons_succ]
  try simp only [List.set_cons_zero]
  refine wpAnyH_take (i := 8) (v := ?_) rfl (by kernel_rfl) (by kernel_rfl) (by kernel_rfl) (fun _ _ _ h => h) (Or.inl ⟨by kernel_rfl, fun W hSW => by go_simp; try with_reducible rfl⟩) (by assumption) ?_
  try simp only [List.getElem_toArray]
  try simp only [List.getElem_cons_succ]
  try simp only [List.getElem_cons_zero]
  try simp only [Act.put]
  try simp only [List.setIfInBounds_toArray]
  try simp only [List.set_cons_succ]
  try simp only [List.set_cons_zero]
  refine wpAnyH_ready (rs := [9]) (by kernel_rfl) (by simp) ?_
  refine AllReadyH.cons rfl (fun K hK => ?_) AllReadyH.nil
  go_simp
  refine hK.out _ _ (((Kept.refl _ w1).alloc _).drew) (fun _ => ?_)
  clear hK K
  try simp only [List.getElem_toArray]
  try simp only [List.getElem_cons_succ]
  try simp only [List.getElem_cons_zero]
  try simp only [Act.put]
  try simp only [List.setIfInBounds_toArray]
  try simp only [List.set_cons_succ]
  try simp only [List.set_cons_zero]
  refine wpAnyH_ready (rs := [10]) (by kernel_rfl) (by simp) ?_
  refine AllReadyH.cons rfl (fun K hK => ?_) AllReadyH.nil
  refine step_store_row rfl _ _ _ rfl (w.heap.size + 1) #[.string ⟨#[]⟩, .bool false] #[.string ⟨#[]⟩, .bool false] rfl rfl hL (by kernel_rfl) rfl (by simp [Value.oneCell']) ?_
  refine hK.out _ _ (((Kept.refl _ w1).alloc _).drew.setRow (Or.inl (by omega)) _) (fun _ => ?_)
  clear hK K
  try simp only [List.getElem_toArray]
  try simp only [List.getElem_cons_succ]
  try simp only [List.getElem_cons_zero]
  try simp only [Act.put]
  try simp only [List.setIfInBounds_toArray]
  try simp only [List.set_cons_succ]
  try simp only [List.set_cons_zero]
  refine wpAnyH_take (i := 11) (v := ?_) rfl (by kernel_rfl) (by kernel_rfl) (by kernel_rfl) (fun _ _ _ h => h) (Or.inl ⟨by kernel_rfl, fun W hSW => by go_simp; try with_reducible rfl⟩) (by assumption) ?_
  try simp only [List.getElem_toArray]
  try simp only [List.getElem_cons_succ]
  try simp only [List.getElem_cons_zero]
  try simp only [Act.put]
  try simp only [List.setIfInBounds_toArray]
  try simp only [List.set_cons_succ]
  try simp only [List.set_cons_zero]
  refine wpAnyH_done (by kernel_rfl) ?_ _
  have K3 : Kept (fun _ => False) w1 ((w1.alloc (.cells #[.string ⟨#[]⟩, .bool false] 82)).drew.setRow (w.heap.size + 1) #[.string ⟨#[]⟩, .bool false]) := ((Kept.refl _ w1).alloc _).drew.setRow (Or.inl (by omega)) _
  have hL3 := setRow_heap (w1.alloc (.cells #[.string ⟨#[]⟩, .bool false] 82)).drew (w.heap.size + 1) #[.string ⟨#[]⟩, .bool false] #[.string ⟨#[]⟩, .bool false] 82 (0, 0) hL
  generalize (w1.alloc (.cells #[.string ⟨#[]⟩, .bool false] 82)).drew.setRow (w.heap.size + 1) #[.string ⟨#[]⟩, .bool false] = w3 at *
  go_wp2
  go_ret
  exact ⟨rfl, Hk1.out.trans K3⟩

set_option maxHeartbeats 4000000 in
set_option maxRecDepth 100000 in
theorem knows_some {S : Nat → Prop} (b : Nat) (c : Cs) (hg : Good c) (m : List UInt8) (hm : m.length = 6) (n : Int) (hn : In64 n) (w : World) (hA : CAt S w b c) (hname : c.name.toList.isEmpty = false) (x : Sn) (hf : findS c.sess m n = some x) :
    Calls Tryd.prog 25 #[.pointer (some ⟨b, 0, none⟩), idV m n] w fun e w' => e = .returned (.int .i64 0) ∧ Kept (fun _ => False) w w' := by
  obtain ⟨mb, gv, hC, hS⟩ := hA
  obtain ⟨y0, y1, y2, y3, y4, y5, hy⟩ := six_cells hm
  obtain ⟨x0, x1, x2, x3, x4, x5, hx⟩ := six_cells hg.mac
  have hiv : idV m n = .agg #[.int .u8 y0, .int .u8 y1, .int .u8 y2, .int .u8 y3, .int .u8 y4, .int .u8 y5, .int .i64 n] := by unfold idV idCells; rw [hy]; rfl
  obtain ⟨w1, hw1⟩ : ∃ w1, w1 = w.alloc (.cells #[.int .u8 y0, .int .u8 y1, .int .u8 y2, .int .u8 y3, .int .u8 y4, .int .u8 y5, .int .i64 n] 27) := ⟨_, rfl⟩
  have hk1 : Kept (fun _ => False) w w1 := by rw [hw1]; exact (Kept.refl _ w).alloc _
  have hB1 : Box7 w1 w.heap.size #[.int .u8 y0, .int .u8 y1, .int .u8 y2, .int .u8 y3, .int .u8 y4, .int .u8 y5, .int .i64 n] := by rw [hw1]; exact heap_alloc_new w _
  have hC1 := hC.kept0 hk1
  have hcc := hC1.cells hx
  have ql : ∀ W, Kept (fun _ => False) w1 W → Sem.run Tryd.prog (Instr.lookup 31 (.map (some mb)) (.agg #[.int .u8 y0, .int .u8 y1, .int .u8 y2, .int .u8 y3, .int .u8 y4, .int .u8 y5, .int .i64 n]) true) W = .ok (.tuple #[.agg #[.string x.uniq, .bool x.used], .bool true]) W := fun W h => by
    have := (hC1.kept0 h).ses.look true hm hn
    rw [hf, hiv] at this
    exact this
  have q10 : ∀ W, Kept (fun _ => False) w1 W → W.cell? ⟨b, 10, none⟩ = some (.map (some mb)) := fun W h => (h.cell (p := ⟨b, 10, none⟩) (lt_of_cell hcc.c10) id).trans hcc.c10
  have r0 : ∀ W, Kept (fun _ => False) w1 W → W.cell? ⟨w.heap.size, 0, none⟩ = some (.int .u8 y0) := fun W h => (hB1.kept h id).cell 0
  have r1 : ∀ W, Kept (fun _ => False) w1 W → W.cell? ⟨w.heap.size, 1, none⟩ = some (.int .u8 y1) := fun W h => (hB1.kept h id).cell 1
  have r2 : ∀ W, Kept (fun _ => False) w1 W → W.cell? ⟨w.heap.size, 2, none⟩ = some (.int .u8 y2) := fun W h => (hB1.kept h id).cell 2
  have r3 : ∀ W, Kept (fun _ => False) w1 W → W.cell? ⟨w.heap.size, 3, none⟩ = some (.int .u8 y3) := fun W h => (hB1.kept h id).cell 3
  have r4 : ∀ W, Kept (fun _ => False) w1 W → W.cell? ⟨w.heap.size, 4, none⟩ = some (.int .u8 y4) := fun W h => (hB1.kept h id).cell 4
  have r5 : ∀ W, Kept (fun _ => False) w1 W → W.cell? ⟨w.heap.size, 5, none⟩ = some (.int .u8 y5) := fun W h => (hB1.kept h id).cell 5
  have r6 : ∀ W, Kept (fun _ => False) w1 W → W.cell? ⟨w.heap.size, 6, none⟩ = some (.int .i64 n) := fun W h => (hB1.kept h id).cell 6
  rw [hiv]
  have hsz1 : w1.heap.size = w.heap.size + 1 := by rw [hw1]; simp
  have Hk1 := hid hk1
  have hL : (w1.alloc (.cells #[.string ⟨#[]⟩, .bool false] 82)).drew.heap[w.heap.size + 1]? = some (.cells #[.string ⟨#[]⟩, .bool false] 82 (0, 0)) := by rw [← hsz1]; exact heap_alloc_new w1 _
  go_enter Tryd.func25, Tryd.ntmps25
  have hisn := fun W (h : Kept (fun _ => False) w1 W) => isNone_some b c.name W ((h.cell (p := ⟨b, 6, none⟩) (lt_of_cell hcc.c6) id).trans hcc.c6)
  rw [hname] at hisn
  go_wp2_with fail
  rw [← hw1]
  refine (hisn w1 (Kept.refl _ w1)).mono ?_
  rintro e w' ⟨rfl, hw'⟩
  rw [hw']
  clear hw1 hisn hw'
  go_wp2_with fail
  refine wp_region_held_drew (S := Kept (fun _ => False) w1) (by kernel_rfl) ((Kept.refl _ w1).drew) (fun hSd => ?_)
  refine wpAnyH_take (i := 0) (v := ?_) rfl (by kernel_rfl) (by kernel_rfl) (by kernel_rfl) (fun _ _ _ h => h) (Or.inl ⟨by kernel_rfl, fun W hSW => by go_simp; try with_reducible rfl⟩) (by assumption) ?_
  try simp only [List.getElem_toArray]
  try simp only [List.getElem_cons_succ]
  try simp only [List.getElem_cons_zero]
  try simp only [Act.put]
  try simp only [List.setIfInBounds_toArray]
  try simp only [List.set_cons_succ]
  try simp only [List.set_cons_zero]
  refine wpAnyH_take (i := 1) (v := ?_) rfl (by kernel_rfl) (by kernel_rfl) (by kernel_rfl) (fun _ _ _ h => h) (Or.inl ⟨by kernel_rfl, fun W hSW => by go_simp; try with_reducible rfl⟩) (by assumption) ?_
  try simp only [List.getElem_toArray]
  try simp only [List.getElem_cons_succ]
  try simp only [List.getElem_cons_zero]
  try simp only [Act.put]
  try simp only [List.setIfInBounds_toArray]
  try simp only [List.set_cons_succ]
  try simp only [List.set_cons_zero]
  refine wpAnyH_take (i := 2) (v := ?_) rfl (by kernel_rfl) (by kernel_rfl) (by kernel_rfl) (fun _ _ _ h => h) (Or.inl ⟨by kernel_rfl, fun W hSW => by go_simp; try with_reducible rfl⟩) (by assumption) ?_
  try simp only [List.getElem_toArray]
  try simp only [List.getElem_cons_succ]
  try simp only [List.getElem_cons_zero]
  try simp only [Act.put]
  try simp only [List.setIfInBounds_toArray]
  try simp only [List.set_cons_succ]
  try simp only [List.set_cons_zero]
  refine wpAnyH_take (i := 3) (v := ?_) rfl (by kernel_rfl) (by kernel_rfl) (by kernel_rfl) (fun _ _ _ h => h) (Or.inl ⟨by kernel_rfl, fun W hSW => by go_simp; try with_reducible rfl⟩) (by assumption) ?_
  try simp only [List.getElem_toArray]
  try simp only [List.getElem_cons_succ]
  try simp only [List.getElem_cons_zero]
  try simp only [Act.put]
  try simp only [List.setIfInBounds_toArray]
  try simp only [List.set_cons_succ]
  try simp only [List.set_cons_zero]
  refine wpAnyH_take (i := 4) (v := ?_) rfl (by kernel_rfl) (by kernel_rfl) (by kernel_rfl) (fun _ _ _ h => h) (Or.inl ⟨by kernel_rfl, fun W hSW => by go_simp; try with_reducible rfl⟩) (by assumption) ?_
  try simp only [List.getElem_toArray]
  try simp only [List.getElem_cons_succ]
  try simp only [List.getElem_cons_zero]
  try simp only [Act.put]
  try simp only [List.setIfInBounds_toArray]
  try simp only [List.set_cons_succ]
  try simp only [List.set_cons_zero]
  refine wpAnyH_take (i := 5) (v := ?_) rfl (by kernel_rfl) (by kernel_rfl) (by kernel_rfl) (fun _ _ _ h => h) (Or.inl ⟨by kernel_rfl, fun W hSW => by go_simp; try with_reducible rfl⟩) (by assumption) ?_
  try simp only [List.getElem_toArray]
  try simp only [List.getElem_cons_succ]
  try simp only [List.getElem_cons_zero]
  try simp only [Act.put]
  try simp only [List.setIfInBounds_toArray]
  try simp only [List.set_cons_succ]
  try simp only [List.set_cons_zero]
  refine wpAnyH_take (i := 6) (v := ?_) rfl (by kernel_rfl) (by kernel_rfl) (by kernel_rfl) (fun _ _ _ h => h) (Or.inl ⟨by kernel_rfl, fun W hSW => by go_simp; try with_reducible rfl⟩) (by assumption) ?_
  try simp only [List.getElem_toArray]
  try simp only [List.getElem_cons_succ]
  try simp only [List.getElem_cons_zero]
  try simp only [Act.put]
  try simp only [List.setIfInBounds_toArray]
  try simp only [List.set_cons_succ]
  try simp only [List.set_cons_zero]
  refine wpAnyH_take (i := 7) (v := ?_) rfl (by kernel_rfl) (by kernel_rfl) (by kernel_rfl) (fun _ _ _ h => h) (Or.inl ⟨by kernel_rfl, fun W hSW => by go_simp; try with_reducible rfl⟩) (by assumption) ?_
  try simp only [List.getElem_toArray]
  try simp only [List.getElem_cons_succ]
  try simp only [List.getElem_cons_zero]
  try simp only [Act.put]
  try simp only [List.setIfInBounds_toArray]
  try simp only [List.set_cons_succ]
  try simp only [List.set_cons_zero]
  refine wpAnyH_take (i := 8) (v := ?_) rfl (by kernel_rfl) (by kernel_rfl) (by kernel_rfl) (fun _ _ _ h => h) (Or.inl ⟨by kernel_rfl, fun W hSW => by go_simp; try with_reducible rfl⟩) (by assumption) ?_
  try simp only [List.getElem_toArray]
  try simp only [List.getElem_cons_succ]
  try simp only [List.getElem_cons_zero]
  try simp only [Act.put]
  try simp only [List.setIfInBounds_toArray]
  try simp only [List.set_cons_succ]
  try simp only [List.set_cons_zero]
  refine wpAnyH_ready (rs := [9]) (by kernel_rfl) (by simp) ?_
  refine AllReadyH.cons rfl (fun K hK => ?_) AllReadyH.nil
  go_simp
  refine hK.out _ _ (((Kept.refl _ w1).alloc _).drew) (fun _ => ?_)
  clear hK K
  try simp only [List.getElem_toArray]
  try simp only [List.getElem_cons_succ]
  try simp only [List.getElem_cons_zero]
  try simp only [Act.put]
  try simp only [List.setIfInBounds_toArray]
  try simp only [List.set_cons_succ]
  try simp only [List.set_cons_zero]
  refine wpAnyH_ready (rs := [10]) (by kernel_rfl) (by simp) ?_
  refine AllReadyH.cons rfl (fun K hK => ?_) AllReadyH.nil
  refine step_store_row rfl _ _ _ rfl (w.heap.size + 1) #[.string ⟨#[]⟩, .bool false] #[.string x.uniq, .bool x.used] rfl rfl hL (by kernel_rfl) rfl (by simp [Value.oneCell']) ?_
  refine hK.out _ _ (((Kept.refl _ w1).alloc _).drew.setRow (Or.inl (by omega)) _) (fun _ => ?_)
  clear hK K
  try simp only [List.getElem_toArray]
  try simp only [List.getElem_cons_succ]
  try simp only [List.getElem_cons_zero]
  try simp only [Act.put]
  try simp only [List.setIfInBounds_toArray]
  try simp only [List.set_cons_succ]
  try simp only [List.set_cons_zero]
  refine wpAnyH_take (i := 11) (v := ?_) rfl (by kernel_rfl) (by kernel_rfl) (by kernel_rfl) (fun _ _ _ h => h) (Or.inl ⟨by kernel_rfl, fun W hSW => by go_simp; try with_reducible rfl⟩) (by assumption) ?_
  try simp only [List.getElem_toArray]
  try simp only [List.getElem_cons_succ]
  try simp only [List.getElem_cons_zero]
  try simp only [Act.put]
  try simp only [List.setIfInBounds_toArray]
  try simp only [List.set_cons_succ]
  try simp only [List.set_cons_zero]
  refine wpAnyH_done (by kernel_rfl) ?_ _
  have K3 : Kept (fun _ => False) w1 ((w1.alloc (.cells #[.string ⟨#[]⟩, .bool false] 82)).drew.setRow (w.heap.size + 1) #[.string x.uniq, .bool x.used]) := ((Kept.refl _ w1).alloc _).drew.setRow (Or.inl (by omega)) _
  have hL3 := setRow_heap (w1.alloc (.cells #[.string ⟨#[]⟩, .bool false] 82)).drew (w.heap.size + 1) #[.string ⟨#[]⟩, .bool false] #[.string x.uniq, .bool x.used] 82 (0, 0) hL
  generalize (w1.alloc (.cells #[.string ⟨#[]⟩, .bool false] 82)).drew.setRow (w.heap.size + 1) #[.string x.uniq, .bool x.used] = w3 at *
  go_wp2
  go_ret
  exact ⟨rfl, Hk1.out.trans K3⟩

end Go.Proofs.YtgaamehjdoakhaaDoor
