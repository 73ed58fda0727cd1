/- What goes over the way, as a value and in a box; the contract of an end's item. -/
import Derived.Test.YtoflohomnoppnaaCnLand
import Derived.Test.YtoflohomnoppnaaBbSto
namespace Go.Proofs.Ytoflohomnoppnaa
open Go.RowKit

def iteV (i : Ite) : Value := .agg #[.int .i64 i.ns, .int .i64 i.nr, .string i.body]
/-- A box of an item, not frozen. -/
def IteB (w : World) (g : Nat) (i : Ite) : Prop := w.heap[g]? = some (.cells #[.int .i64 i.ns, .int .i64 i.nr, .string i.body] 25 (0, 0))
section
variable {w w' : World} {g : Nat} {i : Ite}
theorem IteB.new (w : World) (i : Ite) : IteB (w.alloc (.cells #[.int .i64 i.ns, .int .i64 i.nr, .string i.body] 25)) w.heap.size i := heap_alloc_new w _
theorem IteB.lt (h : IteB w g i) : g < w.heap.size := (Array.getElem?_eq_some_iff.1 h).1
theorem IteB.kept {S : Nat → Prop} (h : IteB w g i) (hk : Kept S w w') (hS : ¬ S g) : IteB w' g i := (hk.block g h.lt hS).trans h
theorem IteB.soft (h : IteB w g i) (j : Nat) : w.frozen? ⟨g, j, none⟩ = false := frozen_of_row w g j _ _ h
theorem IteB.cell (h : IteB w g i) (j : Nat) : w.cell? ⟨g, j, none⟩ = (#[Value.int .i64 i.ns, .int .i64 i.nr, .string i.body])[j]? := by
  unfold IteB at h
  simp [World.cell?, h]
theorem IteB.c0 (h : IteB w g i) : w.cell? ⟨g, 0, none⟩ = some (.int .i64 i.ns) := h.cell 0
theorem IteB.c1 (h : IteB w g i) : w.cell? ⟨g, 1, none⟩ = some (.int .i64 i.nr) := h.cell 1
theorem IteB.c2 (h : IteB w g i) : w.cell? ⟨g, 2, none⟩ = some (.string i.body) := h.cell 2
/-- The three stores of an item. -/
theorem IteB.put (h : IteB w g i) (j : Ite) : IteB (((w.setCell ⟨g, 0, none⟩ (.int .i64 j.ns)).setCell ⟨g, 1, none⟩ (.int .i64 j.nr)).setCell ⟨g, 2, none⟩ (.string j.body)) g j := by
  unfold IteB at *
  exact Joins.block_setCell (Joins.block_setCell (Joins.block_setCell h _) _) _
theorem kept_item {S : Nat → Prop} {u : World} (h : Kept S u w) (hg : u.heap.size ≤ g ∨ S g) (a b c : Value) : Kept S u (((w.setCell ⟨g, 0, none⟩ a).setCell ⟨g, 1, none⟩ b).setCell ⟨g, 2, none⟩ c) :=
  ((h.setCell (p := ⟨g, 0, none⟩) hg a).setCell (p := ⟨g, 1, none⟩) hg b).setCell (p := ⟨g, 2, none⟩) hg c
end

set_option maxHeartbeats 4000000 in
set_option maxRecDepth 100000 in
theorem item_any (b : Nat) (come ns : Int) (x : ByteArray) (w : World) (h8 : w.cell? ⟨b, 8, none⟩ = some (.int .i64 come)) :
    Calls Try.prog 29 #[.pointer (some ⟨b, 0, none⟩), .int .i64 ns, .string x] w fun e w' => e = .returned (iteV ⟨ns, come, x⟩) ∧ Kept (fun _ => False) w w' := by
  have K0 := hid ((Kept.refl (fun _ => False) w).alloc (.cells #[.int .i64 0, .int .i64 0, .string ⟨#[]⟩] 25))
  have B0 := hid (IteB.new w ⟨0, 0, ⟨#[]⟩⟩)
  have d8 : (w.alloc (.cells #[.int .i64 0, .int .i64 0, .string ⟨#[]⟩] 25)).cell? ⟨b, 8, none⟩ = some (.int .i64 come) := (K0.out.cell (p := ⟨b, 8, none⟩) (lt_of_cell h8) id).trans h8
  clear h8
  unfold iteV
  go_enter Try.func29, Try.ntmps29
  go_upto_region 1 with fail
  generalize w.alloc (.cells #[.int .i64 0, .int .i64 0, .string ⟨#[]⟩] 25) = X at *
  have c0 := B0.out.c0
  have c1 := B0.out.c1
  have c2 := B0.out.c2
  have f0 := B0.out.soft 0
  have f1 := B0.out.soft 1
  have f2 := B0.out.soft 2
  go_wp2
  refine bodyPost_ret (v := .agg #[.int .i64 ns, .int .i64 come, .string x]) (by simp [results, Try.results29, go_sem, c0, c1, c2]) rfl ⟨rfl, ?_⟩
  exact kept_item K0.out (Or.inl (Nat.le_refl _)) _ _ _

theorem infoIte : (Try.prog.info? 25).map (fun i => (i.zero, i.size, i.bytes)) = some (some (.agg #[.int .i64 0, .int .i64 0, .string ⟨#[]⟩]), 3, 32) := by kernel_rfl
theorem store_ite {W : World} {g : Nat} {i : Ite} (h : IteB W g i) (j : Ite) : ∃ W', (Instr.storeAt 25 (.pointer (some ⟨g, 0, none⟩)) (iteV j)).run Try.prog W = .ok () W' ∧ IteB W' g j ∧ Kept (fun k => k = g) W W' := by
  obtain ⟨i0, hi, hz0, hz1, hz2⟩ := info_parts infoIte
  have hs := storeB (P := Try.prog) (w := W) (g := g) (o := 0) (ty := 25) [.int .i64 j.ns, .int .i64 j.nr, .string j.body] h (by simp) (by
    intro u hu
    simp only [List.mem_cons, List.not_mem_nil, or_false] at hu
    rcases hu with rfl | rfl | rfl <;> rfl) (by rw [hi]; simp [hz1])
  refine ⟨_, hs, ?_, ?_⟩
  · exact setRow_block h _
  · exact (setRow_kept W g _ (n := 0) (cap := 0)).mono (fun i _ e => by simpa [Value.ownBlock, eq_comm] using e)
section
variable {w w1 : World} {b : Nat} {c : Cn} {vw vf v1 : Value} {l : List ByteArray}
/-- A box of an item is none of the end's blocks. -/
theorem CnIn.unlikeB {g : Nat} {i : Ite} (h : CnIn w b c vw vf) (hi : IteB w g i) : ¬ Sn b vw vf g := by
  rintro (rfl | e | e)
  · have h2 := (show w.heap[g]? = _ from hi).symm.trans h.blk
    simp at h2
  · obtain ⟨⟨cur, hg⟩, _⟩ := h.rw.block e
    have h2 := hg.symm.trans hi
    simp at h2
  · obtain ⟨⟨cur, hg⟩, _⟩ := h.rf.block e
    have h2 := hg.symm.trans hi
    simp at h2
/-- What waits lies in another row, its first ones gone. -/
theorem NextN.dropW (h : CnIn w b c vw vf) (ho : OwnS w1 0 v1 l) (hb : v1.ownBlock = vw.ownBlock) (hk : Kept (fun i => vw.ownBlock = some i) w w1) : NextN w (w1.setCell ⟨b, 9, none⟩ v1) b vw vf { c with waits := l } v1 vf := by
  have hB1 := h.blk.kept hk (fun e => h.nw e)
  have hkX : Kept (fun i => i = b) w1 (w1.setCell ⟨b, 9, none⟩ v1) := kept_cn (Kept.refl (fun i => i = b) w1) rfl 9 _
  refine ⟨⟨hB1.set 9 _ rfl, ho.keptS hkX (fun i hi e => h.nw (by rw [← e, ← hb]; exact hi)), (h.rf.keptS hk (fun i hi hi2 => h.ap i hi2 hi)).keptS hkX (fun i hi e => h.nf (by rw [← e]; exact hi)), fun i hi => h.ap i (by rw [← hb]; exact hi)⟩, ?_, ?_⟩
  · exact (hk.mono (fun i _ e => (Or.inr (Or.inl e) : Sn b vw vf i))).trans (hkX.mono (fun i _ e => Or.inl e))
  · rintro i (e | e | e)
    · exact Or.inl (Or.inl e)
    · exact Or.inl (Or.inr (Or.inl (by rw [← hb]; exact e)))
    · exact Or.inl (Or.inr (Or.inr e))
/-- What flies lies in another row, one more behind. -/
theorem NextN.pushF (h : CnIn w b c vw vf) (ho : OwnS w1 0 v1 l) (hn : ∀ i, v1.ownBlock = some i → vf.ownBlock = some i ∨ w.heap.size ≤ i) (hk : Kept (fun i => vf.ownBlock = some i) w w1) : NextN w (w1.setCell ⟨b, 10, none⟩ v1) b vw vf { c with flies := l } vw v1 := by
  have hB1 := h.blk.kept hk (fun e => h.nf e)
  have hkX : Kept (fun i => i = b) w1 (w1.setCell ⟨b, 10, none⟩ v1) := kept_cn (Kept.refl (fun i => i = b) w1) rfl 10 _
  have hne : ∀ i, v1.ownBlock = some i → i ≠ b := fun i hi e => by
    rcases hn i hi with g | g
    · exact h.nf (by rw [← e]; exact g)
    · have := h.blk.lt
      omega
  have hap : ∀ i, vw.ownBlock = some i → v1.ownBlock ≠ some i := fun i hi hq => by
    rcases hn i hq with g | g
    · exact h.ap i hi g
    · have := (h.rw.block hi).2.2
      omega
  refine ⟨⟨hB1.set 10 _ rfl, (h.rw.keptS hk (fun i hi hi2 => h.ap i hi hi2)).keptS hkX (fun i hi e => h.nw (by rw [← e]; exact hi)), ho.keptS hkX hne, hap⟩, ?_, ?_⟩
  · exact (hk.mono (fun i _ e => (Or.inr (Or.inr e) : Sn b vw vf i))).trans (hkX.mono (fun i _ e => Or.inl e))
  · rintro i (e | e | e)
    · exact Or.inl (Or.inl e)
    · exact Or.inl (Or.inr (Or.inl e))
    · rcases hn i e with g | g
      · exact Or.inl (Or.inr (Or.inr g))
      · exact Or.inr g
end
end Go.Proofs.Ytoflohomnoppnaa
