/- The contracts of the host's inner ask and padi, and of Start. -/
import Derived.Test.YthpgmfijameddaaHsSmall
namespace Go.Proofs.Ythpgmfijameddaa
open Go.RowKit

def phaseV (s : Int) (c : List UInt8) (n : Int) (av : Value) : Value := .agg (([.int .i64 s] ++ Lib.byteCells c ++ [.int .i64 n, av, .int .i64 0, .int .i64 0] : List Value).toArray)

set_option maxHeartbeats 2000000 in
set_option maxRecDepth 100000 in
/-- 'ask(p)', where p begins. -/
theorem ask_any {S : Nat → Prop} (b : Nat) (h : Hs) (hg : GoodH h) (s : Int) (c : List UInt8) (hc : c.length = 6) (n : Int) (u : Value) (l : List Fr) (hl : l.length ≤ 1) (w0 w : World) (hk0 : Kept (fun _ => False) w0 w) (hA : HAt S w0 b h) (hu : OwnE w w0.heap.size u l) :
    Calls Try.prog 19 #[.pointer (some ⟨b, 0, none⟩), phaseV s c n u] w fun e w' => ∃ v, e = .returned v ∧ HOut S w0 w' b (h.at s c n l) v l := by
  obtain ⟨x0, x1, x2, x3, x4, x5, hx⟩ := six_cells hg.mac
  obtain ⟨y0, y1, y2, y3, y4, y5, hy⟩ := six_cells hg.conc
  obtain ⟨z0, z1, z2, z3, z4, z5, hz⟩ := six_cells hc
  obtain ⟨av, hH, hS⟩ := id hA
  have hb0 : b < w0.heap.size := hH.lt (Or.inl rfl)
  have hsz := hk0.size
  have hSb : S b := (hS b).2 (Or.inl rfl)
  have hub : u.ownBlock ≠ some b := fun e => by
    have := (hu.block e).2
    omega
  have hflat := (hH.kept0 hk0).flat hx hy
  obtain ⟨pu, cu, rfl⟩ := slice_of hu
  unfold phaseV
  rw [hz]
  obtain ⟨w1, hw1⟩ : ∃ w1, w1 = w.alloc (.cells #[.int .i64 s, .int .u8 z0, .int .u8 z1, .int .u8 z2, .int .u8 z3, .int .u8 z4, .int .u8 z5, .int .i64 n, .slice pu l.length cu, .int .i64 0, .int .i64 0] 48) := ⟨_, rfl⟩
  have Hw1 := hid hw1
  have k01 : Kept (fun _ => False) w w1 := by rw [hw1]; exact (Kept.refl _ w).alloc _
  have hf1 : w1.heap[b]? = some _ := (k01.block b (by omega) id).trans hflat
  have hp1 : w1.heap[w.heap.size]? = some (.cells #[.int .i64 s, .int .u8 z0, .int .u8 z1, .int .u8 z2, .int .u8 z3, .int .u8 z4, .int .u8 z5, .int .i64 n, .slice pu l.length cu, .int .i64 0, .int .i64 0] 48 (0, 0)) := by rw [hw1]; exact heap_alloc_new w _
  have hcl := fun j => cell_of_row w1 b j _ _ _ hf1
  have hfz := fun j => frozen_of_row w1 b j _ _ hf1
  have d10 := hcl 10
  have d11 := hcl 11
  have d12 := hcl 12
  have d13 := hcl 13
  have d14 := hcl 14
  have d15 := hcl 15
  have d16 := hcl 16
  have d17 := hcl 17
  have d18 := hcl 18
  have d19 := hcl 19
  have d20 := hcl 20
  simp only [List.getElem?_toArray, List.getElem?_cons_zero, List.getElem?_cons_succ] at d10 d11 d12 d13 d14 d15 d16 d17 d18 d19 d20
  rw [hw1] at d10 d11 d12 d13 d14 d15 d16 d17 d18 d19 d20
  have hfz' : ∀ j, (w.alloc (.cells #[.int .i64 s, .int .u8 z0, .int .u8 z1, .int .u8 z2, .int .u8 z3, .int .u8 z4, .int .u8 z5, .int .i64 n, .slice pu l.length cu, .int .i64 0, .int .i64 0] 48)).frozen? ⟨b, j, none⟩ = false := fun j => by rw [← hw1]; exact hfz j
  -- behind the store
  obtain ⟨w2, hw2⟩ : ∃ w2, w2 = setPhase w1 b (.int .i64 s) (.int .u8 z0) (.int .u8 z1) (.int .u8 z2) (.int .u8 z3) (.int .u8 z4) (.int .u8 z5) (.int .i64 n) (.slice pu l.length cu) (.int .i64 0) (.int .i64 0) := ⟨_, rfl⟩
  have Hw2 := hid hw2
  have hf2 := setPhase_block (p0 := .int .i64 s) (p1 := .int .u8 z0) (p2 := .int .u8 z1) (p3 := .int .u8 z2) (p4 := .int .u8 z3) (p5 := .int .u8 z4) (p6 := .int .u8 z5) (p7 := .int .i64 n) (p8 := .slice pu l.length cu) (p9 := .int .i64 0) (p10 := .int .i64 0) hf1
  rw [← hw2] at hf2
  have k12 : Kept (fun i => i = b) w1 w2 := by rw [hw2]; exact setPhase_kept (S := fun i => i = b) (Kept.refl _ _) (Or.inr (by rfl)) _ _ _ _ _ _ _ _ _ _ _
  have hu1 : OwnE w1 w0.heap.size (.slice pu l.length cu) l := hu.kept k01
  have hu2 : OwnE w2 w0.heap.size (.slice pu l.length cu) l := hu1.same (fun i hi => k12.block i (by obtain ⟨⟨cur, q⟩, _⟩ := hu1.block hi; exact (Array.getElem?_eq_some_iff.1 q).1) (fun e => hub (by rw [hi, e])))
  have hp2 : w2.heap[w.heap.size]? = some (.cells #[.int .i64 s, .int .u8 z0, .int .u8 z1, .int .u8 z2, .int .u8 z3, .int .u8 z4, .int .u8 z5, .int .i64 n, .slice pu l.length cu, .int .i64 0, .int .i64 0] 48 (0, 0)) := (k12.block _ (Array.getElem?_eq_some_iff.1 hp1).1 (by omega)).trans hp1
  have e8 : w2.cell? ⟨w.heap.size, 8, none⟩ = some (.slice pu l.length cu) := cell_of_row w2 _ 8 _ _ _ hp2
  have k02 : Kept S w0 w2 := ((hk0.mono (T := S) (fun _ _ h => h.elim)).trans (k01.mono (T := S) (fun _ _ h => h.elim))).andThen k12 (fun i _ e => by rw [e]; exact hSb)
  have HN : Hid (HNext S w0 w2 b (h.at s c n l)) := by
    refine ⟨ofHost b (.slice pu l.length cu), ⟨.slice pu l.length cu, ⟨?_, ⟨hu2.1, hu2.2.imp id (fun ⟨g, cap, cur, q1, _, q3⟩ => ⟨g, cap, cur, q1, Nat.zero_le _, q3⟩)⟩⟩, fun i => Iff.rfl⟩, fun i hi => ?_, k02⟩
    · unfold hostList Hs.at
      simp only []
      rw [hx, hz]
      exact hf2
    · rcases hi with rfl | hi
      · exact Or.inl hSb
      · exact Or.inr (hu2.block hi).2
  have HC := hid (cloneE_any (.slice pu l.length cu) l w0.heap.size w2 hu2 (by omega))
  clear hx hy hz hA hH hS hflat hf1 hp1 hcl hfz hw1 hw2 hf2 k12 hu1 hu2 hp2 k02 k01 hu hub hk0
  go_enter Try.func19, Try.ntmps19
  go_wp2_with fail
  rw [← Hw1.out]
  change Calls _ _ _ (setPhase w1 b (.int .i64 s) (.int .u8 z0) (.int .u8 z1) (.int .u8 z2) (.int .u8 z3) (.int .u8 z4) (.int .u8 z5) (.int .i64 n) (.slice pu l.length cu) (.int .i64 0) (.int .i64 0)) _
  rw [← Hw2.out]
  refine HC.out.mono ?_
  rintro e w3 ⟨v3, rfl, hv3, hk3⟩
  go_wp2
  go_ret
  exact ⟨_, rfl, HOut.of HN.out hk3 hv3⟩

end Go.Proofs.Ythpgmfijameddaa
