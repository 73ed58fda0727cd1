/- The contracts of the host's Start and Stop. -/
import Derived.Test.YthpgmfijameddaaHsPadi
namespace Go.Proofs.Ythpgmfijameddaa
open Go.RowKit

/-- The cells of a block, whatever else is there. -/
def HB (b : Nat) (cs : Array Value) (W : World) : Prop := W.heap[b]? = some (.cells cs 50 (0, 0))
theorem HB.cell {b : Nat} {cs : Array Value} {W : World} (h : HB b cs W) (j : Nat) : W.cell? ⟨b, j, none⟩ = cs[j]? := cell_of_row W b j _ _ _ h

theorem next_same {S : Nat → Prop} {w w' : World} {b : Nat} {av : Value} {h h' : Hs} (hH : HostIn w b av h) (hS : ∀ i, S i ↔ ofHost b av i) (hk : Kept (fun i => i = b) w w') (hb : w'.heap[b]? = some (.cells (hostList h' av).toArray 50 (0, 0))) (ha : h'.asked = h.asked) : HNext S w w' b h' := by
  refine ⟨S, ⟨av, ⟨hb, ?_⟩, hS⟩, fun i hi => Or.inl hi, hk.mono (fun i _ e => by rw [e]; exact (hS b).2 (Or.inl rfl))⟩
  rw [ha]
  exact hH.own.same (fun i hi => hk.block i (hH.lt (Or.inr hi)) (fun e => hH.ng (by rw [hi, e])))
theorem next_nil {S : Nat → Prop} {w w' : World} {b : Nat} {av : Value} {h h' : Hs} (hH : HostIn w b av h) (hS : ∀ i, S i ↔ ofHost b av i) (hk : Kept (fun i => i = b) w w') (hb : w'.heap[b]? = some (.cells (hostList h' (.slice none 0 0)).toArray 50 (0, 0))) (ha : h'.asked = []) : HNext S w w' b h' := by
  refine ⟨ofHost b (.slice none 0 0), ⟨.slice none 0 0, ⟨hb, ?_⟩, fun i => Iff.rfl⟩, fun i hi => Or.inl ?_, hk.mono (fun i _ e => by rw [e]; exact (hS b).2 (Or.inl rfl))⟩
  · rw [ha]
    exact OwnE.nil _ _
  · rcases hi with rfl | hi
    · exact (hS _).2 (Or.inl rfl)
    · cases hi

set_option maxHeartbeats 2000000 in
set_option maxRecDepth 100000 in
theorem start_any {S : Nat → Prop} (b : Nat) (h : Hs) (hg : GoodH h) (w : World) (hA : HAt S w b h) :
    Calls Try.prog 11 #[.pointer (some ⟨b, 0, none⟩)] w fun e w' => ∃ v, e = .returned v ∧ HOut S w w' b (startF h).2 v (startF h).1 := by
  obtain ⟨x0, x1, x2, x3, x4, x5, hx⟩ := six_cells hg.mac
  obtain ⟨y0, y1, y2, y3, y4, y5, hy⟩ := six_cells hg.conc
  obtain ⟨av, hH, hS⟩ := id hA
  have HN := hid (hH.notNone hg)
  have c10 := (hH.cells hx hy).c10
  have HP := hid (padi_any b av h hg w hH)
  have HA := hid (fun (p : Option Addr) (c : Nat) (w1 : World) (hk : Kept (fun _ => False) w w1) (hu : OwnE w1 w.heap.size (.slice p (padiF h).length c) (padiF h)) => ask_any b h hg 1 mac0 rfl 0 (.slice p (padiF h).length c) (padiF h) (etDisc_len _ _ _ _ _) w w1 hk hA hu)
  have HNX := hid hA.next
  unfold startF
  clear hH hS hg hx hy hA
  by_cases h0 : h.state = 0 ∨ h.state = 4
  · rw [if_pos h0]
    rcases h0 with h0 | h0
    all_goals
      rw [h0] at c10
      clear h0
      go_enter Try.func11, Try.ntmps11
      go_wp2_with fail
      refine HN.out.mono ?_
      rintro e w' ⟨rfl, rfl⟩
      go_wp2_with fail
      refine HP.out.mono ?_
      rintro e w1 ⟨u1, rfl, hu1, hk1⟩
      obtain ⟨p1, c1, rfl⟩ := slice_of hu1
      go_wp2_with fail
      refine (HA.out p1 c1 w1 hk1 hu1).mono ?_
      rintro e w2 ⟨v2, rfl, hn2⟩
      go_wp2
      go_ret
      exact ⟨v2, rfl, hn2⟩
  · rw [if_neg h0]
    have n0 : (h.state != 0) = true := by simp; omega
    have n4 : (h.state != 4) = true := by simp; omega
    clear h0
    go_enter Try.func11, Try.ntmps11
    go_wp2_with fail
    refine HN.out.mono ?_
    rintro e w' ⟨rfl, rfl⟩
    go_wp2
    go_ret
    exact ⟨_, rfl, HOut.nil HNX.out⟩

set_option maxHeartbeats 2000000 in
set_option maxRecDepth 100000 in
theorem stop_any {S : Nat → Prop} (b : Nat) (h : Hs) (hg : GoodH h) (w : World) (hA : HAt S w b h) :
    Calls Try.prog 12 #[.pointer (some ⟨b, 0, none⟩)] w fun e w' => ∃ v, e = .returned v ∧ HOut S w w' b (stopF h).2 v (stopF h).1 := by
  obtain ⟨x0, x1, x2, x3, x4, x5, hx⟩ := six_cells hg.mac
  obtain ⟨y0, y1, y2, y3, y4, y5, hy⟩ := six_cells hg.conc
  obtain ⟨av, hH, hS⟩ := id hA
  obtain ⟨pa, ca, rfl⟩ := slice_of hH.own
  have HN := hid (hH.notNone hg)
  have hflat := hH.flat hx hy
  have hb0 : b < w.heap.size := hH.lt (Or.inl rfl)
  have hcl := fun j => cell_of_row w b j _ _ _ hflat
  have hfz := fun j => frozen_of_row w b j _ _ hflat
  have d10 := hcl 10
  have d11 := hcl 11
  have d12 := hcl 12
  have d13 := hcl 13
  have d14 := hcl 14
  have d15 := hcl 15
  have d16 := hcl 16
  have d17 := hcl 17
  have d18 := hcl 18
  have d19 := hcl 19
  have d20 := hcl 20
  simp only [List.getElem?_toArray, List.getElem?_cons_zero, List.getElem?_cons_succ] at d10 d11 d12 d13 d14 d15 d16 d17 d18 d19 d20
  obtain ⟨w1, hw1⟩ : ∃ w1, w1 = setPhase w b (.int .i64 0) (.int .u8 0) (.int .u8 0) (.int .u8 0) (.int .u8 0) (.int .u8 0) (.int .u8 0) (.int .i64 0) (.slice none 0 0) (.int .i64 0) (.int .i64 0) := ⟨_, rfl⟩
  have Hw1 := hid hw1
  have hf1 := setPhase_block (p0 := .int .i64 0) (p1 := .int .u8 0) (p2 := .int .u8 0) (p3 := .int .u8 0) (p4 := .int .u8 0) (p5 := .int .u8 0) (p6 := .int .u8 0) (p7 := .int .i64 0) (p8 := .slice none 0 0) (p9 := .int .i64 0) (p10 := .int .i64 0) hflat
  rw [← hw1] at hf1
  have k01 : Kept (fun i => i = b) w w1 := by rw [hw1]; exact setPhase_kept (S := fun i => i = b) (Kept.refl _ _) (Or.inr (by rfl)) _ _ _ _ _ _ _ _ _ _ _
  have hs1 : w1.heap.size = w.heap.size := by rw [hw1]; simp [setPhase]
  obtain ⟨w2, hw2⟩ : ∃ w2, w2 = w1.alloc (.cells #[.int .i64 h.state, .int .u8 y0, .int .u8 y1, .int .u8 y2, .int .u8 y3, .int .u8 y4, .int .u8 y5, .int .i64 h.session, .slice pa h.asked.length ca, .int .i64 (h.again : Int), .int .i64 (h.ticks : Int)] 48) := ⟨_, rfl⟩
  have Hw2 := hid hw2
  have hp2 : w2.heap[w.heap.size]? = some (.cells #[.int .i64 h.state, .int .u8 y0, .int .u8 y1, .int .u8 y2, .int .u8 y3, .int .u8 y4, .int .u8 y5, .int .i64 h.session, .slice pa h.asked.length ca, .int .i64 (h.again : Int), .int .i64 (h.ticks : Int)] 48 (0, 0)) := by rw [hw2, ← hs1]; exact heap_alloc_new w1 _
  have k12 : Kept (fun _ => False) w1 w2 := by rw [hw2]; exact (Kept.refl _ w1).alloc _
  have hf2 : w2.heap[b]? = some _ := (k12.block b (by omega) id).trans hf1
  have k02 : Kept (fun i => i = b) w w2 := k01.trans (k12.mono (T := fun i => i = b) (fun _ _ h => h.elim))
  have HX : Hid (HNext S w w2 b (stopF h).2) := next_nil hH hS k02 (by
    unfold hostList stopF Hs.at
    simp only []
    rw [hx]
    exact hf2) rfl
  have hpc := fun W (hW : W.heap[w.heap.size]? = _) j => cell_of_row W w.heap.size j _ _ _ (hW.trans hp2)
  have hxc := fun W (hW : W.heap[b]? = _) j => cell_of_row W b j _ _ _ (hW.trans hf2)
  have HSD := hid (fun W => disc_any h.conc h.mac hg.conc hg.mac 167 h.session (.slice none 0 0) [] W (Or.inl ⟨rfl, none, 0, rfl⟩) (by simp))
  rw [hx, hy] at HSD
  have hsz2 : w.heap.size ≤ w2.heap.size := k02.size
  have hblt : b < w2.heap.size := Nat.lt_of_lt_of_le hb0 hsz2
  have hplt : w.heap.size < w2.heap.size := (Array.getElem?_eq_some_iff.1 hp2).1
  have q1 : ∀ W, Kept (fun _ => False) w2 W → W.cell? ⟨w.heap.size, 1, none⟩ = some (.int .u8 y0) := fun W hW => hpc W (hW.block _ hplt id) 1
  have q2 : ∀ W, Kept (fun _ => False) w2 W → W.cell? ⟨w.heap.size, 2, none⟩ = some (.int .u8 y1) := fun W hW => hpc W (hW.block _ hplt id) 2
  have q3 : ∀ W, Kept (fun _ => False) w2 W → W.cell? ⟨w.heap.size, 3, none⟩ = some (.int .u8 y2) := fun W hW => hpc W (hW.block _ hplt id) 3
  have q4 : ∀ W, Kept (fun _ => False) w2 W → W.cell? ⟨w.heap.size, 4, none⟩ = some (.int .u8 y3) := fun W hW => hpc W (hW.block _ hplt id) 4
  have q5 : ∀ W, Kept (fun _ => False) w2 W → W.cell? ⟨w.heap.size, 5, none⟩ = some (.int .u8 y4) := fun W hW => hpc W (hW.block _ hplt id) 5
  have q6 : ∀ W, Kept (fun _ => False) w2 W → W.cell? ⟨w.heap.size, 6, none⟩ = some (.int .u8 y5) := fun W hW => hpc W (hW.block _ hplt id) 6
  have q7 : ∀ W, Kept (fun _ => False) w2 W → W.cell? ⟨w.heap.size, 7, none⟩ = some (.int .i64 h.session) := fun W hW => hpc W (hW.block _ hplt id) 7
  have r0 : ∀ W, Kept (fun _ => False) w2 W → W.cell? ⟨b, 0, none⟩ = some (.int .u8 x0) := fun W hW => hxc W (hW.block _ hblt id) 0
  have r1 : ∀ W, Kept (fun _ => False) w2 W → W.cell? ⟨b, 1, none⟩ = some (.int .u8 x1) := fun W hW => hxc W (hW.block _ hblt id) 1
  have r2 : ∀ W, Kept (fun _ => False) w2 W → W.cell? ⟨b, 2, none⟩ = some (.int .u8 x2) := fun W hW => hxc W (hW.block _ hblt id) 2
  have r3 : ∀ W, Kept (fun _ => False) w2 W → W.cell? ⟨b, 3, none⟩ = some (.int .u8 x3) := fun W hW => hxc W (hW.block _ hblt id) 3
  have r4 : ∀ W, Kept (fun _ => False) w2 W → W.cell? ⟨b, 4, none⟩ = some (.int .u8 x4) := fun W hW => hxc W (hW.block _ hblt id) 4
  have r5 : ∀ W, Kept (fun _ => False) w2 W → W.cell? ⟨b, 5, none⟩ = some (.int .u8 x5) := fun W hW => hxc W (hW.block _ hblt id) 5
  clear hcl hf1 hp2 hf2 k12 k02 k01 hpc hxc hw1 hw2 hA hH hS hflat hx hy hg hplt hblt hs1
  unfold stopF
  unfold stopF at HX
  simp only [] at HX ⊢
  by_cases h3 : h.state = 3
  · rw [if_pos h3]
    have n3 : (h.state != 3) = false := by simpa using h3
    clear h3
    go_enter Try.func12, Try.ntmps12
    go_wp2_with fail
    refine HN.out.mono ?_
    rintro e w' ⟨rfl, hw'⟩
    rw [hw']
    clear hw' w'
    go_wp2_with fail
    change Code.wp _ _ _ _ ((setPhase w b (.int .i64 0) (.int .u8 0) (.int .u8 0) (.int .u8 0) (.int .u8 0) (.int .u8 0) (.int .u8 0) (.int .i64 0) (.slice none 0 0) (.int .i64 0) (.int .i64 0)).alloc (.cells #[.int .i64 h.state, .int .u8 y0, .int .u8 y1, .int .u8 y2, .int .u8 y3, .int .u8 y4, .int .u8 y5, .int .i64 h.session, .slice pa h.asked.length ca, .int .i64 (h.again : Int), .int .i64 (h.ticks : Int)] 48))
    rw [← Hw1.out, ← Hw2.out]
    refine wp_region_held_drew (S := Kept (fun _ => False) w2) (by kernel_rfl) ((Kept.refl _ w2).drew) (fun hSd => ?_)
    refine wpAnyH_take (i := 0) (v := ?_) rfl (by kernel_rfl) (by kernel_rfl) (by kernel_rfl) (fun _ _ _ h => h) (Or.inl ⟨by kernel_rfl, fun W hSW => by go_simp; try with_reducible rfl⟩) (by assumption) ?_
    try simp only [List.getElem_toArray]
    try simp only [List.getElem_cons_succ]
    try simp only [List.getElem_cons_zero]
    try simp only [Act.put]
    try simp only [List.setIfInBounds_toArray]
    try simp only [List.set_cons_succ]
    try simp only [List.set_cons_zero]
    refine wpAnyH_take (i := 1) (v := ?_) rfl (by kernel_rfl) (by kernel_rfl) (by kernel_rfl) (fun _ _ _ h => h) (Or.inl ⟨by kernel_rfl, fun W hSW => by go_simp; try with_reducible rfl⟩) (by assumption) ?_
    try simp only [List.getElem_toArray]
    try simp only [List.getElem_cons_succ]
    try simp only [List.getElem_cons_zero]
    try simp only [Act.put]
    try simp only [List.setIfInBounds_toArray]
    try simp only [List.set_cons_succ]
    try simp only [List.set_cons_zero]
    refine wpAnyH_take (i := 2) (v := ?_) rfl (by kernel_rfl) (by kernel_rfl) (by kernel_rfl) (fun _ _ _ h => h) (Or.inl ⟨by kernel_rfl, fun W hSW => by go_simp; try with_reducible rfl⟩) (by assumption) ?_
    try simp only [List.getElem_toArray]
    try simp only [List.getElem_cons_succ]
    try simp only [List.getElem_cons_zero]
    try simp only [Act.put]
    try simp only [List.setIfInBounds_toArray]
    try simp only [List.set_cons_succ]
    try simp only [List.set_cons_zero]
    refine wpAnyH_take (i := 3) (v := ?_) rfl (by kernel_rfl) (by kernel_rfl) (by kernel_rfl) (fun _ _ _ h => h) (Or.inl ⟨by kernel_rfl, fun W hSW => by go_simp; try with_reducible rfl⟩) (by assumption) ?_
    try simp only [List.getElem_toArray]
    try simp only [List.getElem_cons_succ]
    try simp only [List.getElem_cons_zero]
    try simp only [Act.put]
    try simp only [List.setIfInBounds_toArray]
    try simp only [List.set_cons_succ]
    try simp only [List.set_cons_zero]
    refine wpAnyH_take (i := 4) (v := ?_) rfl (by kernel_rfl) (by kernel_rfl) (by kernel_rfl) (fun _ _ _ h => h) (Or.inl ⟨by kernel_rfl, fun W hSW => by go_simp; try with_reducible rfl⟩) (by assumption) ?_
    try simp only [List.getElem_toArray]
    try simp only [List.getElem_cons_succ]
    try simp only [List.getElem_cons_zero]
    try simp only [Act.put]
    try simp only [List.setIfInBounds_toArray]
    try simp only [List.set_cons_succ]
    try simp only [List.set_cons_zero]
    refine wpAnyH_take (i := 5) (v := ?_) rfl (by kernel_rfl) (by kernel_rfl) (by kernel_rfl) (fun _ _ _ h => h) (Or.inl ⟨by kernel_rfl, fun W hSW => by go_simp; try with_reducible rfl⟩) (by assumption) ?_
    try simp only [List.getElem_toArray]
    try simp only [List.getElem_cons_succ]
    try simp only [List.getElem_cons_zero]
    try simp only [Act.put]
    try simp only [List.setIfInBounds_toArray]
    try simp only [List.set_cons_succ]
    try simp only [List.set_cons_zero]
    refine wpAnyH_take (i := 6) (v := ?_) rfl (by kernel_rfl) (by kernel_rfl) (by kernel_rfl) (fun _ _ _ h => h) (Or.inl ⟨by kernel_rfl, fun W hSW => by go_simp; try with_reducible rfl⟩) (by assumption) ?_
    try simp only [List.getElem_toArray]
    try simp only [List.getElem_cons_succ]
    try simp only [List.getElem_cons_zero]
    try simp only [Act.put]
    try simp only [List.setIfInBounds_toArray]
    try simp only [List.set_cons_succ]
    try simp only [List.set_cons_zero]
    refine wpAnyH_take (i := 7) (v := ?_) rfl (by kernel_rfl) (by kernel_rfl) (by kernel_rfl) (fun _ _ _ h => h) (Or.inl ⟨by kernel_rfl, fun W hSW => by go_simp; try with_reducible rfl⟩) (by assumption) ?_
    try simp only [List.getElem_toArray]
    try simp only [List.getElem_cons_succ]
    try simp only [List.getElem_cons_zero]
    try simp only [Act.put]
    try simp only [List.setIfInBounds_toArray]
    try simp only [List.set_cons_succ]
    try simp only [List.set_cons_zero]
    refine wpAnyH_ready (rs := [8]) (by kernel_rfl) (by simp) ?_
    refine AllReadyH.cons rfl (fun K hK => ?_) AllReadyH.nil
    go_simp
    refine (HSD.out _).mono ?_
    rintro e w3 ⟨u3, rfl, hu3, hk3⟩
    have k3 : Kept (fun _ => False) w2 w3 := (Kept.refl (fun _ => False) w2).drew.trans hk3
    refine hK.out _ _ (k3) (fun _ => ?_)
    clear hK K
    try simp only [List.getElem_toArray]
    try simp only [List.getElem_cons_succ]
    try simp only [List.getElem_cons_zero]
    try simp only [Act.put]
    try simp only [List.setIfInBounds_toArray]
    try simp only [List.set_cons_succ]
    try simp only [List.set_cons_zero]
    refine wpAnyH_take (i := 9) (v := ?_) rfl (by kernel_rfl) (by kernel_rfl) (by kernel_rfl) (fun _ _ _ h => h) (Or.inl ⟨by kernel_rfl, fun W hSW => by go_simp; try with_reducible rfl⟩) (by assumption) ?_
    try simp only [List.getElem_toArray]
    try simp only [List.getElem_cons_succ]
    try simp only [List.getElem_cons_zero]
    try simp only [Act.put]
    try simp only [List.setIfInBounds_toArray]
    try simp only [List.set_cons_succ]
    try simp only [List.set_cons_zero]
    refine wpAnyH_done (by kernel_rfl) ?_ _
    go_wp2
    go_ret
    exact ⟨u3, rfl, HOut.of HX.out k3 hu3⟩
  · rw [if_neg h3]
    have n3 : (h.state != 3) = true := by simpa using h3
    clear h3
    go_enter Try.func12, Try.ntmps12
    go_wp2_with fail
    refine HN.out.mono ?_
    rintro e w' ⟨rfl, hw'⟩
    rw [hw']
    clear hw' w'
    go_wp2
    go_ret
    refine ⟨_, rfl, HOut.nil ?_⟩
    have := HX.out
    rw [Hw2.out, Hw1.out] at this
    exact this
end Go.Proofs.Ythpgmfijameddaa
