/- The laws' own padr: a right request of a host. -/
import Derived.Test.YtgaamehjdoakhaaDoorAcAlive
namespace Go.Proofs.YtgaamehjdoakhaaDoor
open Go.RowKit

def mk5 (h : List UInt8) : ByteArray := ⟨(makeB sB h eB 5).toArray⟩
theorem mk5_size (h : List UInt8) : (mk5 h).size = 16 := make_size sB h eB 5

set_option maxHeartbeats 4000000 in
set_option maxRecDepth 100000 in
theorem padr_any (h m : List UInt8) (hh : h.length = 6) (hm : m.length = 6) (u : ByteArray) (hu : u.size ≤ 900) (w : World) (hT : Tables w) :
    Calls Tryd.prog 19 #[.agg (Lib.byteCells h).toArray, .agg (Lib.byteCells m).toArray, .string u] w fun e w' => e = .returned (frV (askedF h m 25 0 (padrTags u (mk5 h)))) ∧ Kept (fun _ => False) w w' := by
  obtain ⟨h0, h1, h2, h3, h4, h5, eh⟩ := six_cells hh
  obtain ⟨m0, m1, m2, m3, m4, m5, em⟩ := six_cells hm
  have hms := mk5_size h
  have HMK := hid (fun W (hT : Tables W) => make_any sB eB h hh 5 (by decide) (by decide) W hT)
  change Hid (∀ W, Tables W → Calls Tryd.prog 17 #[.string ⟨#[115]⟩, .agg (Lib.byteCells h).toArray, .string ⟨#[]⟩, .int .i64 5] W fun r w' => r = .returned (.string (mk5 h)) ∧ Below W.heap.size W w') at HMK
  have ok2 : AskOk (padrTags u (mk5 h)) := padr_ok (by rw [hms]; omega)
  have HAK := hid (fun W v (hv : TagsAt W v (padrTags u (mk5 h))) => asked_any h m hh hm 25 0 v (padrTags u (mk5 h)) W hv ok2.few.size)
  have hdata : ∃ z, frV (askedF h m 25 0 (padrTags u (mk5 h))) = .agg #[.int .u8 m0, .int .u8 m1, .int .u8 m2, .int .u8 m3, .int .u8 m4, .int .u8 m5, .int .u8 h0, .int .u8 h1, .int .u8 h2, .int .u8 h3, .int .u8 h4, .int .u8 h5, .int .i64 34915, .string z] := ⟨(askedF h m 25 0 (padrTags u (mk5 h))).data, by unfold frV frList askedF; simp only []; rw [eh, em]; rfl⟩
  rw [eh] at HMK HAK
  rw [em] at HAK
  obtain ⟨z, hz⟩ := hdata
  rw [hz] at HAK ⊢
  rw [eh, em]
  generalize mk5 h = mk at *
  have O0 := hid (own14_new ((w.alloc (.cells #[.int .u8 h0, .int .u8 h1, .int .u8 h2, .int .u8 h3, .int .u8 h4, .int .u8 h5] 23)).alloc (.cells #[.int .u8 m0, .int .u8 m1, .int .u8 m2, .int .u8 m3, .int .u8 m4, .int .u8 m5] 23)) Z14)
  have B1 := hid (((box6_new w 23 (.int .u8 h0) (.int .u8 h1) (.int .u8 h2) (.int .u8 h3) (.int .u8 h4) (.int .u8 h5)).alloc (.cells #[.int .u8 m0, .int .u8 m1, .int .u8 m2, .int .u8 m3, .int .u8 m4, .int .u8 m5] 23)).alloc (.cells Z14 25))
  have B2 : Hid (Box6 (((w.alloc (.cells #[.int .u8 h0, .int .u8 h1, .int .u8 h2, .int .u8 h3, .int .u8 h4, .int .u8 h5] 23)).alloc (.cells #[.int .u8 m0, .int .u8 m1, .int .u8 m2, .int .u8 m3, .int .u8 m4, .int .u8 m5] 23)).alloc (.cells Z14 25)) (w.heap.size + 1) (.int .u8 m0) (.int .u8 m1) (.int .u8 m2) (.int .u8 m3) (.int .u8 m4) (.int .u8 m5)) := by
    have h := (box6_new (w.alloc (.cells #[.int .u8 h0, .int .u8 h1, .int .u8 h2, .int .u8 h3, .int .u8 h4, .int .u8 h5] 23)) 23 (.int .u8 m0) (.int .u8 m1) (.int .u8 m2) (.int .u8 m3) (.int .u8 m4) (.int .u8 m5)).alloc (.cells Z14 25)
    rw [show (w.alloc (.cells #[.int .u8 h0, .int .u8 h1, .int .u8 h2, .int .u8 h3, .int .u8 h4, .int .u8 h5] 23)).heap.size = w.heap.size + 1 from by simp] at h
    exact h
  have K0 := hid ((((Kept.refl (fun _ => False) w).alloc (.cells #[.int .u8 h0, .int .u8 h1, .int .u8 h2, .int .u8 h3, .int .u8 h4, .int .u8 h5] 23)).alloc (.cells #[.int .u8 m0, .int .u8 m1, .int .u8 m2, .int .u8 m3, .int .u8 m4, .int .u8 m5] 23)).alloc (.cells Z14 25))
  obtain ⟨w1, hw1⟩ : ∃ w1, w1 = ((w.alloc (.cells #[.int .u8 h0, .int .u8 h1, .int .u8 h2, .int .u8 h3, .int .u8 h4, .int .u8 h5] 23)).alloc (.cells #[.int .u8 m0, .int .u8 m1, .int .u8 m2, .int .u8 m3, .int .u8 m4, .int .u8 m5] 23)).alloc (.cells Z14 25) := ⟨_, rfl⟩
  have Hw1 := hid hw1
  rw [← hw1] at O0 B1 B2 K0
  have O1 : w1.heap[w.heap.size + 1 + 1]? = some (.cells Z14 25 (0, 0)) := by simpa [Own14] using O0.out
  have HTb := hid (hT.kept K0.out)
  have r0 : ∀ W, Kept (fun i => i = w.heap.size + 1 + 1) w1 W → W.cell? ⟨w.heap.size, 0, none⟩ = some (.int .u8 h0) := fun W h => (B1.out.keptS h (by show w.heap.size ≠ _; omega)).c0
  have r1 : ∀ W, Kept (fun i => i = w.heap.size + 1 + 1) w1 W → W.cell? ⟨w.heap.size, 1, none⟩ = some (.int .u8 h1) := fun W h => (B1.out.keptS h (by show w.heap.size ≠ _; omega)).c1
  have r2 : ∀ W, Kept (fun i => i = w.heap.size + 1 + 1) w1 W → W.cell? ⟨w.heap.size, 2, none⟩ = some (.int .u8 h2) := fun W h => (B1.out.keptS h (by show w.heap.size ≠ _; omega)).c2
  have r3 : ∀ W, Kept (fun i => i = w.heap.size + 1 + 1) w1 W → W.cell? ⟨w.heap.size, 3, none⟩ = some (.int .u8 h3) := fun W h => (B1.out.keptS h (by show w.heap.size ≠ _; omega)).c3
  have r4 : ∀ W, Kept (fun i => i = w.heap.size + 1 + 1) w1 W → W.cell? ⟨w.heap.size, 4, none⟩ = some (.int .u8 h4) := fun W h => (B1.out.keptS h (by show w.heap.size ≠ _; omega)).c4
  have r5 : ∀ W, Kept (fun i => i = w.heap.size + 1 + 1) w1 W → W.cell? ⟨w.heap.size, 5, none⟩ = some (.int .u8 h5) := fun W h => (B1.out.keptS h (by show w.heap.size ≠ _; omega)).c5
  have q0 : ∀ W, Kept (fun i => i = w.heap.size + 1 + 1) w1 W → W.cell? ⟨w.heap.size + 1, 0, none⟩ = some (.int .u8 m0) := fun W h => (B2.out.keptS h (by show w.heap.size + 1 ≠ _; omega)).c0
  have q1 : ∀ W, Kept (fun i => i = w.heap.size + 1 + 1) w1 W → W.cell? ⟨w.heap.size + 1, 1, none⟩ = some (.int .u8 m1) := fun W h => (B2.out.keptS h (by show w.heap.size + 1 ≠ _; omega)).c1
  have q2 : ∀ W, Kept (fun i => i = w.heap.size + 1 + 1) w1 W → W.cell? ⟨w.heap.size + 1, 2, none⟩ = some (.int .u8 m2) := fun W h => (B2.out.keptS h (by show w.heap.size + 1 ≠ _; omega)).c2
  have q3 : ∀ W, Kept (fun i => i = w.heap.size + 1 + 1) w1 W → W.cell? ⟨w.heap.size + 1, 3, none⟩ = some (.int .u8 m3) := fun W h => (B2.out.keptS h (by show w.heap.size + 1 ≠ _; omega)).c3
  have q4 : ∀ W, Kept (fun i => i = w.heap.size + 1 + 1) w1 W → W.cell? ⟨w.heap.size + 1, 4, none⟩ = some (.int .u8 m4) := fun W h => (B2.out.keptS h (by show w.heap.size + 1 ≠ _; omega)).c4
  have q5 : ∀ W, Kept (fun i => i = w.heap.size + 1 + 1) w1 W → W.cell? ⟨w.heap.size + 1, 5, none⟩ = some (.int .u8 m5) := fun W h => (B2.out.keptS h (by show w.heap.size + 1 ≠ _; omega)).c5
  clear hw1 O0 hT hh hm hu ok2 hms hz
  go_enter Tryd.func19, Tryd.ntmps19
  go_wp2
  rw [← Hw1.out]
  refine wp_region_held_drew (S := Kept (fun i => i = w.heap.size + 1 + 1) w1) (by kernel_rfl) ((Kept.refl _ w1).drew) (fun hSd => ?_)
  refine wpAnyH_take (i := 0) (v := ?_) rfl (by kernel_rfl) (by kernel_rfl) (by kernel_rfl) (fun _ _ _ h => h) (Or.inl ⟨by kernel_rfl, fun W hSW => by go_simp; try with_reducible rfl⟩) (by assumption) ?_
  try simp only [List.getElem_toArray]
  try simp only [List.getElem_cons_succ]
  try simp only [List.getElem_cons_zero]
  try simp only [Act.put]
  try simp only [List.setIfInBounds_toArray]
  try simp only [List.set_cons_succ]
  try simp only [List.set_cons_zero]
  refine wpAnyH_take (i := 1) (v := ?_) rfl (by kernel_rfl) (by kernel_rfl) (by kernel_rfl) (fun _ _ _ h => h) (Or.inl ⟨by kernel_rfl, fun W hSW => by go_simp; try with_reducible rfl⟩) (by assumption) ?_
  try simp only [List.getElem_toArray]
  try simp only [List.getElem_cons_succ]
  try simp only [List.getElem_cons_zero]
  try simp only [Act.put]
  try simp only [List.setIfInBounds_toArray]
  try simp only [List.set_cons_succ]
  try simp only [List.set_cons_zero]
  refine wpAnyH_take (i := 2) (v := ?_) rfl (by kernel_rfl) (by kernel_rfl) (by kernel_rfl) (fun _ _ _ h => h) (Or.inl ⟨by kernel_rfl, fun W hSW => by go_simp; try with_reducible rfl⟩) (by assumption) ?_
  try simp only [List.getElem_toArray]
  try simp only [List.getElem_cons_succ]
  try simp only [List.getElem_cons_zero]
  try simp only [Act.put]
  try simp only [List.setIfInBounds_toArray]
  try simp only [List.set_cons_succ]
  try simp only [List.set_cons_zero]
  refine wpAnyH_take (i := 3) (v := ?_) rfl (by kernel_rfl) (by kernel_rfl) (by kernel_rfl) (fun _ _ _ h => h) (Or.inl ⟨by kernel_rfl, fun W hSW => by go_simp; try with_reducible rfl⟩) (by assumption) ?_
  try simp only [List.getElem_toArray]
  try simp only [List.getElem_cons_succ]
  try simp only [List.getElem_cons_zero]
  try simp only [Act.put]
  try simp only [List.setIfInBounds_toArray]
  try simp only [List.set_cons_succ]
  try simp only [List.set_cons_zero]
  refine wpAnyH_take (i := 6) (v := ?_) rfl (by kernel_rfl) (by kernel_rfl) (by kernel_rfl) (fun _ _ _ h => h) (Or.inl ⟨by kernel_rfl, fun W hSW => by go_simp; try with_reducible rfl⟩) (by assumption) ?_
  try simp only [List.getElem_toArray]
  try simp only [List.getElem_cons_succ]
  try simp only [List.getElem_cons_zero]
  try simp only [Act.put]
  try simp only [List.setIfInBounds_toArray]
  try simp only [List.set_cons_succ]
  try simp only [List.set_cons_zero]
  refine wpAnyH_take (i := 7) (v := ?_) rfl (by kernel_rfl) (by kernel_rfl) (by kernel_rfl) (fun _ _ _ h => h) (Or.inl ⟨by kernel_rfl, fun W hSW => by go_simp; try with_reducible rfl⟩) (by assumption) ?_
  try simp only [List.getElem_toArray]
  try simp only [List.getElem_cons_succ]
  try simp only [List.getElem_cons_zero]
  try simp only [Act.put]
  try simp only [List.setIfInBounds_toArray]
  try simp only [List.set_cons_succ]
  try simp only [List.set_cons_zero]
  refine wpAnyH_ready (rs := [4]) (by kernel_rfl) (by simp) ?_
  refine AllReadyH.cons rfl (fun K hK => ?_) AllReadyH.nil
  go_simp
  refine (HMK.out _ (HTb.out.kept (Kept.refl _ w1).drew)).mono ?_
  rintro e w2 ⟨rfl, hb2⟩
  have hk2 : Kept (fun _ => False) w1 w2 := (Kept.refl _ w1).drew.trans (kept_of hb2)
  refine hK.out _ _ (hk2.mono (fun _ _ h => h.elim)) (fun _ => ?_)
  clear hK K
  try simp only [List.getElem_toArray]
  try simp only [List.getElem_cons_succ]
  try simp only [List.getElem_cons_zero]
  try simp only [Act.put]
  try simp only [List.setIfInBounds_toArray]
  try simp only [List.set_cons_succ]
  try simp only [List.set_cons_zero]
  refine wpAnyH_take (i := 5) (v := ?_) rfl (by kernel_rfl) (by kernel_rfl) (by kernel_rfl) (fun _ _ _ h => h) (Or.inl ⟨by kernel_rfl, fun W hSW => by go_simp; try with_reducible rfl⟩) (by assumption) ?_
  try simp only [List.getElem_toArray]
  try simp only [List.getElem_cons_succ]
  try simp only [List.getElem_cons_zero]
  try simp only [Act.put]
  try simp only [List.setIfInBounds_toArray]
  try simp only [List.set_cons_succ]
  try simp only [List.set_cons_zero]
  refine wpAnyH_ready (rs := [8]) (by kernel_rfl) (by simp) ?_
  refine AllReadyH.cons rfl (fun K hK => ?_) AllReadyH.nil
  go_simp
  have hk3 : Kept (fun _ => False) w1 (w2.alloc (.cells #[.int .i64 257, .string ⟨#[]⟩, .int .i64 260, .string mk, .int .i64 259, .string u] 53)) := hk2.alloc _
  have tg3 : TagsAt (w2.alloc (.cells #[.int .i64 257, .string ⟨#[]⟩, .int .i64 260, .string mk, .int .i64 259, .string u] 53)) (.slice (some ⟨w2.heap.size, 0, none⟩) 3 3) (padrTags u mk) := (own_three w2 0 (Nat.zero_le _) 257 eB 260 mk 259 u).tags
  refine hK.out _ _ (hk3.mono (fun _ _ h => h.elim)) (fun _ => ?_)
  clear hK K
  try simp only [List.getElem_toArray]
  try simp only [List.getElem_cons_succ]
  try simp only [List.getElem_cons_zero]
  try simp only [Act.put]
  try simp only [List.setIfInBounds_toArray]
  try simp only [List.set_cons_succ]
  try simp only [List.set_cons_zero]
  generalize w2.alloc (.cells #[.int .i64 257, .string ⟨#[]⟩, .int .i64 260, .string mk, .int .i64 259, .string u] 53) = w3 at *
  refine wpAnyH_ready (rs := [9]) (by kernel_rfl) (by simp) ?_
  refine AllReadyH.cons rfl (fun K hK => ?_) AllReadyH.nil
  go_simp
  refine (HAK.out _ _ tg3).mono ?_
  rintro e w4 ⟨rfl, hk4⟩
  have hk14 : Kept (fun _ => False) w1 w4 := hk3.trans hk4
  refine hK.out _ _ (hk14.mono (fun _ _ h => h.elim)) (fun _ => ?_)
  clear hK K
  try simp only [List.getElem_toArray]
  try simp only [List.getElem_cons_succ]
  try simp only [List.getElem_cons_zero]
  try simp only [Act.put]
  try simp only [List.setIfInBounds_toArray]
  try simp only [List.set_cons_succ]
  try simp only [List.set_cons_zero]
  refine wpAnyH_ready (rs := [10]) (by kernel_rfl) (by simp) ?_
  refine AllReadyH.cons rfl (fun K hK => ?_) AllReadyH.nil
  have O4 : w4.heap[w.heap.size + 1 + 1]? = some (.cells Z14 25 (0, 0)) := (hk14.block _ (Array.getElem?_eq_some_iff.1 O1).1 id).trans O1
  refine step_store_row rfl _ _ _ rfl (w.heap.size + 1 + 1) Z14 #[.int .u8 m0, .int .u8 m1, .int .u8 m2, .int .u8 m3, .int .u8 m4, .int .u8 m5, .int .u8 h0, .int .u8 h1, .int .u8 h2, .int .u8 h3, .int .u8 h4, .int .u8 h5, .int .i64 34915, .string z] rfl rfl O4 (by kernel_rfl) rfl (by simp [Value.oneCell']) ?_
  refine hK.out _ _ (Kept.setRow (S := fun i => i = w.heap.size + 1 + 1) (hk14.mono (fun _ _ h => h.elim)) (Or.inr rfl) _) (fun _ => ?_)
  clear hK K
  try simp only [List.getElem_toArray]
  try simp only [List.getElem_cons_succ]
  try simp only [List.getElem_cons_zero]
  try simp only [Act.put]
  try simp only [List.setIfInBounds_toArray]
  try simp only [List.set_cons_succ]
  try simp only [List.set_cons_zero]
  refine wpAnyH_done (by kernel_rfl) ?_ _
  have hs := setRow_heap w4 (w.heap.size + 1 + 1) Z14 #[.int .u8 m0, .int .u8 m1, .int .u8 m2, .int .u8 m3, .int .u8 m4, .int .u8 m5, .int .u8 h0, .int .u8 h1, .int .u8 h2, .int .u8 h3, .int .u8 h4, .int .u8 h5, .int .i64 34915, .string z] 25 (0, 0) O4
  have K5 := hid ((K0.out.trans hk14).setRow (g := w.heap.size + 1 + 1) (Or.inl (by omega)) #[.int .u8 m0, .int .u8 m1, .int .u8 m2, .int .u8 m3, .int .u8 m4, .int .u8 m5, .int .u8 h0, .int .u8 h1, .int .u8 h2, .int .u8 h3, .int .u8 h4, .int .u8 h5, .int .i64 34915, .string z])
  generalize w4.setRow (w.heap.size + 1 + 1) #[.int .u8 m0, .int .u8 m1, .int .u8 m2, .int .u8 m3, .int .u8 m4, .int .u8 m5, .int .u8 h0, .int .u8 h1, .int .u8 h2, .int .u8 h3, .int .u8 h4, .int .u8 h5, .int .i64 34915, .string z] = w5 at *
  have hg2 := fun j => cell_of_row w5 (w.heap.size + 1 + 1) j _ _ _ hs
  have c0 := hg2 0
  have c1 := hg2 1
  have c2 := hg2 2
  have c3 := hg2 3
  have c4 := hg2 4
  have c5 := hg2 5
  have c6 := hg2 6
  have c7 := hg2 7
  have c8 := hg2 8
  have c9 := hg2 9
  have c10 := hg2 10
  have c11 := hg2 11
  have c12 := hg2 12
  have c13 := hg2 13
  simp only [List.getElem?_toArray, List.getElem?_cons_zero, List.getElem?_cons_succ] at c0 c1 c2 c3 c4 c5 c6 c7 c8 c9 c10 c11 c12 c13
  clear hg2 hs
  go_wp2
  refine bodyPost_ret (v := .agg #[.int .u8 m0, .int .u8 m1, .int .u8 m2, .int .u8 m3, .int .u8 m4, .int .u8 m5, .int .u8 h0, .int .u8 h1, .int .u8 h2, .int .u8 h3, .int .u8 h4, .int .u8 h5, .int .i64 34915, .string z]) (by simp [results, Tryd.results19, go_sem, c0, c1, c2, c3, c4, c5, c6, c7, c8, c9, c10, c11, c12, c13]) rfl ⟨rfl, ?_⟩
  exact K5.out
end Go.Proofs.YtgaamehjdoakhaaDoor
