/- The contract of the concentrator's Data at a session's frame to its own card whose packet can be read. -/
import Derived.Test.YtgaamehjdoakhaaDoorAcClose
import Derived.Test.YtgaamehjdoakhaaDoorEtSess
namespace Go.Proofs.YtgaamehjdoakhaaDoor
open Go.RowKit

theorem CNext.beside {S T : Nat → Prop} {w w4 w5 w6 : World} {b : Nat} {c : Cs} (k : Kept (fun _ => False) w w4) (hn : CNext S w4 w5 b c) (hk : Kept T w5 w6) (hT : ∀ i, T i → w.heap.size ≤ i ∧ i < w4.heap.size ∧ ¬ S i) : CNext S w w6 b c := by
  obtain ⟨S5, hA5, hS5, hk5⟩ := hn
  refine ⟨S5, hA5.kept hk (fun i hi h => ?_), fun i hi => (hS5 i hi).imp id (fun h => Nat.le_trans k.size h), ((k.mono (T := S) (fun _ _ h => h.elim)).trans hk5).andThen hk (fun i hi h => ?_)⟩
  · obtain ⟨h1, h2, h3⟩ := hT i h
    rcases hS5 i hi with h4 | h4
    · exact h3 h4
    · omega
  · have := (hT i h).1
    omega

set_option maxHeartbeats 4000000 in
set_option maxRecDepth 100000 in
theorem data_none' {S : Nat → Prop} (b : Nat) (c : Cs) (hg : Good c) (src : List UInt8) (hsrc : src.length = 6) (data : ByteArray) (hsz : data.size ≤ 1000000) (ses : Nat) (hses : ses ≤ 65535) (D : List UInt8) (hget : getDiscF data.data.toList = (⟨0, ses, D⟩, 0)) (hf : findS c.sess src (ses : Int) = none) (w : World) (hA : CAt S w b c) :
    Calls Tryd.prog 9 #[.pointer (some ⟨b, 0, none⟩), frV ⟨c.mac, src, 34916, data⟩] w fun e w' => e = .returned (.tuple #[.agg #[.int .u8 0, .int .u8 0, .int .u8 0, .int .u8 0, .int .u8 0, .int .u8 0, .int .i64 0], .string ⟨#[]⟩, .bool false]) ∧ CNext S w w' b c := by
  obtain ⟨mb, gv, hC, hS⟩ := id hA
  obtain ⟨x0, x1, x2, x3, x4, x5, hx⟩ := six_cells hg.mac
  obtain ⟨s0, s1, s2, s3, s4, s5, hs⟩ := six_cells hsrc
  have hfv : frV ⟨c.mac, src, 34916, data⟩ = .agg #[.int .u8 x0, .int .u8 x1, .int .u8 x2, .int .u8 x3, .int .u8 x4, .int .u8 x5, .int .u8 s0, .int .u8 s1, .int .u8 s2, .int .u8 s3, .int .u8 s4, .int .u8 s5, .int .i64 34916, .string data] := by unfold frV frList; simp only []; rw [hx, hs]; rfl
  have hfv' := hfv
  have hiv : idV src (ses : Int) = .agg #[.int .u8 s0, .int .u8 s1, .int .u8 s2, .int .u8 s3, .int .u8 s4, .int .u8 s5, .int .i64 (ses : Int)] := by unfold idV idCells; rw [hs]; rfl
  rw [hfv]
  have hE1 := mac_eq c.mac c.mac hg.mac hg.mac
  rw [hx, decide_eq_true rfl] at hE1
  have HU := hid (fun W (h : CAt S W b c) => use_any b c hg src hsrc ses hses W h)
  have hue : (findS c.sess src (ses : Int)).isSome = false := by rw [hf]; rfl
  have huc : useF c src ses = c := by unfold useF; rw [hf]; rfl
  rw [huc] at HU
  rw [hue, hiv] at HU
  skip
  have hgs : getS ⟨c.mac, src, 34916, data⟩ = ((ses : Int), ⟨D.toArray⟩, true) := by
    unfold getS
    simp only []
    rw [hget]
    simp
  have HGS := hid (fun W => getS_any ⟨c.mac, src, 34916, data⟩ hg.mac hsrc hsz W)
  rw [hgs] at HGS
  rw [hfv'] at HGS
  change Hid (∀ W, Calls Tryd.prog 23 #[.agg #[.int .u8 x0, .int .u8 x1, .int .u8 x2, .int .u8 x3, .int .u8 x4, .int .u8 x5, .int .u8 s0, .int .u8 s1, .int .u8 s2, .int .u8 s3, .int .u8 s4, .int .u8 s5, .int .i64 34916, .string data]] W fun e w' => e = .returned (.tuple #[.int .i64 (ses : Int), .string ⟨D.toArray⟩, .bool true]) ∧ Kept (fun _ => False) W w') at HGS
  obtain ⟨w1, hw1⟩ : ∃ w1, w1 = (w.alloc (.cells #[.int .u8 x0, .int .u8 x1, .int .u8 x2, .int .u8 x3, .int .u8 x4, .int .u8 x5, .int .u8 s0, .int .u8 s1, .int .u8 s2, .int .u8 s3, .int .u8 s4, .int .u8 s5, .int .i64 34916, .string data] 25)).alloc (.cells #[.int .u8 0, .int .u8 0, .int .u8 0, .int .u8 0, .int .u8 0, .int .u8 0, .int .i64 0] 27) := ⟨_, rfl⟩
  have Hw1 := hid hw1
  have hk1 : Kept (fun _ => False) w w1 := by rw [hw1]; exact ((Kept.refl _ w).alloc _).alloc _
  have hB1 : Own14 w1 w.heap.size #[.int .u8 x0, .int .u8 x1, .int .u8 x2, .int .u8 x3, .int .u8 x4, .int .u8 x5, .int .u8 s0, .int .u8 s1, .int .u8 s2, .int .u8 s3, .int .u8 s4, .int .u8 s5, .int .i64 34916, .string data] := by rw [hw1]; exact (own14_new w _).kept ((Kept.refl _ _).alloc _)
  have hR1 : Box7 w1 (w.heap.size + 1) #[.int .u8 0, .int .u8 0, .int .u8 0, .int .u8 0, .int .u8 0, .int .u8 0, .int .i64 0] := by
    rw [hw1]
    have h := heap_alloc_new (w.alloc (.cells #[.int .u8 x0, .int .u8 x1, .int .u8 x2, .int .u8 x3, .int .u8 x4, .int .u8 x5, .int .u8 s0, .int .u8 s1, .int .u8 s2, .int .u8 s3, .int .u8 s4, .int .u8 s5, .int .i64 34916, .string data] 25)) (.cells #[.int .u8 0, .int .u8 0, .int .u8 0, .int .u8 0, .int .u8 0, .int .u8 0, .int .i64 0] 27)
    rw [show (w.alloc (.cells #[.int .u8 x0, .int .u8 x1, .int .u8 x2, .int .u8 x3, .int .u8 x4, .int .u8 x5, .int .u8 s0, .int .u8 s1, .int .u8 s2, .int .u8 s3, .int .u8 s4, .int .u8 s5, .int .i64 34916, .string data] 25)).heap.size = w.heap.size + 1 from by simp] at h
    exact h
  have hs1 : w.heap.size + 1 < w1.heap.size := hR1.lt
  have hcc := (hC.kept0 hk1).cells hx
  have hisn := isNone_some b c.name
  rw [named hg] at hisn
  have p0 : ∀ W, Kept (fun _ => False) w1 W → W.cell? ⟨w.heap.size, 0, none⟩ = some (.int .u8 x0) := fun W h => (cell_of_row W w.heap.size 0 _ _ _ (hB1.kept h)).trans rfl
  have p1 : ∀ W, Kept (fun _ => False) w1 W → W.cell? ⟨w.heap.size, 1, none⟩ = some (.int .u8 x1) := fun W h => (cell_of_row W w.heap.size 1 _ _ _ (hB1.kept h)).trans rfl
  have p2 : ∀ W, Kept (fun _ => False) w1 W → W.cell? ⟨w.heap.size, 2, none⟩ = some (.int .u8 x2) := fun W h => (cell_of_row W w.heap.size 2 _ _ _ (hB1.kept h)).trans rfl
  have p3 : ∀ W, Kept (fun _ => False) w1 W → W.cell? ⟨w.heap.size, 3, none⟩ = some (.int .u8 x3) := fun W h => (cell_of_row W w.heap.size 3 _ _ _ (hB1.kept h)).trans rfl
  have p4 : ∀ W, Kept (fun _ => False) w1 W → W.cell? ⟨w.heap.size, 4, none⟩ = some (.int .u8 x4) := fun W h => (cell_of_row W w.heap.size 4 _ _ _ (hB1.kept h)).trans rfl
  have p5 : ∀ W, Kept (fun _ => False) w1 W → W.cell? ⟨w.heap.size, 5, none⟩ = some (.int .u8 x5) := fun W h => (cell_of_row W w.heap.size 5 _ _ _ (hB1.kept h)).trans rfl
  have p6 : ∀ W, Kept (fun _ => False) w1 W → W.cell? ⟨w.heap.size, 6, none⟩ = some (.int .u8 s0) := fun W h => (cell_of_row W w.heap.size 6 _ _ _ (hB1.kept h)).trans rfl
  have p7 : ∀ W, Kept (fun _ => False) w1 W → W.cell? ⟨w.heap.size, 7, none⟩ = some (.int .u8 s1) := fun W h => (cell_of_row W w.heap.size 7 _ _ _ (hB1.kept h)).trans rfl
  have p8 : ∀ W, Kept (fun _ => False) w1 W → W.cell? ⟨w.heap.size, 8, none⟩ = some (.int .u8 s2) := fun W h => (cell_of_row W w.heap.size 8 _ _ _ (hB1.kept h)).trans rfl
  have p9 : ∀ W, Kept (fun _ => False) w1 W → W.cell? ⟨w.heap.size, 9, none⟩ = some (.int .u8 s3) := fun W h => (cell_of_row W w.heap.size 9 _ _ _ (hB1.kept h)).trans rfl
  have p10 : ∀ W, Kept (fun _ => False) w1 W → W.cell? ⟨w.heap.size, 10, none⟩ = some (.int .u8 s4) := fun W h => (cell_of_row W w.heap.size 10 _ _ _ (hB1.kept h)).trans rfl
  have p11 : ∀ W, Kept (fun _ => False) w1 W → W.cell? ⟨w.heap.size, 11, none⟩ = some (.int .u8 s5) := fun W h => (cell_of_row W w.heap.size 11 _ _ _ (hB1.kept h)).trans rfl
  have p12 : ∀ W, Kept (fun _ => False) w1 W → W.cell? ⟨w.heap.size, 12, none⟩ = some (.int .i64 34916) := fun W h => (cell_of_row W w.heap.size 12 _ _ _ (hB1.kept h)).trans rfl
  have p13 : ∀ W, Kept (fun _ => False) w1 W → W.cell? ⟨w.heap.size, 13, none⟩ = some (.string data) := fun W h => (cell_of_row W w.heap.size 13 _ _ _ (hB1.kept h)).trans rfl
  have m0 : ∀ W, Kept (fun _ => False) w1 W → W.cell? ⟨b, 0, none⟩ = some (.int .u8 x0) := fun W h => (h.cell (p := ⟨b, 0, none⟩) (lt_of_cell hcc.c0) id).trans hcc.c0
  have m1 : ∀ W, Kept (fun _ => False) w1 W → W.cell? ⟨b, 1, none⟩ = some (.int .u8 x1) := fun W h => (h.cell (p := ⟨b, 1, none⟩) (lt_of_cell hcc.c1) id).trans hcc.c1
  have m2 : ∀ W, Kept (fun _ => False) w1 W → W.cell? ⟨b, 2, none⟩ = some (.int .u8 x2) := fun W h => (h.cell (p := ⟨b, 2, none⟩) (lt_of_cell hcc.c2) id).trans hcc.c2
  have m3 : ∀ W, Kept (fun _ => False) w1 W → W.cell? ⟨b, 3, none⟩ = some (.int .u8 x3) := fun W h => (h.cell (p := ⟨b, 3, none⟩) (lt_of_cell hcc.c3) id).trans hcc.c3
  have m4 : ∀ W, Kept (fun _ => False) w1 W → W.cell? ⟨b, 4, none⟩ = some (.int .u8 x4) := fun W h => (h.cell (p := ⟨b, 4, none⟩) (lt_of_cell hcc.c4) id).trans hcc.c4
  have m5 : ∀ W, Kept (fun _ => False) w1 W → W.cell? ⟨b, 5, none⟩ = some (.int .u8 x5) := fun W h => (h.cell (p := ⟨b, 5, none⟩) (lt_of_cell hcc.c5) id).trans hcc.c5
  have m6 : ∀ W, Kept (fun _ => False) w1 W → W.cell? ⟨b, 6, none⟩ = some (.string c.name) := fun W h => (h.cell (p := ⟨b, 6, none⟩) (lt_of_cell hcc.c6) id).trans hcc.c6
  have Hk1 := hid hk1
  have HR1 := hid hR1
  have HA := hid hA
  have HSlt : Hid (∀ i, S i → i < w.heap.size) := fun i hi => hA.lt hi
  clear hfv hw1 hC hS hA hcc hk1 hR1 hf hue hget
  go_enter Tryd.func9, Tryd.ntmps9
  go_wp2
  rw [← Hw1.out]
  refine wp_region_held_drew (S := Kept (fun _ => False) w1) (by kernel_rfl) ((Kept.refl _ w1).drew) (fun hSd => ?_)
  refine wpAnyH_take (i := 0) (v := ?_) rfl (by kernel_rfl) (by kernel_rfl) (by kernel_rfl) (fun _ _ _ h => h) (Or.inl ⟨by kernel_rfl, fun W hSW => by go_simp; try with_reducible rfl⟩) (by assumption) ?_
  try simp only [List.getElem_toArray]
  try simp only [List.getElem_cons_succ]
  try simp only [List.getElem_cons_zero]
  try simp only [Act.put]
  try simp only [List.setIfInBounds_toArray]
  try simp only [List.set_cons_succ]
  try simp only [List.set_cons_zero]
  refine wpAnyH_ready (rs := [1]) (by kernel_rfl) (by simp) ?_
  refine AllReadyH.cons rfl (fun K hK => ?_) AllReadyH.nil
  go_simp
  refine (hisn w1.drew (m6 _ (Kept.refl _ w1).drew)).mono ?_
  rintro e w2 ⟨rfl, rfl⟩
  refine hK.out _ _ ((Kept.refl _ w1).drew) (fun _ => ?_)
  clear hK K
  try simp only [List.getElem_toArray]
  try simp only [List.getElem_cons_succ]
  try simp only [List.getElem_cons_zero]
  try simp only [Act.put]
  try simp only [List.setIfInBounds_toArray]
  try simp only [List.set_cons_succ]
  try simp only [List.set_cons_zero]
  refine wpAnyH_take (i := 2) (v := .bool false) rfl (by kernel_rfl) (by kernel_rfl) (by kernel_rfl) (fun _ _ _ h => h) (Or.inl ⟨by kernel_rfl, fun W hSW => by go_simp; try with_reducible rfl⟩) (by assumption) ?_
  try simp only [List.getElem_toArray]
  try simp only [List.getElem_cons_succ]
  try simp only [List.getElem_cons_zero]
  try simp only [Act.put]
  try simp only [List.setIfInBounds_toArray]
  try simp only [List.set_cons_succ]
  try simp only [List.set_cons_zero]
  refine wpAnyH_take (i := 3) (v := ?_) rfl (by kernel_rfl) (by kernel_rfl) (by kernel_rfl) (fun _ _ _ h => h) (Or.inl ⟨by kernel_rfl, fun W hSW => by go_simp; try with_reducible rfl⟩) (by assumption) ?_
  try simp only [List.getElem_toArray]
  try simp only [List.getElem_cons_succ]
  try simp only [List.getElem_cons_zero]
  try simp only [Act.put]
  try simp only [List.setIfInBounds_toArray]
  try simp only [List.set_cons_succ]
  try simp only [List.set_cons_zero]
  refine wpAnyH_take (i := 4) (v := ?_) rfl (by kernel_rfl) (by kernel_rfl) (by kernel_rfl) (fun _ _ _ h => h) (Or.inl ⟨by kernel_rfl, fun W hSW => by go_simp; try with_reducible rfl⟩) (by assumption) ?_
  try simp only [List.getElem_toArray]
  try simp only [List.getElem_cons_succ]
  try simp only [List.getElem_cons_zero]
  try simp only [Act.put]
  try simp only [List.setIfInBounds_toArray]
  try simp only [List.set_cons_succ]
  try simp only [List.set_cons_zero]
  refine wpAnyH_take (i := 5) (v := ?_) rfl (by kernel_rfl) (by kernel_rfl) (by kernel_rfl) (fun _ _ _ h => h) (Or.inl ⟨by kernel_rfl, fun W hSW => by go_simp; try with_reducible rfl⟩) (by assumption) ?_
  try simp only [List.getElem_toArray]
  try simp only [List.getElem_cons_succ]
  try simp only [List.getElem_cons_zero]
  try simp only [Act.put]
  try simp only [List.setIfInBounds_toArray]
  try simp only [List.set_cons_succ]
  try simp only [List.set_cons_zero]
  refine wpAnyH_take (i := 6) (v := ?_) rfl (by kernel_rfl) (by kernel_rfl) (by kernel_rfl) (fun _ _ _ h => h) (Or.inl ⟨by kernel_rfl, fun W hSW => by go_simp; try with_reducible rfl⟩) (by assumption) ?_
  try simp only [List.getElem_toArray]
  try simp only [List.getElem_cons_succ]
  try simp only [List.getElem_cons_zero]
  try simp only [Act.put]
  try simp only [List.setIfInBounds_toArray]
  try simp only [List.set_cons_succ]
  try simp only [List.set_cons_zero]
  refine wpAnyH_take (i := 7) (v := ?_) rfl (by kernel_rfl) (by kernel_rfl) (by kernel_rfl) (fun _ _ _ h => h) (Or.inl ⟨by kernel_rfl, fun W hSW => by go_simp; try with_reducible rfl⟩) (by assumption) ?_
  try simp only [List.getElem_toArray]
  try simp only [List.getElem_cons_succ]
  try simp only [List.getElem_cons_zero]
  try simp only [Act.put]
  try simp only [List.setIfInBounds_toArray]
  try simp only [List.set_cons_succ]
  try simp only [List.set_cons_zero]
  refine wpAnyH_take (i := 8) (v := ?_) rfl (by kernel_rfl) (by kernel_rfl) (by kernel_rfl) (fun _ _ _ h => h) (Or.inl ⟨by kernel_rfl, fun W hSW => by go_simp; try with_reducible rfl⟩) (by assumption) ?_
  try simp only [List.getElem_toArray]
  try simp only [List.getElem_cons_succ]
  try simp only [List.getElem_cons_zero]
  try simp only [Act.put]
  try simp only [List.setIfInBounds_toArray]
  try simp only [List.set_cons_succ]
  try simp only [List.set_cons_zero]
  refine wpAnyH_take (i := 9) (v := .bool false) rfl (by kernel_rfl) (by kernel_rfl) (by kernel_rfl) (fun _ _ _ h => h) (Or.inl ⟨by kernel_rfl, fun W hSW => by go_simp; try with_reducible rfl⟩) (by assumption) ?_
  try simp only [List.getElem_toArray]
  try simp only [List.getElem_cons_succ]
  try simp only [List.getElem_cons_zero]
  try simp only [Act.put]
  try simp only [List.setIfInBounds_toArray]
  try simp only [List.set_cons_succ]
  try simp only [List.set_cons_zero]
  refine wpAnyH_take (i := 10) (v := .bool false) rfl (by kernel_rfl) (by kernel_rfl) (by kernel_rfl) (fun _ _ _ h => h) (Or.inl ⟨by kernel_rfl, fun W hSW => by go_simp; try with_reducible rfl⟩) (by assumption) ?_
  try simp only [List.getElem_toArray]
  try simp only [List.getElem_cons_succ]
  try simp only [List.getElem_cons_zero]
  try simp only [Act.put]
  try simp only [List.setIfInBounds_toArray]
  try simp only [List.set_cons_succ]
  try simp only [List.set_cons_zero]
  refine wpAnyH_done (by kernel_rfl) ?_ _
  have pd0 := p0 w1.drew (Kept.refl _ w1).drew
  have pd1 := p1 w1.drew (Kept.refl _ w1).drew
  have pd2 := p2 w1.drew (Kept.refl _ w1).drew
  have pd3 := p3 w1.drew (Kept.refl _ w1).drew
  have pd4 := p4 w1.drew (Kept.refl _ w1).drew
  have pd5 := p5 w1.drew (Kept.refl _ w1).drew
  have pd6 := p6 w1.drew (Kept.refl _ w1).drew
  have pd7 := p7 w1.drew (Kept.refl _ w1).drew
  have pd8 := p8 w1.drew (Kept.refl _ w1).drew
  have pd9 := p9 w1.drew (Kept.refl _ w1).drew
  have pd10 := p10 w1.drew (Kept.refl _ w1).drew
  have pd11 := p11 w1.drew (Kept.refl _ w1).drew
  have pd12 := p12 w1.drew (Kept.refl _ w1).drew
  have pd13 := p13 w1.drew (Kept.refl _ w1).drew
  go_wp2_with fail
  refine (HGS.out _).mono ?_
  rintro e w2 ⟨rfl, hk2⟩
  clear pd0 pd1 pd2 pd3 pd4 pd5 pd6 pd7 pd8 pd9 pd10 pd11 pd12 pd13
  have hk12 : Kept (fun _ => False) w1 w2 := (Kept.refl _ w1).drew.trans hk2
  have hw2s : w.heap.size + 1 < w2.heap.size := by have := hk12.size; omega
  obtain ⟨w4, hw4⟩ : ∃ w4, w4 = w2.alloc (.cells #[.int .u8 s0, .int .u8 s1, .int .u8 s2, .int .u8 s3, .int .u8 s4, .int .u8 s5, .int .i64 (ses : Int)] 27) := ⟨_, rfl⟩
  have Hw4 := hid hw4
  have hk24 : Kept (fun _ => False) w1 w4 := by rw [hw4]; exact hk12.alloc _
  have b4 : Box7 w4 w2.heap.size #[.int .u8 s0, .int .u8 s1, .int .u8 s2, .int .u8 s3, .int .u8 s4, .int .u8 s5, .int .i64 (ses : Int)] := by rw [hw4]; exact heap_alloc_new w2 _
  have K4 := hid (Hk1.out.trans hk24)
  have B4 := hid b4
  have R4 := hid (HR1.out.kept hk24 id)
  have e6 := p6 w2 hk12
  have e7 := p7 w2 hk12
  have e8 := p8 w2 hk12
  have e9 := p9 w2 hk12
  have e10 := p10 w2 hk12
  have e11 := p11 w2 hk12
  have Hs4 : Hid (w2.heap.size < w4.heap.size) := B4.out.lt
  clear hw4 hk24 b4 hk2 hk12 HGS hB1 hs1
  clear p0 p1 p2 p3 p4 p5 p6 p7 p8 p9 p10 p11 p12 p13 m0 m1 m2 m3 m4 m5 m6 hisn hE1
  go_wp2_with fail
  rw [← Hw4.out]
  refine (HU.out w4 (HA.out.kept0 K4.out)).mono ?_
  rintro e w5 ⟨rfl, hn5⟩
  have HN5 := hid hn5
  have nS : ∀ j, w.heap.size ≤ j → ¬ S j := fun j hj h => by have := HSlt.out j h; omega
  have K5 := hid hn5.kept
  have hw45 := hn5.kept.size
  have R5 := hid (R4.out.kept K5.out (nS _ (by omega)))
  have hs4 := Hs4.out
  clear hn5 e6 e7 e8 e9 e10 e11
  have hc := fun j => cell_of_row w5 (w.heap.size + 1) j _ _ _ R5.out
  have hf := fun j => frozen_of_row w5 (w.heap.size + 1) j _ _ R5.out
  have c0 := hc 0
  have c1 := hc 1
  have c2 := hc 2
  have c3 := hc 3
  have c4 := hc 4
  have c5 := hc 5
  have c6 := hc 6
  simp only [List.getElem?_toArray, List.getElem?_cons_zero, List.getElem?_cons_succ] at c0 c1 c2 c3 c4 c5 c6
  clear hc
  go_wp2
  refine bodyPost_ret (v := .tuple #[.agg #[.int .u8 0, .int .u8 0, .int .u8 0, .int .u8 0, .int .u8 0, .int .u8 0, .int .i64 0], .string ⟨#[]⟩, .bool false]) (by simp [results, Tryd.results9, go_sem, c0, c1, c2, c3, c4, c5, c6]) rfl ⟨rfl, ?_⟩
  refine CNext.beside (T := fun i => i = w.heap.size + 1) K4.out HN5.out ?_ (fun i hi => ⟨by omega, by omega, nS _ (by omega)⟩)
  repeat (refine Kept.setCell (S := fun i => i = w.heap.size + 1) ?_ (Or.inr (by rfl)) _)
  exact Kept.refl _ w5

set_option maxHeartbeats 4000000 in
set_option maxRecDepth 100000 in
theorem data_some' {S : Nat → Prop} (b : Nat) (c : Cs) (hg : Good c) (src : List UInt8) (hsrc : src.length = 6) (data : ByteArray) (hsz : data.size ≤ 1000000) (ses : Nat) (hses : ses ≤ 65535) (D : List UInt8) (hget : getDiscF data.data.toList = (⟨0, ses, D⟩, 0)) (x : Sn) (hf : findS c.sess src (ses : Int) = some x) (w : World) (hA : CAt S w b c) :
    Calls Tryd.prog 9 #[.pointer (some ⟨b, 0, none⟩), frV ⟨c.mac, src, 34916, data⟩] w fun e w' => e = .returned (.tuple #[idV src (ses : Int), .string ⟨D.toArray⟩, .bool true]) ∧ CNext S w w' b (useF c src ses) := by
  obtain ⟨mb, gv, hC, hS⟩ := id hA
  obtain ⟨x0, x1, x2, x3, x4, x5, hx⟩ := six_cells hg.mac
  obtain ⟨s0, s1, s2, s3, s4, s5, hs⟩ := six_cells hsrc
  have hfv : frV ⟨c.mac, src, 34916, data⟩ = .agg #[.int .u8 x0, .int .u8 x1, .int .u8 x2, .int .u8 x3, .int .u8 x4, .int .u8 x5, .int .u8 s0, .int .u8 s1, .int .u8 s2, .int .u8 s3, .int .u8 s4, .int .u8 s5, .int .i64 34916, .string data] := by unfold frV frList; simp only []; rw [hx, hs]; rfl
  have hfv' := hfv
  have hiv : idV src (ses : Int) = .agg #[.int .u8 s0, .int .u8 s1, .int .u8 s2, .int .u8 s3, .int .u8 s4, .int .u8 s5, .int .i64 (ses : Int)] := by unfold idV idCells; rw [hs]; rfl
  rw [hfv]
  have hE1 := mac_eq c.mac c.mac hg.mac hg.mac
  rw [hx, decide_eq_true rfl] at hE1
  have HU := hid (fun W (h : CAt S W b c) => use_any b c hg src hsrc ses hses W h)
  have hue : (findS c.sess src (ses : Int)).isSome = true := by rw [hf]; rfl
  rw [hue, hiv] at HU
  rw [hiv]
  generalize useF c src ses = cU at *
  have hgs : getS ⟨c.mac, src, 34916, data⟩ = ((ses : Int), ⟨D.toArray⟩, true) := by
    unfold getS
    simp only []
    rw [hget]
    simp
  have HGS := hid (fun W => getS_any ⟨c.mac, src, 34916, data⟩ hg.mac hsrc hsz W)
  rw [hgs] at HGS
  rw [hfv'] at HGS
  change Hid (∀ W, Calls Tryd.prog 23 #[.agg #[.int .u8 x0, .int .u8 x1, .int .u8 x2, .int .u8 x3, .int .u8 x4, .int .u8 x5, .int .u8 s0, .int .u8 s1, .int .u8 s2, .int .u8 s3, .int .u8 s4, .int .u8 s5, .int .i64 34916, .string data]] W fun e w' => e = .returned (.tuple #[.int .i64 (ses : Int), .string ⟨D.toArray⟩, .bool true]) ∧ Kept (fun _ => False) W w') at HGS
  obtain ⟨w1, hw1⟩ : ∃ w1, w1 = (w.alloc (.cells #[.int .u8 x0, .int .u8 x1, .int .u8 x2, .int .u8 x3, .int .u8 x4, .int .u8 x5, .int .u8 s0, .int .u8 s1, .int .u8 s2, .int .u8 s3, .int .u8 s4, .int .u8 s5, .int .i64 34916, .string data] 25)).alloc (.cells #[.int .u8 0, .int .u8 0, .int .u8 0, .int .u8 0, .int .u8 0, .int .u8 0, .int .i64 0] 27) := ⟨_, rfl⟩
  have Hw1 := hid hw1
  have hk1 : Kept (fun _ => False) w w1 := by rw [hw1]; exact ((Kept.refl _ w).alloc _).alloc _
  have hB1 : Own14 w1 w.heap.size #[.int .u8 x0, .int .u8 x1, .int .u8 x2, .int .u8 x3, .int .u8 x4, .int .u8 x5, .int .u8 s0, .int .u8 s1, .int .u8 s2, .int .u8 s3, .int .u8 s4, .int .u8 s5, .int .i64 34916, .string data] := by rw [hw1]; exact (own14_new w _).kept ((Kept.refl _ _).alloc _)
  have hR1 : Box7 w1 (w.heap.size + 1) #[.int .u8 0, .int .u8 0, .int .u8 0, .int .u8 0, .int .u8 0, .int .u8 0, .int .i64 0] := by
    rw [hw1]
    have h := heap_alloc_new (w.alloc (.cells #[.int .u8 x0, .int .u8 x1, .int .u8 x2, .int .u8 x3, .int .u8 x4, .int .u8 x5, .int .u8 s0, .int .u8 s1, .int .u8 s2, .int .u8 s3, .int .u8 s4, .int .u8 s5, .int .i64 34916, .string data] 25)) (.cells #[.int .u8 0, .int .u8 0, .int .u8 0, .int .u8 0, .int .u8 0, .int .u8 0, .int .i64 0] 27)
    rw [show (w.alloc (.cells #[.int .u8 x0, .int .u8 x1, .int .u8 x2, .int .u8 x3, .int .u8 x4, .int .u8 x5, .int .u8 s0, .int .u8 s1, .int .u8 s2, .int .u8 s3, .int .u8 s4, .int .u8 s5, .int .i64 34916, .string data] 25)).heap.size = w.heap.size + 1 from by simp] at h
    exact h
  have hs1 : w.heap.size + 1 < w1.heap.size := hR1.lt
  have hcc := (hC.kept0 hk1).cells hx
  have hisn := isNone_some b c.name
  rw [named hg] at hisn
  have p0 : ∀ W, Kept (fun _ => False) w1 W → W.cell? ⟨w.heap.size, 0, none⟩ = some (.int .u8 x0) := fun W h => (cell_of_row W w.heap.size 0 _ _ _ (hB1.kept h)).trans rfl
  have p1 : ∀ W, Kept (fun _ => False) w1 W → W.cell? ⟨w.heap.size, 1, none⟩ = some (.int .u8 x1) := fun W h => (cell_of_row W w.heap.size 1 _ _ _ (hB1.kept h)).trans rfl
  have p2 : ∀ W, Kept (fun _ => False) w1 W → W.cell? ⟨w.heap.size, 2, none⟩ = some (.int .u8 x2) := fun W h => (cell_of_row W w.heap.size 2 _ _ _ (hB1.kept h)).trans rfl
  have p3 : ∀ W, Kept (fun _ => False) w1 W → W.cell? ⟨w.heap.size, 3, none⟩ = some (.int .u8 x3) := fun W h => (cell_of_row W w.heap.size 3 _ _ _ (hB1.kept h)).trans rfl
  have p4 : ∀ W, Kept (fun _ => False) w1 W → W.cell? ⟨w.heap.size, 4, none⟩ = some (.int .u8 x4) := fun W h => (cell_of_row W w.heap.size 4 _ _ _ (hB1.kept h)).trans rfl
  have p5 : ∀ W, Kept (fun _ => False) w1 W → W.cell? ⟨w.heap.size, 5, none⟩ = some (.int .u8 x5) := fun W h => (cell_of_row W w.heap.size 5 _ _ _ (hB1.kept h)).trans rfl
  have p6 : ∀ W, Kept (fun _ => False) w1 W → W.cell? ⟨w.heap.size, 6, none⟩ = some (.int .u8 s0) := fun W h => (cell_of_row W w.heap.size 6 _ _ _ (hB1.kept h)).trans rfl
  have p7 : ∀ W, Kept (fun _ => False) w1 W → W.cell? ⟨w.heap.size, 7, none⟩ = some (.int .u8 s1) := fun W h => (cell_of_row W w.heap.size 7 _ _ _ (hB1.kept h)).trans rfl
  have p8 : ∀ W, Kept (fun _ => False) w1 W → W.cell? ⟨w.heap.size, 8, none⟩ = some (.int .u8 s2) := fun W h => (cell_of_row W w.heap.size 8 _ _ _ (hB1.kept h)).trans rfl
  have p9 : ∀ W, Kept (fun _ => False) w1 W → W.cell? ⟨w.heap.size, 9, none⟩ = some (.int .u8 s3) := fun W h => (cell_of_row W w.heap.size 9 _ _ _ (hB1.kept h)).trans rfl
  have p10 : ∀ W, Kept (fun _ => False) w1 W → W.cell? ⟨w.heap.size, 10, none⟩ = some (.int .u8 s4) := fun W h => (cell_of_row W w.heap.size 10 _ _ _ (hB1.kept h)).trans rfl
  have p11 : ∀ W, Kept (fun _ => False) w1 W → W.cell? ⟨w.heap.size, 11, none⟩ = some (.int .u8 s5) := fun W h => (cell_of_row W w.heap.size 11 _ _ _ (hB1.kept h)).trans rfl
  have p12 : ∀ W, Kept (fun _ => False) w1 W → W.cell? ⟨w.heap.size, 12, none⟩ = some (.int .i64 34916) := fun W h => (cell_of_row W w.heap.size 12 _ _ _ (hB1.kept h)).trans rfl
  have p13 : ∀ W, Kept (fun _ => False) w1 W → W.cell? ⟨w.heap.size, 13, none⟩ = some (.string data) := fun W h => (cell_of_row W w.heap.size 13 _ _ _ (hB1.kept h)).trans rfl
  have m0 : ∀ W, Kept (fun _ => False) w1 W → W.cell? ⟨b, 0, none⟩ = some (.int .u8 x0) := fun W h => (h.cell (p := ⟨b, 0, none⟩) (lt_of_cell hcc.c0) id).trans hcc.c0
  have m1 : ∀ W, Kept (fun _ => False) w1 W → W.cell? ⟨b, 1, none⟩ = some (.int .u8 x1) := fun W h => (h.cell (p := ⟨b, 1, none⟩) (lt_of_cell hcc.c1) id).trans hcc.c1
  have m2 : ∀ W, Kept (fun _ => False) w1 W → W.cell? ⟨b, 2, none⟩ = some (.int .u8 x2) := fun W h => (h.cell (p := ⟨b, 2, none⟩) (lt_of_cell hcc.c2) id).trans hcc.c2
  have m3 : ∀ W, Kept (fun _ => False) w1 W → W.cell? ⟨b, 3, none⟩ = some (.int .u8 x3) := fun W h => (h.cell (p := ⟨b, 3, none⟩) (lt_of_cell hcc.c3) id).trans hcc.c3
  have m4 : ∀ W, Kept (fun _ => False) w1 W → W.cell? ⟨b, 4, none⟩ = some (.int .u8 x4) := fun W h => (h.cell (p := ⟨b, 4, none⟩) (lt_of_cell hcc.c4) id).trans hcc.c4
  have m5 : ∀ W, Kept (fun _ => False) w1 W → W.cell? ⟨b, 5, none⟩ = some (.int .u8 x5) := fun W h => (h.cell (p := ⟨b, 5, none⟩) (lt_of_cell hcc.c5) id).trans hcc.c5
  have m6 : ∀ W, Kept (fun _ => False) w1 W → W.cell? ⟨b, 6, none⟩ = some (.string c.name) := fun W h => (h.cell (p := ⟨b, 6, none⟩) (lt_of_cell hcc.c6) id).trans hcc.c6
  have Hk1 := hid hk1
  have HR1 := hid hR1
  have HA := hid hA
  have HSlt : Hid (∀ i, S i → i < w.heap.size) := fun i hi => hA.lt hi
  clear hfv hw1 hC hS hA hcc hk1 hR1 hf hue hget
  go_enter Tryd.func9, Tryd.ntmps9
  go_wp2
  rw [← Hw1.out]
  refine wp_region_held_drew (S := Kept (fun _ => False) w1) (by kernel_rfl) ((Kept.refl _ w1).drew) (fun hSd => ?_)
  refine wpAnyH_take (i := 0) (v := ?_) rfl (by kernel_rfl) (by kernel_rfl) (by kernel_rfl) (fun _ _ _ h => h) (Or.inl ⟨by kernel_rfl, fun W hSW => by go_simp; try with_reducible rfl⟩) (by assumption) ?_
  try simp only [List.getElem_toArray]
  try simp only [List.getElem_cons_succ]
  try simp only [List.getElem_cons_zero]
  try simp only [Act.put]
  try simp only [List.setIfInBounds_toArray]
  try simp only [List.set_cons_succ]
  try simp only [List.set_cons_zero]
  refine wpAnyH_ready (rs := [1]) (by kernel_rfl) (by simp) ?_
  refine AllReadyH.cons rfl (fun K hK => ?_) AllReadyH.nil
  go_simp
  refine (hisn w1.drew (m6 _ (Kept.refl _ w1).drew)).mono ?_
  rintro e w2 ⟨rfl, rfl⟩
  refine hK.out _ _ ((Kept.refl _ w1).drew) (fun _ => ?_)
  clear hK K
  try simp only [List.getElem_toArray]
  try simp only [List.getElem_cons_succ]
  try simp only [List.getElem_cons_zero]
  try simp only [Act.put]
  try simp only [List.setIfInBounds_toArray]
  try simp only [List.set_cons_succ]
  try simp only [List.set_cons_zero]
  refine wpAnyH_take (i := 2) (v := .bool false) rfl (by kernel_rfl) (by kernel_rfl) (by kernel_rfl) (fun _ _ _ h => h) (Or.inl ⟨by kernel_rfl, fun W hSW => by go_simp; try with_reducible rfl⟩) (by assumption) ?_
  try simp only [List.getElem_toArray]
  try simp only [List.getElem_cons_succ]
  try simp only [List.getElem_cons_zero]
  try simp only [Act.put]
  try simp only [List.setIfInBounds_toArray]
  try simp only [List.set_cons_succ]
  try simp only [List.set_cons_zero]
  refine wpAnyH_take (i := 3) (v := ?_) rfl (by kernel_rfl) (by kernel_rfl) (by kernel_rfl) (fun _ _ _ h => h) (Or.inl ⟨by kernel_rfl, fun W hSW => by go_simp; try with_reducible rfl⟩) (by assumption) ?_
  try simp only [List.getElem_toArray]
  try simp only [List.getElem_cons_succ]
  try simp only [List.getElem_cons_zero]
  try simp only [Act.put]
  try simp only [List.setIfInBounds_toArray]
  try simp only [List.set_cons_succ]
  try simp only [List.set_cons_zero]
  refine wpAnyH_take (i := 4) (v := ?_) rfl (by kernel_rfl) (by kernel_rfl) (by kernel_rfl) (fun _ _ _ h => h) (Or.inl ⟨by kernel_rfl, fun W hSW => by go_simp; try with_reducible rfl⟩) (by assumption) ?_
  try simp only [List.getElem_toArray]
  try simp only [List.getElem_cons_succ]
  try simp only [List.getElem_cons_zero]
  try simp only [Act.put]
  try simp only [List.setIfInBounds_toArray]
  try simp only [List.set_cons_succ]
  try simp only [List.set_cons_zero]
  refine wpAnyH_take (i := 5) (v := ?_) rfl (by kernel_rfl) (by kernel_rfl) (by kernel_rfl) (fun _ _ _ h => h) (Or.inl ⟨by kernel_rfl, fun W hSW => by go_simp; try with_reducible rfl⟩) (by assumption) ?_
  try simp only [List.getElem_toArray]
  try simp only [List.getElem_cons_succ]
  try simp only [List.getElem_cons_zero]
  try simp only [Act.put]
  try simp only [List.setIfInBounds_toArray]
  try simp only [List.set_cons_succ]
  try simp only [List.set_cons_zero]
  refine wpAnyH_take (i := 6) (v := ?_) rfl (by kernel_rfl) (by kernel_rfl) (by kernel_rfl) (fun _ _ _ h => h) (Or.inl ⟨by kernel_rfl, fun W hSW => by go_simp; try with_reducible rfl⟩) (by assumption) ?_
  try simp only [List.getElem_toArray]
  try simp only [List.getElem_cons_succ]
  try simp only [List.getElem_cons_zero]
  try simp only [Act.put]
  try simp only [List.setIfInBounds_toArray]
  try simp only [List.set_cons_succ]
  try simp only [List.set_cons_zero]
  refine wpAnyH_take (i := 7) (v := ?_) rfl (by kernel_rfl) (by kernel_rfl) (by kernel_rfl) (fun _ _ _ h => h) (Or.inl ⟨by kernel_rfl, fun W hSW => by go_simp; try with_reducible rfl⟩) (by assumption) ?_
  try simp only [List.getElem_toArray]
  try simp only [List.getElem_cons_succ]
  try simp only [List.getElem_cons_zero]
  try simp only [Act.put]
  try simp only [List.setIfInBounds_toArray]
  try simp only [List.set_cons_succ]
  try simp only [List.set_cons_zero]
  refine wpAnyH_take (i := 8) (v := ?_) rfl (by kernel_rfl) (by kernel_rfl) (by kernel_rfl) (fun _ _ _ h => h) (Or.inl ⟨by kernel_rfl, fun W hSW => by go_simp; try with_reducible rfl⟩) (by assumption) ?_
  try simp only [List.getElem_toArray]
  try simp only [List.getElem_cons_succ]
  try simp only [List.getElem_cons_zero]
  try simp only [Act.put]
  try simp only [List.setIfInBounds_toArray]
  try simp only [List.set_cons_succ]
  try simp only [List.set_cons_zero]
  refine wpAnyH_take (i := 9) (v := .bool false) rfl (by kernel_rfl) (by kernel_rfl) (by kernel_rfl) (fun _ _ _ h => h) (Or.inl ⟨by kernel_rfl, fun W hSW => by go_simp; try with_reducible rfl⟩) (by assumption) ?_
  try simp only [List.getElem_toArray]
  try simp only [List.getElem_cons_succ]
  try simp only [List.getElem_cons_zero]
  try simp only [Act.put]
  try simp only [List.setIfInBounds_toArray]
  try simp only [List.set_cons_succ]
  try simp only [List.set_cons_zero]
  refine wpAnyH_take (i := 10) (v := .bool false) rfl (by kernel_rfl) (by kernel_rfl) (by kernel_rfl) (fun _ _ _ h => h) (Or.inl ⟨by kernel_rfl, fun W hSW => by go_simp; try with_reducible rfl⟩) (by assumption) ?_
  try simp only [List.getElem_toArray]
  try simp only [List.getElem_cons_succ]
  try simp only [List.getElem_cons_zero]
  try simp only [Act.put]
  try simp only [List.setIfInBounds_toArray]
  try simp only [List.set_cons_succ]
  try simp only [List.set_cons_zero]
  refine wpAnyH_done (by kernel_rfl) ?_ _
  have pd0 := p0 w1.drew (Kept.refl _ w1).drew
  have pd1 := p1 w1.drew (Kept.refl _ w1).drew
  have pd2 := p2 w1.drew (Kept.refl _ w1).drew
  have pd3 := p3 w1.drew (Kept.refl _ w1).drew
  have pd4 := p4 w1.drew (Kept.refl _ w1).drew
  have pd5 := p5 w1.drew (Kept.refl _ w1).drew
  have pd6 := p6 w1.drew (Kept.refl _ w1).drew
  have pd7 := p7 w1.drew (Kept.refl _ w1).drew
  have pd8 := p8 w1.drew (Kept.refl _ w1).drew
  have pd9 := p9 w1.drew (Kept.refl _ w1).drew
  have pd10 := p10 w1.drew (Kept.refl _ w1).drew
  have pd11 := p11 w1.drew (Kept.refl _ w1).drew
  have pd12 := p12 w1.drew (Kept.refl _ w1).drew
  have pd13 := p13 w1.drew (Kept.refl _ w1).drew
  go_wp2_with fail
  refine (HGS.out _).mono ?_
  rintro e w2 ⟨rfl, hk2⟩
  clear pd0 pd1 pd2 pd3 pd4 pd5 pd6 pd7 pd8 pd9 pd10 pd11 pd12 pd13
  have hk12 : Kept (fun _ => False) w1 w2 := (Kept.refl _ w1).drew.trans hk2
  have hw2s : w.heap.size + 1 < w2.heap.size := by have := hk12.size; omega
  obtain ⟨w4, hw4⟩ : ∃ w4, w4 = w2.alloc (.cells #[.int .u8 s0, .int .u8 s1, .int .u8 s2, .int .u8 s3, .int .u8 s4, .int .u8 s5, .int .i64 (ses : Int)] 27) := ⟨_, rfl⟩
  have Hw4 := hid hw4
  have hk24 : Kept (fun _ => False) w1 w4 := by rw [hw4]; exact hk12.alloc _
  have b4 : Box7 w4 w2.heap.size #[.int .u8 s0, .int .u8 s1, .int .u8 s2, .int .u8 s3, .int .u8 s4, .int .u8 s5, .int .i64 (ses : Int)] := by rw [hw4]; exact heap_alloc_new w2 _
  have K4 := hid (Hk1.out.trans hk24)
  have B4 := hid b4
  have R4 := hid (HR1.out.kept hk24 id)
  have e6 := p6 w2 hk12
  have e7 := p7 w2 hk12
  have e8 := p8 w2 hk12
  have e9 := p9 w2 hk12
  have e10 := p10 w2 hk12
  have e11 := p11 w2 hk12
  have Hs4 : Hid (w2.heap.size < w4.heap.size) := B4.out.lt
  clear hw4 hk24 b4 hk2 hk12 HGS hB1 hs1
  clear p0 p1 p2 p3 p4 p5 p6 p7 p8 p9 p10 p11 p12 p13 m0 m1 m2 m3 m4 m5 m6 hisn hE1
  go_wp2_with fail
  rw [← Hw4.out]
  refine (HU.out w4 (HA.out.kept0 K4.out)).mono ?_
  rintro e w5 ⟨rfl, hn5⟩
  have HN5 := hid hn5
  have nS : ∀ j, w.heap.size ≤ j → ¬ S j := fun j hj h => by have := HSlt.out j h; omega
  have K5 := hid hn5.kept
  have hw45 := hn5.kept.size
  have R5 := hid (R4.out.kept K5.out (nS _ (by omega)))
  have hs4 := Hs4.out
  clear hn5 e6 e7 e8 e9 e10 e11
  have B5 := hid (B4.out.kept K5.out (nS _ (by omega)))
  have hc := fun j => cell_of_row w5 (w.heap.size + 1) j _ _ _ R5.out
  have hf := fun j => frozen_of_row w5 (w.heap.size + 1) j _ _ R5.out
  have hq := fun j => cell_of_row w5 w2.heap.size j _ _ _ B5.out
  have c0 := hc 0
  have q0 := hq 0
  have c1 := hc 1
  have q1 := hq 1
  have c2 := hc 2
  have q2 := hq 2
  have c3 := hc 3
  have q3 := hq 3
  have c4 := hc 4
  have q4 := hq 4
  have c5 := hc 5
  have q5 := hq 5
  have c6 := hc 6
  have q6 := hq 6
  simp only [List.getElem?_toArray, List.getElem?_cons_zero, List.getElem?_cons_succ] at c0 c1 c2 c3 c4 c5 c6 q0 q1 q2 q3 q4 q5 q6
  clear hc hq
  go_wp2
  refine bodyPost_ret (v := .tuple #[.agg #[.int .u8 s0, .int .u8 s1, .int .u8 s2, .int .u8 s3, .int .u8 s4, .int .u8 s5, .int .i64 (ses : Int)], .string ⟨D.toArray⟩, .bool true]) (by simp [results, Tryd.results9, go_sem, c0, c1, c2, c3, c4, c5, c6]) rfl ⟨rfl, ?_⟩
  refine CNext.beside (T := fun i => i = w.heap.size + 1) K4.out HN5.out ?_ (fun i hi => ⟨by omega, by omega, nS _ (by omega)⟩)
  repeat (refine Kept.setCell (S := fun i => i = w.heap.size + 1) ?_ (Or.inr (by rfl)) _)
  exact Kept.refl _ w5

end Go.Proofs.YtgaamehjdoakhaaDoor
