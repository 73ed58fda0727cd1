/- Conc.Take at frames whose packet and tags can be read: from the concentrator's own card; a Padi; a Padr; a Padt. -/
import Derived.Test.YtgaamehjdoakhaaDoorAcOffer
import Derived.Test.YtgaamehjdoakhaaDoorAcEth
namespace Go.Proofs.YtgaamehjdoakhaaDoor
open Go.RowKit

theorem grant_all {S : Nat → Prop} (b : Nat) (c : Cs) (hg : Good c) (to : List UInt8) (hto : to.length = 6) (v : Value) (l : List Tg) (hl : Few l) (t : Int) (ht : In64 t) (w : World) (hT : Tables w) (hZ : TabTz w) (hA : CAt S w b c) (hv : TagsAt w v l) (hvS : ∀ i, S i → v.ownBlock ≠ some i) :
    Calls Tryd.prog 32 #[.pointer (some ⟨b, 0, none⟩), .agg (Lib.byteCells to).toArray, v, .int .i64 t] w fun e w' => ∃ u, e = .returned u ∧ OwnE w' w.heap.size u (grantF (checkB c.secret to) c to l t).1 ∧ CNext S w w' b (grantF (checkB c.secret to) c to l t).2 := by
  unfold grantF
  by_cases h : (findF l 257).2 ≠ 1 ∨ (findF l 260).2 = 0 ∨ checkB c.secret to (findF l 257).1 (findF l 260).1 t = false
  · rw [if_pos h]
    exact (grant_no b c hg to hto v l hl t ht w hT hA hv h).mono fun _ _ ⟨he, hk⟩ => ⟨_, he, OwnE.nil _ _, hA.next.still hk⟩
  · rw [if_neg h]
    have h1 : (findF l 257).2 = 1 := Decidable.byContradiction fun e => h (Or.inl e)
    have h2 : (findF l 260).2 ≠ 0 := fun e => h (Or.inr (Or.inl e))
    have h3 : checkB c.secret to (findF l 257).1 (findF l 260).1 t = true := by
      cases hq : checkB c.secret to (findF l 257).1 (findF l 260).1 t with
      | true => rfl
      | false => exact absurd (Or.inr (Or.inr hq)) h
    exact grant_yes b c hg to hto v l hl t ht w hT hZ hA hv hvS h1 h2 h3
theorem offer_all {S : Nat → Prop} (b : Nat) (c : Cs) (hg : Good c) (to : List UInt8) (hto : to.length = 6) (v : Value) (l : List Tg) (hl : Few l) (t : Int) (w : World) (hT : Tables w) (hA : CAt S w b c) (hv : TagsAt w v l) :
    Calls Tryd.prog 31 #[.pointer (some ⟨b, 0, none⟩), .agg (Lib.byteCells to).toArray, v, .int .i64 t] w fun e w' => ∃ u, e = .returned u ∧ OwnE w' w.heap.size u (offerF (makeB c.secret to) c to l t) ∧ Kept (fun _ => False) w w' := by
  unfold offerF
  by_cases h : (findF l 257).2 ≠ 1 ∨ servesF (findF l 257).1 = false
  · rw [if_pos h]
    exact (offer_no b c hg to hto v l hl t w hA hv h).mono fun _ _ ⟨he, hk⟩ => ⟨_, he, OwnE.nil _ _, hk⟩
  · rw [if_neg h]
    have h1 : (findF l 257).2 = 1 := Decidable.byContradiction fun e => h (Or.inl e)
    have h2 : servesF (findF l 257).1 = true := by
      cases hq : servesF (findF l 257).1 with
      | true => rfl
      | false => exact absurd (Or.inr hq) h
    exact offer_yes b c hg to hto v l hl t w hT hA hv h1 h2

/-- (The card that a Padi goes to is told by a call: nothing is asked of the world.) -/
def Every (_ : World) : Prop := True

set_option maxHeartbeats 4000000 in
set_option maxRecDepth 100000 in
theorem take_own {S : Nat → Prop} (b : Nat) (c : Cs) (hg : Good c) (dst src : List UInt8) (hdst : dst.length = 6) (hsrc : src.length = 6) (data : ByteArray) (_hsz : data.size ≤ 1000000) (t : Int) (w : World) (hA : CAt S w b c) (hown : src = c.mac) :
    Calls Tryd.prog 12 #[.pointer (some ⟨b, 0, none⟩), frV ⟨dst, src, 34915, data⟩, .int .i64 t] w fun e w' => e = .returned (.slice none 0 0) ∧ Kept (fun _ => False) w w' := by
  obtain ⟨mb, gv, hC, hS⟩ := id hA
  obtain ⟨x0, x1, x2, x3, x4, x5, hx⟩ := six_cells hg.mac
  obtain ⟨d0, d1, d2, d3, d4, d5, hd⟩ := six_cells hdst
  obtain ⟨s0, s1, s2, s3, s4, s5, hs⟩ := six_cells hsrc
  have hfv : frV ⟨dst, src, 34915, data⟩ = .agg #[.int .u8 d0, .int .u8 d1, .int .u8 d2, .int .u8 d3, .int .u8 d4, .int .u8 d5, .int .u8 s0, .int .u8 s1, .int .u8 s2, .int .u8 s3, .int .u8 s4, .int .u8 s5, .int .i64 34915, .string data] := by unfold frV frList; simp only []; rw [hd, hs]; rfl
  rw [hfv]
  have hE1 := mac_eq src c.mac hsrc hg.mac
  rw [hs, hx, decide_eq_true hown] at hE1
  obtain ⟨w1, hw1⟩ : ∃ w1, w1 = w.alloc (.cells #[.int .u8 d0, .int .u8 d1, .int .u8 d2, .int .u8 d3, .int .u8 d4, .int .u8 d5, .int .u8 s0, .int .u8 s1, .int .u8 s2, .int .u8 s3, .int .u8 s4, .int .u8 s5, .int .i64 34915, .string data] 25) := ⟨_, rfl⟩
  have Hw1 := hid hw1
  have hk1 : Kept (fun _ => False) w w1 := by rw [hw1]; exact (Kept.refl _ w).alloc _
  have hB1 : Own14 w1 w.heap.size #[.int .u8 d0, .int .u8 d1, .int .u8 d2, .int .u8 d3, .int .u8 d4, .int .u8 d5, .int .u8 s0, .int .u8 s1, .int .u8 s2, .int .u8 s3, .int .u8 s4, .int .u8 s5, .int .i64 34915, .string data] := by rw [hw1]; exact own14_new w _
  have hcc := (hC.kept0 hk1).cells hx
  have hisn := isNone_some b c.name
  have hne : c.name.toList.isEmpty = false := by
    have h1 := hg.name1
    rw [ByteArray.toList_eq]
    rw [Lib.size_eq] at h1
    cases hq : c.name.data.toList with
    | nil => rw [hq] at h1; simp at h1
    | cons a r => rfl
  rw [hne] at hisn
  have p0 : ∀ W, Kept (fun _ => False) w1 W → W.cell? ⟨w.heap.size, 0, none⟩ = some (.int .u8 d0) := fun W h => (cell_of_row W w.heap.size 0 _ _ _ (hB1.kept h)).trans rfl
  have p1 : ∀ W, Kept (fun _ => False) w1 W → W.cell? ⟨w.heap.size, 1, none⟩ = some (.int .u8 d1) := fun W h => (cell_of_row W w.heap.size 1 _ _ _ (hB1.kept h)).trans rfl
  have p2 : ∀ W, Kept (fun _ => False) w1 W → W.cell? ⟨w.heap.size, 2, none⟩ = some (.int .u8 d2) := fun W h => (cell_of_row W w.heap.size 2 _ _ _ (hB1.kept h)).trans rfl
  have p3 : ∀ W, Kept (fun _ => False) w1 W → W.cell? ⟨w.heap.size, 3, none⟩ = some (.int .u8 d3) := fun W h => (cell_of_row W w.heap.size 3 _ _ _ (hB1.kept h)).trans rfl
  have p4 : ∀ W, Kept (fun _ => False) w1 W → W.cell? ⟨w.heap.size, 4, none⟩ = some (.int .u8 d4) := fun W h => (cell_of_row W w.heap.size 4 _ _ _ (hB1.kept h)).trans rfl
  have p5 : ∀ W, Kept (fun _ => False) w1 W → W.cell? ⟨w.heap.size, 5, none⟩ = some (.int .u8 d5) := fun W h => (cell_of_row W w.heap.size 5 _ _ _ (hB1.kept h)).trans rfl
  have p6 : ∀ W, Kept (fun _ => False) w1 W → W.cell? ⟨w.heap.size, 6, none⟩ = some (.int .u8 s0) := fun W h => (cell_of_row W w.heap.size 6 _ _ _ (hB1.kept h)).trans rfl
  have p7 : ∀ W, Kept (fun _ => False) w1 W → W.cell? ⟨w.heap.size, 7, none⟩ = some (.int .u8 s1) := fun W h => (cell_of_row W w.heap.size 7 _ _ _ (hB1.kept h)).trans rfl
  have p8 : ∀ W, Kept (fun _ => False) w1 W → W.cell? ⟨w.heap.size, 8, none⟩ = some (.int .u8 s2) := fun W h => (cell_of_row W w.heap.size 8 _ _ _ (hB1.kept h)).trans rfl
  have p9 : ∀ W, Kept (fun _ => False) w1 W → W.cell? ⟨w.heap.size, 9, none⟩ = some (.int .u8 s3) := fun W h => (cell_of_row W w.heap.size 9 _ _ _ (hB1.kept h)).trans rfl
  have p10 : ∀ W, Kept (fun _ => False) w1 W → W.cell? ⟨w.heap.size, 10, none⟩ = some (.int .u8 s4) := fun W h => (cell_of_row W w.heap.size 10 _ _ _ (hB1.kept h)).trans rfl
  have p11 : ∀ W, Kept (fun _ => False) w1 W → W.cell? ⟨w.heap.size, 11, none⟩ = some (.int .u8 s5) := fun W h => (cell_of_row W w.heap.size 11 _ _ _ (hB1.kept h)).trans rfl
  have p12 : ∀ W, Kept (fun _ => False) w1 W → W.cell? ⟨w.heap.size, 12, none⟩ = some (.int .i64 34915) := fun W h => (cell_of_row W w.heap.size 12 _ _ _ (hB1.kept h)).trans rfl
  have p13 : ∀ W, Kept (fun _ => False) w1 W → W.cell? ⟨w.heap.size, 13, none⟩ = some (.string data) := fun W h => (cell_of_row W w.heap.size 13 _ _ _ (hB1.kept h)).trans rfl
  have m0 : ∀ W, Kept (fun _ => False) w1 W → W.cell? ⟨b, 0, none⟩ = some (.int .u8 x0) := fun W h => (h.cell (p := ⟨b, 0, none⟩) (lt_of_cell hcc.c0) id).trans hcc.c0
  have m1 : ∀ W, Kept (fun _ => False) w1 W → W.cell? ⟨b, 1, none⟩ = some (.int .u8 x1) := fun W h => (h.cell (p := ⟨b, 1, none⟩) (lt_of_cell hcc.c1) id).trans hcc.c1
  have m2 : ∀ W, Kept (fun _ => False) w1 W → W.cell? ⟨b, 2, none⟩ = some (.int .u8 x2) := fun W h => (h.cell (p := ⟨b, 2, none⟩) (lt_of_cell hcc.c2) id).trans hcc.c2
  have m3 : ∀ W, Kept (fun _ => False) w1 W → W.cell? ⟨b, 3, none⟩ = some (.int .u8 x3) := fun W h => (h.cell (p := ⟨b, 3, none⟩) (lt_of_cell hcc.c3) id).trans hcc.c3
  have m4 : ∀ W, Kept (fun _ => False) w1 W → W.cell? ⟨b, 4, none⟩ = some (.int .u8 x4) := fun W h => (h.cell (p := ⟨b, 4, none⟩) (lt_of_cell hcc.c4) id).trans hcc.c4
  have m5 : ∀ W, Kept (fun _ => False) w1 W → W.cell? ⟨b, 5, none⟩ = some (.int .u8 x5) := fun W h => (h.cell (p := ⟨b, 5, none⟩) (lt_of_cell hcc.c5) id).trans hcc.c5
  have m6 : ∀ W, Kept (fun _ => False) w1 W → W.cell? ⟨b, 6, none⟩ = some (.string c.name) := fun W h => (h.cell (p := ⟨b, 6, none⟩) (lt_of_cell hcc.c6) id).trans hcc.c6
  have Hk1 := hid hk1
  have HX := hid hx
  clear hfv hw1 hne
  go_enter Tryd.func12, Tryd.ntmps12
  go_wp2
  rw [← Hw1.out]
  refine wp_region_held_drew (S := Kept (fun _ => False) w1) (by kernel_rfl) ((Kept.refl _ w1).drew) (fun hSd => ?_)
  refine wpAnyH_take (i := 0) (v := ?_) rfl (by kernel_rfl) (by kernel_rfl) (by kernel_rfl) (fun _ _ _ h => h) (Or.inl ⟨by kernel_rfl, fun W hSW => by go_simp; try with_reducible rfl⟩) (by assumption) ?_
  try simp only [List.getElem_toArray]
  try simp only [List.getElem_cons_succ]
  try simp only [List.getElem_cons_zero]
  try simp only [Act.put]
  try simp only [List.setIfInBounds_toArray]
  try simp only [List.set_cons_succ]
  try simp only [List.set_cons_zero]
  refine wpAnyH_ready (rs := [1]) (by kernel_rfl) (by simp) ?_
  refine AllReadyH.cons rfl (fun K hK => ?_) AllReadyH.nil
  go_simp
  refine (hisn w1.drew (m6 _ (Kept.refl _ w1).drew)).mono ?_
  rintro e w2 ⟨rfl, rfl⟩
  refine hK.out _ _ ((Kept.refl _ w1).drew) (fun _ => ?_)
  clear hK K
  try simp only [List.getElem_toArray]
  try simp only [List.getElem_cons_succ]
  try simp only [List.getElem_cons_zero]
  try simp only [Act.put]
  try simp only [List.setIfInBounds_toArray]
  try simp only [List.set_cons_succ]
  try simp only [List.set_cons_zero]
  refine wpAnyH_take (i := 2) (v := .bool false) rfl (by kernel_rfl) (by kernel_rfl) (by kernel_rfl) (fun _ _ _ h => h) (Or.inl ⟨by kernel_rfl, fun W hSW => by go_simp; try with_reducible rfl⟩) (by assumption) ?_
  try simp only [List.getElem_toArray]
  try simp only [List.getElem_cons_succ]
  try simp only [List.getElem_cons_zero]
  try simp only [Act.put]
  try simp only [List.setIfInBounds_toArray]
  try simp only [List.set_cons_succ]
  try simp only [List.set_cons_zero]
  refine wpAnyH_take (i := 3) (v := ?_) rfl (by kernel_rfl) (by kernel_rfl) (by kernel_rfl) (fun _ _ _ h => h) (Or.inl ⟨by kernel_rfl, fun W hSW => by go_simp; try with_reducible rfl⟩) (by assumption) ?_
  try simp only [List.getElem_toArray]
  try simp only [List.getElem_cons_succ]
  try simp only [List.getElem_cons_zero]
  try simp only [Act.put]
  try simp only [List.setIfInBounds_toArray]
  try simp only [List.set_cons_succ]
  try simp only [List.set_cons_zero]
  refine wpAnyH_take (i := 4) (v := ?_) rfl (by kernel_rfl) (by kernel_rfl) (by kernel_rfl) (fun _ _ _ h => h) (Or.inl ⟨by kernel_rfl, fun W hSW => by go_simp; try with_reducible rfl⟩) (by assumption) ?_
  try simp only [List.getElem_toArray]
  try simp only [List.getElem_cons_succ]
  try simp only [List.getElem_cons_zero]
  try simp only [Act.put]
  try simp only [List.setIfInBounds_toArray]
  try simp only [List.set_cons_succ]
  try simp only [List.set_cons_zero]
  refine wpAnyH_take (i := 5) (v := ?_) rfl (by kernel_rfl) (by kernel_rfl) (by kernel_rfl) (fun _ _ _ h => h) (Or.inl ⟨by kernel_rfl, fun W hSW => by go_simp; try with_reducible rfl⟩) (by assumption) ?_
  try simp only [List.getElem_toArray]
  try simp only [List.getElem_cons_succ]
  try simp only [List.getElem_cons_zero]
  try simp only [Act.put]
  try simp only [List.setIfInBounds_toArray]
  try simp only [List.set_cons_succ]
  try simp only [List.set_cons_zero]
  refine wpAnyH_take (i := 6) (v := ?_) rfl (by kernel_rfl) (by kernel_rfl) (by kernel_rfl) (fun _ _ _ h => h) (Or.inl ⟨by kernel_rfl, fun W hSW => by go_simp; try with_reducible rfl⟩) (by assumption) ?_
  try simp only [List.getElem_toArray]
  try simp only [List.getElem_cons_succ]
  try simp only [List.getElem_cons_zero]
  try simp only [Act.put]
  try simp only [List.setIfInBounds_toArray]
  try simp only [List.set_cons_succ]
  try simp only [List.set_cons_zero]
  refine wpAnyH_take (i := 7) (v := ?_) rfl (by kernel_rfl) (by kernel_rfl) (by kernel_rfl) (fun _ _ _ h => h) (Or.inl ⟨by kernel_rfl, fun W hSW => by go_simp; try with_reducible rfl⟩) (by assumption) ?_
  try simp only [List.getElem_toArray]
  try simp only [List.getElem_cons_succ]
  try simp only [List.getElem_cons_zero]
  try simp only [Act.put]
  try simp only [List.setIfInBounds_toArray]
  try simp only [List.set_cons_succ]
  try simp only [List.set_cons_zero]
  refine wpAnyH_take (i := 8) (v := ?_) rfl (by kernel_rfl) (by kernel_rfl) (by kernel_rfl) (fun _ _ _ h => h) (Or.inl ⟨by kernel_rfl, fun W hSW => by go_simp; try with_reducible rfl⟩) (by assumption) ?_
  try simp only [List.getElem_toArray]
  try simp only [List.getElem_cons_succ]
  try simp only [List.getElem_cons_zero]
  try simp only [Act.put]
  try simp only [List.setIfInBounds_toArray]
  try simp only [List.set_cons_succ]
  try simp only [List.set_cons_zero]
  refine wpAnyH_take (i := 9) (v := .bool true) rfl (by kernel_rfl) (by kernel_rfl) (by kernel_rfl) (fun _ _ _ h => h) (Or.inl ⟨by kernel_rfl, fun W hSW => by go_simp; try with_reducible rfl⟩) (by assumption) ?_
  try simp only [List.getElem_toArray]
  try simp only [List.getElem_cons_succ]
  try simp only [List.getElem_cons_zero]
  try simp only [Act.put]
  try simp only [List.setIfInBounds_toArray]
  try simp only [List.set_cons_succ]
  try simp only [List.set_cons_zero]
  refine wpAnyH_take (i := 10) (v := .bool true) rfl (by kernel_rfl) (by kernel_rfl) (by kernel_rfl) (fun _ _ _ h => h) (Or.inl ⟨by kernel_rfl, fun W hSW => by go_simp; try with_reducible rfl⟩) (by assumption) ?_
  try simp only [List.getElem_toArray]
  try simp only [List.getElem_cons_succ]
  try simp only [List.getElem_cons_zero]
  try simp only [Act.put]
  try simp only [List.setIfInBounds_toArray]
  try simp only [List.set_cons_succ]
  try simp only [List.set_cons_zero]
  refine wpAnyH_done (by kernel_rfl) ?_ _
  go_wp2
  go_ret
  exact ⟨rfl, Hk1.out.drew⟩

set_option maxHeartbeats 4000000 in
set_option maxRecDepth 100000 in
theorem take_padr {S : Nat → Prop} (b : Nat) (c : Cs) (hg : Good c) (dst src : List UInt8) (hdst : dst.length = 6) (hsrc : src.length = 6) (data : ByteArray) (hsz : data.size ≤ 1000000) (t : Int) (ht : In64 t) (ses : Nat) (D : List UInt8) (l : List Tg) (_hD : D.length ≤ 1000000) (hget : getDiscF data.data.toList = (⟨25, ses, D⟩, 0)) (htag : tagsOn D [] = (l, 0)) (hl : Few l) (w : World) (hT : Tables w) (hZ : TabTz w) (hA : CAt S w b c) (hown : ¬ src = c.mac) (hdm : dst = c.mac) (hs0 : ses = 0) :
    Calls Tryd.prog 12 #[.pointer (some ⟨b, 0, none⟩), frV ⟨dst, src, 34915, data⟩, .int .i64 t] w fun e w' => ∃ u, e = .returned u ∧ OwnE w' w.heap.size u (grantF (checkB c.secret src) c src l t).1 ∧ CNext S w w' b (grantF (checkB c.secret src) c src l t).2 := by
  subst hs0
  have hE3 := mac_eq dst c.mac hdst hg.mac
  obtain ⟨mb, gv, hC, hS⟩ := id hA
  obtain ⟨x0, x1, x2, x3, x4, x5, hx⟩ := six_cells hg.mac
  obtain ⟨d0, d1, d2, d3, d4, d5, hd⟩ := six_cells hdst
  obtain ⟨s0, s1, s2, s3, s4, s5, hs⟩ := six_cells hsrc
  have hfv : frV ⟨dst, src, 34915, data⟩ = .agg #[.int .u8 d0, .int .u8 d1, .int .u8 d2, .int .u8 d3, .int .u8 d4, .int .u8 d5, .int .u8 s0, .int .u8 s1, .int .u8 s2, .int .u8 s3, .int .u8 s4, .int .u8 s5, .int .i64 34915, .string data] := by unfold frV frList; simp only []; rw [hd, hs]; rfl
  rw [hfv]
  have hE1 := mac_eq src c.mac hsrc hg.mac
  rw [hs, hx, decide_eq_false hown] at hE1
  obtain ⟨w1, hw1⟩ : ∃ w1, w1 = w.alloc (.cells #[.int .u8 d0, .int .u8 d1, .int .u8 d2, .int .u8 d3, .int .u8 d4, .int .u8 d5, .int .u8 s0, .int .u8 s1, .int .u8 s2, .int .u8 s3, .int .u8 s4, .int .u8 s5, .int .i64 34915, .string data] 25) := ⟨_, rfl⟩
  have Hw1 := hid hw1
  have hk1 : Kept (fun _ => False) w w1 := by rw [hw1]; exact (Kept.refl _ w).alloc _
  have hB1 : Own14 w1 w.heap.size #[.int .u8 d0, .int .u8 d1, .int .u8 d2, .int .u8 d3, .int .u8 d4, .int .u8 d5, .int .u8 s0, .int .u8 s1, .int .u8 s2, .int .u8 s3, .int .u8 s4, .int .u8 s5, .int .i64 34915, .string data] := by rw [hw1]; exact own14_new w _
  have hcc := (hC.kept0 hk1).cells hx
  have hisn := isNone_some b c.name
  have hne : c.name.toList.isEmpty = false := by
    have h1 := hg.name1
    rw [ByteArray.toList_eq]
    rw [Lib.size_eq] at h1
    cases hq : c.name.data.toList with
    | nil => rw [hq] at h1; simp at h1
    | cons a r => rfl
  rw [hne] at hisn
  have p0 : ∀ W, Kept (fun _ => False) w1 W → W.cell? ⟨w.heap.size, 0, none⟩ = some (.int .u8 d0) := fun W h => (cell_of_row W w.heap.size 0 _ _ _ (hB1.kept h)).trans rfl
  have p1 : ∀ W, Kept (fun _ => False) w1 W → W.cell? ⟨w.heap.size, 1, none⟩ = some (.int .u8 d1) := fun W h => (cell_of_row W w.heap.size 1 _ _ _ (hB1.kept h)).trans rfl
  have p2 : ∀ W, Kept (fun _ => False) w1 W → W.cell? ⟨w.heap.size, 2, none⟩ = some (.int .u8 d2) := fun W h => (cell_of_row W w.heap.size 2 _ _ _ (hB1.kept h)).trans rfl
  have p3 : ∀ W, Kept (fun _ => False) w1 W → W.cell? ⟨w.heap.size, 3, none⟩ = some (.int .u8 d3) := fun W h => (cell_of_row W w.heap.size 3 _ _ _ (hB1.kept h)).trans rfl
  have p4 : ∀ W, Kept (fun _ => False) w1 W → W.cell? ⟨w.heap.size, 4, none⟩ = some (.int .u8 d4) := fun W h => (cell_of_row W w.heap.size 4 _ _ _ (hB1.kept h)).trans rfl
  have p5 : ∀ W, Kept (fun _ => False) w1 W → W.cell? ⟨w.heap.size, 5, none⟩ = some (.int .u8 d5) := fun W h => (cell_of_row W w.heap.size 5 _ _ _ (hB1.kept h)).trans rfl
  have p6 : ∀ W, Kept (fun _ => False) w1 W → W.cell? ⟨w.heap.size, 6, none⟩ = some (.int .u8 s0) := fun W h => (cell_of_row W w.heap.size 6 _ _ _ (hB1.kept h)).trans rfl
  have p7 : ∀ W, Kept (fun _ => False) w1 W → W.cell? ⟨w.heap.size, 7, none⟩ = some (.int .u8 s1) := fun W h => (cell_of_row W w.heap.size 7 _ _ _ (hB1.kept h)).trans rfl
  have p8 : ∀ W, Kept (fun _ => False) w1 W → W.cell? ⟨w.heap.size, 8, none⟩ = some (.int .u8 s2) := fun W h => (cell_of_row W w.heap.size 8 _ _ _ (hB1.kept h)).trans rfl
  have p9 : ∀ W, Kept (fun _ => False) w1 W → W.cell? ⟨w.heap.size, 9, none⟩ = some (.int .u8 s3) := fun W h => (cell_of_row W w.heap.size 9 _ _ _ (hB1.kept h)).trans rfl
  have p10 : ∀ W, Kept (fun _ => False) w1 W → W.cell? ⟨w.heap.size, 10, none⟩ = some (.int .u8 s4) := fun W h => (cell_of_row W w.heap.size 10 _ _ _ (hB1.kept h)).trans rfl
  have p11 : ∀ W, Kept (fun _ => False) w1 W → W.cell? ⟨w.heap.size, 11, none⟩ = some (.int .u8 s5) := fun W h => (cell_of_row W w.heap.size 11 _ _ _ (hB1.kept h)).trans rfl
  have p12 : ∀ W, Kept (fun _ => False) w1 W → W.cell? ⟨w.heap.size, 12, none⟩ = some (.int .i64 34915) := fun W h => (cell_of_row W w.heap.size 12 _ _ _ (hB1.kept h)).trans rfl
  have p13 : ∀ W, Kept (fun _ => False) w1 W → W.cell? ⟨w.heap.size, 13, none⟩ = some (.string data) := fun W h => (cell_of_row W w.heap.size 13 _ _ _ (hB1.kept h)).trans rfl
  have m0 : ∀ W, Kept (fun _ => False) w1 W → W.cell? ⟨b, 0, none⟩ = some (.int .u8 x0) := fun W h => (h.cell (p := ⟨b, 0, none⟩) (lt_of_cell hcc.c0) id).trans hcc.c0
  have m1 : ∀ W, Kept (fun _ => False) w1 W → W.cell? ⟨b, 1, none⟩ = some (.int .u8 x1) := fun W h => (h.cell (p := ⟨b, 1, none⟩) (lt_of_cell hcc.c1) id).trans hcc.c1
  have m2 : ∀ W, Kept (fun _ => False) w1 W → W.cell? ⟨b, 2, none⟩ = some (.int .u8 x2) := fun W h => (h.cell (p := ⟨b, 2, none⟩) (lt_of_cell hcc.c2) id).trans hcc.c2
  have m3 : ∀ W, Kept (fun _ => False) w1 W → W.cell? ⟨b, 3, none⟩ = some (.int .u8 x3) := fun W h => (h.cell (p := ⟨b, 3, none⟩) (lt_of_cell hcc.c3) id).trans hcc.c3
  have m4 : ∀ W, Kept (fun _ => False) w1 W → W.cell? ⟨b, 4, none⟩ = some (.int .u8 x4) := fun W h => (h.cell (p := ⟨b, 4, none⟩) (lt_of_cell hcc.c4) id).trans hcc.c4
  have m5 : ∀ W, Kept (fun _ => False) w1 W → W.cell? ⟨b, 5, none⟩ = some (.int .u8 x5) := fun W h => (h.cell (p := ⟨b, 5, none⟩) (lt_of_cell hcc.c5) id).trans hcc.c5
  have m6 : ∀ W, Kept (fun _ => False) w1 W → W.cell? ⟨b, 6, none⟩ = some (.string c.name) := fun W h => (h.cell (p := ⟨b, 6, none⟩) (lt_of_cell hcc.c6) id).trans hcc.c6
  have Hk1 := hid hk1
  have HX := hid hx
  clear hfv hw1 hne
  rw [hd, hx, decide_eq_true hdm] at hE3
  have hge : getE ⟨dst, src, 34915, data⟩ = (⟨25, 0, D⟩, l, true) := by
    unfold getE
    simp only []
    rw [hget]
    simp only []
    rw [htag]
    simp
  have HGE := hid (fun W => getE_any ⟨dst, src, 34915, data⟩ hdst hsrc hsz W)
  rw [hge] at HGE
  simp only [] at HGE
  unfold discV frV frList at HGE
  simp only [] at HGE
  rw [hd, hs] at HGE
  change Hid (∀ W, Calls Tryd.prog 29 #[.agg #[.int .u8 d0, .int .u8 d1, .int .u8 d2, .int .u8 d3, .int .u8 d4, .int .u8 d5, .int .u8 s0, .int .u8 s1, .int .u8 s2, .int .u8 s3, .int .u8 s4, .int .u8 s5, .int .i64 34915, .string data]] W fun e w' => _) at HGE
  have HGR := hid (fun W (hk : Kept (fun _ => False) w W) (v : Value) (hv : TagsAt W v l) (hvS : ∀ i, S i → v.ownBlock ≠ some i) => grant_all b c hg src hsrc v l hl t ht W (hT.kept hk) (hZ.kept hk) (hA.kept0 hk) hv hvS)
  rw [hs] at HGR
  go_enter Tryd.func12, Tryd.ntmps12
  go_wp2
  rw [← Hw1.out]
  refine wp_region_held_drew (S := Kept (fun _ => False) w1) (by kernel_rfl) ((Kept.refl _ w1).drew) (fun hSd => ?_)
  refine wpAnyH_take (i := 0) (v := ?_) rfl (by kernel_rfl) (by kernel_rfl) (by kernel_rfl) (fun _ _ _ h => h) (Or.inl ⟨by kernel_rfl, fun W hSW => by go_simp; try with_reducible rfl⟩) (by assumption) ?_
  try simp only [List.getElem_toArray]
  try simp only [List.getElem_cons_succ]
  try simp only [List.getElem_cons_zero]
  try simp only [Act.put]
  try simp only [List.setIfInBounds_toArray]
  try simp only [List.set_cons_succ]
  try simp only [List.set_cons_zero]
  refine wpAnyH_ready (rs := [1]) (by kernel_rfl) (by simp) ?_
  refine AllReadyH.cons rfl (fun K hK => ?_) AllReadyH.nil
  go_simp
  refine (hisn w1.drew (m6 _ (Kept.refl _ w1).drew)).mono ?_
  rintro e w2 ⟨rfl, rfl⟩
  refine hK.out _ _ ((Kept.refl _ w1).drew) (fun _ => ?_)
  clear hK K
  try simp only [List.getElem_toArray]
  try simp only [List.getElem_cons_succ]
  try simp only [List.getElem_cons_zero]
  try simp only [Act.put]
  try simp only [List.setIfInBounds_toArray]
  try simp only [List.set_cons_succ]
  try simp only [List.set_cons_zero]
  refine wpAnyH_take (i := 2) (v := .bool false) rfl (by kernel_rfl) (by kernel_rfl) (by kernel_rfl) (fun _ _ _ h => h) (Or.inl ⟨by kernel_rfl, fun W hSW => by go_simp; try with_reducible rfl⟩) (by assumption) ?_
  try simp only [List.getElem_toArray]
  try simp only [List.getElem_cons_succ]
  try simp only [List.getElem_cons_zero]
  try simp only [Act.put]
  try simp only [List.setIfInBounds_toArray]
  try simp only [List.set_cons_succ]
  try simp only [List.set_cons_zero]
  refine wpAnyH_take (i := 3) (v := ?_) rfl (by kernel_rfl) (by kernel_rfl) (by kernel_rfl) (fun _ _ _ h => h) (Or.inl ⟨by kernel_rfl, fun W hSW => by go_simp; try with_reducible rfl⟩) (by assumption) ?_
  try simp only [List.getElem_toArray]
  try simp only [List.getElem_cons_succ]
  try simp only [List.getElem_cons_zero]
  try simp only [Act.put]
  try simp only [List.setIfInBounds_toArray]
  try simp only [List.set_cons_succ]
  try simp only [List.set_cons_zero]
  refine wpAnyH_take (i := 4) (v := ?_) rfl (by kernel_rfl) (by kernel_rfl) (by kernel_rfl) (fun _ _ _ h => h) (Or.inl ⟨by kernel_rfl, fun W hSW => by go_simp; try with_reducible rfl⟩) (by assumption) ?_
  try simp only [List.getElem_toArray]
  try simp only [List.getElem_cons_succ]
  try simp only [List.getElem_cons_zero]
  try simp only [Act.put]
  try simp only [List.setIfInBounds_toArray]
  try simp only [List.set_cons_succ]
  try simp only [List.set_cons_zero]
  refine wpAnyH_take (i := 5) (v := ?_) rfl (by kernel_rfl) (by kernel_rfl) (by kernel_rfl) (fun _ _ _ h => h) (Or.inl ⟨by kernel_rfl, fun W hSW => by go_simp; try with_reducible rfl⟩) (by assumption) ?_
  try simp only [List.getElem_toArray]
  try simp only [List.getElem_cons_succ]
  try simp only [List.getElem_cons_zero]
  try simp only [Act.put]
  try simp only [List.setIfInBounds_toArray]
  try simp only [List.set_cons_succ]
  try simp only [List.set_cons_zero]
  refine wpAnyH_take (i := 6) (v := ?_) rfl (by kernel_rfl) (by kernel_rfl) (by kernel_rfl) (fun _ _ _ h => h) (Or.inl ⟨by kernel_rfl, fun W hSW => by go_simp; try with_reducible rfl⟩) (by assumption) ?_
  try simp only [List.getElem_toArray]
  try simp only [List.getElem_cons_succ]
  try simp only [List.getElem_cons_zero]
  try simp only [Act.put]
  try simp only [List.setIfInBounds_toArray]
  try simp only [List.set_cons_succ]
  try simp only [List.set_cons_zero]
  refine wpAnyH_take (i := 7) (v := ?_) rfl (by kernel_rfl) (by kernel_rfl) (by kernel_rfl) (fun _ _ _ h => h) (Or.inl ⟨by kernel_rfl, fun W hSW => by go_simp; try with_reducible rfl⟩) (by assumption) ?_
  try simp only [List.getElem_toArray]
  try simp only [List.getElem_cons_succ]
  try simp only [List.getElem_cons_zero]
  try simp only [Act.put]
  try simp only [List.setIfInBounds_toArray]
  try simp only [List.set_cons_succ]
  try simp only [List.set_cons_zero]
  refine wpAnyH_take (i := 8) (v := ?_) rfl (by kernel_rfl) (by kernel_rfl) (by kernel_rfl) (fun _ _ _ h => h) (Or.inl ⟨by kernel_rfl, fun W hSW => by go_simp; try with_reducible rfl⟩) (by assumption) ?_
  try simp only [List.getElem_toArray]
  try simp only [List.getElem_cons_succ]
  try simp only [List.getElem_cons_zero]
  try simp only [Act.put]
  try simp only [List.setIfInBounds_toArray]
  try simp only [List.set_cons_succ]
  try simp only [List.set_cons_zero]
  refine wpAnyH_take (i := 9) (v := .bool false) rfl (by kernel_rfl) (by kernel_rfl) (by kernel_rfl) (fun _ _ _ h => h) (Or.inl ⟨by kernel_rfl, fun W hSW => by go_simp; try with_reducible rfl⟩) (by assumption) ?_
  try simp only [List.getElem_toArray]
  try simp only [List.getElem_cons_succ]
  try simp only [List.getElem_cons_zero]
  try simp only [Act.put]
  try simp only [List.setIfInBounds_toArray]
  try simp only [List.set_cons_succ]
  try simp only [List.set_cons_zero]
  refine wpAnyH_take (i := 10) (v := .bool false) rfl (by kernel_rfl) (by kernel_rfl) (by kernel_rfl) (fun _ _ _ h => h) (Or.inl ⟨by kernel_rfl, fun W hSW => by go_simp; try with_reducible rfl⟩) (by assumption) ?_
  try simp only [List.getElem_toArray]
  try simp only [List.getElem_cons_succ]
  try simp only [List.getElem_cons_zero]
  try simp only [Act.put]
  try simp only [List.setIfInBounds_toArray]
  try simp only [List.set_cons_succ]
  try simp only [List.set_cons_zero]
  refine wpAnyH_done (by kernel_rfl) ?_ _
  have pd0 := p0 w1.drew (Kept.refl _ w1).drew
  have pd1 := p1 w1.drew (Kept.refl _ w1).drew
  have pd2 := p2 w1.drew (Kept.refl _ w1).drew
  have pd3 := p3 w1.drew (Kept.refl _ w1).drew
  have pd4 := p4 w1.drew (Kept.refl _ w1).drew
  have pd5 := p5 w1.drew (Kept.refl _ w1).drew
  have pd6 := p6 w1.drew (Kept.refl _ w1).drew
  have pd7 := p7 w1.drew (Kept.refl _ w1).drew
  have pd8 := p8 w1.drew (Kept.refl _ w1).drew
  have pd9 := p9 w1.drew (Kept.refl _ w1).drew
  have pd10 := p10 w1.drew (Kept.refl _ w1).drew
  have pd11 := p11 w1.drew (Kept.refl _ w1).drew
  have pd12 := p12 w1.drew (Kept.refl _ w1).drew
  have pd13 := p13 w1.drew (Kept.refl _ w1).drew
  go_wp2_with fail
  refine (HGE.out _).mono ?_
  rintro e w2 ⟨pv4, cv4, rfl, ho2, hk2⟩
  clear pd0 pd1 pd2 pd3 pd4 pd5 pd6 pd7 pd8 pd9 pd10 pd11 pd12 pd13
  obtain ⟨w4, hw4⟩ : ∃ w4, w4 = w2.alloc (.cells #[.int .i64 25, .int .i64 0, .string ⟨D.toArray⟩] 67) := ⟨_, rfl⟩
  have Hw4 := hid hw4
  have hk14 : Kept (fun _ => False) w1 w4 := by rw [hw4]; exact ((Kept.refl _ w1).drew.trans hk2).alloc _
  obtain ⟨z0, z1, z2⟩ : Box3 w4 w2.heap.size (.int .i64 25) (.int .i64 0) (.string ⟨D.toArray⟩) := by rw [hw4]; exact box3_new w2 _ _ _ _
  have ho4 : OwnT w4 w1.heap.size (.slice pv4 l.length cv4) l := by rw [hw4]; exact OwnT.kept (show OwnT w2 w1.heap.size _ l from ho2) ((Kept.refl _ w2).alloc _)
  have K4 := hid (Hk1.out.trans hk14)
  have V4 := hid ho4.tags
  have HV4 : Hid (∀ i, S i → (Value.slice pv4 l.length cv4).ownBlock ≠ some i) := fun i hi e => by
    have h1 := hA.lt hi
    have h2 := (World.ownsRow.lt ho4 i e).1
    have h3 := Hk1.out.size
    omega
  have HA4 := hid (hA.kept0 K4.out)
  clear ho2 ho4 hk2 HGE hw4
  clear hS hC hcc
  have P0 : ∀ W, Kept (fun _ => False) w4 W → W.cell? ⟨w.heap.size, 0, none⟩ = some (.int .u8 d0) := fun W h => p0 W (hk14.trans h)
  have P1 : ∀ W, Kept (fun _ => False) w4 W → W.cell? ⟨w.heap.size, 1, none⟩ = some (.int .u8 d1) := fun W h => p1 W (hk14.trans h)
  have P2 : ∀ W, Kept (fun _ => False) w4 W → W.cell? ⟨w.heap.size, 2, none⟩ = some (.int .u8 d2) := fun W h => p2 W (hk14.trans h)
  have P3 : ∀ W, Kept (fun _ => False) w4 W → W.cell? ⟨w.heap.size, 3, none⟩ = some (.int .u8 d3) := fun W h => p3 W (hk14.trans h)
  have P4 : ∀ W, Kept (fun _ => False) w4 W → W.cell? ⟨w.heap.size, 4, none⟩ = some (.int .u8 d4) := fun W h => p4 W (hk14.trans h)
  have P5 : ∀ W, Kept (fun _ => False) w4 W → W.cell? ⟨w.heap.size, 5, none⟩ = some (.int .u8 d5) := fun W h => p5 W (hk14.trans h)
  have P6 : ∀ W, Kept (fun _ => False) w4 W → W.cell? ⟨w.heap.size, 6, none⟩ = some (.int .u8 s0) := fun W h => p6 W (hk14.trans h)
  have P7 : ∀ W, Kept (fun _ => False) w4 W → W.cell? ⟨w.heap.size, 7, none⟩ = some (.int .u8 s1) := fun W h => p7 W (hk14.trans h)
  have P8 : ∀ W, Kept (fun _ => False) w4 W → W.cell? ⟨w.heap.size, 8, none⟩ = some (.int .u8 s2) := fun W h => p8 W (hk14.trans h)
  have P9 : ∀ W, Kept (fun _ => False) w4 W → W.cell? ⟨w.heap.size, 9, none⟩ = some (.int .u8 s3) := fun W h => p9 W (hk14.trans h)
  have P10 : ∀ W, Kept (fun _ => False) w4 W → W.cell? ⟨w.heap.size, 10, none⟩ = some (.int .u8 s4) := fun W h => p10 W (hk14.trans h)
  have P11 : ∀ W, Kept (fun _ => False) w4 W → W.cell? ⟨w.heap.size, 11, none⟩ = some (.int .u8 s5) := fun W h => p11 W (hk14.trans h)
  have M0 : ∀ W, Kept (fun _ => False) w4 W → W.cell? ⟨b, 0, none⟩ = some (.int .u8 x0) := fun W h => m0 W (hk14.trans h)
  have M1 : ∀ W, Kept (fun _ => False) w4 W → W.cell? ⟨b, 1, none⟩ = some (.int .u8 x1) := fun W h => m1 W (hk14.trans h)
  have M2 : ∀ W, Kept (fun _ => False) w4 W → W.cell? ⟨b, 2, none⟩ = some (.int .u8 x2) := fun W h => m2 W (hk14.trans h)
  have M3 : ∀ W, Kept (fun _ => False) w4 W → W.cell? ⟨b, 3, none⟩ = some (.int .u8 x3) := fun W h => m3 W (hk14.trans h)
  have M4 : ∀ W, Kept (fun _ => False) w4 W → W.cell? ⟨b, 4, none⟩ = some (.int .u8 x4) := fun W h => m4 W (hk14.trans h)
  have M5 : ∀ W, Kept (fun _ => False) w4 W → W.cell? ⟨b, 5, none⟩ = some (.int .u8 x5) := fun W h => m5 W (hk14.trans h)
  have Z0 : ∀ W, Kept (fun _ => False) w4 W → W.cell? ⟨w2.heap.size, 0, none⟩ = some _ := fun W h => (h.cell (p := ⟨w2.heap.size, 0, none⟩) (lt_of_cell z0) id).trans z0
  have Z1 : ∀ W, Kept (fun _ => False) w4 W → W.cell? ⟨w2.heap.size, 1, none⟩ = some _ := fun W h => (h.cell (p := ⟨w2.heap.size, 1, none⟩) (lt_of_cell z1) id).trans z1
  go_wp2
  rw [← Hw4.out]
  refine wp_region_held_drew (S := Kept (fun _ => False) w4) (by kernel_rfl) ((Kept.refl _ w4).drew) (fun hSd => ?_)
  refine wpAnyH_take (i := 0) (v := ?_) rfl (by kernel_rfl) (by kernel_rfl) (by kernel_rfl) (fun _ _ _ h => h) (Or.inl ⟨by kernel_rfl, fun W hSW => by go_simp; try with_reducible rfl⟩) (by assumption) ?_
  try simp only [List.getElem_toArray]
  try simp only [List.getElem_cons_succ]
  try simp only [List.getElem_cons_zero]
  try simp only [Act.put]
  try simp only [List.setIfInBounds_toArray]
  try simp only [List.set_cons_succ]
  try simp only [List.set_cons_zero]
  refine wpAnyH_take (i := 1) (v := ?_) rfl (by kernel_rfl) (by kernel_rfl) (by kernel_rfl) (fun _ _ _ h => h) (Or.inl ⟨by kernel_rfl, fun W hSW => by go_simp; try with_reducible rfl⟩) (by assumption) ?_
  try simp only [List.getElem_toArray]
  try simp only [List.getElem_cons_succ]
  try simp only [List.getElem_cons_zero]
  try simp only [Act.put]
  try simp only [List.setIfInBounds_toArray]
  try simp only [List.set_cons_succ]
  try simp only [List.set_cons_zero]
  refine wpAnyH_take (i := 2) (v := .bool false) rfl (by kernel_rfl) (by kernel_rfl) (by kernel_rfl) (fun _ _ _ h => h) (Or.inl ⟨by kernel_rfl, fun W hSW => by go_simp; try with_reducible rfl⟩) (by assumption) ?_
  try simp only [List.getElem_toArray]
  try simp only [List.getElem_cons_succ]
  try simp only [List.getElem_cons_zero]
  try simp only [Act.put]
  try simp only [List.setIfInBounds_toArray]
  try simp only [List.set_cons_succ]
  try simp only [List.set_cons_zero]
  refine wpAnyH_take (i := 3) (v := .bool false) rfl (by kernel_rfl) (by kernel_rfl) (by kernel_rfl) (fun _ _ _ h => h) (Or.inl ⟨by kernel_rfl, fun W hSW => by go_simp; try with_reducible rfl⟩) (by assumption) ?_
  try simp only [List.getElem_toArray]
  try simp only [List.getElem_cons_succ]
  try simp only [List.getElem_cons_zero]
  try simp only [Act.put]
  try simp only [List.setIfInBounds_toArray]
  try simp only [List.set_cons_succ]
  try simp only [List.set_cons_zero]
  refine wpAnyH_take (i := 4) rfl (by kernel_rfl) (by kernel_rfl) (by kernel_rfl) (fun _ _ _ h => h) (Or.inr ⟨by kernel_rfl, rfl⟩) (by assumption) ?_
  try simp only [List.getElem_toArray]
  try simp only [List.getElem_cons_succ]
  try simp only [List.getElem_cons_zero]
  try simp only [Act.put]
  try simp only [List.setIfInBounds_toArray]
  try simp only [List.set_cons_succ]
  try simp only [List.set_cons_zero]
  refine wpAnyH_take (i := 5) rfl (by kernel_rfl) (by kernel_rfl) (by kernel_rfl) (fun _ _ _ h => h) (Or.inr ⟨by kernel_rfl, rfl⟩) (by assumption) ?_
  try simp only [List.getElem_toArray]
  try simp only [List.getElem_cons_succ]
  try simp only [List.getElem_cons_zero]
  try simp only [Act.put]
  try simp only [List.setIfInBounds_toArray]
  try simp only [List.set_cons_succ]
  try simp only [List.set_cons_zero]
  refine wpAnyH_take (i := 6) rfl (by kernel_rfl) (by kernel_rfl) (by kernel_rfl) (fun _ _ _ h => h) (Or.inr ⟨by kernel_rfl, rfl⟩) (by assumption) ?_
  try simp only [List.getElem_toArray]
  try simp only [List.getElem_cons_succ]
  try simp only [List.getElem_cons_zero]
  try simp only [Act.put]
  try simp only [List.setIfInBounds_toArray]
  try simp only [List.set_cons_succ]
  try simp only [List.set_cons_zero]
  refine wpAnyH_take (i := 7) rfl (by kernel_rfl) (by kernel_rfl) (by kernel_rfl) (fun _ _ _ h => h) (Or.inr ⟨by kernel_rfl, rfl⟩) (by assumption) ?_
  try simp only [List.getElem_toArray]
  try simp only [List.getElem_cons_succ]
  try simp only [List.getElem_cons_zero]
  try simp only [Act.put]
  try simp only [List.setIfInBounds_toArray]
  try simp only [List.set_cons_succ]
  try simp only [List.set_cons_zero]
  refine wpAnyH_take (i := 8) (v := .bool false) rfl (by kernel_rfl) (by kernel_rfl) (by kernel_rfl) (fun _ _ _ h => h) (Or.inl ⟨by kernel_rfl, fun W hSW => by go_simp; try with_reducible rfl⟩) (by assumption) ?_
  try simp only [List.getElem_toArray]
  try simp only [List.getElem_cons_succ]
  try simp only [List.getElem_cons_zero]
  try simp only [Act.put]
  try simp only [List.setIfInBounds_toArray]
  try simp only [List.set_cons_succ]
  try simp only [List.set_cons_zero]
  refine wpAnyH_take (i := 9) (v := .bool false) rfl (by kernel_rfl) (by kernel_rfl) (by kernel_rfl) (fun _ _ _ h => h) (Or.inl ⟨by kernel_rfl, fun W hSW => by go_simp; try with_reducible rfl⟩) (by assumption) ?_
  try simp only [List.getElem_toArray]
  try simp only [List.getElem_cons_succ]
  try simp only [List.getElem_cons_zero]
  try simp only [Act.put]
  try simp only [List.setIfInBounds_toArray]
  try simp only [List.set_cons_succ]
  try simp only [List.set_cons_zero]
  refine wpAnyH_take (i := 10) rfl (by kernel_rfl) (by kernel_rfl) (by kernel_rfl) (fun _ _ _ h => h) (Or.inr ⟨by kernel_rfl, rfl⟩) (by assumption) ?_
  try simp only [List.getElem_toArray]
  try simp only [List.getElem_cons_succ]
  try simp only [List.getElem_cons_zero]
  try simp only [Act.put]
  try simp only [List.setIfInBounds_toArray]
  try simp only [List.set_cons_succ]
  try simp only [List.set_cons_zero]
  refine wpAnyH_take (i := 11) rfl (by kernel_rfl) (by kernel_rfl) (by kernel_rfl) (fun _ _ _ h => h) (Or.inr ⟨by kernel_rfl, rfl⟩) (by assumption) ?_
  try simp only [List.getElem_toArray]
  try simp only [List.getElem_cons_succ]
  try simp only [List.getElem_cons_zero]
  try simp only [Act.put]
  try simp only [List.setIfInBounds_toArray]
  try simp only [List.set_cons_succ]
  try simp only [List.set_cons_zero]
  refine wpAnyH_take (i := 12) rfl (by kernel_rfl) (by kernel_rfl) (by kernel_rfl) (fun _ _ _ h => h) (Or.inr ⟨by kernel_rfl, rfl⟩) (by assumption) ?_
  try simp only [List.getElem_toArray]
  try simp only [List.getElem_cons_succ]
  try simp only [List.getElem_cons_zero]
  try simp only [Act.put]
  try simp only [List.setIfInBounds_toArray]
  try simp only [List.set_cons_succ]
  try simp only [List.set_cons_zero]
  refine wpAnyH_take (i := 13) (v := .bool false) rfl (by kernel_rfl) (by kernel_rfl) (by kernel_rfl) (fun _ _ _ h => h) (Or.inl ⟨by kernel_rfl, fun W hSW => by go_simp; try with_reducible rfl⟩) (by assumption) ?_
  try simp only [List.getElem_toArray]
  try simp only [List.getElem_cons_succ]
  try simp only [List.getElem_cons_zero]
  try simp only [Act.put]
  try simp only [List.setIfInBounds_toArray]
  try simp only [List.set_cons_succ]
  try simp only [List.set_cons_zero]
  refine wpAnyH_take (i := 14) (v := ?_) rfl (by kernel_rfl) (by kernel_rfl) (by kernel_rfl) (fun _ _ _ h => h) (Or.inl ⟨by kernel_rfl, fun W hSW => by go_simp; try with_reducible rfl⟩) (by assumption) ?_
  try simp only [List.getElem_toArray]
  try simp only [List.getElem_cons_succ]
  try simp only [List.getElem_cons_zero]
  try simp only [Act.put]
  try simp only [List.setIfInBounds_toArray]
  try simp only [List.set_cons_succ]
  try simp only [List.set_cons_zero]
  refine wpAnyH_done (by kernel_rfl) ?_ _
  go_wp2
  refine wp_region_held_drew (S := Kept (fun _ => False) w4) (by kernel_rfl) ((Kept.refl _ w4).drew.drew) (fun hSd => ?_)
  refine wpAnyH_take (i := 0) (v := ?_) rfl (by kernel_rfl) (by kernel_rfl) (by kernel_rfl) (fun _ _ _ h => h) (Or.inl ⟨by kernel_rfl, fun W hSW => by go_simp; try with_reducible rfl⟩) (by assumption) ?_
  try simp only [List.getElem_toArray]
  try simp only [List.getElem_cons_succ]
  try simp only [List.getElem_cons_zero]
  try simp only [Act.put]
  try simp only [List.setIfInBounds_toArray]
  try simp only [List.set_cons_succ]
  try simp only [List.set_cons_zero]
  refine wpAnyH_take (i := 1) (v := ?_) rfl (by kernel_rfl) (by kernel_rfl) (by kernel_rfl) (fun _ _ _ h => h) (Or.inl ⟨by kernel_rfl, fun W hSW => by go_simp; try with_reducible rfl⟩) (by assumption) ?_
  try simp only [List.getElem_toArray]
  try simp only [List.getElem_cons_succ]
  try simp only [List.getElem_cons_zero]
  try simp only [Act.put]
  try simp only [List.setIfInBounds_toArray]
  try simp only [List.set_cons_succ]
  try simp only [List.set_cons_zero]
  refine wpAnyH_take (i := 2) (v := .bool true) rfl (by kernel_rfl) (by kernel_rfl) (by kernel_rfl) (fun _ _ _ h => h) (Or.inl ⟨by kernel_rfl, fun W hSW => by go_simp; try with_reducible rfl⟩) (by assumption) ?_
  try simp only [List.getElem_toArray]
  try simp only [List.getElem_cons_succ]
  try simp only [List.getElem_cons_zero]
  try simp only [Act.put]
  try simp only [List.setIfInBounds_toArray]
  try simp only [List.set_cons_succ]
  try simp only [List.set_cons_zero]
  refine wpAnyH_take (i := 3) (v := .bool true) rfl (by kernel_rfl) (by kernel_rfl) (by kernel_rfl) (fun _ _ _ h => h) (Or.inl ⟨by kernel_rfl, fun W hSW => by go_simp; try with_reducible rfl⟩) (by assumption) ?_
  try simp only [List.getElem_toArray]
  try simp only [List.getElem_cons_succ]
  try simp only [List.getElem_cons_zero]
  try simp only [Act.put]
  try simp only [List.setIfInBounds_toArray]
  try simp only [List.set_cons_succ]
  try simp only [List.set_cons_zero]
  refine wpAnyH_take (i := 4) (v := ?_) rfl (by kernel_rfl) (by kernel_rfl) (by kernel_rfl) (fun _ _ _ h => h) (Or.inl ⟨by kernel_rfl, fun W hSW => by go_simp; try with_reducible rfl⟩) (by assumption) ?_
  try simp only [List.getElem_toArray]
  try simp only [List.getElem_cons_succ]
  try simp only [List.getElem_cons_zero]
  try simp only [Act.put]
  try simp only [List.setIfInBounds_toArray]
  try simp only [List.set_cons_succ]
  try simp only [List.set_cons_zero]
  refine wpAnyH_take (i := 5) (v := ?_) rfl (by kernel_rfl) (by kernel_rfl) (by kernel_rfl) (fun _ _ _ h => h) (Or.inl ⟨by kernel_rfl, fun W hSW => by go_simp; try with_reducible rfl⟩) (by assumption) ?_
  try simp only [List.getElem_toArray]
  try simp only [List.getElem_cons_succ]
  try simp only [List.getElem_cons_zero]
  try simp only [Act.put]
  try simp only [List.setIfInBounds_toArray]
  try simp only [List.set_cons_succ]
  try simp only [List.set_cons_zero]
  refine wpAnyH_take (i := 6) (v := ?_) rfl (by kernel_rfl) (by kernel_rfl) (by kernel_rfl) (fun _ _ _ h => h) (Or.inl ⟨by kernel_rfl, fun W hSW => by go_simp; try with_reducible rfl⟩) (by assumption) ?_
  try simp only [List.getElem_toArray]
  try simp only [List.getElem_cons_succ]
  try simp only [List.getElem_cons_zero]
  try simp only [Act.put]
  try simp only [List.setIfInBounds_toArray]
  try simp only [List.set_cons_succ]
  try simp only [List.set_cons_zero]
  refine wpAnyH_take (i := 7) (v := ?_) rfl (by kernel_rfl) (by kernel_rfl) (by kernel_rfl) (fun _ _ _ h => h) (Or.inl ⟨by kernel_rfl, fun W hSW => by go_simp; try with_reducible rfl⟩) (by assumption) ?_
  try simp only [List.getElem_toArray]
  try simp only [List.getElem_cons_succ]
  try simp only [List.getElem_cons_zero]
  try simp only [Act.put]
  try simp only [List.setIfInBounds_toArray]
  try simp only [List.set_cons_succ]
  try simp only [List.set_cons_zero]
  refine wpAnyH_take (i := 8) (v := ?_) rfl (by kernel_rfl) (by kernel_rfl) (by kernel_rfl) (fun _ _ _ h => h) (Or.inl ⟨by kernel_rfl, fun W hSW => by go_simp; try with_reducible rfl⟩) (by assumption) ?_
  try simp only [List.getElem_toArray]
  try simp only [List.getElem_cons_succ]
  try simp only [List.getElem_cons_zero]
  try simp only [Act.put]
  try simp only [List.setIfInBounds_toArray]
  try simp only [List.set_cons_succ]
  try simp only [List.set_cons_zero]
  refine wpAnyH_take (i := 9) (v := ?_) rfl (by kernel_rfl) (by kernel_rfl) (by kernel_rfl) (fun _ _ _ h => h) (Or.inl ⟨by kernel_rfl, fun W hSW => by go_simp; try with_reducible rfl⟩) (by assumption) ?_
  try simp only [List.getElem_toArray]
  try simp only [List.getElem_cons_succ]
  try simp only [List.getElem_cons_zero]
  try simp only [Act.put]
  try simp only [List.setIfInBounds_toArray]
  try simp only [List.set_cons_succ]
  try simp only [List.set_cons_zero]
  refine wpAnyH_take (i := 10) (v := .bool true) rfl (by kernel_rfl) (by kernel_rfl) (by kernel_rfl) (fun _ _ _ h => h) (Or.inl ⟨by kernel_rfl, fun W hSW => by go_simp; try with_reducible rfl⟩) (by assumption) ?_
  try simp only [List.getElem_toArray]
  try simp only [List.getElem_cons_succ]
  try simp only [List.getElem_cons_zero]
  try simp only [Act.put]
  try simp only [List.setIfInBounds_toArray]
  try simp only [List.set_cons_succ]
  try simp only [List.set_cons_zero]
  refine wpAnyH_take (i := 11) (v := .bool true) rfl (by kernel_rfl) (by kernel_rfl) (by kernel_rfl) (fun _ _ _ h => h) (Or.inl ⟨by kernel_rfl, fun W hSW => by go_simp; try with_reducible rfl⟩) (by assumption) ?_
  try simp only [List.getElem_toArray]
  try simp only [List.getElem_cons_succ]
  try simp only [List.getElem_cons_zero]
  try simp only [Act.put]
  try simp only [List.setIfInBounds_toArray]
  try simp only [List.set_cons_succ]
  try simp only [List.set_cons_zero]
  refine wpAnyH_take (i := 12) (v := .bool true) rfl (by kernel_rfl) (by kernel_rfl) (by kernel_rfl) (fun _ _ _ h => h) (Or.inl ⟨by kernel_rfl, fun W hSW => by go_simp; try with_reducible rfl⟩) (by assumption) ?_
  try simp only [List.getElem_toArray]
  try simp only [List.getElem_cons_succ]
  try simp only [List.getElem_cons_zero]
  try simp only [Act.put]
  try simp only [List.setIfInBounds_toArray]
  try simp only [List.set_cons_succ]
  try simp only [List.set_cons_zero]
  refine wpAnyH_take (i := 13) (v := ?_) rfl (by kernel_rfl) (by kernel_rfl) (by kernel_rfl) (fun _ _ _ h => h) (Or.inl ⟨by kernel_rfl, fun W hSW => by go_simp; try with_reducible rfl⟩) (by assumption) ?_
  try simp only [List.getElem_toArray]
  try simp only [List.getElem_cons_succ]
  try simp only [List.getElem_cons_zero]
  try simp only [Act.put]
  try simp only [List.setIfInBounds_toArray]
  try simp only [List.set_cons_succ]
  try simp only [List.set_cons_zero]
  refine wpAnyH_take (i := 14) (v := ?_) rfl (by kernel_rfl) (by kernel_rfl) (by kernel_rfl) (fun _ _ _ h => h) (Or.inl ⟨by kernel_rfl, fun W hSW => by go_simp; try with_reducible rfl⟩) (by assumption) ?_
  try simp only [List.getElem_toArray]
  try simp only [List.getElem_cons_succ]
  try simp only [List.getElem_cons_zero]
  try simp only [Act.put]
  try simp only [List.setIfInBounds_toArray]
  try simp only [List.set_cons_succ]
  try simp only [List.set_cons_zero]
  refine wpAnyH_take (i := 15) (v := .bool true) rfl (by kernel_rfl) (by kernel_rfl) (by kernel_rfl) (fun _ _ _ h => h) (Or.inl ⟨by kernel_rfl, fun W hSW => by go_simp; try with_reducible rfl⟩) (by assumption) ?_
  try simp only [List.getElem_toArray]
  try simp only [List.getElem_cons_succ]
  try simp only [List.getElem_cons_zero]
  try simp only [Act.put]
  try simp only [List.setIfInBounds_toArray]
  try simp only [List.set_cons_succ]
  try simp only [List.set_cons_zero]
  refine wpAnyH_take (i := 16) (v := .bool true) rfl (by kernel_rfl) (by kernel_rfl) (by kernel_rfl) (fun _ _ _ h => h) (Or.inl ⟨by kernel_rfl, fun W hSW => by go_simp; try with_reducible rfl⟩) (by assumption) ?_
  try simp only [List.getElem_toArray]
  try simp only [List.getElem_cons_succ]
  try simp only [List.getElem_cons_zero]
  try simp only [Act.put]
  try simp only [List.setIfInBounds_toArray]
  try simp only [List.set_cons_succ]
  try simp only [List.set_cons_zero]
  refine wpAnyH_take (i := 17) (v := .bool true) rfl (by kernel_rfl) (by kernel_rfl) (by kernel_rfl) (fun _ _ _ h => h) (Or.inl ⟨by kernel_rfl, fun W hSW => by go_simp; try with_reducible rfl⟩) (by assumption) ?_
  try simp only [List.getElem_toArray]
  try simp only [List.getElem_cons_succ]
  try simp only [List.getElem_cons_zero]
  try simp only [Act.put]
  try simp only [List.setIfInBounds_toArray]
  try simp only [List.set_cons_succ]
  try simp only [List.set_cons_zero]
  refine wpAnyH_done (by kernel_rfl) ?_ _
  have K4d := hid K4.out.drew.drew
  have D4 := (Kept.refl (fun _ => False) w4).drew.drew
  have u6 := P6 _ D4
  have u7 := P7 _ D4
  have u8 := P8 _ D4
  have u9 := P9 _ D4
  have u10 := P10 _ D4
  have u11 := P11 _ D4
  clear P0 P1 P2 P3 P4 P5 P6 P7 P8 P9 P10 P11 M0 M1 M2 M3 M4 M5 Z0 Z1
  go_wp2_with fail
  refine (HGR.out _ K4d.out _ (V4.out.kept0 D4) HV4.out).mono ?_
  rintro e w5 ⟨u5, rfl, ho5, hn5⟩
  go_wp2
  go_ret
  refine ⟨u5, rfl, ?_, ?_⟩
  · exact ho5.mono K4d.out.size
  · exact CNext.back hn5 K4d.out

set_option maxHeartbeats 4000000 in
set_option maxRecDepth 100000 in
theorem take_padi {S : Nat → Prop} (b : Nat) (c : Cs) (hg : Good c) (dst src : List UInt8) (hdst : dst.length = 6) (hsrc : src.length = 6) (data : ByteArray) (hsz : data.size ≤ 1000000) (t : Int) (ses : Nat) (D : List UInt8) (l : List Tg) (_hD : D.length ≤ 1000000) (hget : getDiscF data.data.toList = (⟨9, ses, D⟩, 0)) (htag : tagsOn D [] = (l, 0)) (hl : Few l) (w : World) (hT : Tables w) (_hV : Every w) (hA : CAt S w b c) (hown : ¬ src = c.mac) (hdm : dst = everyF) (hs0 : ses = 0) :
    Calls Tryd.prog 12 #[.pointer (some ⟨b, 0, none⟩), frV ⟨dst, src, 34915, data⟩, .int .i64 t] w fun e w' => ∃ u, e = .returned u ∧ OwnE w' w.heap.size u (offerF (makeB c.secret src) c src l t) ∧ Kept (fun _ => False) w w' := by
  subst hs0
  have hE2 := mac_eq dst everyF hdst rfl
  obtain ⟨mb, gv, hC, hS⟩ := id hA
  obtain ⟨x0, x1, x2, x3, x4, x5, hx⟩ := six_cells hg.mac
  obtain ⟨d0, d1, d2, d3, d4, d5, hd⟩ := six_cells hdst
  obtain ⟨s0, s1, s2, s3, s4, s5, hs⟩ := six_cells hsrc
  have hfv : frV ⟨dst, src, 34915, data⟩ = .agg #[.int .u8 d0, .int .u8 d1, .int .u8 d2, .int .u8 d3, .int .u8 d4, .int .u8 d5, .int .u8 s0, .int .u8 s1, .int .u8 s2, .int .u8 s3, .int .u8 s4, .int .u8 s5, .int .i64 34915, .string data] := by unfold frV frList; simp only []; rw [hd, hs]; rfl
  rw [hfv]
  have hE1 := mac_eq src c.mac hsrc hg.mac
  rw [hs, hx, decide_eq_false hown] at hE1
  obtain ⟨w1, hw1⟩ : ∃ w1, w1 = w.alloc (.cells #[.int .u8 d0, .int .u8 d1, .int .u8 d2, .int .u8 d3, .int .u8 d4, .int .u8 d5, .int .u8 s0, .int .u8 s1, .int .u8 s2, .int .u8 s3, .int .u8 s4, .int .u8 s5, .int .i64 34915, .string data] 25) := ⟨_, rfl⟩
  have Hw1 := hid hw1
  have hk1 : Kept (fun _ => False) w w1 := by rw [hw1]; exact (Kept.refl _ w).alloc _
  have hB1 : Own14 w1 w.heap.size #[.int .u8 d0, .int .u8 d1, .int .u8 d2, .int .u8 d3, .int .u8 d4, .int .u8 d5, .int .u8 s0, .int .u8 s1, .int .u8 s2, .int .u8 s3, .int .u8 s4, .int .u8 s5, .int .i64 34915, .string data] := by rw [hw1]; exact own14_new w _
  have hcc := (hC.kept0 hk1).cells hx
  have hisn := isNone_some b c.name
  have hne : c.name.toList.isEmpty = false := by
    have h1 := hg.name1
    rw [ByteArray.toList_eq]
    rw [Lib.size_eq] at h1
    cases hq : c.name.data.toList with
    | nil => rw [hq] at h1; simp at h1
    | cons a r => rfl
  rw [hne] at hisn
  have p0 : ∀ W, Kept (fun _ => False) w1 W → W.cell? ⟨w.heap.size, 0, none⟩ = some (.int .u8 d0) := fun W h => (cell_of_row W w.heap.size 0 _ _ _ (hB1.kept h)).trans rfl
  have p1 : ∀ W, Kept (fun _ => False) w1 W → W.cell? ⟨w.heap.size, 1, none⟩ = some (.int .u8 d1) := fun W h => (cell_of_row W w.heap.size 1 _ _ _ (hB1.kept h)).trans rfl
  have p2 : ∀ W, Kept (fun _ => False) w1 W → W.cell? ⟨w.heap.size, 2, none⟩ = some (.int .u8 d2) := fun W h => (cell_of_row W w.heap.size 2 _ _ _ (hB1.kept h)).trans rfl
  have p3 : ∀ W, Kept (fun _ => False) w1 W → W.cell? ⟨w.heap.size, 3, none⟩ = some (.int .u8 d3) := fun W h => (cell_of_row W w.heap.size 3 _ _ _ (hB1.kept h)).trans rfl
  have p4 : ∀ W, Kept (fun _ => False) w1 W → W.cell? ⟨w.heap.size, 4, none⟩ = some (.int .u8 d4) := fun W h => (cell_of_row W w.heap.size 4 _ _ _ (hB1.kept h)).trans rfl
  have p5 : ∀ W, Kept (fun _ => False) w1 W → W.cell? ⟨w.heap.size, 5, none⟩ = some (.int .u8 d5) := fun W h => (cell_of_row W w.heap.size 5 _ _ _ (hB1.kept h)).trans rfl
  have p6 : ∀ W, Kept (fun _ => False) w1 W → W.cell? ⟨w.heap.size, 6, none⟩ = some (.int .u8 s0) := fun W h => (cell_of_row W w.heap.size 6 _ _ _ (hB1.kept h)).trans rfl
  have p7 : ∀ W, Kept (fun _ => False) w1 W → W.cell? ⟨w.heap.size, 7, none⟩ = some (.int .u8 s1) := fun W h => (cell_of_row W w.heap.size 7 _ _ _ (hB1.kept h)).trans rfl
  have p8 : ∀ W, Kept (fun _ => False) w1 W → W.cell? ⟨w.heap.size, 8, none⟩ = some (.int .u8 s2) := fun W h => (cell_of_row W w.heap.size 8 _ _ _ (hB1.kept h)).trans rfl
  have p9 : ∀ W, Kept (fun _ => False) w1 W → W.cell? ⟨w.heap.size, 9, none⟩ = some (.int .u8 s3) := fun W h => (cell_of_row W w.heap.size 9 _ _ _ (hB1.kept h)).trans rfl
  have p10 : ∀ W, Kept (fun _ => False) w1 W → W.cell? ⟨w.heap.size, 10, none⟩ = some (.int .u8 s4) := fun W h => (cell_of_row W w.heap.size 10 _ _ _ (hB1.kept h)).trans rfl
  have p11 : ∀ W, Kept (fun _ => False) w1 W → W.cell? ⟨w.heap.size, 11, none⟩ = some (.int .u8 s5) := fun W h => (cell_of_row W w.heap.size 11 _ _ _ (hB1.kept h)).trans rfl
  have p12 : ∀ W, Kept (fun _ => False) w1 W → W.cell? ⟨w.heap.size, 12, none⟩ = some (.int .i64 34915) := fun W h => (cell_of_row W w.heap.size 12 _ _ _ (hB1.kept h)).trans rfl
  have p13 : ∀ W, Kept (fun _ => False) w1 W → W.cell? ⟨w.heap.size, 13, none⟩ = some (.string data) := fun W h => (cell_of_row W w.heap.size 13 _ _ _ (hB1.kept h)).trans rfl
  have m0 : ∀ W, Kept (fun _ => False) w1 W → W.cell? ⟨b, 0, none⟩ = some (.int .u8 x0) := fun W h => (h.cell (p := ⟨b, 0, none⟩) (lt_of_cell hcc.c0) id).trans hcc.c0
  have m1 : ∀ W, Kept (fun _ => False) w1 W → W.cell? ⟨b, 1, none⟩ = some (.int .u8 x1) := fun W h => (h.cell (p := ⟨b, 1, none⟩) (lt_of_cell hcc.c1) id).trans hcc.c1
  have m2 : ∀ W, Kept (fun _ => False) w1 W → W.cell? ⟨b, 2, none⟩ = some (.int .u8 x2) := fun W h => (h.cell (p := ⟨b, 2, none⟩) (lt_of_cell hcc.c2) id).trans hcc.c2
  have m3 : ∀ W, Kept (fun _ => False) w1 W → W.cell? ⟨b, 3, none⟩ = some (.int .u8 x3) := fun W h => (h.cell (p := ⟨b, 3, none⟩) (lt_of_cell hcc.c3) id).trans hcc.c3
  have m4 : ∀ W, Kept (fun _ => False) w1 W → W.cell? ⟨b, 4, none⟩ = some (.int .u8 x4) := fun W h => (h.cell (p := ⟨b, 4, none⟩) (lt_of_cell hcc.c4) id).trans hcc.c4
  have m5 : ∀ W, Kept (fun _ => False) w1 W → W.cell? ⟨b, 5, none⟩ = some (.int .u8 x5) := fun W h => (h.cell (p := ⟨b, 5, none⟩) (lt_of_cell hcc.c5) id).trans hcc.c5
  have m6 : ∀ W, Kept (fun _ => False) w1 W → W.cell? ⟨b, 6, none⟩ = some (.string c.name) := fun W h => (h.cell (p := ⟨b, 6, none⟩) (lt_of_cell hcc.c6) id).trans hcc.c6
  have Hk1 := hid hk1
  have HX := hid hx
  clear hfv hw1 hne
  rw [hd, decide_eq_true hdm] at hE2
  have heb : Lib.byteCells everyF = [.int .u8 255, .int .u8 255, .int .u8 255, .int .u8 255, .int .u8 255, .int .u8 255] := rfl
  rw [heb] at hE2
  have hge : getE ⟨dst, src, 34915, data⟩ = (⟨9, 0, D⟩, l, true) := by
    unfold getE
    simp only []
    rw [hget]
    simp only []
    rw [htag]
    simp
  have HGE := hid (fun W => getE_any ⟨dst, src, 34915, data⟩ hdst hsrc hsz W)
  rw [hge] at HGE
  simp only [] at HGE
  unfold discV frV frList at HGE
  simp only [] at HGE
  rw [hd, hs] at HGE
  change Hid (∀ W, Calls Tryd.prog 29 #[.agg #[.int .u8 d0, .int .u8 d1, .int .u8 d2, .int .u8 d3, .int .u8 d4, .int .u8 d5, .int .u8 s0, .int .u8 s1, .int .u8 s2, .int .u8 s3, .int .u8 s4, .int .u8 s5, .int .i64 34915, .string data]] W fun e w' => _) at HGE
  have HGR := hid (fun W (hk : Kept (fun _ => False) w W) (v : Value) (hv : TagsAt W v l) => offer_all b c hg src hsrc v l hl t W (hT.kept hk) (hA.kept0 hk) hv)
  rw [hs] at HGR
  go_enter Tryd.func12, Tryd.ntmps12
  go_wp2
  rw [← Hw1.out]
  refine wp_region_held_drew (S := Kept (fun _ => False) w1) (by kernel_rfl) ((Kept.refl _ w1).drew) (fun hSd => ?_)
  refine wpAnyH_take (i := 0) (v := ?_) rfl (by kernel_rfl) (by kernel_rfl) (by kernel_rfl) (fun _ _ _ h => h) (Or.inl ⟨by kernel_rfl, fun W hSW => by go_simp; try with_reducible rfl⟩) (by assumption) ?_
  try simp only [List.getElem_toArray]
  try simp only [List.getElem_cons_succ]
  try simp only [List.getElem_cons_zero]
  try simp only [Act.put]
  try simp only [List.setIfInBounds_toArray]
  try simp only [List.set_cons_succ]
  try simp only [List.set_cons_zero]
  refine wpAnyH_ready (rs := [1]) (by kernel_rfl) (by simp) ?_
  refine AllReadyH.cons rfl (fun K hK => ?_) AllReadyH.nil
  go_simp
  refine (hisn w1.drew (m6 _ (Kept.refl _ w1).drew)).mono ?_
  rintro e w2 ⟨rfl, rfl⟩
  refine hK.out _ _ ((Kept.refl _ w1).drew) (fun _ => ?_)
  clear hK K
  try simp only [List.getElem_toArray]
  try simp only [List.getElem_cons_succ]
  try simp only [List.getElem_cons_zero]
  try simp only [Act.put]
  try simp only [List.setIfInBounds_toArray]
  try simp only [List.set_cons_succ]
  try simp only [List.set_cons_zero]
  refine wpAnyH_take (i := 2) (v := .bool false) rfl (by kernel_rfl) (by kernel_rfl) (by kernel_rfl) (fun _ _ _ h => h) (Or.inl ⟨by kernel_rfl, fun W hSW => by go_simp; try with_reducible rfl⟩) (by assumption) ?_
  try simp only [List.getElem_toArray]
  try simp only [List.getElem_cons_succ]
  try simp only [List.getElem_cons_zero]
  try simp only [Act.put]
  try simp only [List.setIfInBounds_toArray]
  try simp only [List.set_cons_succ]
  try simp only [List.set_cons_zero]
  refine wpAnyH_take (i := 3) (v := ?_) rfl (by kernel_rfl) (by kernel_rfl) (by kernel_rfl) (fun _ _ _ h => h) (Or.inl ⟨by kernel_rfl, fun W hSW => by go_simp; try with_reducible rfl⟩) (by assumption) ?_
  try simp only [List.getElem_toArray]
  try simp only [List.getElem_cons_succ]
  try simp only [List.getElem_cons_zero]
  try simp only [Act.put]
  try simp only [List.setIfInBounds_toArray]
  try simp only [List.set_cons_succ]
  try simp only [List.set_cons_zero]
  refine wpAnyH_take (i := 4) (v := ?_) rfl (by kernel_rfl) (by kernel_rfl) (by kernel_rfl) (fun _ _ _ h => h) (Or.inl ⟨by kernel_rfl, fun W hSW => by go_simp; try with_reducible rfl⟩) (by assumption) ?_
  try simp only [List.getElem_toArray]
  try simp only [List.getElem_cons_succ]
  try simp only [List.getElem_cons_zero]
  try simp only [Act.put]
  try simp only [List.setIfInBounds_toArray]
  try simp only [List.set_cons_succ]
  try simp only [List.set_cons_zero]
  refine wpAnyH_take (i := 5) (v := ?_) rfl (by kernel_rfl) (by kernel_rfl) (by kernel_rfl) (fun _ _ _ h => h) (Or.inl ⟨by kernel_rfl, fun W hSW => by go_simp; try with_reducible rfl⟩) (by assumption) ?_
  try simp only [List.getElem_toArray]
  try simp only [List.getElem_cons_succ]
  try simp only [List.getElem_cons_zero]
  try simp only [Act.put]
  try simp only [List.setIfInBounds_toArray]
  try simp only [List.set_cons_succ]
  try simp only [List.set_cons_zero]
  refine wpAnyH_take (i := 6) (v := ?_) rfl (by kernel_rfl) (by kernel_rfl) (by kernel_rfl) (fun _ _ _ h => h) (Or.inl ⟨by kernel_rfl, fun W hSW => by go_simp; try with_reducible rfl⟩) (by assumption) ?_
  try simp only [List.getElem_toArray]
  try simp only [List.getElem_cons_succ]
  try simp only [List.getElem_cons_zero]
  try simp only [Act.put]
  try simp only [List.setIfInBounds_toArray]
  try simp only [List.set_cons_succ]
  try simp only [List.set_cons_zero]
  refine wpAnyH_take (i := 7) (v := ?_) rfl (by kernel_rfl) (by kernel_rfl) (by kernel_rfl) (fun _ _ _ h => h) (Or.inl ⟨by kernel_rfl, fun W hSW => by go_simp; try with_reducible rfl⟩) (by assumption) ?_
  try simp only [List.getElem_toArray]
  try simp only [List.getElem_cons_succ]
  try simp only [List.getElem_cons_zero]
  try simp only [Act.put]
  try simp only [List.setIfInBounds_toArray]
  try simp only [List.set_cons_succ]
  try simp only [List.set_cons_zero]
  refine wpAnyH_take (i := 8) (v := ?_) rfl (by kernel_rfl) (by kernel_rfl) (by kernel_rfl) (fun _ _ _ h => h) (Or.inl ⟨by kernel_rfl, fun W hSW => by go_simp; try with_reducible rfl⟩) (by assumption) ?_
  try simp only [List.getElem_toArray]
  try simp only [List.getElem_cons_succ]
  try simp only [List.getElem_cons_zero]
  try simp only [Act.put]
  try simp only [List.setIfInBounds_toArray]
  try simp only [List.set_cons_succ]
  try simp only [List.set_cons_zero]
  refine wpAnyH_take (i := 9) (v := .bool false) rfl (by kernel_rfl) (by kernel_rfl) (by kernel_rfl) (fun _ _ _ h => h) (Or.inl ⟨by kernel_rfl, fun W hSW => by go_simp; try with_reducible rfl⟩) (by assumption) ?_
  try simp only [List.getElem_toArray]
  try simp only [List.getElem_cons_succ]
  try simp only [List.getElem_cons_zero]
  try simp only [Act.put]
  try simp only [List.setIfInBounds_toArray]
  try simp only [List.set_cons_succ]
  try simp only [List.set_cons_zero]
  refine wpAnyH_take (i := 10) (v := .bool false) rfl (by kernel_rfl) (by kernel_rfl) (by kernel_rfl) (fun _ _ _ h => h) (Or.inl ⟨by kernel_rfl, fun W hSW => by go_simp; try with_reducible rfl⟩) (by assumption) ?_
  try simp only [List.getElem_toArray]
  try simp only [List.getElem_cons_succ]
  try simp only [List.getElem_cons_zero]
  try simp only [Act.put]
  try simp only [List.setIfInBounds_toArray]
  try simp only [List.set_cons_succ]
  try simp only [List.set_cons_zero]
  refine wpAnyH_done (by kernel_rfl) ?_ _
  have pd0 := p0 w1.drew (Kept.refl _ w1).drew
  have pd1 := p1 w1.drew (Kept.refl _ w1).drew
  have pd2 := p2 w1.drew (Kept.refl _ w1).drew
  have pd3 := p3 w1.drew (Kept.refl _ w1).drew
  have pd4 := p4 w1.drew (Kept.refl _ w1).drew
  have pd5 := p5 w1.drew (Kept.refl _ w1).drew
  have pd6 := p6 w1.drew (Kept.refl _ w1).drew
  have pd7 := p7 w1.drew (Kept.refl _ w1).drew
  have pd8 := p8 w1.drew (Kept.refl _ w1).drew
  have pd9 := p9 w1.drew (Kept.refl _ w1).drew
  have pd10 := p10 w1.drew (Kept.refl _ w1).drew
  have pd11 := p11 w1.drew (Kept.refl _ w1).drew
  have pd12 := p12 w1.drew (Kept.refl _ w1).drew
  have pd13 := p13 w1.drew (Kept.refl _ w1).drew
  go_wp2_with fail
  refine (HGE.out _).mono ?_
  rintro e w2 ⟨pv4, cv4, rfl, ho2, hk2⟩
  clear pd0 pd1 pd2 pd3 pd4 pd5 pd6 pd7 pd8 pd9 pd10 pd11 pd12 pd13
  obtain ⟨w4, hw4⟩ : ∃ w4, w4 = w2.alloc (.cells #[.int .i64 9, .int .i64 0, .string ⟨D.toArray⟩] 67) := ⟨_, rfl⟩
  have Hw4 := hid hw4
  have hk14 : Kept (fun _ => False) w1 w4 := by rw [hw4]; exact ((Kept.refl _ w1).drew.trans hk2).alloc _
  obtain ⟨z0, z1, z2⟩ : Box3 w4 w2.heap.size (.int .i64 9) (.int .i64 0) (.string ⟨D.toArray⟩) := by rw [hw4]; exact box3_new w2 _ _ _ _
  have ho4 : OwnT w4 w1.heap.size (.slice pv4 l.length cv4) l := by rw [hw4]; exact OwnT.kept (show OwnT w2 w1.heap.size _ l from ho2) ((Kept.refl _ w2).alloc _)
  have K4 := hid (Hk1.out.trans hk14)
  have V4 := hid ho4.tags
  have HV4 : Hid (∀ i, S i → (Value.slice pv4 l.length cv4).ownBlock ≠ some i) := fun i hi e => by
    have h1 := hA.lt hi
    have h2 := (World.ownsRow.lt ho4 i e).1
    have h3 := Hk1.out.size
    omega
  have HA4 := hid (hA.kept0 K4.out)
  clear ho2 ho4 hk2 HGE hw4
  clear hS hC hcc
  have P0 : ∀ W, Kept (fun _ => False) w4 W → W.cell? ⟨w.heap.size, 0, none⟩ = some (.int .u8 d0) := fun W h => p0 W (hk14.trans h)
  have P1 : ∀ W, Kept (fun _ => False) w4 W → W.cell? ⟨w.heap.size, 1, none⟩ = some (.int .u8 d1) := fun W h => p1 W (hk14.trans h)
  have P2 : ∀ W, Kept (fun _ => False) w4 W → W.cell? ⟨w.heap.size, 2, none⟩ = some (.int .u8 d2) := fun W h => p2 W (hk14.trans h)
  have P3 : ∀ W, Kept (fun _ => False) w4 W → W.cell? ⟨w.heap.size, 3, none⟩ = some (.int .u8 d3) := fun W h => p3 W (hk14.trans h)
  have P4 : ∀ W, Kept (fun _ => False) w4 W → W.cell? ⟨w.heap.size, 4, none⟩ = some (.int .u8 d4) := fun W h => p4 W (hk14.trans h)
  have P5 : ∀ W, Kept (fun _ => False) w4 W → W.cell? ⟨w.heap.size, 5, none⟩ = some (.int .u8 d5) := fun W h => p5 W (hk14.trans h)
  have P6 : ∀ W, Kept (fun _ => False) w4 W → W.cell? ⟨w.heap.size, 6, none⟩ = some (.int .u8 s0) := fun W h => p6 W (hk14.trans h)
  have P7 : ∀ W, Kept (fun _ => False) w4 W → W.cell? ⟨w.heap.size, 7, none⟩ = some (.int .u8 s1) := fun W h => p7 W (hk14.trans h)
  have P8 : ∀ W, Kept (fun _ => False) w4 W → W.cell? ⟨w.heap.size, 8, none⟩ = some (.int .u8 s2) := fun W h => p8 W (hk14.trans h)
  have P9 : ∀ W, Kept (fun _ => False) w4 W → W.cell? ⟨w.heap.size, 9, none⟩ = some (.int .u8 s3) := fun W h => p9 W (hk14.trans h)
  have P10 : ∀ W, Kept (fun _ => False) w4 W → W.cell? ⟨w.heap.size, 10, none⟩ = some (.int .u8 s4) := fun W h => p10 W (hk14.trans h)
  have P11 : ∀ W, Kept (fun _ => False) w4 W → W.cell? ⟨w.heap.size, 11, none⟩ = some (.int .u8 s5) := fun W h => p11 W (hk14.trans h)
  have M0 : ∀ W, Kept (fun _ => False) w4 W → W.cell? ⟨b, 0, none⟩ = some (.int .u8 x0) := fun W h => m0 W (hk14.trans h)
  have M1 : ∀ W, Kept (fun _ => False) w4 W → W.cell? ⟨b, 1, none⟩ = some (.int .u8 x1) := fun W h => m1 W (hk14.trans h)
  have M2 : ∀ W, Kept (fun _ => False) w4 W → W.cell? ⟨b, 2, none⟩ = some (.int .u8 x2) := fun W h => m2 W (hk14.trans h)
  have M3 : ∀ W, Kept (fun _ => False) w4 W → W.cell? ⟨b, 3, none⟩ = some (.int .u8 x3) := fun W h => m3 W (hk14.trans h)
  have M4 : ∀ W, Kept (fun _ => False) w4 W → W.cell? ⟨b, 4, none⟩ = some (.int .u8 x4) := fun W h => m4 W (hk14.trans h)
  have M5 : ∀ W, Kept (fun _ => False) w4 W → W.cell? ⟨b, 5, none⟩ = some (.int .u8 x5) := fun W h => m5 W (hk14.trans h)
  have Z0 : ∀ W, Kept (fun _ => False) w4 W → W.cell? ⟨w2.heap.size, 0, none⟩ = some _ := fun W h => (h.cell (p := ⟨w2.heap.size, 0, none⟩) (lt_of_cell z0) id).trans z0
  have Z1 : ∀ W, Kept (fun _ => False) w4 W → W.cell? ⟨w2.heap.size, 1, none⟩ = some _ := fun W h => (h.cell (p := ⟨w2.heap.size, 1, none⟩) (lt_of_cell z1) id).trans z1
  go_wp2
  rw [← Hw4.out]
  refine wp_region_held_drew (S := Kept (fun _ => False) w4) (by kernel_rfl) ((Kept.refl _ w4).drew) (fun hSd => ?_)
  refine wpAnyH_take (i := 0) (v := ?_) rfl (by kernel_rfl) (by kernel_rfl) (by kernel_rfl) (fun _ _ _ h => h) (Or.inl ⟨by kernel_rfl, fun W hSW => by go_simp; try with_reducible rfl⟩) (by assumption) ?_
  try simp only [List.getElem_toArray]
  try simp only [List.getElem_cons_succ]
  try simp only [List.getElem_cons_zero]
  try simp only [Act.put]
  try simp only [List.setIfInBounds_toArray]
  try simp only [List.set_cons_succ]
  try simp only [List.set_cons_zero]
  refine wpAnyH_take (i := 1) (v := ?_) rfl (by kernel_rfl) (by kernel_rfl) (by kernel_rfl) (fun _ _ _ h => h) (Or.inl ⟨by kernel_rfl, fun W hSW => by go_simp; try with_reducible rfl⟩) (by assumption) ?_
  try simp only [List.getElem_toArray]
  try simp only [List.getElem_cons_succ]
  try simp only [List.getElem_cons_zero]
  try simp only [Act.put]
  try simp only [List.setIfInBounds_toArray]
  try simp only [List.set_cons_succ]
  try simp only [List.set_cons_zero]
  refine wpAnyH_take (i := 2) (v := .bool true) rfl (by kernel_rfl) (by kernel_rfl) (by kernel_rfl) (fun _ _ _ h => h) (Or.inl ⟨by kernel_rfl, fun W hSW => by go_simp; try with_reducible rfl⟩) (by assumption) ?_
  try simp only [List.getElem_toArray]
  try simp only [List.getElem_cons_succ]
  try simp only [List.getElem_cons_zero]
  try simp only [Act.put]
  try simp only [List.setIfInBounds_toArray]
  try simp only [List.set_cons_succ]
  try simp only [List.set_cons_zero]
  refine wpAnyH_take (i := 3) (v := .bool true) rfl (by kernel_rfl) (by kernel_rfl) (by kernel_rfl) (fun _ _ _ h => h) (Or.inl ⟨by kernel_rfl, fun W hSW => by go_simp; try with_reducible rfl⟩) (by assumption) ?_
  try simp only [List.getElem_toArray]
  try simp only [List.getElem_cons_succ]
  try simp only [List.getElem_cons_zero]
  try simp only [Act.put]
  try simp only [List.setIfInBounds_toArray]
  try simp only [List.set_cons_succ]
  try simp only [List.set_cons_zero]
  refine wpAnyH_take (i := 4) (v := ?_) rfl (by kernel_rfl) (by kernel_rfl) (by kernel_rfl) (fun _ _ _ h => h) (Or.inl ⟨by kernel_rfl, fun W hSW => by go_simp; try with_reducible rfl⟩) (by assumption) ?_
  try simp only [List.getElem_toArray]
  try simp only [List.getElem_cons_succ]
  try simp only [List.getElem_cons_zero]
  try simp only [Act.put]
  try simp only [List.setIfInBounds_toArray]
  try simp only [List.set_cons_succ]
  try simp only [List.set_cons_zero]
  refine wpAnyH_take (i := 5) (v := ?_) rfl (by kernel_rfl) (by kernel_rfl) (by kernel_rfl) (fun _ _ _ h => h) (Or.inl ⟨by kernel_rfl, fun W hSW => by go_simp; try with_reducible rfl⟩) (by assumption) ?_
  try simp only [List.getElem_toArray]
  try simp only [List.getElem_cons_succ]
  try simp only [List.getElem_cons_zero]
  try simp only [Act.put]
  try simp only [List.setIfInBounds_toArray]
  try simp only [List.set_cons_succ]
  try simp only [List.set_cons_zero]
  refine wpAnyH_ready (rs := [6]) (by kernel_rfl) (by simp) ?_
  refine AllReadyH.cons rfl (fun K hK => ?_) AllReadyH.nil
  go_simp
  refine (everyone_any _).mono ?_
  rintro e w6 ⟨rfl, hk6⟩
  have D6 : Kept (fun _ => False) w4 w6 := (Kept.refl (fun _ => False) w4).drew.trans hk6
  refine hK.out _ _ (D6) (fun _ => ?_)
  clear hK K
  try simp only [List.getElem_toArray]
  try simp only [List.getElem_cons_succ]
  try simp only [List.getElem_cons_zero]
  try simp only [Act.put]
  try simp only [List.setIfInBounds_toArray]
  try simp only [List.set_cons_succ]
  try simp only [List.set_cons_zero]
  refine wpAnyH_take (i := 7) (v := .bool true) rfl (by kernel_rfl) (by kernel_rfl) (by kernel_rfl) (fun _ _ _ h => h) (Or.inl ⟨by kernel_rfl, fun W hSW => by go_simp; try with_reducible rfl⟩) (by assumption) ?_
  try simp only [List.getElem_toArray]
  try simp only [List.getElem_cons_succ]
  try simp only [List.getElem_cons_zero]
  try simp only [Act.put]
  try simp only [List.setIfInBounds_toArray]
  try simp only [List.set_cons_succ]
  try simp only [List.set_cons_zero]
  refine wpAnyH_take (i := 8) (v := .bool true) rfl (by kernel_rfl) (by kernel_rfl) (by kernel_rfl) (fun _ _ _ h => h) (Or.inl ⟨by kernel_rfl, fun W hSW => by go_simp; try with_reducible rfl⟩) (by assumption) ?_
  try simp only [List.getElem_toArray]
  try simp only [List.getElem_cons_succ]
  try simp only [List.getElem_cons_zero]
  try simp only [Act.put]
  try simp only [List.setIfInBounds_toArray]
  try simp only [List.set_cons_succ]
  try simp only [List.set_cons_zero]
  refine wpAnyH_take (i := 9) (v := .bool true) rfl (by kernel_rfl) (by kernel_rfl) (by kernel_rfl) (fun _ _ _ h => h) (Or.inl ⟨by kernel_rfl, fun W hSW => by go_simp; try with_reducible rfl⟩) (by assumption) ?_
  try simp only [List.getElem_toArray]
  try simp only [List.getElem_cons_succ]
  try simp only [List.getElem_cons_zero]
  try simp only [Act.put]
  try simp only [List.setIfInBounds_toArray]
  try simp only [List.set_cons_succ]
  try simp only [List.set_cons_zero]
  refine wpAnyH_take (i := 10) (v := ?_) rfl (by kernel_rfl) (by kernel_rfl) (by kernel_rfl) (fun _ _ _ h => h) (Or.inl ⟨by kernel_rfl, fun W hSW => by go_simp; try with_reducible rfl⟩) (by assumption) ?_
  try simp only [List.getElem_toArray]
  try simp only [List.getElem_cons_succ]
  try simp only [List.getElem_cons_zero]
  try simp only [Act.put]
  try simp only [List.setIfInBounds_toArray]
  try simp only [List.set_cons_succ]
  try simp only [List.set_cons_zero]
  refine wpAnyH_take (i := 11) (v := ?_) rfl (by kernel_rfl) (by kernel_rfl) (by kernel_rfl) (fun _ _ _ h => h) (Or.inl ⟨by kernel_rfl, fun W hSW => by go_simp; try with_reducible rfl⟩) (by assumption) ?_
  try simp only [List.getElem_toArray]
  try simp only [List.getElem_cons_succ]
  try simp only [List.getElem_cons_zero]
  try simp only [Act.put]
  try simp only [List.setIfInBounds_toArray]
  try simp only [List.set_cons_succ]
  try simp only [List.set_cons_zero]
  refine wpAnyH_take (i := 12) (v := .bool true) rfl (by kernel_rfl) (by kernel_rfl) (by kernel_rfl) (fun _ _ _ h => h) (Or.inl ⟨by kernel_rfl, fun W hSW => by go_simp; try with_reducible rfl⟩) (by assumption) ?_
  try simp only [List.getElem_toArray]
  try simp only [List.getElem_cons_succ]
  try simp only [List.getElem_cons_zero]
  try simp only [Act.put]
  try simp only [List.setIfInBounds_toArray]
  try simp only [List.set_cons_succ]
  try simp only [List.set_cons_zero]
  refine wpAnyH_take (i := 13) (v := .bool true) rfl (by kernel_rfl) (by kernel_rfl) (by kernel_rfl) (fun _ _ _ h => h) (Or.inl ⟨by kernel_rfl, fun W hSW => by go_simp; try with_reducible rfl⟩) (by assumption) ?_
  try simp only [List.getElem_toArray]
  try simp only [List.getElem_cons_succ]
  try simp only [List.getElem_cons_zero]
  try simp only [Act.put]
  try simp only [List.setIfInBounds_toArray]
  try simp only [List.set_cons_succ]
  try simp only [List.set_cons_zero]
  refine wpAnyH_take (i := 14) (v := ?_) rfl (by kernel_rfl) (by kernel_rfl) (by kernel_rfl) (fun _ _ _ h => h) (Or.inl ⟨by kernel_rfl, fun W hSW => by go_simp; try with_reducible rfl⟩) (by assumption) ?_
  try simp only [List.getElem_toArray]
  try simp only [List.getElem_cons_succ]
  try simp only [List.getElem_cons_zero]
  try simp only [Act.put]
  try simp only [List.setIfInBounds_toArray]
  try simp only [List.set_cons_succ]
  try simp only [List.set_cons_zero]
  refine wpAnyH_done (by kernel_rfl) ?_ _
  have K6 := hid (K4.out.trans D6)
  have u6 := P6 _ D6
  have u7 := P7 _ D6
  have u8 := P8 _ D6
  have u9 := P9 _ D6
  have u10 := P10 _ D6
  have u11 := P11 _ D6
  clear P0 P1 P2 P3 P4 P5 P6 P7 P8 P9 P10 P11 M0 M1 M2 M3 M4 M5 Z0 Z1
  go_wp2_with fail
  refine (HGR.out _ K6.out _ (V4.out.kept0 D6)).mono ?_
  rintro e w5 ⟨u5, rfl, ho5, hk5⟩
  go_wp2
  go_ret
  refine ⟨u5, rfl, ?_, ?_⟩
  · exact ho5.mono K6.out.size
  · exact K6.out.trans hk5

set_option maxHeartbeats 4000000 in
set_option maxRecDepth 100000 in
theorem take_padt {S : Nat → Prop} (b : Nat) (c : Cs) (hg : Good c) (dst src : List UInt8) (hdst : dst.length = 6) (hsrc : src.length = 6) (data : ByteArray) (hsz : data.size ≤ 1000000) (t : Int) (ses : Nat) (D : List UInt8) (l : List Tg) (_hD : D.length ≤ 1000000) (hget : getDiscF data.data.toList = (⟨167, ses, D⟩, 0)) (htag : tagsOn D [] = (l, 0)) (_hl : Few l) (hses : ses ≤ 65535) (hgl : c.gone.length + 1 ≤ 1000000) (w : World) (hA : CAt S w b c) (hown : ¬ src = c.mac) (hdm : dst = c.mac) (hs0 : ses ≠ 0) :
    Calls Tryd.prog 12 #[.pointer (some ⟨b, 0, none⟩), frV ⟨dst, src, 34915, data⟩, .int .i64 t] w fun e w' => e = .returned (.slice none 0 0) ∧ CNext S w w' b (endF c src (ses : Int)) := by
  have hE3 := mac_eq dst c.mac hdst hg.mac
  obtain ⟨mb, gv, hC, hS⟩ := id hA
  obtain ⟨x0, x1, x2, x3, x4, x5, hx⟩ := six_cells hg.mac
  obtain ⟨d0, d1, d2, d3, d4, d5, hd⟩ := six_cells hdst
  obtain ⟨s0, s1, s2, s3, s4, s5, hs⟩ := six_cells hsrc
  have hfv : frV ⟨dst, src, 34915, data⟩ = .agg #[.int .u8 d0, .int .u8 d1, .int .u8 d2, .int .u8 d3, .int .u8 d4, .int .u8 d5, .int .u8 s0, .int .u8 s1, .int .u8 s2, .int .u8 s3, .int .u8 s4, .int .u8 s5, .int .i64 34915, .string data] := by unfold frV frList; simp only []; rw [hd, hs]; rfl
  rw [hfv]
  have hE1 := mac_eq src c.mac hsrc hg.mac
  rw [hs, hx, decide_eq_false hown] at hE1
  obtain ⟨w1, hw1⟩ : ∃ w1, w1 = w.alloc (.cells #[.int .u8 d0, .int .u8 d1, .int .u8 d2, .int .u8 d3, .int .u8 d4, .int .u8 d5, .int .u8 s0, .int .u8 s1, .int .u8 s2, .int .u8 s3, .int .u8 s4, .int .u8 s5, .int .i64 34915, .string data] 25) := ⟨_, rfl⟩
  have Hw1 := hid hw1
  have hk1 : Kept (fun _ => False) w w1 := by rw [hw1]; exact (Kept.refl _ w).alloc _
  have hB1 : Own14 w1 w.heap.size #[.int .u8 d0, .int .u8 d1, .int .u8 d2, .int .u8 d3, .int .u8 d4, .int .u8 d5, .int .u8 s0, .int .u8 s1, .int .u8 s2, .int .u8 s3, .int .u8 s4, .int .u8 s5, .int .i64 34915, .string data] := by rw [hw1]; exact own14_new w _
  have hcc := (hC.kept0 hk1).cells hx
  have hisn := isNone_some b c.name
  have hne : c.name.toList.isEmpty = false := by
    have h1 := hg.name1
    rw [ByteArray.toList_eq]
    rw [Lib.size_eq] at h1
    cases hq : c.name.data.toList with
    | nil => rw [hq] at h1; simp at h1
    | cons a r => rfl
  rw [hne] at hisn
  have p0 : ∀ W, Kept (fun _ => False) w1 W → W.cell? ⟨w.heap.size, 0, none⟩ = some (.int .u8 d0) := fun W h => (cell_of_row W w.heap.size 0 _ _ _ (hB1.kept h)).trans rfl
  have p1 : ∀ W, Kept (fun _ => False) w1 W → W.cell? ⟨w.heap.size, 1, none⟩ = some (.int .u8 d1) := fun W h => (cell_of_row W w.heap.size 1 _ _ _ (hB1.kept h)).trans rfl
  have p2 : ∀ W, Kept (fun _ => False) w1 W → W.cell? ⟨w.heap.size, 2, none⟩ = some (.int .u8 d2) := fun W h => (cell_of_row W w.heap.size 2 _ _ _ (hB1.kept h)).trans rfl
  have p3 : ∀ W, Kept (fun _ => False) w1 W → W.cell? ⟨w.heap.size, 3, none⟩ = some (.int .u8 d3) := fun W h => (cell_of_row W w.heap.size 3 _ _ _ (hB1.kept h)).trans rfl
  have p4 : ∀ W, Kept (fun _ => False) w1 W → W.cell? ⟨w.heap.size, 4, none⟩ = some (.int .u8 d4) := fun W h => (cell_of_row W w.heap.size 4 _ _ _ (hB1.kept h)).trans rfl
  have p5 : ∀ W, Kept (fun _ => False) w1 W → W.cell? ⟨w.heap.size, 5, none⟩ = some (.int .u8 d5) := fun W h => (cell_of_row W w.heap.size 5 _ _ _ (hB1.kept h)).trans rfl
  have p6 : ∀ W, Kept (fun _ => False) w1 W → W.cell? ⟨w.heap.size, 6, none⟩ = some (.int .u8 s0) := fun W h => (cell_of_row W w.heap.size 6 _ _ _ (hB1.kept h)).trans rfl
  have p7 : ∀ W, Kept (fun _ => False) w1 W → W.cell? ⟨w.heap.size, 7, none⟩ = some (.int .u8 s1) := fun W h => (cell_of_row W w.heap.size 7 _ _ _ (hB1.kept h)).trans rfl
  have p8 : ∀ W, Kept (fun _ => False) w1 W → W.cell? ⟨w.heap.size, 8, none⟩ = some (.int .u8 s2) := fun W h => (cell_of_row W w.heap.size 8 _ _ _ (hB1.kept h)).trans rfl
  have p9 : ∀ W, Kept (fun _ => False) w1 W → W.cell? ⟨w.heap.size, 9, none⟩ = some (.int .u8 s3) := fun W h => (cell_of_row W w.heap.size 9 _ _ _ (hB1.kept h)).trans rfl
  have p10 : ∀ W, Kept (fun _ => False) w1 W → W.cell? ⟨w.heap.size, 10, none⟩ = some (.int .u8 s4) := fun W h => (cell_of_row W w.heap.size 10 _ _ _ (hB1.kept h)).trans rfl
  have p11 : ∀ W, Kept (fun _ => False) w1 W → W.cell? ⟨w.heap.size, 11, none⟩ = some (.int .u8 s5) := fun W h => (cell_of_row W w.heap.size 11 _ _ _ (hB1.kept h)).trans rfl
  have p12 : ∀ W, Kept (fun _ => False) w1 W → W.cell? ⟨w.heap.size, 12, none⟩ = some (.int .i64 34915) := fun W h => (cell_of_row W w.heap.size 12 _ _ _ (hB1.kept h)).trans rfl
  have p13 : ∀ W, Kept (fun _ => False) w1 W → W.cell? ⟨w.heap.size, 13, none⟩ = some (.string data) := fun W h => (cell_of_row W w.heap.size 13 _ _ _ (hB1.kept h)).trans rfl
  have m0 : ∀ W, Kept (fun _ => False) w1 W → W.cell? ⟨b, 0, none⟩ = some (.int .u8 x0) := fun W h => (h.cell (p := ⟨b, 0, none⟩) (lt_of_cell hcc.c0) id).trans hcc.c0
  have m1 : ∀ W, Kept (fun _ => False) w1 W → W.cell? ⟨b, 1, none⟩ = some (.int .u8 x1) := fun W h => (h.cell (p := ⟨b, 1, none⟩) (lt_of_cell hcc.c1) id).trans hcc.c1
  have m2 : ∀ W, Kept (fun _ => False) w1 W → W.cell? ⟨b, 2, none⟩ = some (.int .u8 x2) := fun W h => (h.cell (p := ⟨b, 2, none⟩) (lt_of_cell hcc.c2) id).trans hcc.c2
  have m3 : ∀ W, Kept (fun _ => False) w1 W → W.cell? ⟨b, 3, none⟩ = some (.int .u8 x3) := fun W h => (h.cell (p := ⟨b, 3, none⟩) (lt_of_cell hcc.c3) id).trans hcc.c3
  have m4 : ∀ W, Kept (fun _ => False) w1 W → W.cell? ⟨b, 4, none⟩ = some (.int .u8 x4) := fun W h => (h.cell (p := ⟨b, 4, none⟩) (lt_of_cell hcc.c4) id).trans hcc.c4
  have m5 : ∀ W, Kept (fun _ => False) w1 W → W.cell? ⟨b, 5, none⟩ = some (.int .u8 x5) := fun W h => (h.cell (p := ⟨b, 5, none⟩) (lt_of_cell hcc.c5) id).trans hcc.c5
  have m6 : ∀ W, Kept (fun _ => False) w1 W → W.cell? ⟨b, 6, none⟩ = some (.string c.name) := fun W h => (h.cell (p := ⟨b, 6, none⟩) (lt_of_cell hcc.c6) id).trans hcc.c6
  have Hk1 := hid hk1
  have HX := hid hx
  clear hfv hw1 hne
  rw [hd, hx, decide_eq_true hdm] at hE3
  have hsn : ((ses : Int) != 0) = true := by simp; omega
  have hge : getE ⟨dst, src, 34915, data⟩ = (⟨167, ses, D⟩, l, true) := by
    unfold getE
    simp only []
    rw [hget]
    simp only []
    rw [htag]
    simp
  have HGE := hid (fun W => getE_any ⟨dst, src, 34915, data⟩ hdst hsrc hsz W)
  rw [hge] at HGE
  simp only [] at HGE
  unfold discV frV frList at HGE
  simp only [] at HGE
  rw [hd, hs] at HGE
  change Hid (∀ W, Calls Tryd.prog 29 #[.agg #[.int .u8 d0, .int .u8 d1, .int .u8 d2, .int .u8 d3, .int .u8 d4, .int .u8 d5, .int .u8 s0, .int .u8 s1, .int .u8 s2, .int .u8 s3, .int .u8 s4, .int .u8 s5, .int .i64 34915, .string data]] W fun e w' => _) at HGE
  have HGR := hid (fun W (hk : Kept (fun _ => False) w W) => end_any b c hg hgl src hsrc (ses : Int) (by unfold In64; omega) W (hA.kept0 hk))
  have hiv : idV src (ses : Int) = .agg #[.int .u8 s0, .int .u8 s1, .int .u8 s2, .int .u8 s3, .int .u8 s4, .int .u8 s5, .int .i64 (ses : Int)] := by unfold idV idCells; rw [hs]; rfl
  rw [hiv] at HGR
  clear hiv
  go_enter Tryd.func12, Tryd.ntmps12
  go_wp2
  rw [← Hw1.out]
  refine wp_region_held_drew (S := Kept (fun _ => False) w1) (by kernel_rfl) ((Kept.refl _ w1).drew) (fun hSd => ?_)
  refine wpAnyH_take (i := 0) (v := ?_) rfl (by kernel_rfl) (by kernel_rfl) (by kernel_rfl) (fun _ _ _ h => h) (Or.inl ⟨by kernel_rfl, fun W hSW => by go_simp; try with_reducible rfl⟩) (by assumption) ?_
  try simp only [List.getElem_toArray]
  try simp only [List.getElem_cons_succ]
  try simp only [List.getElem_cons_zero]
  try simp only [Act.put]
  try simp only [List.setIfInBounds_toArray]
  try simp only [List.set_cons_succ]
  try simp only [List.set_cons_zero]
  refine wpAnyH_ready (rs := [1]) (by kernel_rfl) (by simp) ?_
  refine AllReadyH.cons rfl (fun K hK => ?_) AllReadyH.nil
  go_simp
  refine (hisn w1.drew (m6 _ (Kept.refl _ w1).drew)).mono ?_
  rintro e w2 ⟨rfl, rfl⟩
  refine hK.out _ _ ((Kept.refl _ w1).drew) (fun _ => ?_)
  clear hK K
  try simp only [List.getElem_toArray]
  try simp only [List.getElem_cons_succ]
  try simp only [List.getElem_cons_zero]
  try simp only [Act.put]
  try simp only [List.setIfInBounds_toArray]
  try simp only [List.set_cons_succ]
  try simp only [List.set_cons_zero]
  refine wpAnyH_take (i := 2) (v := .bool false) rfl (by kernel_rfl) (by kernel_rfl) (by kernel_rfl) (fun _ _ _ h => h) (Or.inl ⟨by kernel_rfl, fun W hSW => by go_simp; try with_reducible rfl⟩) (by assumption) ?_
  try simp only [List.getElem_toArray]
  try simp only [List.getElem_cons_succ]
  try simp only [List.getElem_cons_zero]
  try simp only [Act.put]
  try simp only [List.setIfInBounds_toArray]
  try simp only [List.set_cons_succ]
  try simp only [List.set_cons_zero]
  refine wpAnyH_take (i := 3) (v := ?_) rfl (by kernel_rfl) (by kernel_rfl) (by kernel_rfl) (fun _ _ _ h => h) (Or.inl ⟨by kernel_rfl, fun W hSW => by go_simp; try with_reducible rfl⟩) (by assumption) ?_
  try simp only [List.getElem_toArray]
  try simp only [List.getElem_cons_succ]
  try simp only [List.getElem_cons_zero]
  try simp only [Act.put]
  try simp only [List.setIfInBounds_toArray]
  try simp only [List.set_cons_succ]
  try simp only [List.set_cons_zero]
  refine wpAnyH_take (i := 4) (v := ?_) rfl (by kernel_rfl) (by kernel_rfl) (by kernel_rfl) (fun _ _ _ h => h) (Or.inl ⟨by kernel_rfl, fun W hSW => by go_simp; try with_reducible rfl⟩) (by assumption) ?_
  try simp only [List.getElem_toArray]
  try simp only [List.getElem_cons_succ]
  try simp only [List.getElem_cons_zero]
  try simp only [Act.put]
  try simp only [List.setIfInBounds_toArray]
  try simp only [List.set_cons_succ]
  try simp only [List.set_cons_zero]
  refine wpAnyH_take (i := 5) (v := ?_) rfl (by kernel_rfl) (by kernel_rfl) (by kernel_rfl) (fun _ _ _ h => h) (Or.inl ⟨by kernel_rfl, fun W hSW => by go_simp; try with_reducible rfl⟩) (by assumption) ?_
  try simp only [List.getElem_toArray]
  try simp only [List.getElem_cons_succ]
  try simp only [List.getElem_cons_zero]
  try simp only [Act.put]
  try simp only [List.setIfInBounds_toArray]
  try simp only [List.set_cons_succ]
  try simp only [List.set_cons_zero]
  refine wpAnyH_take (i := 6) (v := ?_) rfl (by kernel_rfl) (by kernel_rfl) (by kernel_rfl) (fun _ _ _ h => h) (Or.inl ⟨by kernel_rfl, fun W hSW => by go_simp; try with_reducible rfl⟩) (by assumption) ?_
  try simp only [List.getElem_toArray]
  try simp only [List.getElem_cons_succ]
  try simp only [List.getElem_cons_zero]
  try simp only [Act.put]
  try simp only [List.setIfInBounds_toArray]
  try simp only [List.set_cons_succ]
  try simp only [List.set_cons_zero]
  refine wpAnyH_take (i := 7) (v := ?_) rfl (by kernel_rfl) (by kernel_rfl) (by kernel_rfl) (fun _ _ _ h => h) (Or.inl ⟨by kernel_rfl, fun W hSW => by go_simp; try with_reducible rfl⟩) (by assumption) ?_
  try simp only [List.getElem_toArray]
  try simp only [List.getElem_cons_succ]
  try simp only [List.getElem_cons_zero]
  try simp only [Act.put]
  try simp only [List.setIfInBounds_toArray]
  try simp only [List.set_cons_succ]
  try simp only [List.set_cons_zero]
  refine wpAnyH_take (i := 8) (v := ?_) rfl (by kernel_rfl) (by kernel_rfl) (by kernel_rfl) (fun _ _ _ h => h) (Or.inl ⟨by kernel_rfl, fun W hSW => by go_simp; try with_reducible rfl⟩) (by assumption) ?_
  try simp only [List.getElem_toArray]
  try simp only [List.getElem_cons_succ]
  try simp only [List.getElem_cons_zero]
  try simp only [Act.put]
  try simp only [List.setIfInBounds_toArray]
  try simp only [List.set_cons_succ]
  try simp only [List.set_cons_zero]
  refine wpAnyH_take (i := 9) (v := .bool false) rfl (by kernel_rfl) (by kernel_rfl) (by kernel_rfl) (fun _ _ _ h => h) (Or.inl ⟨by kernel_rfl, fun W hSW => by go_simp; try with_reducible rfl⟩) (by assumption) ?_
  try simp only [List.getElem_toArray]
  try simp only [List.getElem_cons_succ]
  try simp only [List.getElem_cons_zero]
  try simp only [Act.put]
  try simp only [List.setIfInBounds_toArray]
  try simp only [List.set_cons_succ]
  try simp only [List.set_cons_zero]
  refine wpAnyH_take (i := 10) (v := .bool false) rfl (by kernel_rfl) (by kernel_rfl) (by kernel_rfl) (fun _ _ _ h => h) (Or.inl ⟨by kernel_rfl, fun W hSW => by go_simp; try with_reducible rfl⟩) (by assumption) ?_
  try simp only [List.getElem_toArray]
  try simp only [List.getElem_cons_succ]
  try simp only [List.getElem_cons_zero]
  try simp only [Act.put]
  try simp only [List.setIfInBounds_toArray]
  try simp only [List.set_cons_succ]
  try simp only [List.set_cons_zero]
  refine wpAnyH_done (by kernel_rfl) ?_ _
  have pd0 := p0 w1.drew (Kept.refl _ w1).drew
  have pd1 := p1 w1.drew (Kept.refl _ w1).drew
  have pd2 := p2 w1.drew (Kept.refl _ w1).drew
  have pd3 := p3 w1.drew (Kept.refl _ w1).drew
  have pd4 := p4 w1.drew (Kept.refl _ w1).drew
  have pd5 := p5 w1.drew (Kept.refl _ w1).drew
  have pd6 := p6 w1.drew (Kept.refl _ w1).drew
  have pd7 := p7 w1.drew (Kept.refl _ w1).drew
  have pd8 := p8 w1.drew (Kept.refl _ w1).drew
  have pd9 := p9 w1.drew (Kept.refl _ w1).drew
  have pd10 := p10 w1.drew (Kept.refl _ w1).drew
  have pd11 := p11 w1.drew (Kept.refl _ w1).drew
  have pd12 := p12 w1.drew (Kept.refl _ w1).drew
  have pd13 := p13 w1.drew (Kept.refl _ w1).drew
  go_wp2_with fail
  refine (HGE.out _).mono ?_
  rintro e w2 ⟨pv4, cv4, rfl, ho2, hk2⟩
  clear pd0 pd1 pd2 pd3 pd4 pd5 pd6 pd7 pd8 pd9 pd10 pd11 pd12 pd13
  obtain ⟨w4, hw4⟩ : ∃ w4, w4 = w2.alloc (.cells #[.int .i64 167, .int .i64 (ses : Int), .string ⟨D.toArray⟩] 67) := ⟨_, rfl⟩
  have Hw4 := hid hw4
  have hk14 : Kept (fun _ => False) w1 w4 := by rw [hw4]; exact ((Kept.refl _ w1).drew.trans hk2).alloc _
  obtain ⟨z0, z1, z2⟩ : Box3 w4 w2.heap.size (.int .i64 167) (.int .i64 (ses : Int)) (.string ⟨D.toArray⟩) := by rw [hw4]; exact box3_new w2 _ _ _ _
  have ho4 : OwnT w4 w1.heap.size (.slice pv4 l.length cv4) l := by rw [hw4]; exact OwnT.kept (show OwnT w2 w1.heap.size _ l from ho2) ((Kept.refl _ w2).alloc _)
  have K4 := hid (Hk1.out.trans hk14)
  have V4 := hid ho4.tags
  have HV4 : Hid (∀ i, S i → (Value.slice pv4 l.length cv4).ownBlock ≠ some i) := fun i hi e => by
    have h1 := hA.lt hi
    have h2 := (World.ownsRow.lt ho4 i e).1
    have h3 := Hk1.out.size
    omega
  have HA4 := hid (hA.kept0 K4.out)
  clear ho2 ho4 hk2 HGE hw4
  clear hS hC hcc
  have P0 : ∀ W, Kept (fun _ => False) w4 W → W.cell? ⟨w.heap.size, 0, none⟩ = some (.int .u8 d0) := fun W h => p0 W (hk14.trans h)
  have P1 : ∀ W, Kept (fun _ => False) w4 W → W.cell? ⟨w.heap.size, 1, none⟩ = some (.int .u8 d1) := fun W h => p1 W (hk14.trans h)
  have P2 : ∀ W, Kept (fun _ => False) w4 W → W.cell? ⟨w.heap.size, 2, none⟩ = some (.int .u8 d2) := fun W h => p2 W (hk14.trans h)
  have P3 : ∀ W, Kept (fun _ => False) w4 W → W.cell? ⟨w.heap.size, 3, none⟩ = some (.int .u8 d3) := fun W h => p3 W (hk14.trans h)
  have P4 : ∀ W, Kept (fun _ => False) w4 W → W.cell? ⟨w.heap.size, 4, none⟩ = some (.int .u8 d4) := fun W h => p4 W (hk14.trans h)
  have P5 : ∀ W, Kept (fun _ => False) w4 W → W.cell? ⟨w.heap.size, 5, none⟩ = some (.int .u8 d5) := fun W h => p5 W (hk14.trans h)
  have P6 : ∀ W, Kept (fun _ => False) w4 W → W.cell? ⟨w.heap.size, 6, none⟩ = some (.int .u8 s0) := fun W h => p6 W (hk14.trans h)
  have P7 : ∀ W, Kept (fun _ => False) w4 W → W.cell? ⟨w.heap.size, 7, none⟩ = some (.int .u8 s1) := fun W h => p7 W (hk14.trans h)
  have P8 : ∀ W, Kept (fun _ => False) w4 W → W.cell? ⟨w.heap.size, 8, none⟩ = some (.int .u8 s2) := fun W h => p8 W (hk14.trans h)
  have P9 : ∀ W, Kept (fun _ => False) w4 W → W.cell? ⟨w.heap.size, 9, none⟩ = some (.int .u8 s3) := fun W h => p9 W (hk14.trans h)
  have P10 : ∀ W, Kept (fun _ => False) w4 W → W.cell? ⟨w.heap.size, 10, none⟩ = some (.int .u8 s4) := fun W h => p10 W (hk14.trans h)
  have P11 : ∀ W, Kept (fun _ => False) w4 W → W.cell? ⟨w.heap.size, 11, none⟩ = some (.int .u8 s5) := fun W h => p11 W (hk14.trans h)
  have M0 : ∀ W, Kept (fun _ => False) w4 W → W.cell? ⟨b, 0, none⟩ = some (.int .u8 x0) := fun W h => m0 W (hk14.trans h)
  have M1 : ∀ W, Kept (fun _ => False) w4 W → W.cell? ⟨b, 1, none⟩ = some (.int .u8 x1) := fun W h => m1 W (hk14.trans h)
  have M2 : ∀ W, Kept (fun _ => False) w4 W → W.cell? ⟨b, 2, none⟩ = some (.int .u8 x2) := fun W h => m2 W (hk14.trans h)
  have M3 : ∀ W, Kept (fun _ => False) w4 W → W.cell? ⟨b, 3, none⟩ = some (.int .u8 x3) := fun W h => m3 W (hk14.trans h)
  have M4 : ∀ W, Kept (fun _ => False) w4 W → W.cell? ⟨b, 4, none⟩ = some (.int .u8 x4) := fun W h => m4 W (hk14.trans h)
  have M5 : ∀ W, Kept (fun _ => False) w4 W → W.cell? ⟨b, 5, none⟩ = some (.int .u8 x5) := fun W h => m5 W (hk14.trans h)
  have Z0 : ∀ W, Kept (fun _ => False) w4 W → W.cell? ⟨w2.heap.size, 0, none⟩ = some _ := fun W h => (h.cell (p := ⟨w2.heap.size, 0, none⟩) (lt_of_cell z0) id).trans z0
  have Z1 : ∀ W, Kept (fun _ => False) w4 W → W.cell? ⟨w2.heap.size, 1, none⟩ = some _ := fun W h => (h.cell (p := ⟨w2.heap.size, 1, none⟩) (lt_of_cell z1) id).trans z1
  go_wp2
  rw [← Hw4.out]
  refine wp_region_held_drew (S := Kept (fun _ => False) w4) (by kernel_rfl) ((Kept.refl _ w4).drew) (fun hSd => ?_)
  refine wpAnyH_take (i := 0) (v := ?_) rfl (by kernel_rfl) (by kernel_rfl) (by kernel_rfl) (fun _ _ _ h => h) (Or.inl ⟨by kernel_rfl, fun W hSW => by go_simp; try with_reducible rfl⟩) (by assumption) ?_
  try simp only [List.getElem_toArray]
  try simp only [List.getElem_cons_succ]
  try simp only [List.getElem_cons_zero]
  try simp only [Act.put]
  try simp only [List.setIfInBounds_toArray]
  try simp only [List.set_cons_succ]
  try simp only [List.set_cons_zero]
  refine wpAnyH_take (i := 1) (v := ?_) rfl (by kernel_rfl) (by kernel_rfl) (by kernel_rfl) (fun _ _ _ h => h) (Or.inl ⟨by kernel_rfl, fun W hSW => by go_simp; try with_reducible rfl⟩) (by assumption) ?_
  try simp only [List.getElem_toArray]
  try simp only [List.getElem_cons_succ]
  try simp only [List.getElem_cons_zero]
  try simp only [Act.put]
  try simp only [List.setIfInBounds_toArray]
  try simp only [List.set_cons_succ]
  try simp only [List.set_cons_zero]
  refine wpAnyH_take (i := 2) (v := .bool false) rfl (by kernel_rfl) (by kernel_rfl) (by kernel_rfl) (fun _ _ _ h => h) (Or.inl ⟨by kernel_rfl, fun W hSW => by go_simp; try with_reducible rfl⟩) (by assumption) ?_
  try simp only [List.getElem_toArray]
  try simp only [List.getElem_cons_succ]
  try simp only [List.getElem_cons_zero]
  try simp only [Act.put]
  try simp only [List.setIfInBounds_toArray]
  try simp only [List.set_cons_succ]
  try simp only [List.set_cons_zero]
  refine wpAnyH_take (i := 3) (v := .bool false) rfl (by kernel_rfl) (by kernel_rfl) (by kernel_rfl) (fun _ _ _ h => h) (Or.inl ⟨by kernel_rfl, fun W hSW => by go_simp; try with_reducible rfl⟩) (by assumption) ?_
  try simp only [List.getElem_toArray]
  try simp only [List.getElem_cons_succ]
  try simp only [List.getElem_cons_zero]
  try simp only [Act.put]
  try simp only [List.setIfInBounds_toArray]
  try simp only [List.set_cons_succ]
  try simp only [List.set_cons_zero]
  refine wpAnyH_take (i := 4) rfl (by kernel_rfl) (by kernel_rfl) (by kernel_rfl) (fun _ _ _ h => h) (Or.inr ⟨by kernel_rfl, rfl⟩) (by assumption) ?_
  try simp only [List.getElem_toArray]
  try simp only [List.getElem_cons_succ]
  try simp only [List.getElem_cons_zero]
  try simp only [Act.put]
  try simp only [List.setIfInBounds_toArray]
  try simp only [List.set_cons_succ]
  try simp only [List.set_cons_zero]
  refine wpAnyH_take (i := 5) rfl (by kernel_rfl) (by kernel_rfl) (by kernel_rfl) (fun _ _ _ h => h) (Or.inr ⟨by kernel_rfl, rfl⟩) (by assumption) ?_
  try simp only [List.getElem_toArray]
  try simp only [List.getElem_cons_succ]
  try simp only [List.getElem_cons_zero]
  try simp only [Act.put]
  try simp only [List.setIfInBounds_toArray]
  try simp only [List.set_cons_succ]
  try simp only [List.set_cons_zero]
  refine wpAnyH_take (i := 6) rfl (by kernel_rfl) (by kernel_rfl) (by kernel_rfl) (fun _ _ _ h => h) (Or.inr ⟨by kernel_rfl, rfl⟩) (by assumption) ?_
  try simp only [List.getElem_toArray]
  try simp only [List.getElem_cons_succ]
  try simp only [List.getElem_cons_zero]
  try simp only [Act.put]
  try simp only [List.setIfInBounds_toArray]
  try simp only [List.set_cons_succ]
  try simp only [List.set_cons_zero]
  refine wpAnyH_take (i := 7) rfl (by kernel_rfl) (by kernel_rfl) (by kernel_rfl) (fun _ _ _ h => h) (Or.inr ⟨by kernel_rfl, rfl⟩) (by assumption) ?_
  try simp only [List.getElem_toArray]
  try simp only [List.getElem_cons_succ]
  try simp only [List.getElem_cons_zero]
  try simp only [Act.put]
  try simp only [List.setIfInBounds_toArray]
  try simp only [List.set_cons_succ]
  try simp only [List.set_cons_zero]
  refine wpAnyH_take (i := 8) (v := .bool false) rfl (by kernel_rfl) (by kernel_rfl) (by kernel_rfl) (fun _ _ _ h => h) (Or.inl ⟨by kernel_rfl, fun W hSW => by go_simp; try with_reducible rfl⟩) (by assumption) ?_
  try simp only [List.getElem_toArray]
  try simp only [List.getElem_cons_succ]
  try simp only [List.getElem_cons_zero]
  try simp only [Act.put]
  try simp only [List.setIfInBounds_toArray]
  try simp only [List.set_cons_succ]
  try simp only [List.set_cons_zero]
  refine wpAnyH_take (i := 9) (v := .bool false) rfl (by kernel_rfl) (by kernel_rfl) (by kernel_rfl) (fun _ _ _ h => h) (Or.inl ⟨by kernel_rfl, fun W hSW => by go_simp; try with_reducible rfl⟩) (by assumption) ?_
  try simp only [List.getElem_toArray]
  try simp only [List.getElem_cons_succ]
  try simp only [List.getElem_cons_zero]
  try simp only [Act.put]
  try simp only [List.setIfInBounds_toArray]
  try simp only [List.set_cons_succ]
  try simp only [List.set_cons_zero]
  refine wpAnyH_take (i := 10) rfl (by kernel_rfl) (by kernel_rfl) (by kernel_rfl) (fun _ _ _ h => h) (Or.inr ⟨by kernel_rfl, rfl⟩) (by assumption) ?_
  try simp only [List.getElem_toArray]
  try simp only [List.getElem_cons_succ]
  try simp only [List.getElem_cons_zero]
  try simp only [Act.put]
  try simp only [List.setIfInBounds_toArray]
  try simp only [List.set_cons_succ]
  try simp only [List.set_cons_zero]
  refine wpAnyH_take (i := 11) rfl (by kernel_rfl) (by kernel_rfl) (by kernel_rfl) (fun _ _ _ h => h) (Or.inr ⟨by kernel_rfl, rfl⟩) (by assumption) ?_
  try simp only [List.getElem_toArray]
  try simp only [List.getElem_cons_succ]
  try simp only [List.getElem_cons_zero]
  try simp only [Act.put]
  try simp only [List.setIfInBounds_toArray]
  try simp only [List.set_cons_succ]
  try simp only [List.set_cons_zero]
  refine wpAnyH_take (i := 12) rfl (by kernel_rfl) (by kernel_rfl) (by kernel_rfl) (fun _ _ _ h => h) (Or.inr ⟨by kernel_rfl, rfl⟩) (by assumption) ?_
  try simp only [List.getElem_toArray]
  try simp only [List.getElem_cons_succ]
  try simp only [List.getElem_cons_zero]
  try simp only [Act.put]
  try simp only [List.setIfInBounds_toArray]
  try simp only [List.set_cons_succ]
  try simp only [List.set_cons_zero]
  refine wpAnyH_take (i := 13) (v := .bool false) rfl (by kernel_rfl) (by kernel_rfl) (by kernel_rfl) (fun _ _ _ h => h) (Or.inl ⟨by kernel_rfl, fun W hSW => by go_simp; try with_reducible rfl⟩) (by assumption) ?_
  try simp only [List.getElem_toArray]
  try simp only [List.getElem_cons_succ]
  try simp only [List.getElem_cons_zero]
  try simp only [Act.put]
  try simp only [List.setIfInBounds_toArray]
  try simp only [List.set_cons_succ]
  try simp only [List.set_cons_zero]
  refine wpAnyH_take (i := 14) (v := ?_) rfl (by kernel_rfl) (by kernel_rfl) (by kernel_rfl) (fun _ _ _ h => h) (Or.inl ⟨by kernel_rfl, fun W hSW => by go_simp; try with_reducible rfl⟩) (by assumption) ?_
  try simp only [List.getElem_toArray]
  try simp only [List.getElem_cons_succ]
  try simp only [List.getElem_cons_zero]
  try simp only [Act.put]
  try simp only [List.setIfInBounds_toArray]
  try simp only [List.set_cons_succ]
  try simp only [List.set_cons_zero]
  refine wpAnyH_done (by kernel_rfl) ?_ _
  go_wp2
  refine wp_region_held_drew (S := Kept (fun _ => False) w4) (by kernel_rfl) ((Kept.refl _ w4).drew.drew) (fun hSd => ?_)
  refine wpAnyH_take (i := 0) (v := ?_) rfl (by kernel_rfl) (by kernel_rfl) (by kernel_rfl) (fun _ _ _ h => h) (Or.inl ⟨by kernel_rfl, fun W hSW => by go_simp; try with_reducible rfl⟩) (by assumption) ?_
  try simp only [List.getElem_toArray]
  try simp only [List.getElem_cons_succ]
  try simp only [List.getElem_cons_zero]
  try simp only [Act.put]
  try simp only [List.setIfInBounds_toArray]
  try simp only [List.set_cons_succ]
  try simp only [List.set_cons_zero]
  refine wpAnyH_take (i := 1) (v := ?_) rfl (by kernel_rfl) (by kernel_rfl) (by kernel_rfl) (fun _ _ _ h => h) (Or.inl ⟨by kernel_rfl, fun W hSW => by go_simp; try with_reducible rfl⟩) (by assumption) ?_
  try simp only [List.getElem_toArray]
  try simp only [List.getElem_cons_succ]
  try simp only [List.getElem_cons_zero]
  try simp only [Act.put]
  try simp only [List.setIfInBounds_toArray]
  try simp only [List.set_cons_succ]
  try simp only [List.set_cons_zero]
  refine wpAnyH_take (i := 2) (v := .bool false) rfl (by kernel_rfl) (by kernel_rfl) (by kernel_rfl) (fun _ _ _ h => h) (Or.inl ⟨by kernel_rfl, fun W hSW => by go_simp; try with_reducible rfl⟩) (by assumption) ?_
  try simp only [List.getElem_toArray]
  try simp only [List.getElem_cons_succ]
  try simp only [List.getElem_cons_zero]
  try simp only [Act.put]
  try simp only [List.setIfInBounds_toArray]
  try simp only [List.set_cons_succ]
  try simp only [List.set_cons_zero]
  refine wpAnyH_take (i := 3) (v := .bool false) rfl (by kernel_rfl) (by kernel_rfl) (by kernel_rfl) (fun _ _ _ h => h) (Or.inl ⟨by kernel_rfl, fun W hSW => by go_simp; try with_reducible rfl⟩) (by assumption) ?_
  try simp only [List.getElem_toArray]
  try simp only [List.getElem_cons_succ]
  try simp only [List.getElem_cons_zero]
  try simp only [Act.put]
  try simp only [List.setIfInBounds_toArray]
  try simp only [List.set_cons_succ]
  try simp only [List.set_cons_zero]
  refine wpAnyH_take (i := 4) rfl (by kernel_rfl) (by kernel_rfl) (by kernel_rfl) (fun _ _ _ h => h) (Or.inr ⟨by kernel_rfl, rfl⟩) (by assumption) ?_
  try simp only [List.getElem_toArray]
  try simp only [List.getElem_cons_succ]
  try simp only [List.getElem_cons_zero]
  try simp only [Act.put]
  try simp only [List.setIfInBounds_toArray]
  try simp only [List.set_cons_succ]
  try simp only [List.set_cons_zero]
  refine wpAnyH_take (i := 5) rfl (by kernel_rfl) (by kernel_rfl) (by kernel_rfl) (fun _ _ _ h => h) (Or.inr ⟨by kernel_rfl, rfl⟩) (by assumption) ?_
  try simp only [List.getElem_toArray]
  try simp only [List.getElem_cons_succ]
  try simp only [List.getElem_cons_zero]
  try simp only [Act.put]
  try simp only [List.setIfInBounds_toArray]
  try simp only [List.set_cons_succ]
  try simp only [List.set_cons_zero]
  refine wpAnyH_take (i := 6) rfl (by kernel_rfl) (by kernel_rfl) (by kernel_rfl) (fun _ _ _ h => h) (Or.inr ⟨by kernel_rfl, rfl⟩) (by assumption) ?_
  try simp only [List.getElem_toArray]
  try simp only [List.getElem_cons_succ]
  try simp only [List.getElem_cons_zero]
  try simp only [Act.put]
  try simp only [List.setIfInBounds_toArray]
  try simp only [List.set_cons_succ]
  try simp only [List.set_cons_zero]
  refine wpAnyH_take (i := 7) rfl (by kernel_rfl) (by kernel_rfl) (by kernel_rfl) (fun _ _ _ h => h) (Or.inr ⟨by kernel_rfl, rfl⟩) (by assumption) ?_
  try simp only [List.getElem_toArray]
  try simp only [List.getElem_cons_succ]
  try simp only [List.getElem_cons_zero]
  try simp only [Act.put]
  try simp only [List.setIfInBounds_toArray]
  try simp only [List.set_cons_succ]
  try simp only [List.set_cons_zero]
  refine wpAnyH_take (i := 8) rfl (by kernel_rfl) (by kernel_rfl) (by kernel_rfl) (fun _ _ _ h => h) (Or.inr ⟨by kernel_rfl, rfl⟩) (by assumption) ?_
  try simp only [List.getElem_toArray]
  try simp only [List.getElem_cons_succ]
  try simp only [List.getElem_cons_zero]
  try simp only [Act.put]
  try simp only [List.setIfInBounds_toArray]
  try simp only [List.set_cons_succ]
  try simp only [List.set_cons_zero]
  refine wpAnyH_take (i := 9) rfl (by kernel_rfl) (by kernel_rfl) (by kernel_rfl) (fun _ _ _ h => h) (Or.inr ⟨by kernel_rfl, rfl⟩) (by assumption) ?_
  try simp only [List.getElem_toArray]
  try simp only [List.getElem_cons_succ]
  try simp only [List.getElem_cons_zero]
  try simp only [Act.put]
  try simp only [List.setIfInBounds_toArray]
  try simp only [List.set_cons_succ]
  try simp only [List.set_cons_zero]
  refine wpAnyH_take (i := 10) rfl (by kernel_rfl) (by kernel_rfl) (by kernel_rfl) (fun _ _ _ h => h) (Or.inr ⟨by kernel_rfl, rfl⟩) (by assumption) ?_
  try simp only [List.getElem_toArray]
  try simp only [List.getElem_cons_succ]
  try simp only [List.getElem_cons_zero]
  try simp only [Act.put]
  try simp only [List.setIfInBounds_toArray]
  try simp only [List.set_cons_succ]
  try simp only [List.set_cons_zero]
  refine wpAnyH_take (i := 11) (v := .bool false) rfl (by kernel_rfl) (by kernel_rfl) (by kernel_rfl) (fun _ _ _ h => h) (Or.inl ⟨by kernel_rfl, fun W hSW => by go_simp; try with_reducible rfl⟩) (by assumption) ?_
  try simp only [List.getElem_toArray]
  try simp only [List.getElem_cons_succ]
  try simp only [List.getElem_cons_zero]
  try simp only [Act.put]
  try simp only [List.setIfInBounds_toArray]
  try simp only [List.set_cons_succ]
  try simp only [List.set_cons_zero]
  refine wpAnyH_take (i := 12) (v := .bool false) rfl (by kernel_rfl) (by kernel_rfl) (by kernel_rfl) (fun _ _ _ h => h) (Or.inl ⟨by kernel_rfl, fun W hSW => by go_simp; try with_reducible rfl⟩) (by assumption) ?_
  try simp only [List.getElem_toArray]
  try simp only [List.getElem_cons_succ]
  try simp only [List.getElem_cons_zero]
  try simp only [Act.put]
  try simp only [List.setIfInBounds_toArray]
  try simp only [List.set_cons_succ]
  try simp only [List.set_cons_zero]
  refine wpAnyH_take (i := 13) rfl (by kernel_rfl) (by kernel_rfl) (by kernel_rfl) (fun _ _ _ h => h) (Or.inr ⟨by kernel_rfl, rfl⟩) (by assumption) ?_
  try simp only [List.getElem_toArray]
  try simp only [List.getElem_cons_succ]
  try simp only [List.getElem_cons_zero]
  try simp only [Act.put]
  try simp only [List.setIfInBounds_toArray]
  try simp only [List.set_cons_succ]
  try simp only [List.set_cons_zero]
  refine wpAnyH_take (i := 14) rfl (by kernel_rfl) (by kernel_rfl) (by kernel_rfl) (fun _ _ _ h => h) (Or.inr ⟨by kernel_rfl, rfl⟩) (by assumption) ?_
  try simp only [List.getElem_toArray]
  try simp only [List.getElem_cons_succ]
  try simp only [List.getElem_cons_zero]
  try simp only [Act.put]
  try simp only [List.setIfInBounds_toArray]
  try simp only [List.set_cons_succ]
  try simp only [List.set_cons_zero]
  refine wpAnyH_take (i := 15) rfl (by kernel_rfl) (by kernel_rfl) (by kernel_rfl) (fun _ _ _ h => h) (Or.inr ⟨by kernel_rfl, rfl⟩) (by assumption) ?_
  try simp only [List.getElem_toArray]
  try simp only [List.getElem_cons_succ]
  try simp only [List.getElem_cons_zero]
  try simp only [Act.put]
  try simp only [List.setIfInBounds_toArray]
  try simp only [List.set_cons_succ]
  try simp only [List.set_cons_zero]
  refine wpAnyH_take (i := 16) (v := .bool false) rfl (by kernel_rfl) (by kernel_rfl) (by kernel_rfl) (fun _ _ _ h => h) (Or.inl ⟨by kernel_rfl, fun W hSW => by go_simp; try with_reducible rfl⟩) (by assumption) ?_
  try simp only [List.getElem_toArray]
  try simp only [List.getElem_cons_succ]
  try simp only [List.getElem_cons_zero]
  try simp only [Act.put]
  try simp only [List.setIfInBounds_toArray]
  try simp only [List.set_cons_succ]
  try simp only [List.set_cons_zero]
  refine wpAnyH_take (i := 17) (v := .bool false) rfl (by kernel_rfl) (by kernel_rfl) (by kernel_rfl) (fun _ _ _ h => h) (Or.inl ⟨by kernel_rfl, fun W hSW => by go_simp; try with_reducible rfl⟩) (by assumption) ?_
  try simp only [List.getElem_toArray]
  try simp only [List.getElem_cons_succ]
  try simp only [List.getElem_cons_zero]
  try simp only [Act.put]
  try simp only [List.setIfInBounds_toArray]
  try simp only [List.set_cons_succ]
  try simp only [List.set_cons_zero]
  refine wpAnyH_done (by kernel_rfl) ?_ _
  go_wp2
  have D4 := (Kept.refl (fun _ => False) w4).drew.drew
  refine wp_region_held_drew (S := Kept (fun _ => False) w4) (by kernel_rfl) (D4.drew) (fun hSd => ?_)
  refine wpAnyH_take (i := 0) (v := ?_) rfl (by kernel_rfl) (by kernel_rfl) (by kernel_rfl) (fun _ _ _ h => h) (Or.inl ⟨by kernel_rfl, fun W hSW => by go_simp; try with_reducible rfl⟩) (by assumption) ?_
  try simp only [List.getElem_toArray]
  try simp only [List.getElem_cons_succ]
  try simp only [List.getElem_cons_zero]
  try simp only [Act.put]
  try simp only [List.setIfInBounds_toArray]
  try simp only [List.set_cons_succ]
  try simp only [List.set_cons_zero]
  refine wpAnyH_take (i := 1) (v := ?_) rfl (by kernel_rfl) (by kernel_rfl) (by kernel_rfl) (fun _ _ _ h => h) (Or.inl ⟨by kernel_rfl, fun W hSW => by go_simp; try with_reducible rfl⟩) (by assumption) ?_
  try simp only [List.getElem_toArray]
  try simp only [List.getElem_cons_succ]
  try simp only [List.getElem_cons_zero]
  try simp only [Act.put]
  try simp only [List.setIfInBounds_toArray]
  try simp only [List.set_cons_succ]
  try simp only [List.set_cons_zero]
  refine wpAnyH_take (i := 2) (v := .bool true) rfl (by kernel_rfl) (by kernel_rfl) (by kernel_rfl) (fun _ _ _ h => h) (Or.inl ⟨by kernel_rfl, fun W hSW => by go_simp; try with_reducible rfl⟩) (by assumption) ?_
  try simp only [List.getElem_toArray]
  try simp only [List.getElem_cons_succ]
  try simp only [List.getElem_cons_zero]
  try simp only [Act.put]
  try simp only [List.setIfInBounds_toArray]
  try simp only [List.set_cons_succ]
  try simp only [List.set_cons_zero]
  refine wpAnyH_take (i := 3) (v := .bool true) rfl (by kernel_rfl) (by kernel_rfl) (by kernel_rfl) (fun _ _ _ h => h) (Or.inl ⟨by kernel_rfl, fun W hSW => by go_simp; try with_reducible rfl⟩) (by assumption) ?_
  try simp only [List.getElem_toArray]
  try simp only [List.getElem_cons_succ]
  try simp only [List.getElem_cons_zero]
  try simp only [Act.put]
  try simp only [List.setIfInBounds_toArray]
  try simp only [List.set_cons_succ]
  try simp only [List.set_cons_zero]
  refine wpAnyH_take (i := 4) (v := ?_) rfl (by kernel_rfl) (by kernel_rfl) (by kernel_rfl) (fun _ _ _ h => h) (Or.inl ⟨by kernel_rfl, fun W hSW => by go_simp; try with_reducible rfl⟩) (by assumption) ?_
  try simp only [List.getElem_toArray]
  try simp only [List.getElem_cons_succ]
  try simp only [List.getElem_cons_zero]
  try simp only [Act.put]
  try simp only [List.setIfInBounds_toArray]
  try simp only [List.set_cons_succ]
  try simp only [List.set_cons_zero]
  refine wpAnyH_take (i := 5) (v := ?_) rfl (by kernel_rfl) (by kernel_rfl) (by kernel_rfl) (fun _ _ _ h => h) (Or.inl ⟨by kernel_rfl, fun W hSW => by go_simp; try with_reducible rfl⟩) (by assumption) ?_
  try simp only [List.getElem_toArray]
  try simp only [List.getElem_cons_succ]
  try simp only [List.getElem_cons_zero]
  try simp only [Act.put]
  try simp only [List.setIfInBounds_toArray]
  try simp only [List.set_cons_succ]
  try simp only [List.set_cons_zero]
  refine wpAnyH_take (i := 6) (v := ?_) rfl (by kernel_rfl) (by kernel_rfl) (by kernel_rfl) (fun _ _ _ h => h) (Or.inl ⟨by kernel_rfl, fun W hSW => by go_simp; try with_reducible rfl⟩) (by assumption) ?_
  try simp only [List.getElem_toArray]
  try simp only [List.getElem_cons_succ]
  try simp only [List.getElem_cons_zero]
  try simp only [Act.put]
  try simp only [List.setIfInBounds_toArray]
  try simp only [List.set_cons_succ]
  try simp only [List.set_cons_zero]
  refine wpAnyH_take (i := 7) (v := ?_) rfl (by kernel_rfl) (by kernel_rfl) (by kernel_rfl) (fun _ _ _ h => h) (Or.inl ⟨by kernel_rfl, fun W hSW => by go_simp; try with_reducible rfl⟩) (by assumption) ?_
  try simp only [List.getElem_toArray]
  try simp only [List.getElem_cons_succ]
  try simp only [List.getElem_cons_zero]
  try simp only [Act.put]
  try simp only [List.setIfInBounds_toArray]
  try simp only [List.set_cons_succ]
  try simp only [List.set_cons_zero]
  refine wpAnyH_take (i := 8) (v := ?_) rfl (by kernel_rfl) (by kernel_rfl) (by kernel_rfl) (fun _ _ _ h => h) (Or.inl ⟨by kernel_rfl, fun W hSW => by go_simp; try with_reducible rfl⟩) (by assumption) ?_
  try simp only [List.getElem_toArray]
  try simp only [List.getElem_cons_succ]
  try simp only [List.getElem_cons_zero]
  try simp only [Act.put]
  try simp only [List.setIfInBounds_toArray]
  try simp only [List.set_cons_succ]
  try simp only [List.set_cons_zero]
  refine wpAnyH_take (i := 9) (v := ?_) rfl (by kernel_rfl) (by kernel_rfl) (by kernel_rfl) (fun _ _ _ h => h) (Or.inl ⟨by kernel_rfl, fun W hSW => by go_simp; try with_reducible rfl⟩) (by assumption) ?_
  try simp only [List.getElem_toArray]
  try simp only [List.getElem_cons_succ]
  try simp only [List.getElem_cons_zero]
  try simp only [Act.put]
  try simp only [List.setIfInBounds_toArray]
  try simp only [List.set_cons_succ]
  try simp only [List.set_cons_zero]
  refine wpAnyH_take (i := 10) (v := .bool true) rfl (by kernel_rfl) (by kernel_rfl) (by kernel_rfl) (fun _ _ _ h => h) (Or.inl ⟨by kernel_rfl, fun W hSW => by go_simp; try with_reducible rfl⟩) (by assumption) ?_
  try simp only [List.getElem_toArray]
  try simp only [List.getElem_cons_succ]
  try simp only [List.getElem_cons_zero]
  try simp only [Act.put]
  try simp only [List.setIfInBounds_toArray]
  try simp only [List.set_cons_succ]
  try simp only [List.set_cons_zero]
  refine wpAnyH_take (i := 11) (v := .bool true) rfl (by kernel_rfl) (by kernel_rfl) (by kernel_rfl) (fun _ _ _ h => h) (Or.inl ⟨by kernel_rfl, fun W hSW => by go_simp; try with_reducible rfl⟩) (by assumption) ?_
  try simp only [List.getElem_toArray]
  try simp only [List.getElem_cons_succ]
  try simp only [List.getElem_cons_zero]
  try simp only [Act.put]
  try simp only [List.setIfInBounds_toArray]
  try simp only [List.set_cons_succ]
  try simp only [List.set_cons_zero]
  refine wpAnyH_take (i := 12) (v := .bool true) rfl (by kernel_rfl) (by kernel_rfl) (by kernel_rfl) (fun _ _ _ h => h) (Or.inl ⟨by kernel_rfl, fun W hSW => by go_simp; try with_reducible rfl⟩) (by assumption) ?_
  try simp only [List.getElem_toArray]
  try simp only [List.getElem_cons_succ]
  try simp only [List.getElem_cons_zero]
  try simp only [Act.put]
  try simp only [List.setIfInBounds_toArray]
  try simp only [List.set_cons_succ]
  try simp only [List.set_cons_zero]
  refine wpAnyH_take (i := 13) (v := ?_) rfl (by kernel_rfl) (by kernel_rfl) (by kernel_rfl) (fun _ _ _ h => h) (Or.inl ⟨by kernel_rfl, fun W hSW => by go_simp; try with_reducible rfl⟩) (by assumption) ?_
  try simp only [List.getElem_toArray]
  try simp only [List.getElem_cons_succ]
  try simp only [List.getElem_cons_zero]
  try simp only [Act.put]
  try simp only [List.setIfInBounds_toArray]
  try simp only [List.set_cons_succ]
  try simp only [List.set_cons_zero]
  refine wpAnyH_take (i := 14) (v := ?_) rfl (by kernel_rfl) (by kernel_rfl) (by kernel_rfl) (fun _ _ _ h => h) (Or.inl ⟨by kernel_rfl, fun W hSW => by go_simp; try with_reducible rfl⟩) (by assumption) ?_
  try simp only [List.getElem_toArray]
  try simp only [List.getElem_cons_succ]
  try simp only [List.getElem_cons_zero]
  try simp only [Act.put]
  try simp only [List.setIfInBounds_toArray]
  try simp only [List.set_cons_succ]
  try simp only [List.set_cons_zero]
  refine wpAnyH_take (i := 15) (v := .bool true) rfl (by kernel_rfl) (by kernel_rfl) (by kernel_rfl) (fun _ _ _ h => h) (Or.inl ⟨by kernel_rfl, fun W hSW => by go_simp; try with_reducible rfl⟩) (by assumption) ?_
  try simp only [List.getElem_toArray]
  try simp only [List.getElem_cons_succ]
  try simp only [List.getElem_cons_zero]
  try simp only [Act.put]
  try simp only [List.setIfInBounds_toArray]
  try simp only [List.set_cons_succ]
  try simp only [List.set_cons_zero]
  refine wpAnyH_take (i := 16) (v := .bool true) rfl (by kernel_rfl) (by kernel_rfl) (by kernel_rfl) (fun _ _ _ h => h) (Or.inl ⟨by kernel_rfl, fun W hSW => by go_simp; try with_reducible rfl⟩) (by assumption) ?_
  try simp only [List.getElem_toArray]
  try simp only [List.getElem_cons_succ]
  try simp only [List.getElem_cons_zero]
  try simp only [Act.put]
  try simp only [List.setIfInBounds_toArray]
  try simp only [List.set_cons_succ]
  try simp only [List.set_cons_zero]
  refine wpAnyH_take (i := 17) (v := .bool true) rfl (by kernel_rfl) (by kernel_rfl) (by kernel_rfl) (fun _ _ _ h => h) (Or.inl ⟨by kernel_rfl, fun W hSW => by go_simp; try with_reducible rfl⟩) (by assumption) ?_
  try simp only [List.getElem_toArray]
  try simp only [List.getElem_cons_succ]
  try simp only [List.getElem_cons_zero]
  try simp only [Act.put]
  try simp only [List.setIfInBounds_toArray]
  try simp only [List.set_cons_succ]
  try simp only [List.set_cons_zero]
  refine wpAnyH_done (by kernel_rfl) ?_ _
  have K4d := hid K4.out.drew.drew.drew
  have u6 := P6 _ D4.drew
  have u7 := P7 _ D4.drew
  have u8 := P8 _ D4.drew
  have u9 := P9 _ D4.drew
  have u10 := P10 _ D4.drew
  have u11 := P11 _ D4.drew
  have zz := Z1 _ D4.drew
  clear P0 P1 P2 P3 P4 P5 P6 P7 P8 P9 P10 P11 M0 M1 M2 M3 M4 M5 Z0 Z1
  go_wp2_with fail
  refine (HGR.out _ K4d.out).mono ?_
  rintro e w5 ⟨rfl, hn5⟩
  go_wp2
  go_ret
  refine ⟨rfl, ?_⟩
  exact CNext.back hn5 K4d.out

set_option maxHeartbeats 4000000 in
set_option maxRecDepth 100000 in
theorem take_padt0 {S : Nat → Prop} (b : Nat) (c : Cs) (hg : Good c) (dst src : List UInt8) (hdst : dst.length = 6) (hsrc : src.length = 6) (data : ByteArray) (hsz : data.size ≤ 1000000) (t : Int) (ses : Nat) (D : List UInt8) (l : List Tg) (_hD : D.length ≤ 1000000) (hget : getDiscF data.data.toList = (⟨167, ses, D⟩, 0)) (htag : tagsOn D [] = (l, 0)) (_hl : Few l) (w : World) (hA : CAt S w b c) (hown : ¬ src = c.mac) (hdm : dst = c.mac) (hs0 : ses = 0) :
    Calls Tryd.prog 12 #[.pointer (some ⟨b, 0, none⟩), frV ⟨dst, src, 34915, data⟩, .int .i64 t] w fun e w' => e = .returned (.slice none 0 0) ∧ Kept (fun _ => False) w w' := by
  subst hs0
  have hE3 := mac_eq dst c.mac hdst hg.mac
  obtain ⟨mb, gv, hC, hS⟩ := id hA
  obtain ⟨x0, x1, x2, x3, x4, x5, hx⟩ := six_cells hg.mac
  obtain ⟨d0, d1, d2, d3, d4, d5, hd⟩ := six_cells hdst
  obtain ⟨s0, s1, s2, s3, s4, s5, hs⟩ := six_cells hsrc
  have hfv : frV ⟨dst, src, 34915, data⟩ = .agg #[.int .u8 d0, .int .u8 d1, .int .u8 d2, .int .u8 d3, .int .u8 d4, .int .u8 d5, .int .u8 s0, .int .u8 s1, .int .u8 s2, .int .u8 s3, .int .u8 s4, .int .u8 s5, .int .i64 34915, .string data] := by unfold frV frList; simp only []; rw [hd, hs]; rfl
  rw [hfv]
  have hE1 := mac_eq src c.mac hsrc hg.mac
  rw [hs, hx, decide_eq_false hown] at hE1
  obtain ⟨w1, hw1⟩ : ∃ w1, w1 = w.alloc (.cells #[.int .u8 d0, .int .u8 d1, .int .u8 d2, .int .u8 d3, .int .u8 d4, .int .u8 d5, .int .u8 s0, .int .u8 s1, .int .u8 s2, .int .u8 s3, .int .u8 s4, .int .u8 s5, .int .i64 34915, .string data] 25) := ⟨_, rfl⟩
  have Hw1 := hid hw1
  have hk1 : Kept (fun _ => False) w w1 := by rw [hw1]; exact (Kept.refl _ w).alloc _
  have hB1 : Own14 w1 w.heap.size #[.int .u8 d0, .int .u8 d1, .int .u8 d2, .int .u8 d3, .int .u8 d4, .int .u8 d5, .int .u8 s0, .int .u8 s1, .int .u8 s2, .int .u8 s3, .int .u8 s4, .int .u8 s5, .int .i64 34915, .string data] := by rw [hw1]; exact own14_new w _
  have hcc := (hC.kept0 hk1).cells hx
  have hisn := isNone_some b c.name
  have hne : c.name.toList.isEmpty = false := by
    have h1 := hg.name1
    rw [ByteArray.toList_eq]
    rw [Lib.size_eq] at h1
    cases hq : c.name.data.toList with
    | nil => rw [hq] at h1; simp at h1
    | cons a r => rfl
  rw [hne] at hisn
  have p0 : ∀ W, Kept (fun _ => False) w1 W → W.cell? ⟨w.heap.size, 0, none⟩ = some (.int .u8 d0) := fun W h => (cell_of_row W w.heap.size 0 _ _ _ (hB1.kept h)).trans rfl
  have p1 : ∀ W, Kept (fun _ => False) w1 W → W.cell? ⟨w.heap.size, 1, none⟩ = some (.int .u8 d1) := fun W h => (cell_of_row W w.heap.size 1 _ _ _ (hB1.kept h)).trans rfl
  have p2 : ∀ W, Kept (fun _ => False) w1 W → W.cell? ⟨w.heap.size, 2, none⟩ = some (.int .u8 d2) := fun W h => (cell_of_row W w.heap.size 2 _ _ _ (hB1.kept h)).trans rfl
  have p3 : ∀ W, Kept (fun _ => False) w1 W → W.cell? ⟨w.heap.size, 3, none⟩ = some (.int .u8 d3) := fun W h => (cell_of_row W w.heap.size 3 _ _ _ (hB1.kept h)).trans rfl
  have p4 : ∀ W, Kept (fun _ => False) w1 W → W.cell? ⟨w.heap.size, 4, none⟩ = some (.int .u8 d4) := fun W h => (cell_of_row W w.heap.size 4 _ _ _ (hB1.kept h)).trans rfl
  have p5 : ∀ W, Kept (fun _ => False) w1 W → W.cell? ⟨w.heap.size, 5, none⟩ = some (.int .u8 d5) := fun W h => (cell_of_row W w.heap.size 5 _ _ _ (hB1.kept h)).trans rfl
  have p6 : ∀ W, Kept (fun _ => False) w1 W → W.cell? ⟨w.heap.size, 6, none⟩ = some (.int .u8 s0) := fun W h => (cell_of_row W w.heap.size 6 _ _ _ (hB1.kept h)).trans rfl
  have p7 : ∀ W, Kept (fun _ => False) w1 W → W.cell? ⟨w.heap.size, 7, none⟩ = some (.int .u8 s1) := fun W h => (cell_of_row W w.heap.size 7 _ _ _ (hB1.kept h)).trans rfl
  have p8 : ∀ W, Kept (fun _ => False) w1 W → W.cell? ⟨w.heap.size, 8, none⟩ = some (.int .u8 s2) := fun W h => (cell_of_row W w.heap.size 8 _ _ _ (hB1.kept h)).trans rfl
  have p9 : ∀ W, Kept (fun _ => False) w1 W → W.cell? ⟨w.heap.size, 9, none⟩ = some (.int .u8 s3) := fun W h => (cell_of_row W w.heap.size 9 _ _ _ (hB1.kept h)).trans rfl
  have p10 : ∀ W, Kept (fun _ => False) w1 W → W.cell? ⟨w.heap.size, 10, none⟩ = some (.int .u8 s4) := fun W h => (cell_of_row W w.heap.size 10 _ _ _ (hB1.kept h)).trans rfl
  have p11 : ∀ W, Kept (fun _ => False) w1 W → W.cell? ⟨w.heap.size, 11, none⟩ = some (.int .u8 s5) := fun W h => (cell_of_row W w.heap.size 11 _ _ _ (hB1.kept h)).trans rfl
  have p12 : ∀ W, Kept (fun _ => False) w1 W → W.cell? ⟨w.heap.size, 12, none⟩ = some (.int .i64 34915) := fun W h => (cell_of_row W w.heap.size 12 _ _ _ (hB1.kept h)).trans rfl
  have p13 : ∀ W, Kept (fun _ => False) w1 W → W.cell? ⟨w.heap.size, 13, none⟩ = some (.string data) := fun W h => (cell_of_row W w.heap.size 13 _ _ _ (hB1.kept h)).trans rfl
  have m0 : ∀ W, Kept (fun _ => False) w1 W → W.cell? ⟨b, 0, none⟩ = some (.int .u8 x0) := fun W h => (h.cell (p := ⟨b, 0, none⟩) (lt_of_cell hcc.c0) id).trans hcc.c0
  have m1 : ∀ W, Kept (fun _ => False) w1 W → W.cell? ⟨b, 1, none⟩ = some (.int .u8 x1) := fun W h => (h.cell (p := ⟨b, 1, none⟩) (lt_of_cell hcc.c1) id).trans hcc.c1
  have m2 : ∀ W, Kept (fun _ => False) w1 W → W.cell? ⟨b, 2, none⟩ = some (.int .u8 x2) := fun W h => (h.cell (p := ⟨b, 2, none⟩) (lt_of_cell hcc.c2) id).trans hcc.c2
  have m3 : ∀ W, Kept (fun _ => False) w1 W → W.cell? ⟨b, 3, none⟩ = some (.int .u8 x3) := fun W h => (h.cell (p := ⟨b, 3, none⟩) (lt_of_cell hcc.c3) id).trans hcc.c3
  have m4 : ∀ W, Kept (fun _ => False) w1 W → W.cell? ⟨b, 4, none⟩ = some (.int .u8 x4) := fun W h => (h.cell (p := ⟨b, 4, none⟩) (lt_of_cell hcc.c4) id).trans hcc.c4
  have m5 : ∀ W, Kept (fun _ => False) w1 W → W.cell? ⟨b, 5, none⟩ = some (.int .u8 x5) := fun W h => (h.cell (p := ⟨b, 5, none⟩) (lt_of_cell hcc.c5) id).trans hcc.c5
  have m6 : ∀ W, Kept (fun _ => False) w1 W → W.cell? ⟨b, 6, none⟩ = some (.string c.name) := fun W h => (h.cell (p := ⟨b, 6, none⟩) (lt_of_cell hcc.c6) id).trans hcc.c6
  have Hk1 := hid hk1
  have HX := hid hx
  clear hfv hw1 hne
  rw [hd, hx, decide_eq_true hdm] at hE3
  have hge : getE ⟨dst, src, 34915, data⟩ = (⟨167, 0, D⟩, l, true) := by
    unfold getE
    simp only []
    rw [hget]
    simp only []
    rw [htag]
    simp
  have HGE := hid (fun W => getE_any ⟨dst, src, 34915, data⟩ hdst hsrc hsz W)
  rw [hge] at HGE
  simp only [] at HGE
  unfold discV frV frList at HGE
  simp only [] at HGE
  rw [hd, hs] at HGE
  change Hid (∀ W, Calls Tryd.prog 29 #[.agg #[.int .u8 d0, .int .u8 d1, .int .u8 d2, .int .u8 d3, .int .u8 d4, .int .u8 d5, .int .u8 s0, .int .u8 s1, .int .u8 s2, .int .u8 s3, .int .u8 s4, .int .u8 s5, .int .i64 34915, .string data]] W fun e w' => _) at HGE
  go_enter Tryd.func12, Tryd.ntmps12
  go_wp2
  rw [← Hw1.out]
  refine wp_region_held_drew (S := Kept (fun _ => False) w1) (by kernel_rfl) ((Kept.refl _ w1).drew) (fun hSd => ?_)
  refine wpAnyH_take (i := 0) (v := ?_) rfl (by kernel_rfl) (by kernel_rfl) (by kernel_rfl) (fun _ _ _ h => h) (Or.inl ⟨by kernel_rfl, fun W hSW => by go_simp; try with_reducible rfl⟩) (by assumption) ?_
  try simp only [List.getElem_toArray]
  try simp only [List.getElem_cons_succ]
  try simp only [List.getElem_cons_zero]
  try simp only [Act.put]
  try simp only [List.setIfInBounds_toArray]
  try simp only [List.set_cons_succ]
  try simp only [List.set_cons_zero]
  refine wpAnyH_ready (rs := [1]) (by kernel_rfl) (by simp) ?_
  refine AllReadyH.cons rfl (fun K hK => ?_) AllReadyH.nil
  go_simp
  refine (hisn w1.drew (m6 _ (Kept.refl _ w1).drew)).mono ?_
  rintro e w2 ⟨rfl, rfl⟩
  refine hK.out _ _ ((Kept.refl _ w1).drew) (fun _ => ?_)
  clear hK K
  try simp only [List.getElem_toArray]
  try simp only [List.getElem_cons_succ]
  try simp only [List.getElem_cons_zero]
  try simp only [Act.put]
  try simp only [List.setIfInBounds_toArray]
  try simp only [List.set_cons_succ]
  try simp only [List.set_cons_zero]
  refine wpAnyH_take (i := 2) (v := .bool false) rfl (by kernel_rfl) (by kernel_rfl) (by kernel_rfl) (fun _ _ _ h => h) (Or.inl ⟨by kernel_rfl, fun W hSW => by go_simp; try with_reducible rfl⟩) (by assumption) ?_
  try simp only [List.getElem_toArray]
  try simp only [List.getElem_cons_succ]
  try simp only [List.getElem_cons_zero]
  try simp only [Act.put]
  try simp only [List.setIfInBounds_toArray]
  try simp only [List.set_cons_succ]
  try simp only [List.set_cons_zero]
  refine wpAnyH_take (i := 3) (v := ?_) rfl (by kernel_rfl) (by kernel_rfl) (by kernel_rfl) (fun _ _ _ h => h) (Or.inl ⟨by kernel_rfl, fun W hSW => by go_simp; try with_reducible rfl⟩) (by assumption) ?_
  try simp only [List.getElem_toArray]
  try simp only [List.getElem_cons_succ]
  try simp only [List.getElem_cons_zero]
  try simp only [Act.put]
  try simp only [List.setIfInBounds_toArray]
  try simp only [List.set_cons_succ]
  try simp only [List.set_cons_zero]
  refine wpAnyH_take (i := 4) (v := ?_) rfl (by kernel_rfl) (by kernel_rfl) (by kernel_rfl) (fun _ _ _ h => h) (Or.inl ⟨by kernel_rfl, fun W hSW => by go_simp; try with_reducible rfl⟩) (by assumption) ?_
  try simp only [List.getElem_toArray]
  try simp only [List.getElem_cons_succ]
  try simp only [List.getElem_cons_zero]
  try simp only [Act.put]
  try simp only [List.setIfInBounds_toArray]
  try simp only [List.set_cons_succ]
  try simp only [List.set_cons_zero]
  refine wpAnyH_take (i := 5) (v := ?_) rfl (by kernel_rfl) (by kernel_rfl) (by kernel_rfl) (fun _ _ _ h => h) (Or.inl ⟨by kernel_rfl, fun W hSW => by go_simp; try with_reducible rfl⟩) (by assumption) ?_
  try simp only [List.getElem_toArray]
  try simp only [List.getElem_cons_succ]
  try simp only [List.getElem_cons_zero]
  try simp only [Act.put]
  try simp only [List.setIfInBounds_toArray]
  try simp only [List.set_cons_succ]
  try simp only [List.set_cons_zero]
  refine wpAnyH_take (i := 6) (v := ?_) rfl (by kernel_rfl) (by kernel_rfl) (by kernel_rfl) (fun _ _ _ h => h) (Or.inl ⟨by kernel_rfl, fun W hSW => by go_simp; try with_reducible rfl⟩) (by assumption) ?_
  try simp only [List.getElem_toArray]
  try simp only [List.getElem_cons_succ]
  try simp only [List.getElem_cons_zero]
  try simp only [Act.put]
  try simp only [List.setIfInBounds_toArray]
  try simp only [List.set_cons_succ]
  try simp only [List.set_cons_zero]
  refine wpAnyH_take (i := 7) (v := ?_) rfl (by kernel_rfl) (by kernel_rfl) (by kernel_rfl) (fun _ _ _ h => h) (Or.inl ⟨by kernel_rfl, fun W hSW => by go_simp; try with_reducible rfl⟩) (by assumption) ?_
  try simp only [List.getElem_toArray]
  try simp only [List.getElem_cons_succ]
  try simp only [List.getElem_cons_zero]
  try simp only [Act.put]
  try simp only [List.setIfInBounds_toArray]
  try simp only [List.set_cons_succ]
  try simp only [List.set_cons_zero]
  refine wpAnyH_take (i := 8) (v := ?_) rfl (by kernel_rfl) (by kernel_rfl) (by kernel_rfl) (fun _ _ _ h => h) (Or.inl ⟨by kernel_rfl, fun W hSW => by go_simp; try with_reducible rfl⟩) (by assumption) ?_
  try simp only [List.getElem_toArray]
  try simp only [List.getElem_cons_succ]
  try simp only [List.getElem_cons_zero]
  try simp only [Act.put]
  try simp only [List.setIfInBounds_toArray]
  try simp only [List.set_cons_succ]
  try simp only [List.set_cons_zero]
  refine wpAnyH_take (i := 9) (v := .bool false) rfl (by kernel_rfl) (by kernel_rfl) (by kernel_rfl) (fun _ _ _ h => h) (Or.inl ⟨by kernel_rfl, fun W hSW => by go_simp; try with_reducible rfl⟩) (by assumption) ?_
  try simp only [List.getElem_toArray]
  try simp only [List.getElem_cons_succ]
  try simp only [List.getElem_cons_zero]
  try simp only [Act.put]
  try simp only [List.setIfInBounds_toArray]
  try simp only [List.set_cons_succ]
  try simp only [List.set_cons_zero]
  refine wpAnyH_take (i := 10) (v := .bool false) rfl (by kernel_rfl) (by kernel_rfl) (by kernel_rfl) (fun _ _ _ h => h) (Or.inl ⟨by kernel_rfl, fun W hSW => by go_simp; try with_reducible rfl⟩) (by assumption) ?_
  try simp only [List.getElem_toArray]
  try simp only [List.getElem_cons_succ]
  try simp only [List.getElem_cons_zero]
  try simp only [Act.put]
  try simp only [List.setIfInBounds_toArray]
  try simp only [List.set_cons_succ]
  try simp only [List.set_cons_zero]
  refine wpAnyH_done (by kernel_rfl) ?_ _
  have pd0 := p0 w1.drew (Kept.refl _ w1).drew
  have pd1 := p1 w1.drew (Kept.refl _ w1).drew
  have pd2 := p2 w1.drew (Kept.refl _ w1).drew
  have pd3 := p3 w1.drew (Kept.refl _ w1).drew
  have pd4 := p4 w1.drew (Kept.refl _ w1).drew
  have pd5 := p5 w1.drew (Kept.refl _ w1).drew
  have pd6 := p6 w1.drew (Kept.refl _ w1).drew
  have pd7 := p7 w1.drew (Kept.refl _ w1).drew
  have pd8 := p8 w1.drew (Kept.refl _ w1).drew
  have pd9 := p9 w1.drew (Kept.refl _ w1).drew
  have pd10 := p10 w1.drew (Kept.refl _ w1).drew
  have pd11 := p11 w1.drew (Kept.refl _ w1).drew
  have pd12 := p12 w1.drew (Kept.refl _ w1).drew
  have pd13 := p13 w1.drew (Kept.refl _ w1).drew
  go_wp2_with fail
  refine (HGE.out _).mono ?_
  rintro e w2 ⟨pv4, cv4, rfl, ho2, hk2⟩
  clear pd0 pd1 pd2 pd3 pd4 pd5 pd6 pd7 pd8 pd9 pd10 pd11 pd12 pd13
  obtain ⟨w4, hw4⟩ : ∃ w4, w4 = w2.alloc (.cells #[.int .i64 167, .int .i64 0, .string ⟨D.toArray⟩] 67) := ⟨_, rfl⟩
  have Hw4 := hid hw4
  have hk14 : Kept (fun _ => False) w1 w4 := by rw [hw4]; exact ((Kept.refl _ w1).drew.trans hk2).alloc _
  obtain ⟨z0, z1, z2⟩ : Box3 w4 w2.heap.size (.int .i64 167) (.int .i64 0) (.string ⟨D.toArray⟩) := by rw [hw4]; exact box3_new w2 _ _ _ _
  have ho4 : OwnT w4 w1.heap.size (.slice pv4 l.length cv4) l := by rw [hw4]; exact OwnT.kept (show OwnT w2 w1.heap.size _ l from ho2) ((Kept.refl _ w2).alloc _)
  have K4 := hid (Hk1.out.trans hk14)
  have V4 := hid ho4.tags
  have HV4 : Hid (∀ i, S i → (Value.slice pv4 l.length cv4).ownBlock ≠ some i) := fun i hi e => by
    have h1 := hA.lt hi
    have h2 := (World.ownsRow.lt ho4 i e).1
    have h3 := Hk1.out.size
    omega
  have HA4 := hid (hA.kept0 K4.out)
  clear ho2 ho4 hk2 HGE hw4
  clear hS hC hcc
  have P0 : ∀ W, Kept (fun _ => False) w4 W → W.cell? ⟨w.heap.size, 0, none⟩ = some (.int .u8 d0) := fun W h => p0 W (hk14.trans h)
  have P1 : ∀ W, Kept (fun _ => False) w4 W → W.cell? ⟨w.heap.size, 1, none⟩ = some (.int .u8 d1) := fun W h => p1 W (hk14.trans h)
  have P2 : ∀ W, Kept (fun _ => False) w4 W → W.cell? ⟨w.heap.size, 2, none⟩ = some (.int .u8 d2) := fun W h => p2 W (hk14.trans h)
  have P3 : ∀ W, Kept (fun _ => False) w4 W → W.cell? ⟨w.heap.size, 3, none⟩ = some (.int .u8 d3) := fun W h => p3 W (hk14.trans h)
  have P4 : ∀ W, Kept (fun _ => False) w4 W → W.cell? ⟨w.heap.size, 4, none⟩ = some (.int .u8 d4) := fun W h => p4 W (hk14.trans h)
  have P5 : ∀ W, Kept (fun _ => False) w4 W → W.cell? ⟨w.heap.size, 5, none⟩ = some (.int .u8 d5) := fun W h => p5 W (hk14.trans h)
  have P6 : ∀ W, Kept (fun _ => False) w4 W → W.cell? ⟨w.heap.size, 6, none⟩ = some (.int .u8 s0) := fun W h => p6 W (hk14.trans h)
  have P7 : ∀ W, Kept (fun _ => False) w4 W → W.cell? ⟨w.heap.size, 7, none⟩ = some (.int .u8 s1) := fun W h => p7 W (hk14.trans h)
  have P8 : ∀ W, Kept (fun _ => False) w4 W → W.cell? ⟨w.heap.size, 8, none⟩ = some (.int .u8 s2) := fun W h => p8 W (hk14.trans h)
  have P9 : ∀ W, Kept (fun _ => False) w4 W → W.cell? ⟨w.heap.size, 9, none⟩ = some (.int .u8 s3) := fun W h => p9 W (hk14.trans h)
  have P10 : ∀ W, Kept (fun _ => False) w4 W → W.cell? ⟨w.heap.size, 10, none⟩ = some (.int .u8 s4) := fun W h => p10 W (hk14.trans h)
  have P11 : ∀ W, Kept (fun _ => False) w4 W → W.cell? ⟨w.heap.size, 11, none⟩ = some (.int .u8 s5) := fun W h => p11 W (hk14.trans h)
  have M0 : ∀ W, Kept (fun _ => False) w4 W → W.cell? ⟨b, 0, none⟩ = some (.int .u8 x0) := fun W h => m0 W (hk14.trans h)
  have M1 : ∀ W, Kept (fun _ => False) w4 W → W.cell? ⟨b, 1, none⟩ = some (.int .u8 x1) := fun W h => m1 W (hk14.trans h)
  have M2 : ∀ W, Kept (fun _ => False) w4 W → W.cell? ⟨b, 2, none⟩ = some (.int .u8 x2) := fun W h => m2 W (hk14.trans h)
  have M3 : ∀ W, Kept (fun _ => False) w4 W → W.cell? ⟨b, 3, none⟩ = some (.int .u8 x3) := fun W h => m3 W (hk14.trans h)
  have M4 : ∀ W, Kept (fun _ => False) w4 W → W.cell? ⟨b, 4, none⟩ = some (.int .u8 x4) := fun W h => m4 W (hk14.trans h)
  have M5 : ∀ W, Kept (fun _ => False) w4 W → W.cell? ⟨b, 5, none⟩ = some (.int .u8 x5) := fun W h => m5 W (hk14.trans h)
  have Z0 : ∀ W, Kept (fun _ => False) w4 W → W.cell? ⟨w2.heap.size, 0, none⟩ = some _ := fun W h => (h.cell (p := ⟨w2.heap.size, 0, none⟩) (lt_of_cell z0) id).trans z0
  have Z1 : ∀ W, Kept (fun _ => False) w4 W → W.cell? ⟨w2.heap.size, 1, none⟩ = some _ := fun W h => (h.cell (p := ⟨w2.heap.size, 1, none⟩) (lt_of_cell z1) id).trans z1
  go_wp2
  rw [← Hw4.out]
  refine wp_region_held_drew (S := Kept (fun _ => False) w4) (by kernel_rfl) ((Kept.refl _ w4).drew) (fun hSd => ?_)
  refine wpAnyH_take (i := 0) (v := ?_) rfl (by kernel_rfl) (by kernel_rfl) (by kernel_rfl) (fun _ _ _ h => h) (Or.inl ⟨by kernel_rfl, fun W hSW => by go_simp; try with_reducible rfl⟩) (by assumption) ?_
  try simp only [List.getElem_toArray]
  try simp only [List.getElem_cons_succ]
  try simp only [List.getElem_cons_zero]
  try simp only [Act.put]
  try simp only [List.setIfInBounds_toArray]
  try simp only [List.set_cons_succ]
  try simp only [List.set_cons_zero]
  refine wpAnyH_take (i := 1) (v := ?_) rfl (by kernel_rfl) (by kernel_rfl) (by kernel_rfl) (fun _ _ _ h => h) (Or.inl ⟨by kernel_rfl, fun W hSW => by go_simp; try with_reducible rfl⟩) (by assumption) ?_
  try simp only [List.getElem_toArray]
  try simp only [List.getElem_cons_succ]
  try simp only [List.getElem_cons_zero]
  try simp only [Act.put]
  try simp only [List.setIfInBounds_toArray]
  try simp only [List.set_cons_succ]
  try simp only [List.set_cons_zero]
  refine wpAnyH_take (i := 2) (v := .bool false) rfl (by kernel_rfl) (by kernel_rfl) (by kernel_rfl) (fun _ _ _ h => h) (Or.inl ⟨by kernel_rfl, fun W hSW => by go_simp; try with_reducible rfl⟩) (by assumption) ?_
  try simp only [List.getElem_toArray]
  try simp only [List.getElem_cons_succ]
  try simp only [List.getElem_cons_zero]
  try simp only [Act.put]
  try simp only [List.setIfInBounds_toArray]
  try simp only [List.set_cons_succ]
  try simp only [List.set_cons_zero]
  refine wpAnyH_take (i := 3) (v := .bool false) rfl (by kernel_rfl) (by kernel_rfl) (by kernel_rfl) (fun _ _ _ h => h) (Or.inl ⟨by kernel_rfl, fun W hSW => by go_simp; try with_reducible rfl⟩) (by assumption) ?_
  try simp only [List.getElem_toArray]
  try simp only [List.getElem_cons_succ]
  try simp only [List.getElem_cons_zero]
  try simp only [Act.put]
  try simp only [List.setIfInBounds_toArray]
  try simp only [List.set_cons_succ]
  try simp only [List.set_cons_zero]
  refine wpAnyH_take (i := 4) rfl (by kernel_rfl) (by kernel_rfl) (by kernel_rfl) (fun _ _ _ h => h) (Or.inr ⟨by kernel_rfl, rfl⟩) (by assumption) ?_
  try simp only [List.getElem_toArray]
  try simp only [List.getElem_cons_succ]
  try simp only [List.getElem_cons_zero]
  try simp only [Act.put]
  try simp only [List.setIfInBounds_toArray]
  try simp only [List.set_cons_succ]
  try simp only [List.set_cons_zero]
  refine wpAnyH_take (i := 5) rfl (by kernel_rfl) (by kernel_rfl) (by kernel_rfl) (fun _ _ _ h => h) (Or.inr ⟨by kernel_rfl, rfl⟩) (by assumption) ?_
  try simp only [List.getElem_toArray]
  try simp only [List.getElem_cons_succ]
  try simp only [List.getElem_cons_zero]
  try simp only [Act.put]
  try simp only [List.setIfInBounds_toArray]
  try simp only [List.set_cons_succ]
  try simp only [List.set_cons_zero]
  refine wpAnyH_take (i := 6) rfl (by kernel_rfl) (by kernel_rfl) (by kernel_rfl) (fun _ _ _ h => h) (Or.inr ⟨by kernel_rfl, rfl⟩) (by assumption) ?_
  try simp only [List.getElem_toArray]
  try simp only [List.getElem_cons_succ]
  try simp only [List.getElem_cons_zero]
  try simp only [Act.put]
  try simp only [List.setIfInBounds_toArray]
  try simp only [List.set_cons_succ]
  try simp only [List.set_cons_zero]
  refine wpAnyH_take (i := 7) rfl (by kernel_rfl) (by kernel_rfl) (by kernel_rfl) (fun _ _ _ h => h) (Or.inr ⟨by kernel_rfl, rfl⟩) (by assumption) ?_
  try simp only [List.getElem_toArray]
  try simp only [List.getElem_cons_succ]
  try simp only [List.getElem_cons_zero]
  try simp only [Act.put]
  try simp only [List.setIfInBounds_toArray]
  try simp only [List.set_cons_succ]
  try simp only [List.set_cons_zero]
  refine wpAnyH_take (i := 8) (v := .bool false) rfl (by kernel_rfl) (by kernel_rfl) (by kernel_rfl) (fun _ _ _ h => h) (Or.inl ⟨by kernel_rfl, fun W hSW => by go_simp; try with_reducible rfl⟩) (by assumption) ?_
  try simp only [List.getElem_toArray]
  try simp only [List.getElem_cons_succ]
  try simp only [List.getElem_cons_zero]
  try simp only [Act.put]
  try simp only [List.setIfInBounds_toArray]
  try simp only [List.set_cons_succ]
  try simp only [List.set_cons_zero]
  refine wpAnyH_take (i := 9) (v := .bool false) rfl (by kernel_rfl) (by kernel_rfl) (by kernel_rfl) (fun _ _ _ h => h) (Or.inl ⟨by kernel_rfl, fun W hSW => by go_simp; try with_reducible rfl⟩) (by assumption) ?_
  try simp only [List.getElem_toArray]
  try simp only [List.getElem_cons_succ]
  try simp only [List.getElem_cons_zero]
  try simp only [Act.put]
  try simp only [List.setIfInBounds_toArray]
  try simp only [List.set_cons_succ]
  try simp only [List.set_cons_zero]
  refine wpAnyH_take (i := 10) rfl (by kernel_rfl) (by kernel_rfl) (by kernel_rfl) (fun _ _ _ h => h) (Or.inr ⟨by kernel_rfl, rfl⟩) (by assumption) ?_
  try simp only [List.getElem_toArray]
  try simp only [List.getElem_cons_succ]
  try simp only [List.getElem_cons_zero]
  try simp only [Act.put]
  try simp only [List.setIfInBounds_toArray]
  try simp only [List.set_cons_succ]
  try simp only [List.set_cons_zero]
  refine wpAnyH_take (i := 11) rfl (by kernel_rfl) (by kernel_rfl) (by kernel_rfl) (fun _ _ _ h => h) (Or.inr ⟨by kernel_rfl, rfl⟩) (by assumption) ?_
  try simp only [List.getElem_toArray]
  try simp only [List.getElem_cons_succ]
  try simp only [List.getElem_cons_zero]
  try simp only [Act.put]
  try simp only [List.setIfInBounds_toArray]
  try simp only [List.set_cons_succ]
  try simp only [List.set_cons_zero]
  refine wpAnyH_take (i := 12) rfl (by kernel_rfl) (by kernel_rfl) (by kernel_rfl) (fun _ _ _ h => h) (Or.inr ⟨by kernel_rfl, rfl⟩) (by assumption) ?_
  try simp only [List.getElem_toArray]
  try simp only [List.getElem_cons_succ]
  try simp only [List.getElem_cons_zero]
  try simp only [Act.put]
  try simp only [List.setIfInBounds_toArray]
  try simp only [List.set_cons_succ]
  try simp only [List.set_cons_zero]
  refine wpAnyH_take (i := 13) (v := .bool false) rfl (by kernel_rfl) (by kernel_rfl) (by kernel_rfl) (fun _ _ _ h => h) (Or.inl ⟨by kernel_rfl, fun W hSW => by go_simp; try with_reducible rfl⟩) (by assumption) ?_
  try simp only [List.getElem_toArray]
  try simp only [List.getElem_cons_succ]
  try simp only [List.getElem_cons_zero]
  try simp only [Act.put]
  try simp only [List.setIfInBounds_toArray]
  try simp only [List.set_cons_succ]
  try simp only [List.set_cons_zero]
  refine wpAnyH_take (i := 14) (v := ?_) rfl (by kernel_rfl) (by kernel_rfl) (by kernel_rfl) (fun _ _ _ h => h) (Or.inl ⟨by kernel_rfl, fun W hSW => by go_simp; try with_reducible rfl⟩) (by assumption) ?_
  try simp only [List.getElem_toArray]
  try simp only [List.getElem_cons_succ]
  try simp only [List.getElem_cons_zero]
  try simp only [Act.put]
  try simp only [List.setIfInBounds_toArray]
  try simp only [List.set_cons_succ]
  try simp only [List.set_cons_zero]
  refine wpAnyH_done (by kernel_rfl) ?_ _
  go_wp2
  refine wp_region_held_drew (S := Kept (fun _ => False) w4) (by kernel_rfl) ((Kept.refl _ w4).drew.drew) (fun hSd => ?_)
  refine wpAnyH_take (i := 0) (v := ?_) rfl (by kernel_rfl) (by kernel_rfl) (by kernel_rfl) (fun _ _ _ h => h) (Or.inl ⟨by kernel_rfl, fun W hSW => by go_simp; try with_reducible rfl⟩) (by assumption) ?_
  try simp only [List.getElem_toArray]
  try simp only [List.getElem_cons_succ]
  try simp only [List.getElem_cons_zero]
  try simp only [Act.put]
  try simp only [List.setIfInBounds_toArray]
  try simp only [List.set_cons_succ]
  try simp only [List.set_cons_zero]
  refine wpAnyH_take (i := 1) (v := ?_) rfl (by kernel_rfl) (by kernel_rfl) (by kernel_rfl) (fun _ _ _ h => h) (Or.inl ⟨by kernel_rfl, fun W hSW => by go_simp; try with_reducible rfl⟩) (by assumption) ?_
  try simp only [List.getElem_toArray]
  try simp only [List.getElem_cons_succ]
  try simp only [List.getElem_cons_zero]
  try simp only [Act.put]
  try simp only [List.setIfInBounds_toArray]
  try simp only [List.set_cons_succ]
  try simp only [List.set_cons_zero]
  refine wpAnyH_take (i := 2) (v := .bool false) rfl (by kernel_rfl) (by kernel_rfl) (by kernel_rfl) (fun _ _ _ h => h) (Or.inl ⟨by kernel_rfl, fun W hSW => by go_simp; try with_reducible rfl⟩) (by assumption) ?_
  try simp only [List.getElem_toArray]
  try simp only [List.getElem_cons_succ]
  try simp only [List.getElem_cons_zero]
  try simp only [Act.put]
  try simp only [List.setIfInBounds_toArray]
  try simp only [List.set_cons_succ]
  try simp only [List.set_cons_zero]
  refine wpAnyH_take (i := 3) (v := .bool false) rfl (by kernel_rfl) (by kernel_rfl) (by kernel_rfl) (fun _ _ _ h => h) (Or.inl ⟨by kernel_rfl, fun W hSW => by go_simp; try with_reducible rfl⟩) (by assumption) ?_
  try simp only [List.getElem_toArray]
  try simp only [List.getElem_cons_succ]
  try simp only [List.getElem_cons_zero]
  try simp only [Act.put]
  try simp only [List.setIfInBounds_toArray]
  try simp only [List.set_cons_succ]
  try simp only [List.set_cons_zero]
  refine wpAnyH_take (i := 4) rfl (by kernel_rfl) (by kernel_rfl) (by kernel_rfl) (fun _ _ _ h => h) (Or.inr ⟨by kernel_rfl, rfl⟩) (by assumption) ?_
  try simp only [List.getElem_toArray]
  try simp only [List.getElem_cons_succ]
  try simp only [List.getElem_cons_zero]
  try simp only [Act.put]
  try simp only [List.setIfInBounds_toArray]
  try simp only [List.set_cons_succ]
  try simp only [List.set_cons_zero]
  refine wpAnyH_take (i := 5) rfl (by kernel_rfl) (by kernel_rfl) (by kernel_rfl) (fun _ _ _ h => h) (Or.inr ⟨by kernel_rfl, rfl⟩) (by assumption) ?_
  try simp only [List.getElem_toArray]
  try simp only [List.getElem_cons_succ]
  try simp only [List.getElem_cons_zero]
  try simp only [Act.put]
  try simp only [List.setIfInBounds_toArray]
  try simp only [List.set_cons_succ]
  try simp only [List.set_cons_zero]
  refine wpAnyH_take (i := 6) rfl (by kernel_rfl) (by kernel_rfl) (by kernel_rfl) (fun _ _ _ h => h) (Or.inr ⟨by kernel_rfl, rfl⟩) (by assumption) ?_
  try simp only [List.getElem_toArray]
  try simp only [List.getElem_cons_succ]
  try simp only [List.getElem_cons_zero]
  try simp only [Act.put]
  try simp only [List.setIfInBounds_toArray]
  try simp only [List.set_cons_succ]
  try simp only [List.set_cons_zero]
  refine wpAnyH_take (i := 7) rfl (by kernel_rfl) (by kernel_rfl) (by kernel_rfl) (fun _ _ _ h => h) (Or.inr ⟨by kernel_rfl, rfl⟩) (by assumption) ?_
  try simp only [List.getElem_toArray]
  try simp only [List.getElem_cons_succ]
  try simp only [List.getElem_cons_zero]
  try simp only [Act.put]
  try simp only [List.setIfInBounds_toArray]
  try simp only [List.set_cons_succ]
  try simp only [List.set_cons_zero]
  refine wpAnyH_take (i := 8) rfl (by kernel_rfl) (by kernel_rfl) (by kernel_rfl) (fun _ _ _ h => h) (Or.inr ⟨by kernel_rfl, rfl⟩) (by assumption) ?_
  try simp only [List.getElem_toArray]
  try simp only [List.getElem_cons_succ]
  try simp only [List.getElem_cons_zero]
  try simp only [Act.put]
  try simp only [List.setIfInBounds_toArray]
  try simp only [List.set_cons_succ]
  try simp only [List.set_cons_zero]
  refine wpAnyH_take (i := 9) rfl (by kernel_rfl) (by kernel_rfl) (by kernel_rfl) (fun _ _ _ h => h) (Or.inr ⟨by kernel_rfl, rfl⟩) (by assumption) ?_
  try simp only [List.getElem_toArray]
  try simp only [List.getElem_cons_succ]
  try simp only [List.getElem_cons_zero]
  try simp only [Act.put]
  try simp only [List.setIfInBounds_toArray]
  try simp only [List.set_cons_succ]
  try simp only [List.set_cons_zero]
  refine wpAnyH_take (i := 10) rfl (by kernel_rfl) (by kernel_rfl) (by kernel_rfl) (fun _ _ _ h => h) (Or.inr ⟨by kernel_rfl, rfl⟩) (by assumption) ?_
  try simp only [List.getElem_toArray]
  try simp only [List.getElem_cons_succ]
  try simp only [List.getElem_cons_zero]
  try simp only [Act.put]
  try simp only [List.setIfInBounds_toArray]
  try simp only [List.set_cons_succ]
  try simp only [List.set_cons_zero]
  refine wpAnyH_take (i := 11) (v := .bool false) rfl (by kernel_rfl) (by kernel_rfl) (by kernel_rfl) (fun _ _ _ h => h) (Or.inl ⟨by kernel_rfl, fun W hSW => by go_simp; try with_reducible rfl⟩) (by assumption) ?_
  try simp only [List.getElem_toArray]
  try simp only [List.getElem_cons_succ]
  try simp only [List.getElem_cons_zero]
  try simp only [Act.put]
  try simp only [List.setIfInBounds_toArray]
  try simp only [List.set_cons_succ]
  try simp only [List.set_cons_zero]
  refine wpAnyH_take (i := 12) (v := .bool false) rfl (by kernel_rfl) (by kernel_rfl) (by kernel_rfl) (fun _ _ _ h => h) (Or.inl ⟨by kernel_rfl, fun W hSW => by go_simp; try with_reducible rfl⟩) (by assumption) ?_
  try simp only [List.getElem_toArray]
  try simp only [List.getElem_cons_succ]
  try simp only [List.getElem_cons_zero]
  try simp only [Act.put]
  try simp only [List.setIfInBounds_toArray]
  try simp only [List.set_cons_succ]
  try simp only [List.set_cons_zero]
  refine wpAnyH_take (i := 13) rfl (by kernel_rfl) (by kernel_rfl) (by kernel_rfl) (fun _ _ _ h => h) (Or.inr ⟨by kernel_rfl, rfl⟩) (by assumption) ?_
  try simp only [List.getElem_toArray]
  try simp only [List.getElem_cons_succ]
  try simp only [List.getElem_cons_zero]
  try simp only [Act.put]
  try simp only [List.setIfInBounds_toArray]
  try simp only [List.set_cons_succ]
  try simp only [List.set_cons_zero]
  refine wpAnyH_take (i := 14) rfl (by kernel_rfl) (by kernel_rfl) (by kernel_rfl) (fun _ _ _ h => h) (Or.inr ⟨by kernel_rfl, rfl⟩) (by assumption) ?_
  try simp only [List.getElem_toArray]
  try simp only [List.getElem_cons_succ]
  try simp only [List.getElem_cons_zero]
  try simp only [Act.put]
  try simp only [List.setIfInBounds_toArray]
  try simp only [List.set_cons_succ]
  try simp only [List.set_cons_zero]
  refine wpAnyH_take (i := 15) rfl (by kernel_rfl) (by kernel_rfl) (by kernel_rfl) (fun _ _ _ h => h) (Or.inr ⟨by kernel_rfl, rfl⟩) (by assumption) ?_
  try simp only [List.getElem_toArray]
  try simp only [List.getElem_cons_succ]
  try simp only [List.getElem_cons_zero]
  try simp only [Act.put]
  try simp only [List.setIfInBounds_toArray]
  try simp only [List.set_cons_succ]
  try simp only [List.set_cons_zero]
  refine wpAnyH_take (i := 16) (v := .bool false) rfl (by kernel_rfl) (by kernel_rfl) (by kernel_rfl) (fun _ _ _ h => h) (Or.inl ⟨by kernel_rfl, fun W hSW => by go_simp; try with_reducible rfl⟩) (by assumption) ?_
  try simp only [List.getElem_toArray]
  try simp only [List.getElem_cons_succ]
  try simp only [List.getElem_cons_zero]
  try simp only [Act.put]
  try simp only [List.setIfInBounds_toArray]
  try simp only [List.set_cons_succ]
  try simp only [List.set_cons_zero]
  refine wpAnyH_take (i := 17) (v := .bool false) rfl (by kernel_rfl) (by kernel_rfl) (by kernel_rfl) (fun _ _ _ h => h) (Or.inl ⟨by kernel_rfl, fun W hSW => by go_simp; try with_reducible rfl⟩) (by assumption) ?_
  try simp only [List.getElem_toArray]
  try simp only [List.getElem_cons_succ]
  try simp only [List.getElem_cons_zero]
  try simp only [Act.put]
  try simp only [List.setIfInBounds_toArray]
  try simp only [List.set_cons_succ]
  try simp only [List.set_cons_zero]
  refine wpAnyH_done (by kernel_rfl) ?_ _
  go_wp2
  have D4 := (Kept.refl (fun _ => False) w4).drew.drew
  refine wp_region_held_drew (S := Kept (fun _ => False) w4) (by kernel_rfl) (D4.drew) (fun hSd => ?_)
  refine wpAnyH_take (i := 0) (v := ?_) rfl (by kernel_rfl) (by kernel_rfl) (by kernel_rfl) (fun _ _ _ h => h) (Or.inl ⟨by kernel_rfl, fun W hSW => by go_simp; try with_reducible rfl⟩) (by assumption) ?_
  try simp only [List.getElem_toArray]
  try simp only [List.getElem_cons_succ]
  try simp only [List.getElem_cons_zero]
  try simp only [Act.put]
  try simp only [List.setIfInBounds_toArray]
  try simp only [List.set_cons_succ]
  try simp only [List.set_cons_zero]
  refine wpAnyH_take (i := 1) (v := ?_) rfl (by kernel_rfl) (by kernel_rfl) (by kernel_rfl) (fun _ _ _ h => h) (Or.inl ⟨by kernel_rfl, fun W hSW => by go_simp; try with_reducible rfl⟩) (by assumption) ?_
  try simp only [List.getElem_toArray]
  try simp only [List.getElem_cons_succ]
  try simp only [List.getElem_cons_zero]
  try simp only [Act.put]
  try simp only [List.setIfInBounds_toArray]
  try simp only [List.set_cons_succ]
  try simp only [List.set_cons_zero]
  refine wpAnyH_take (i := 2) (v := .bool true) rfl (by kernel_rfl) (by kernel_rfl) (by kernel_rfl) (fun _ _ _ h => h) (Or.inl ⟨by kernel_rfl, fun W hSW => by go_simp; try with_reducible rfl⟩) (by assumption) ?_
  try simp only [List.getElem_toArray]
  try simp only [List.getElem_cons_succ]
  try simp only [List.getElem_cons_zero]
  try simp only [Act.put]
  try simp only [List.setIfInBounds_toArray]
  try simp only [List.set_cons_succ]
  try simp only [List.set_cons_zero]
  refine wpAnyH_take (i := 3) (v := .bool true) rfl (by kernel_rfl) (by kernel_rfl) (by kernel_rfl) (fun _ _ _ h => h) (Or.inl ⟨by kernel_rfl, fun W hSW => by go_simp; try with_reducible rfl⟩) (by assumption) ?_
  try simp only [List.getElem_toArray]
  try simp only [List.getElem_cons_succ]
  try simp only [List.getElem_cons_zero]
  try simp only [Act.put]
  try simp only [List.setIfInBounds_toArray]
  try simp only [List.set_cons_succ]
  try simp only [List.set_cons_zero]
  refine wpAnyH_take (i := 4) (v := ?_) rfl (by kernel_rfl) (by kernel_rfl) (by kernel_rfl) (fun _ _ _ h => h) (Or.inl ⟨by kernel_rfl, fun W hSW => by go_simp; try with_reducible rfl⟩) (by assumption) ?_
  try simp only [List.getElem_toArray]
  try simp only [List.getElem_cons_succ]
  try simp only [List.getElem_cons_zero]
  try simp only [Act.put]
  try simp only [List.setIfInBounds_toArray]
  try simp only [List.set_cons_succ]
  try simp only [List.set_cons_zero]
  refine wpAnyH_take (i := 5) (v := ?_) rfl (by kernel_rfl) (by kernel_rfl) (by kernel_rfl) (fun _ _ _ h => h) (Or.inl ⟨by kernel_rfl, fun W hSW => by go_simp; try with_reducible rfl⟩) (by assumption) ?_
  try simp only [List.getElem_toArray]
  try simp only [List.getElem_cons_succ]
  try simp only [List.getElem_cons_zero]
  try simp only [Act.put]
  try simp only [List.setIfInBounds_toArray]
  try simp only [List.set_cons_succ]
  try simp only [List.set_cons_zero]
  refine wpAnyH_take (i := 6) (v := ?_) rfl (by kernel_rfl) (by kernel_rfl) (by kernel_rfl) (fun _ _ _ h => h) (Or.inl ⟨by kernel_rfl, fun W hSW => by go_simp; try with_reducible rfl⟩) (by assumption) ?_
  try simp only [List.getElem_toArray]
  try simp only [List.getElem_cons_succ]
  try simp only [List.getElem_cons_zero]
  try simp only [Act.put]
  try simp only [List.setIfInBounds_toArray]
  try simp only [List.set_cons_succ]
  try simp only [List.set_cons_zero]
  refine wpAnyH_take (i := 7) (v := ?_) rfl (by kernel_rfl) (by kernel_rfl) (by kernel_rfl) (fun _ _ _ h => h) (Or.inl ⟨by kernel_rfl, fun W hSW => by go_simp; try with_reducible rfl⟩) (by assumption) ?_
  try simp only [List.getElem_toArray]
  try simp only [List.getElem_cons_succ]
  try simp only [List.getElem_cons_zero]
  try simp only [Act.put]
  try simp only [List.setIfInBounds_toArray]
  try simp only [List.set_cons_succ]
  try simp only [List.set_cons_zero]
  refine wpAnyH_take (i := 8) (v := ?_) rfl (by kernel_rfl) (by kernel_rfl) (by kernel_rfl) (fun _ _ _ h => h) (Or.inl ⟨by kernel_rfl, fun W hSW => by go_simp; try with_reducible rfl⟩) (by assumption) ?_
  try simp only [List.getElem_toArray]
  try simp only [List.getElem_cons_succ]
  try simp only [List.getElem_cons_zero]
  try simp only [Act.put]
  try simp only [List.setIfInBounds_toArray]
  try simp only [List.set_cons_succ]
  try simp only [List.set_cons_zero]
  refine wpAnyH_take (i := 9) (v := ?_) rfl (by kernel_rfl) (by kernel_rfl) (by kernel_rfl) (fun _ _ _ h => h) (Or.inl ⟨by kernel_rfl, fun W hSW => by go_simp; try with_reducible rfl⟩) (by assumption) ?_
  try simp only [List.getElem_toArray]
  try simp only [List.getElem_cons_succ]
  try simp only [List.getElem_cons_zero]
  try simp only [Act.put]
  try simp only [List.setIfInBounds_toArray]
  try simp only [List.set_cons_succ]
  try simp only [List.set_cons_zero]
  refine wpAnyH_take (i := 10) (v := .bool true) rfl (by kernel_rfl) (by kernel_rfl) (by kernel_rfl) (fun _ _ _ h => h) (Or.inl ⟨by kernel_rfl, fun W hSW => by go_simp; try with_reducible rfl⟩) (by assumption) ?_
  try simp only [List.getElem_toArray]
  try simp only [List.getElem_cons_succ]
  try simp only [List.getElem_cons_zero]
  try simp only [Act.put]
  try simp only [List.setIfInBounds_toArray]
  try simp only [List.set_cons_succ]
  try simp only [List.set_cons_zero]
  refine wpAnyH_take (i := 11) (v := .bool true) rfl (by kernel_rfl) (by kernel_rfl) (by kernel_rfl) (fun _ _ _ h => h) (Or.inl ⟨by kernel_rfl, fun W hSW => by go_simp; try with_reducible rfl⟩) (by assumption) ?_
  try simp only [List.getElem_toArray]
  try simp only [List.getElem_cons_succ]
  try simp only [List.getElem_cons_zero]
  try simp only [Act.put]
  try simp only [List.setIfInBounds_toArray]
  try simp only [List.set_cons_succ]
  try simp only [List.set_cons_zero]
  refine wpAnyH_take (i := 12) (v := .bool true) rfl (by kernel_rfl) (by kernel_rfl) (by kernel_rfl) (fun _ _ _ h => h) (Or.inl ⟨by kernel_rfl, fun W hSW => by go_simp; try with_reducible rfl⟩) (by assumption) ?_
  try simp only [List.getElem_toArray]
  try simp only [List.getElem_cons_succ]
  try simp only [List.getElem_cons_zero]
  try simp only [Act.put]
  try simp only [List.setIfInBounds_toArray]
  try simp only [List.set_cons_succ]
  try simp only [List.set_cons_zero]
  refine wpAnyH_take (i := 13) (v := ?_) rfl (by kernel_rfl) (by kernel_rfl) (by kernel_rfl) (fun _ _ _ h => h) (Or.inl ⟨by kernel_rfl, fun W hSW => by go_simp; try with_reducible rfl⟩) (by assumption) ?_
  try simp only [List.getElem_toArray]
  try simp only [List.getElem_cons_succ]
  try simp only [List.getElem_cons_zero]
  try simp only [Act.put]
  try simp only [List.setIfInBounds_toArray]
  try simp only [List.set_cons_succ]
  try simp only [List.set_cons_zero]
  refine wpAnyH_take (i := 14) (v := ?_) rfl (by kernel_rfl) (by kernel_rfl) (by kernel_rfl) (fun _ _ _ h => h) (Or.inl ⟨by kernel_rfl, fun W hSW => by go_simp; try with_reducible rfl⟩) (by assumption) ?_
  try simp only [List.getElem_toArray]
  try simp only [List.getElem_cons_succ]
  try simp only [List.getElem_cons_zero]
  try simp only [Act.put]
  try simp only [List.setIfInBounds_toArray]
  try simp only [List.set_cons_succ]
  try simp only [List.set_cons_zero]
  refine wpAnyH_take (i := 15) (v := .bool false) rfl (by kernel_rfl) (by kernel_rfl) (by kernel_rfl) (fun _ _ _ h => h) (Or.inl ⟨by kernel_rfl, fun W hSW => by go_simp; try with_reducible rfl⟩) (by assumption) ?_
  try simp only [List.getElem_toArray]
  try simp only [List.getElem_cons_succ]
  try simp only [List.getElem_cons_zero]
  try simp only [Act.put]
  try simp only [List.setIfInBounds_toArray]
  try simp only [List.set_cons_succ]
  try simp only [List.set_cons_zero]
  refine wpAnyH_take (i := 16) (v := .bool false) rfl (by kernel_rfl) (by kernel_rfl) (by kernel_rfl) (fun _ _ _ h => h) (Or.inl ⟨by kernel_rfl, fun W hSW => by go_simp; try with_reducible rfl⟩) (by assumption) ?_
  try simp only [List.getElem_toArray]
  try simp only [List.getElem_cons_succ]
  try simp only [List.getElem_cons_zero]
  try simp only [Act.put]
  try simp only [List.setIfInBounds_toArray]
  try simp only [List.set_cons_succ]
  try simp only [List.set_cons_zero]
  refine wpAnyH_take (i := 17) (v := .bool false) rfl (by kernel_rfl) (by kernel_rfl) (by kernel_rfl) (fun _ _ _ h => h) (Or.inl ⟨by kernel_rfl, fun W hSW => by go_simp; try with_reducible rfl⟩) (by assumption) ?_
  try simp only [List.getElem_toArray]
  try simp only [List.getElem_cons_succ]
  try simp only [List.getElem_cons_zero]
  try simp only [Act.put]
  try simp only [List.setIfInBounds_toArray]
  try simp only [List.set_cons_succ]
  try simp only [List.set_cons_zero]
  refine wpAnyH_done (by kernel_rfl) ?_ _
  go_wp2
  go_ret
  exact ⟨rfl, K4.out.drew.drew.drew⟩

end Go.Proofs.YtgaamehjdoakhaaDoor
