/- The contracts of the concentrator's Gone and Close. -/
import Derived.Test.YtgaamehjdoakhaaDoorAcUse
namespace Go.Proofs.YtgaamehjdoakhaaDoor
open Go.RowKit

theorem named {c : Cs} (hg : Good c) : c.name.toList.isEmpty = false := by
  have h1 := hg.name1
  rw [ByteArray.toList_eq]
  rw [Lib.size_eq] at h1
  cases hq : c.name.data.toList with
  | nil => rw [hq] at h1; simp at h1
  | cons a r => rfl

set_option maxHeartbeats 4000000 in
set_option maxRecDepth 100000 in
theorem gone_any {S : Nat → Prop} (b : Nat) (c : Cs) (hg : Good c) (w : World) (hA : CAt S w b c) :
    Calls Tryd.prog 14 #[.pointer (some ⟨b, 0, none⟩)] w fun e w' => ∃ v S', e = .returned v ∧ OwnI w' 0 v c.gone ∧ CAt S' w' b { c with gone := [] } ∧ (∀ i, S' i → S i) ∧ (∀ i, v.ownBlock = some i → i < w.heap.size ∧ ¬ S' i) ∧ Kept S w w' := by
  obtain ⟨mb, gv, hC, hS⟩ := hA
  obtain ⟨x0, x1, x2, x3, x4, x5, hx⟩ := six_cells hg.mac
  have hcc := hC.cells hx
  have hisn := isNone_some b c.name w hcc.c6
  rw [named hg] at hisn
  have c12 := hcc.c12
  have f12 := hcc.f 12
  have hown : OwnI w 0 (.slice none 0 0) [] := World.ownsRow_nil _ _ _ _
  have Hfin : Hid (∃ S', OwnI (w.setCell ⟨b, 12, none⟩ (.slice none 0 0)) 0 gv c.gone ∧ CAt S' (w.setCell ⟨b, 12, none⟩ (.slice none 0 0)) b { c with gone := [] } ∧ (∀ i, S' i → S i) ∧ (∀ i, gv.ownBlock = some i → i < w.heap.size ∧ ¬ S' i) ∧ Kept S w (w.setCell ⟨b, 12, none⟩ (.slice none 0 0))) := by
    refine ⟨ofConc b mb (.slice none 0 0), hC.own.same (fun i hi => Below.heap_setCell _ _ _ _ (fun e => hC.ng (by rw [← (show i = b from e)]; exact hi))), ⟨mb, .slice none 0 0, hC.set12 hg.mac hown, fun i => Iff.rfl⟩, fun i hi => ?_, fun i hi => ⟨hC.lt (Or.inr (Or.inr hi)), fun h => ?_⟩, (Kept.refl _ w).setCell (p := ⟨b, 12, none⟩) (Or.inr ((hS b).2 (Or.inl rfl))) _⟩
    · rcases hi with hi | hi | hi
      · exact (hS i).2 (Or.inl hi)
      · exact (hS i).2 (Or.inr (Or.inl hi))
      · simp [Value.ownBlock] at hi
    · rcases h with h | h | h
      · exact hC.ng (h ▸ hi)
      · exact hC.gm (h ▸ hi)
      · simp [Value.ownBlock] at h
  have Hisn := hid hisn
  clear hC hS hg hcc hown hisn
  go_enter Tryd.func14, Tryd.ntmps14
  go_wp2_with fail
  refine Hisn.out.mono ?_
  rintro e w' ⟨rfl, rfl⟩
  go_wp2
  go_ret
  obtain ⟨S', h1, h2, h3, h4, h5⟩ := Hfin.out
  exact ⟨gv, S', rfl, h1, h2, h3, h4, h5⟩

set_option maxHeartbeats 4000000 in
set_option maxRecDepth 100000 in
theorem close_any {S : Nat → Prop} (b : Nat) (c : Cs) (hg : Good c) (hgl : c.gone.length + 1 ≤ 1000000) (m : List UInt8) (hm : m.length = 6) (n : Int) (hn : In64 n) (x : Sn) (hf : findS c.sess m n = some x) (w : World) (hA : CAt S w b c) :
    Calls Tryd.prog 11 #[.pointer (some ⟨b, 0, none⟩), idV m n] w fun e w' => ∃ u, e = .returned (.tuple #[u, .int .i64 0]) ∧ OwnE w' w.heap.size u (sendF (endF c m n) m 167 n []) ∧ CNext S w w' b (endF c m n) := by
  obtain ⟨y0, y1, y2, y3, y4, y5, hy⟩ := six_cells hm
  have hiv : idV m n = .agg #[.int .u8 y0, .int .u8 y1, .int .u8 y2, .int .u8 y3, .int .u8 y4, .int .u8 y5, .int .i64 n] := by unfold idV idCells; rw [hy]; rfl
  obtain ⟨w0, hw0⟩ : ∃ w0, w0 = w.alloc (.cells #[.int .u8 y0, .int .u8 y1, .int .u8 y2, .int .u8 y3, .int .u8 y4, .int .u8 y5, .int .i64 n] 27) := ⟨_, rfl⟩
  have k0 : Kept (fun _ => False) w w0 := by rw [hw0]; exact (Kept.refl _ w).alloc _
  have hB0 : Box7 w0 w.heap.size #[.int .u8 y0, .int .u8 y1, .int .u8 y2, .int .u8 y3, .int .u8 y4, .int .u8 y5, .int .i64 n] := by rw [hw0]; exact heap_alloc_new w _
  have Hw0 := hid hw0
  have K0 := hid k0
  have B0 := hid hB0
  have HA := hid (hA.kept0 k0)
  have HK := hid (knows_some b c hg m hm n hn w0 HA.out (named hg) x hf)
  have HE := hid (fun W (h : CAt S W b c) => end_any b c hg hgl m hm n hn W h)
  have HS := hid (fun S1 W (h : CAt S1 W b (endF c m n)) => send_any b (endF c m n) (good_end hg hgl hm n) m hm 167 n (.slice none 0 0) [] W (Or.inl ⟨rfl, none, 0, rfl⟩) (by simp) h)
  have hnS : ¬ S w.heap.size := fun h => by have := hA.lt h; omega
  rw [hiv] at HK HE ⊢
  rw [hy] at HS
  obtain ⟨v0, v1, v2, v3, v4, v5, hv'⟩ := six_cells (good_end hg hgl hm n).mac
  have HX' := hid hv'
  rw [hv'] at HS
  clear hv'
  generalize sendF (endF c m n) m 167 n [] = R at *
  generalize endF c m n = c1 at *
  clear hw0 k0 hB0 hA hg hgl hf hiv
  have e0 := B0.out.cell 0
  have e1 := B0.out.cell 1
  have e2 := B0.out.cell 2
  have e3 := B0.out.cell 3
  have e4 := B0.out.cell 4
  have e5 := B0.out.cell 5
  have e6 := B0.out.cell 6
  simp only [List.getElem?_toArray, List.getElem?_cons_zero, List.getElem?_cons_succ] at e0 e1 e2 e3 e4 e5 e6
  go_enter Tryd.func11, Tryd.ntmps11
  go_wp2_with fail
  rw [← Hw0.out]
  go_wp2_with fail
  refine HK.out.mono ?_
  rintro e w1 ⟨rfl, hk1⟩
  have B1 := hid (B0.out.kept hk1 id)
  have K1 := hid (K0.out.trans hk1)
  have HA1 := hid (HA.out.kept0 hk1)
  clear hk1 e0 e1 e2 e3 e4 e5 e6
  have e0 := B1.out.cell 0
  have e1 := B1.out.cell 1
  have e2 := B1.out.cell 2
  have e3 := B1.out.cell 3
  have e4 := B1.out.cell 4
  have e5 := B1.out.cell 5
  have e6 := B1.out.cell 6
  simp only [List.getElem?_toArray, List.getElem?_cons_zero, List.getElem?_cons_succ] at e0 e1 e2 e3 e4 e5 e6
  go_wp2_with fail
  refine (HE.out w1 HA1.out).mono ?_
  rintro e w2 ⟨rfl, hn2⟩
  have B2 := hid (B1.out.kept hn2.kept hnS)
  obtain ⟨S2, hA2, hS2, hk2⟩ := hn2
  have HA2 := hid hA2
  have HN2 := hid (show CNext S w1 w2 b c1 from ⟨S2, hA2, hS2, hk2⟩)
  obtain ⟨mb2, gv2, hC2, _⟩ := hA2
  have m0 : ∀ W, Kept (fun _ => False) w2 W → W.cell? ⟨b, 0, none⟩ = some (.int .u8 v0) := fun W h => ((hC2.kept0 h).cells HX'.out).c0
  have m1 : ∀ W, Kept (fun _ => False) w2 W → W.cell? ⟨b, 1, none⟩ = some (.int .u8 v1) := fun W h => ((hC2.kept0 h).cells HX'.out).c1
  have m2 : ∀ W, Kept (fun _ => False) w2 W → W.cell? ⟨b, 2, none⟩ = some (.int .u8 v2) := fun W h => ((hC2.kept0 h).cells HX'.out).c2
  have m3 : ∀ W, Kept (fun _ => False) w2 W → W.cell? ⟨b, 3, none⟩ = some (.int .u8 v3) := fun W h => ((hC2.kept0 h).cells HX'.out).c3
  have m4 : ∀ W, Kept (fun _ => False) w2 W → W.cell? ⟨b, 4, none⟩ = some (.int .u8 v4) := fun W h => ((hC2.kept0 h).cells HX'.out).c4
  have m5 : ∀ W, Kept (fun _ => False) w2 W → W.cell? ⟨b, 5, none⟩ = some (.int .u8 v5) := fun W h => ((hC2.kept0 h).cells HX'.out).c5
  have z0 : ∀ W, Kept (fun _ => False) w2 W → W.cell? ⟨w.heap.size, 0, none⟩ = some (.int .u8 y0) := fun W h => ((B2.out.kept h id).cell 0).trans rfl
  have z1 : ∀ W, Kept (fun _ => False) w2 W → W.cell? ⟨w.heap.size, 1, none⟩ = some (.int .u8 y1) := fun W h => ((B2.out.kept h id).cell 1).trans rfl
  have z2 : ∀ W, Kept (fun _ => False) w2 W → W.cell? ⟨w.heap.size, 2, none⟩ = some (.int .u8 y2) := fun W h => ((B2.out.kept h id).cell 2).trans rfl
  have z3 : ∀ W, Kept (fun _ => False) w2 W → W.cell? ⟨w.heap.size, 3, none⟩ = some (.int .u8 y3) := fun W h => ((B2.out.kept h id).cell 3).trans rfl
  have z4 : ∀ W, Kept (fun _ => False) w2 W → W.cell? ⟨w.heap.size, 4, none⟩ = some (.int .u8 y4) := fun W h => ((B2.out.kept h id).cell 4).trans rfl
  have z5 : ∀ W, Kept (fun _ => False) w2 W → W.cell? ⟨w.heap.size, 5, none⟩ = some (.int .u8 y5) := fun W h => ((B2.out.kept h id).cell 5).trans rfl
  have z6 : ∀ W, Kept (fun _ => False) w2 W → W.cell? ⟨w.heap.size, 6, none⟩ = some (.int .i64 n) := fun W h => ((B2.out.kept h id).cell 6).trans rfl
  clear hC2 hS2 hk2 e0 e1 e2 e3 e4 e5 e6
  go_wp2
  refine wp_region_held_drew (S := Kept (fun _ => False) w2) (by kernel_rfl) ((Kept.refl _ w2).drew) (fun hSd => ?_)
  refine wpAnyH_take (i := 0) (v := ?_) rfl (by kernel_rfl) (by kernel_rfl) (by kernel_rfl) (fun _ _ _ h => h) (Or.inl ⟨by kernel_rfl, fun W hSW => by go_simp; try with_reducible rfl⟩) (by assumption) ?_
  try simp only [List.getElem_toArray]
  try simp only [List.getElem_cons_succ]
  try simp only [List.getElem_cons_zero]
  try simp only [Act.put]
  try simp only [List.setIfInBounds_toArray]
  try simp only [List.set_cons_succ]
  try simp only [List.set_cons_zero]
  refine wpAnyH_take (i := 1) (v := ?_) rfl (by kernel_rfl) (by kernel_rfl) (by kernel_rfl) (fun _ _ _ h => h) (Or.inl ⟨by kernel_rfl, fun W hSW => by go_simp; try with_reducible rfl⟩) (by assumption) ?_
  try simp only [List.getElem_toArray]
  try simp only [List.getElem_cons_succ]
  try simp only [List.getElem_cons_zero]
  try simp only [Act.put]
  try simp only [List.setIfInBounds_toArray]
  try simp only [List.set_cons_succ]
  try simp only [List.set_cons_zero]
  refine wpAnyH_take (i := 2) (v := ?_) rfl (by kernel_rfl) (by kernel_rfl) (by kernel_rfl) (fun _ _ _ h => h) (Or.inl ⟨by kernel_rfl, fun W hSW => by go_simp; try with_reducible rfl⟩) (by assumption) ?_
  try simp only [List.getElem_toArray]
  try simp only [List.getElem_cons_succ]
  try simp only [List.getElem_cons_zero]
  try simp only [Act.put]
  try simp only [List.setIfInBounds_toArray]
  try simp only [List.set_cons_succ]
  try simp only [List.set_cons_zero]
  refine wpAnyH_take (i := 3) (v := ?_) rfl (by kernel_rfl) (by kernel_rfl) (by kernel_rfl) (fun _ _ _ h => h) (Or.inl ⟨by kernel_rfl, fun W hSW => by go_simp; try with_reducible rfl⟩) (by assumption) ?_
  try simp only [List.getElem_toArray]
  try simp only [List.getElem_cons_succ]
  try simp only [List.getElem_cons_zero]
  try simp only [Act.put]
  try simp only [List.setIfInBounds_toArray]
  try simp only [List.set_cons_succ]
  try simp only [List.set_cons_zero]
  refine wpAnyH_take (i := 4) (v := ?_) rfl (by kernel_rfl) (by kernel_rfl) (by kernel_rfl) (fun _ _ _ h => h) (Or.inl ⟨by kernel_rfl, fun W hSW => by go_simp; try with_reducible rfl⟩) (by assumption) ?_
  try simp only [List.getElem_toArray]
  try simp only [List.getElem_cons_succ]
  try simp only [List.getElem_cons_zero]
  try simp only [Act.put]
  try simp only [List.setIfInBounds_toArray]
  try simp only [List.set_cons_succ]
  try simp only [List.set_cons_zero]
  refine wpAnyH_take (i := 5) (v := ?_) rfl (by kernel_rfl) (by kernel_rfl) (by kernel_rfl) (fun _ _ _ h => h) (Or.inl ⟨by kernel_rfl, fun W hSW => by go_simp; try with_reducible rfl⟩) (by assumption) ?_
  try simp only [List.getElem_toArray]
  try simp only [List.getElem_cons_succ]
  try simp only [List.getElem_cons_zero]
  try simp only [Act.put]
  try simp only [List.setIfInBounds_toArray]
  try simp only [List.set_cons_succ]
  try simp only [List.set_cons_zero]
  refine wpAnyH_take (i := 6) (v := ?_) rfl (by kernel_rfl) (by kernel_rfl) (by kernel_rfl) (fun _ _ _ h => h) (Or.inl ⟨by kernel_rfl, fun W hSW => by go_simp; try with_reducible rfl⟩) (by assumption) ?_
  try simp only [List.getElem_toArray]
  try simp only [List.getElem_cons_succ]
  try simp only [List.getElem_cons_zero]
  try simp only [Act.put]
  try simp only [List.setIfInBounds_toArray]
  try simp only [List.set_cons_succ]
  try simp only [List.set_cons_zero]
  refine wpAnyH_take (i := 7) (v := ?_) rfl (by kernel_rfl) (by kernel_rfl) (by kernel_rfl) (fun _ _ _ h => h) (Or.inl ⟨by kernel_rfl, fun W hSW => by go_simp; try with_reducible rfl⟩) (by assumption) ?_
  try simp only [List.getElem_toArray]
  try simp only [List.getElem_cons_succ]
  try simp only [List.getElem_cons_zero]
  try simp only [Act.put]
  try simp only [List.setIfInBounds_toArray]
  try simp only [List.set_cons_succ]
  try simp only [List.set_cons_zero]
  refine wpAnyH_ready (rs := [8]) (by kernel_rfl) (by simp) ?_
  refine AllReadyH.cons rfl (fun K hK => ?_) AllReadyH.nil
  go_simp
  refine (HS.out S2 _ (HA2.out.kept0 (Kept.refl _ w2).drew)).mono ?_
  rintro e w3 ⟨u, rfl, ho3, hk3'⟩
  have hk3 : Kept (fun _ => False) w2 w3 := (Kept.refl (fun _ => False) w2).drew.trans hk3'
  refine hK.out _ _ (hk3) (fun _ => ?_)
  clear hK K
  try simp only [List.getElem_toArray]
  try simp only [List.getElem_cons_succ]
  try simp only [List.getElem_cons_zero]
  try simp only [Act.put]
  try simp only [List.setIfInBounds_toArray]
  try simp only [List.set_cons_succ]
  try simp only [List.set_cons_zero]
  refine wpAnyH_take (i := 9) (v := ?_) rfl (by kernel_rfl) (by kernel_rfl) (by kernel_rfl) (fun _ _ _ h => h) (Or.inl ⟨by kernel_rfl, fun W hSW => by go_simp; try with_reducible rfl⟩) (by assumption) ?_
  try simp only [List.getElem_toArray]
  try simp only [List.getElem_cons_succ]
  try simp only [List.getElem_cons_zero]
  try simp only [Act.put]
  try simp only [List.setIfInBounds_toArray]
  try simp only [List.set_cons_succ]
  try simp only [List.set_cons_zero]
  refine wpAnyH_take (i := 10) (v := ?_) rfl (by kernel_rfl) (by kernel_rfl) (by kernel_rfl) (fun _ _ _ h => h) (Or.inl ⟨by kernel_rfl, fun W hSW => by go_simp; try with_reducible rfl⟩) (by assumption) ?_
  try simp only [List.getElem_toArray]
  try simp only [List.getElem_cons_succ]
  try simp only [List.getElem_cons_zero]
  try simp only [Act.put]
  try simp only [List.setIfInBounds_toArray]
  try simp only [List.set_cons_succ]
  try simp only [List.set_cons_zero]
  refine wpAnyH_done (by kernel_rfl) ?_ _
  go_wp2
  go_ret2
  refine ⟨u, rfl, ho3.mono ?_, (HN2.out.back K1.out).still hk3⟩
  have h1 := K1.out.size
  have h2 := HN2.out.kept.size
  have h3 : w2.drew.heap.size = w2.heap.size := rfl
  omega
end Go.Proofs.YtgaamehjdoakhaaDoor
