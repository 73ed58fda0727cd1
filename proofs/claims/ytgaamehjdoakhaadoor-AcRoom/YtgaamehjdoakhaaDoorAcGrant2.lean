/- The contract of the concentrator's inner grant, where it answers. -/
import Derived.Test.YtgaamehjdoakhaaDoorAcGrant
namespace Go.Proofs.YtgaamehjdoakhaaDoor
open Go.RowKit

theorem Box6.keptS {T : Nat → Prop} {W W' : World} {b : Nat} {x0 x1 x2 x3 x4 x5 : Value} (h : Box6 W b x0 x1 x2 x3 x4 x5) (hk : Kept T W W') (hn : ¬ T b) : Box6 W' b x0 x1 x2 x3 x4 x5 := by
  have hlt : b < W.heap.size := lt_of_cell h.c0
  exact ⟨(hk.cell (p := ⟨b, 0, none⟩) hlt hn).trans h.c0, (hk.cell (p := ⟨b, 1, none⟩) hlt hn).trans h.c1, (hk.cell (p := ⟨b, 2, none⟩) hlt hn).trans h.c2, (hk.cell (p := ⟨b, 3, none⟩) hlt hn).trans h.c3, (hk.cell (p := ⟨b, 4, none⟩) hlt hn).trans h.c4, (hk.cell (p := ⟨b, 5, none⟩) hlt hn).trans h.c5⟩

theorem grantTags_few (sv : ByteArray) (hs : sv.size ≤ 1000000) (n : Nat) (why : Int) : (grantTags sv n why).length ≤ 2 ∧ ∀ x ∈ grantTags sv n why, x.value.size ≤ 1000000 := by
  unfold grantTags
  split
  · refine ⟨by simp, fun x hx => ?_⟩
    simp at hx
    rcases hx with rfl | rfl
    · exact hs
    · show (0 : Nat) ≤ 1000000; omega
  · refine ⟨by simp, fun x hx => ?_⟩
    simp at hx
    subst hx
    exact hs

set_option maxHeartbeats 4000000 in
set_option maxRecDepth 100000 in
theorem grant_yes {S : Nat → Prop} (b : Nat) (c : Cs) (hg : Good c) (to : List UInt8) (hto : to.length = 6) (v : Value) (l : List Tg) (hl : Few l) (t : Int) (ht : In64 t) (w : World) (hT : Tables w) (hZ : TabTz w) (hA : CAt S w b c) (hv : TagsAt w v l) (hvS : ∀ i, S i → v.ownBlock ≠ some i)
    (h1 : (findF l 257).2 = 1) (h2 : (findF l 260).2 ≠ 0) (h3 : checkB c.secret to (findF l 257).1 (findF l 260).1 t = true) :
    Calls Tryd.prog 32 #[.pointer (some ⟨b, 0, none⟩), .agg (Lib.byteCells to).toArray, v, .int .i64 t] w fun e w' => ∃ u, e = .returned u ∧
      OwnE w' w.heap.size u (sendF (admitF c to (findF l 257).1 (findF l 259).1).2.2 to 101 ((admitF c to (findF l 257).1 (findF l 259).1).1 : Int) (grantTags (findF l 257).1 (admitF c to (findF l 257).1 (findF l 259).1).1 (admitF c to (findF l 257).1 (findF l 259).1).2.1 ++ echoF l)) ∧
      CNext S w w' b (admitF c to (findF l 257).1 (findF l 259).1).2.2 := by
  obtain ⟨mb, gv, hC, hS⟩ := id hA
  obtain ⟨x0, x1, x2, x3, x4, x5, hx⟩ := six_cells hg.mac
  obtain ⟨y0, y1, y2, y3, y4, y5, hy⟩ := six_cells hto
  have HF := hid (fun k W (hk : Kept (fun _ => False) w W) => find_any v l k W (hv.kept0 hk) (by have := hl.1; omega) hl.size)
  have hs1 := hl.find 257
  have hs2 := hl.find 260
  have hs3 := hl.find 259
  have HCk := hid (fun W (hk : Kept (fun _ => False) w W) => check_any c.secret (findF l 257).1 (findF l 260).1 to hto t ht.1 ht.2 (by have := hg.secret; omega) (by omega) (by unfold maxLen; omega) W (hT.kept hk))
  have HC := hid (fun W (hk : Kept (fun _ => False) w W) => ((hC.kept0 hk).cells hx).c8)
  change Hid (∀ W, Kept (fun _ => False) w W → Calls Tryd.prog 18 _ W fun r w' => r = .returned (.bool (checkB c.secret to (findF l 257).1 (findF l 260).1 t)) ∧ Below W.heap.size W w') at HCk
  have HAD := hid (fun W (hk : Kept (fun _ => False) w W) => admit_any b c hg to hto (findF l 257).1 (findF l 259).1 W (hZ.kept hk) (hA.kept0 hk))
  have HG2 := hid (good_admit hg hto (findF l 257).1 (findF l 259).1)
  obtain ⟨c', hc'⟩ : ∃ c', c' = (admitF c to (findF l 257).1 (findF l 259).1).2.2 := ⟨_, rfl⟩
  rw [← hc'] at HAD HG2 ⊢
  clear hc'
  have HSD0 := hid (fun (S1 : Nat → Prop) (code session : Int) (v8 : Value) (l8 : List Tg) W (hsz : ∀ x ∈ l8, x.value.size ≤ 140737488351232) (h8 : TagsAt W v8 l8) (h : CAt S1 W b c') => send_any b c' HG2.out to hto code session v8 l8 W h8 hsz h)
  have HEC0 := hid (fun W (hvW : TagsAt W v l) => echo_any v l W hvW (by have := hl.1; omega) hl.size)
  have hfew := grantTags_few (findF l 257).1 hs1 (admitF c to (findF l 257).1 (findF l 259).1).1 (admitF c to (findF l 257).1 (findF l 259).1).2.1
  have hef := echo_few hl
  obtain ⟨v0, v1, v2, v3, v4, v5, hv'⟩ := six_cells HG2.out.mac
  have HX' := hid hv'
  rw [hy] at HCk HAD HSD0 ⊢
  rw [hv'] at HSD0
  clear hv'
  rw [h3] at HCk
  have HF1 := hid (HF.out 257)
  have HF2 := hid (HF.out 260)
  have HF3 := hid (HF.out 259)
  rw [h1] at HF1
  generalize (admitF c to (findF l 257).1 (findF l 259).1).1 = ses at *
  generalize (admitF c to (findF l 257).1 (findF l 259).1).2.1 = why at *
  generalize (findF l 257).1 = sv at *
  generalize (findF l 260).1 = pf at *
  generalize (findF l 260).2 = n2 at *
  generalize (findF l 259).1 = uq at *
  generalize (findF l 259).2 = n3 at *
  have K0 := hid ((Kept.refl (fun _ => False) w).alloc (.cells #[.int .u8 y0, .int .u8 y1, .int .u8 y2, .int .u8 y3, .int .u8 y4, .int .u8 y5] 23))
  have B0 := hid (box6_new w 23 (.int .u8 y0) (.int .u8 y1) (.int .u8 y2) (.int .u8 y3) (.int .u8 y4) (.int .u8 y5))
  have HSlt := hid (fun i (hi : S i) => hA.lt hi)
  have HV := hid hv
  clear hC hT hA hS hv HF hs1 hs2 hs3 hZ hl
  go_enter Tryd.func32, Tryd.ntmps32
  go_wp2_with fail
  refine (HF1.out _ K0.out).mono ?_
  rintro e w1 ⟨rfl, hk1⟩
  have K1 := hid (K0.out.trans hk1)
  have B1 := hid (B0.out.kept hk1)
  clear hk1 K0 B0
  go_wp2_with fail
  refine (HF2.out _ K1.out).mono ?_
  rintro e w2 ⟨rfl, hk2⟩
  have K2 := hid (K1.out.trans hk2)
  have B2 := hid (B1.out.kept hk2)
  have KD := hid (K1.out.trans hk2).drew
  clear hk2 K1 B1
  have q8 : ∀ W, Kept (fun _ => False) w2 W → W.cell? ⟨b, 8, none⟩ = some (.string c.secret) := fun W h => HC.out W (K2.out.trans h)
  have r0 : ∀ W, Kept (fun _ => False) w2 W → W.cell? ⟨w.heap.size, 0, none⟩ = some (.int .u8 y0) := fun W h => (B2.out.kept h).c0
  have r1 : ∀ W, Kept (fun _ => False) w2 W → W.cell? ⟨w.heap.size, 1, none⟩ = some (.int .u8 y1) := fun W h => (B2.out.kept h).c1
  have r2 : ∀ W, Kept (fun _ => False) w2 W → W.cell? ⟨w.heap.size, 2, none⟩ = some (.int .u8 y2) := fun W h => (B2.out.kept h).c2
  have r3 : ∀ W, Kept (fun _ => False) w2 W → W.cell? ⟨w.heap.size, 3, none⟩ = some (.int .u8 y3) := fun W h => (B2.out.kept h).c3
  have r4 : ∀ W, Kept (fun _ => False) w2 W → W.cell? ⟨w.heap.size, 4, none⟩ = some (.int .u8 y4) := fun W h => (B2.out.kept h).c4
  have r5 : ∀ W, Kept (fun _ => False) w2 W → W.cell? ⟨w.heap.size, 5, none⟩ = some (.int .u8 y5) := fun W h => (B2.out.kept h).c5
  have hn2 : ((n2 : Int) == 0) = false := by rw [beq_eq_false_iff_ne]; omega
  go_wp2
  refine wp_region_held_drew (S := Kept (fun _ => False) w2) (by kernel_rfl) ((Kept.refl _ w2).drew) (fun hSd => ?_)
  refine wpAnyH_take (i := 0) (v := ?_) rfl (by kernel_rfl) (by kernel_rfl) (by kernel_rfl) (fun _ _ _ h => h) (Or.inl ⟨by kernel_rfl, fun W hSW => by go_simp; try with_reducible rfl⟩) (by assumption) ?_
  try simp only [List.getElem_toArray]
  try simp only [List.getElem_cons_succ]
  try simp only [List.getElem_cons_zero]
  try simp only [Act.put]
  try simp only [List.setIfInBounds_toArray]
  try simp only [List.set_cons_succ]
  try simp only [List.set_cons_zero]
  refine wpAnyH_take (i := 1) (v := ?_) rfl (by kernel_rfl) (by kernel_rfl) (by kernel_rfl) (fun _ _ _ h => h) (Or.inl ⟨by kernel_rfl, fun W hSW => by go_simp; try with_reducible rfl⟩) (by assumption) ?_
  try simp only [List.getElem_toArray]
  try simp only [List.getElem_cons_succ]
  try simp only [List.getElem_cons_zero]
  try simp only [Act.put]
  try simp only [List.setIfInBounds_toArray]
  try simp only [List.set_cons_succ]
  try simp only [List.set_cons_zero]
  refine wpAnyH_take (i := 2) (v := ?_) rfl (by kernel_rfl) (by kernel_rfl) (by kernel_rfl) (fun _ _ _ h => h) (Or.inl ⟨by kernel_rfl, fun W hSW => by go_simp; try with_reducible rfl⟩) (by assumption) ?_
  try simp only [List.getElem_toArray]
  try simp only [List.getElem_cons_succ]
  try simp only [List.getElem_cons_zero]
  try simp only [Act.put]
  try simp only [List.setIfInBounds_toArray]
  try simp only [List.set_cons_succ]
  try simp only [List.set_cons_zero]
  refine wpAnyH_take (i := 3) (v := ?_) rfl (by kernel_rfl) (by kernel_rfl) (by kernel_rfl) (fun _ _ _ h => h) (Or.inl ⟨by kernel_rfl, fun W hSW => by go_simp; try with_reducible rfl⟩) (by assumption) ?_
  try simp only [List.getElem_toArray]
  try simp only [List.getElem_cons_succ]
  try simp only [List.getElem_cons_zero]
  try simp only [Act.put]
  try simp only [List.setIfInBounds_toArray]
  try simp only [List.set_cons_succ]
  try simp only [List.set_cons_zero]
  refine wpAnyH_take (i := 4) (v := ?_) rfl (by kernel_rfl) (by kernel_rfl) (by kernel_rfl) (fun _ _ _ h => h) (Or.inl ⟨by kernel_rfl, fun W hSW => by go_simp; try with_reducible rfl⟩) (by assumption) ?_
  try simp only [List.getElem_toArray]
  try simp only [List.getElem_cons_succ]
  try simp only [List.getElem_cons_zero]
  try simp only [Act.put]
  try simp only [List.setIfInBounds_toArray]
  try simp only [List.set_cons_succ]
  try simp only [List.set_cons_zero]
  refine wpAnyH_take (i := 5) (v := .bool false) rfl (by kernel_rfl) (by kernel_rfl) (by kernel_rfl) (fun _ _ _ h => h) (Or.inl ⟨by kernel_rfl, fun W hSW => by go_simp; try with_reducible rfl⟩) (by assumption) ?_
  try simp only [List.getElem_toArray]
  try simp only [List.getElem_cons_succ]
  try simp only [List.getElem_cons_zero]
  try simp only [Act.put]
  try simp only [List.setIfInBounds_toArray]
  try simp only [List.set_cons_succ]
  try simp only [List.set_cons_zero]
  refine wpAnyH_take (i := 6) (v := .bool false) rfl (by kernel_rfl) (by kernel_rfl) (by kernel_rfl) (fun _ _ _ h => h) (Or.inl ⟨by kernel_rfl, fun W hSW => by go_simp; try with_reducible rfl⟩) (by assumption) ?_
  try simp only [List.getElem_toArray]
  try simp only [List.getElem_cons_succ]
  try simp only [List.getElem_cons_zero]
  try simp only [Act.put]
  try simp only [List.setIfInBounds_toArray]
  try simp only [List.set_cons_succ]
  try simp only [List.set_cons_zero]
  refine wpAnyH_take (i := 7) (v := ?_) rfl (by kernel_rfl) (by kernel_rfl) (by kernel_rfl) (fun _ _ _ h => h) (Or.inl ⟨by kernel_rfl, fun W hSW => by go_simp; try with_reducible rfl⟩) (by assumption) ?_
  try simp only [List.getElem_toArray]
  try simp only [List.getElem_cons_succ]
  try simp only [List.getElem_cons_zero]
  try simp only [Act.put]
  try simp only [List.setIfInBounds_toArray]
  try simp only [List.set_cons_succ]
  try simp only [List.set_cons_zero]
  refine wpAnyH_take (i := 8) (v := ?_) rfl (by kernel_rfl) (by kernel_rfl) (by kernel_rfl) (fun _ _ _ h => h) (Or.inl ⟨by kernel_rfl, fun W hSW => by go_simp; try with_reducible rfl⟩) (by assumption) ?_
  try simp only [List.getElem_toArray]
  try simp only [List.getElem_cons_succ]
  try simp only [List.getElem_cons_zero]
  try simp only [Act.put]
  try simp only [List.setIfInBounds_toArray]
  try simp only [List.set_cons_succ]
  try simp only [List.set_cons_zero]
  refine wpAnyH_take (i := 9) (v := ?_) rfl (by kernel_rfl) (by kernel_rfl) (by kernel_rfl) (fun _ _ _ h => h) (Or.inl ⟨by kernel_rfl, fun W hSW => by go_simp; try with_reducible rfl⟩) (by assumption) ?_
  try simp only [List.getElem_toArray]
  try simp only [List.getElem_cons_succ]
  try simp only [List.getElem_cons_zero]
  try simp only [Act.put]
  try simp only [List.setIfInBounds_toArray]
  try simp only [List.set_cons_succ]
  try simp only [List.set_cons_zero]
  refine wpAnyH_take (i := 10) (v := ?_) rfl (by kernel_rfl) (by kernel_rfl) (by kernel_rfl) (fun _ _ _ h => h) (Or.inl ⟨by kernel_rfl, fun W hSW => by go_simp; try with_reducible rfl⟩) (by assumption) ?_
  try simp only [List.getElem_toArray]
  try simp only [List.getElem_cons_succ]
  try simp only [List.getElem_cons_zero]
  try simp only [Act.put]
  try simp only [List.setIfInBounds_toArray]
  try simp only [List.set_cons_succ]
  try simp only [List.set_cons_zero]
  refine wpAnyH_take (i := 11) (v := ?_) rfl (by kernel_rfl) (by kernel_rfl) (by kernel_rfl) (fun _ _ _ h => h) (Or.inl ⟨by kernel_rfl, fun W hSW => by go_simp; try with_reducible rfl⟩) (by assumption) ?_
  try simp only [List.getElem_toArray]
  try simp only [List.getElem_cons_succ]
  try simp only [List.getElem_cons_zero]
  try simp only [Act.put]
  try simp only [List.setIfInBounds_toArray]
  try simp only [List.set_cons_succ]
  try simp only [List.set_cons_zero]
  refine wpAnyH_take (i := 12) (v := ?_) rfl (by kernel_rfl) (by kernel_rfl) (by kernel_rfl) (fun _ _ _ h => h) (Or.inl ⟨by kernel_rfl, fun W hSW => by go_simp; try with_reducible rfl⟩) (by assumption) ?_
  try simp only [List.getElem_toArray]
  try simp only [List.getElem_cons_succ]
  try simp only [List.getElem_cons_zero]
  try simp only [Act.put]
  try simp only [List.setIfInBounds_toArray]
  try simp only [List.set_cons_succ]
  try simp only [List.set_cons_zero]
  refine wpAnyH_take (i := 13) (v := ?_) rfl (by kernel_rfl) (by kernel_rfl) (by kernel_rfl) (fun _ _ _ h => h) (Or.inl ⟨by kernel_rfl, fun W hSW => by go_simp; try with_reducible rfl⟩) (by assumption) ?_
  try simp only [List.getElem_toArray]
  try simp only [List.getElem_cons_succ]
  try simp only [List.getElem_cons_zero]
  try simp only [Act.put]
  try simp only [List.setIfInBounds_toArray]
  try simp only [List.set_cons_succ]
  try simp only [List.set_cons_zero]
  refine wpAnyH_take (i := 14) (v := ?_) rfl (by kernel_rfl) (by kernel_rfl) (by kernel_rfl) (fun _ _ _ h => h) (Or.inl ⟨by kernel_rfl, fun W hSW => by go_simp; try with_reducible rfl⟩) (by assumption) ?_
  try simp only [List.getElem_toArray]
  try simp only [List.getElem_cons_succ]
  try simp only [List.getElem_cons_zero]
  try simp only [Act.put]
  try simp only [List.setIfInBounds_toArray]
  try simp only [List.set_cons_succ]
  try simp only [List.set_cons_zero]
  refine wpAnyH_ready (rs := [15]) (by kernel_rfl) (by simp) ?_
  refine AllReadyH.cons rfl (fun K hK => ?_) AllReadyH.nil
  go_simp
  refine (HCk.out _ KD.out).mono ?_
  rintro e w3 ⟨rfl, hb3⟩
  have hk23 : Kept (fun _ => False) w2 w3 := (Kept.refl _ w2).drew.trans (kept_of hb3)
  refine hK.out _ _ (hk23) (fun _ => ?_)
  clear hK K
  try simp only [List.getElem_toArray]
  try simp only [List.getElem_cons_succ]
  try simp only [List.getElem_cons_zero]
  try simp only [Act.put]
  try simp only [List.setIfInBounds_toArray]
  try simp only [List.set_cons_succ]
  try simp only [List.set_cons_zero]
  refine wpAnyH_take (i := 16) (v := ?_) rfl (by kernel_rfl) (by kernel_rfl) (by kernel_rfl) (fun _ _ _ h => h) (Or.inl ⟨by kernel_rfl, fun W hSW => by go_simp; try with_reducible rfl⟩) (by assumption) ?_
  try simp only [List.getElem_toArray]
  try simp only [List.getElem_cons_succ]
  try simp only [List.getElem_cons_zero]
  try simp only [Act.put]
  try simp only [List.setIfInBounds_toArray]
  try simp only [List.set_cons_succ]
  try simp only [List.set_cons_zero]
  refine wpAnyH_take (i := 17) (v := .bool false) rfl (by kernel_rfl) (by kernel_rfl) (by kernel_rfl) (fun _ _ _ h => h) (Or.inl ⟨by kernel_rfl, fun W hSW => by go_simp; try with_reducible rfl⟩) (by assumption) ?_
  try simp only [List.getElem_toArray]
  try simp only [List.getElem_cons_succ]
  try simp only [List.getElem_cons_zero]
  try simp only [Act.put]
  try simp only [List.setIfInBounds_toArray]
  try simp only [List.set_cons_succ]
  try simp only [List.set_cons_zero]
  refine wpAnyH_done (by kernel_rfl) ?_ _
  have K3 := hid (K2.out.trans hk23)
  have B3 := hid (B2.out.kept hk23)
  clear q8 r0 r1 r2 r3 r4 r5 hk23 hb3 KD K2 B2 HC HCk
  go_wp2_with fail
  refine (HF3.out _ K3.out).mono ?_
  rintro e w4 ⟨rfl, hk4⟩
  have K4 := hid (K3.out.trans hk4)
  have B4 := hid (B3.out.kept hk4)
  clear hk4 K3 B3
  obtain ⟨b0, b1, b2, b3, b4, b5⟩ := B4.out
  go_wp2_with fail
  refine (HAD.out _ K4.out).mono ?_
  rintro e w5 ⟨rfl, hn5⟩
  clear b0 b1 b2 b3 b4 b5
  have B5 := hid (B4.out.keptS hn5.kept (fun h => by have := HSlt.out _ h; omega))
  have V5 := hid ((HV.out.kept0 K4.out).kept hn5.kept (fun i _ h => hvS i h))
  have HN5 := hid hn5
  have HW5 : Hid (w.heap.size ≤ w5.heap.size) := Nat.le_trans K4.out.size hn5.kept.size
  have HEC := hid (fun W (h : Kept (fun _ => False) w5 W) => HEC0.out W (V5.out.kept0 h))
  obtain ⟨S1, hA1, _, _⟩ := id hn5
  obtain ⟨mb1, gv1, hC1, _⟩ := id hA1
  have m0 : ∀ W, Kept (fun _ => False) w5 W → W.cell? ⟨b, 0, none⟩ = some (.int .u8 v0) := fun W h => ((hC1.kept0 h).cells HX'.out).c0
  have m1 : ∀ W, Kept (fun _ => False) w5 W → W.cell? ⟨b, 1, none⟩ = some (.int .u8 v1) := fun W h => ((hC1.kept0 h).cells HX'.out).c1
  have m2 : ∀ W, Kept (fun _ => False) w5 W → W.cell? ⟨b, 2, none⟩ = some (.int .u8 v2) := fun W h => ((hC1.kept0 h).cells HX'.out).c2
  have m3 : ∀ W, Kept (fun _ => False) w5 W → W.cell? ⟨b, 3, none⟩ = some (.int .u8 v3) := fun W h => ((hC1.kept0 h).cells HX'.out).c3
  have m4 : ∀ W, Kept (fun _ => False) w5 W → W.cell? ⟨b, 4, none⟩ = some (.int .u8 v4) := fun W h => ((hC1.kept0 h).cells HX'.out).c4
  have m5 : ∀ W, Kept (fun _ => False) w5 W → W.cell? ⟨b, 5, none⟩ = some (.int .u8 v5) := fun W h => ((hC1.kept0 h).cells HX'.out).c5
  have HSD := hid (fun v8 W (h : Kept (fun _ => False) w5 W) (hv8 : TagsAt W v8 (grantTags sv ses why ++ echoF l)) => HSD0.out S1 101 (ses : Int) v8 _ W (fun x hx => by
    rcases List.mem_append.1 hx with hx | hx
    · exact Nat.le_trans (hfew.2 x hx) (by decide)
    · exact Nat.le_trans (hef.2 x hx) (by decide)) hv8 (hA1.kept0 h))
  have HLN : Hid ((grantTags sv ses why).length + (echoF l).length ≤ 1000000) := by have := hfew.1; have := hef.1; show _ ≤ _; omega
  have r0 : ∀ W, Kept (fun _ => False) w5 W → W.cell? ⟨w.heap.size, 0, none⟩ = some (.int .u8 y0) := fun W h => (B5.out.kept h).c0
  have r1 : ∀ W, Kept (fun _ => False) w5 W → W.cell? ⟨w.heap.size, 1, none⟩ = some (.int .u8 y1) := fun W h => (B5.out.kept h).c1
  have r2 : ∀ W, Kept (fun _ => False) w5 W → W.cell? ⟨w.heap.size, 2, none⟩ = some (.int .u8 y2) := fun W h => (B5.out.kept h).c2
  have r3 : ∀ W, Kept (fun _ => False) w5 W → W.cell? ⟨w.heap.size, 3, none⟩ = some (.int .u8 y3) := fun W h => (B5.out.kept h).c3
  have r4 : ∀ W, Kept (fun _ => False) w5 W → W.cell? ⟨w.heap.size, 4, none⟩ = some (.int .u8 y4) := fun W h => (B5.out.kept h).c4
  have r5 : ∀ W, Kept (fun _ => False) w5 W → W.cell? ⟨w.heap.size, 5, none⟩ = some (.int .u8 y5) := fun W h => (B5.out.kept h).c5
  have O5 := hid (own_one w5 w5.heap.size (Nat.le_refl _) 257 sv)
  have KW5 := hid ((Kept.refl (fun _ => False) w5).alloc (.cells #[.int .i64 257, .string sv] 53))
  clear hn5 hA1 hC1 HAD HSD0 HEC0 HV hvS B4 hfew hef HG2
  by_cases hses : ses = 0
  · subst hses
    have hgt : grantTags sv 0 why = [⟨257, sv⟩] ++ [⟨why, ⟨#[]⟩⟩] := rfl
    have hgt' := hid hgt
    rw [hgt] at HLN
    clear hgt
    have hap := append_run (u := .slice (some ⟨w5.heap.size + 1, 0, none⟩) 1 1) (b := [⟨why, ⟨#[]⟩⟩]) (KW5.out.alloc (.cells #[.int .i64 why, .string ⟨#[]⟩] 53)) (OwnT.kept O5.out ((Kept.refl _ _).alloc (.cells #[.int .i64 why, .string ⟨#[]⟩] 53))) (by
      have h := own_one (w5.alloc (.cells #[.int .i64 257, .string sv] 53)) 0 (Nat.zero_le _) why ⟨#[]⟩
      rw [show (w5.alloc (.cells #[.int .i64 257, .string sv] 53)).heap.size = w5.heap.size + 1 from by simp] at h
      exact h.tags) (by show (1 : Nat) + 1 ≤ 1000000; omega)
    obtain ⟨v6, w6, hrun6, hown6, hk6⟩ := hap
    obtain ⟨p6, c6, hv6⟩ := slice_of hown6
    obtain rfl : v6 = .slice p6 2 c6 := hv6
    have KW6 := hid hk6
    have HO6 := hid hown6
    clear hown6 hk6 O5 KW5
    go_wp2_with (at_builtin; refine Lib.wpList_append_run _ rfl _ _ 77 77 rfl _ _ rfl rfl _ _ (hrun6 _) ?_)
    clear hrun6
    · skip
      refine wp_region_held_drew (S := Kept (fun _ => False) w5) (by kernel_rfl) (KW6.out.drew) (fun hSd => ?_)
      refine wpAnyH_take (i := 0) (v := ?_) rfl (by kernel_rfl) (by kernel_rfl) (by kernel_rfl) (fun _ _ _ h => h) (Or.inl ⟨by kernel_rfl, fun W hSW => by go_simp; try with_reducible rfl⟩) (by assumption) ?_
      try simp only [List.getElem_toArray]
      try simp only [List.getElem_cons_succ]
      try simp only [List.getElem_cons_zero]
      try simp only [Act.put]
      try simp only [List.setIfInBounds_toArray]
      try simp only [List.set_cons_succ]
      try simp only [List.set_cons_zero]
      refine wpAnyH_take (i := 1) (v := ?_) rfl (by kernel_rfl) (by kernel_rfl) (by kernel_rfl) (fun _ _ _ h => h) (Or.inl ⟨by kernel_rfl, fun W hSW => by go_simp; try with_reducible rfl⟩) (by assumption) ?_
      try simp only [List.getElem_toArray]
      try simp only [List.getElem_cons_succ]
      try simp only [List.getElem_cons_zero]
      try simp only [Act.put]
      try simp only [List.setIfInBounds_toArray]
      try simp only [List.set_cons_succ]
      try simp only [List.set_cons_zero]
      refine wpAnyH_take (i := 2) (v := ?_) rfl (by kernel_rfl) (by kernel_rfl) (by kernel_rfl) (fun _ _ _ h => h) (Or.inl ⟨by kernel_rfl, fun W hSW => by go_simp; try with_reducible rfl⟩) (by assumption) ?_
      try simp only [List.getElem_toArray]
      try simp only [List.getElem_cons_succ]
      try simp only [List.getElem_cons_zero]
      try simp only [Act.put]
      try simp only [List.setIfInBounds_toArray]
      try simp only [List.set_cons_succ]
      try simp only [List.set_cons_zero]
      refine wpAnyH_take (i := 3) (v := ?_) rfl (by kernel_rfl) (by kernel_rfl) (by kernel_rfl) (fun _ _ _ h => h) (Or.inl ⟨by kernel_rfl, fun W hSW => by go_simp; try with_reducible rfl⟩) (by assumption) ?_
      try simp only [List.getElem_toArray]
      try simp only [List.getElem_cons_succ]
      try simp only [List.getElem_cons_zero]
      try simp only [Act.put]
      try simp only [List.setIfInBounds_toArray]
      try simp only [List.set_cons_succ]
      try simp only [List.set_cons_zero]
      refine wpAnyH_take (i := 4) (v := ?_) rfl (by kernel_rfl) (by kernel_rfl) (by kernel_rfl) (fun _ _ _ h => h) (Or.inl ⟨by kernel_rfl, fun W hSW => by go_simp; try with_reducible rfl⟩) (by assumption) ?_
      try simp only [List.getElem_toArray]
      try simp only [List.getElem_cons_succ]
      try simp only [List.getElem_cons_zero]
      try simp only [Act.put]
      try simp only [List.setIfInBounds_toArray]
      try simp only [List.set_cons_succ]
      try simp only [List.set_cons_zero]
      refine wpAnyH_take (i := 5) (v := ?_) rfl (by kernel_rfl) (by kernel_rfl) (by kernel_rfl) (fun _ _ _ h => h) (Or.inl ⟨by kernel_rfl, fun W hSW => by go_simp; try with_reducible rfl⟩) (by assumption) ?_
      try simp only [List.getElem_toArray]
      try simp only [List.getElem_cons_succ]
      try simp only [List.getElem_cons_zero]
      try simp only [Act.put]
      try simp only [List.setIfInBounds_toArray]
      try simp only [List.set_cons_succ]
      try simp only [List.set_cons_zero]
      refine wpAnyH_take (i := 6) (v := ?_) rfl (by kernel_rfl) (by kernel_rfl) (by kernel_rfl) (fun _ _ _ h => h) (Or.inl ⟨by kernel_rfl, fun W hSW => by go_simp; try with_reducible rfl⟩) (by assumption) ?_
      try simp only [List.getElem_toArray]
      try simp only [List.getElem_cons_succ]
      try simp only [List.getElem_cons_zero]
      try simp only [Act.put]
      try simp only [List.setIfInBounds_toArray]
      try simp only [List.set_cons_succ]
      try simp only [List.set_cons_zero]
      refine wpAnyH_take (i := 7) (v := ?_) rfl (by kernel_rfl) (by kernel_rfl) (by kernel_rfl) (fun _ _ _ h => h) (Or.inl ⟨by kernel_rfl, fun W hSW => by go_simp; try with_reducible rfl⟩) (by assumption) ?_
      try simp only [List.getElem_toArray]
      try simp only [List.getElem_cons_succ]
      try simp only [List.getElem_cons_zero]
      try simp only [Act.put]
      try simp only [List.setIfInBounds_toArray]
      try simp only [List.set_cons_succ]
      try simp only [List.set_cons_zero]
      refine wpAnyH_ready (rs := [8]) (by kernel_rfl) (by simp) ?_
      refine AllReadyH.cons rfl (fun K hK => ?_) AllReadyH.nil
      go_simp
      refine (HEC.out _ KW6.out.drew).mono ?_
      rintro e w7 ⟨u7, rfl, hu7, hk7⟩
      have hK7 : Kept (fun _ => False) w5 w7 := KW6.out.drew.trans hk7
      obtain ⟨v8, w8, hrun8, hown8, hk8⟩ := append_run hK7 (OwnT.kept HO6.out ((Kept.refl _ w6).drew.trans hk7)) hu7.tags HLN.out
      obtain ⟨p8, c8, rfl⟩ := slice_of hown8
      obtain ⟨p7, c7, rfl⟩ := slice_of hu7
      refine hK.out _ _ (hK7) (fun _ => ?_)
      clear hK K
      try simp only [List.getElem_toArray]
      try simp only [List.getElem_cons_succ]
      try simp only [List.getElem_cons_zero]
      try simp only [Act.put]
      try simp only [List.setIfInBounds_toArray]
      try simp only [List.set_cons_succ]
      try simp only [List.set_cons_zero]
      refine wpAnyH_ready (rs := [9]) (by kernel_rfl) (by simp) ?_
      refine AllReadyH.cons rfl (fun K hK => ?_) AllReadyH.nil
      refine step_append_run rfl (.tmp 75) (.tmp 77) 77 rfl (.slice p6 2 c6) _ rfl rfl (hrun8 _) ?_
      refine hK.out _ _ (hk8) (fun _ => ?_)
      clear hK K
      try simp only [List.getElem_toArray]
      try simp only [List.getElem_cons_succ]
      try simp only [List.getElem_cons_zero]
      try simp only [Act.put]
      try simp only [List.setIfInBounds_toArray]
      try simp only [List.set_cons_succ]
      try simp only [List.set_cons_zero]
      refine wpAnyH_ready (rs := [10]) (by kernel_rfl) (by simp) ?_
      refine AllReadyH.cons rfl (fun K hK => ?_) AllReadyH.nil
      go_simp
      refine (HSD.out _ _ hk8 (by rw [hgt'.out]; exact hown8.tags)).mono ?_
      rintro e w9 ⟨u9, rfl, hu9, hk9⟩
      have hK9 : Kept (fun _ => False) w5 w9 := hk8.trans hk9
      refine hK.out _ _ (hK9) (fun _ => ?_)
      clear hK K
      try simp only [List.getElem_toArray]
      try simp only [List.getElem_cons_succ]
      try simp only [List.getElem_cons_zero]
      try simp only [Act.put]
      try simp only [List.setIfInBounds_toArray]
      try simp only [List.set_cons_succ]
      try simp only [List.set_cons_zero]
      refine wpAnyH_take (i := 11) (v := ?_) rfl (by kernel_rfl) (by kernel_rfl) (by kernel_rfl) (fun _ _ _ h => h) (Or.inl ⟨by kernel_rfl, fun W hSW => by go_simp; try with_reducible rfl⟩) (by assumption) ?_
      try simp only [List.getElem_toArray]
      try simp only [List.getElem_cons_succ]
      try simp only [List.getElem_cons_zero]
      try simp only [Act.put]
      try simp only [List.setIfInBounds_toArray]
      try simp only [List.set_cons_succ]
      try simp only [List.set_cons_zero]
      refine wpAnyH_done (by kernel_rfl) ?_ _
      go_wp2
      go_ret
      refine ⟨u9, rfl, ?_, ?_⟩
      · exact hu9.mono (Nat.le_trans HW5.out hk8.size)
      · have hfin : CNext S w w5 b c' := CNext.back HN5.out K4.out
        exact CNext.still hfin hK9
  · have hnz : ((ses : Int) == 0) = false := by rw [beq_eq_false_iff_ne]; omega
    have hgt : grantTags sv ses why = [⟨257, sv⟩] := by unfold grantTags; rw [if_neg hses]; rfl
    have hgt' := hid hgt
    rw [hgt] at HLN
    clear hgt
    obtain ⟨w6, hw6⟩ : ∃ w6, w6 = w5.alloc (.cells #[.int .i64 257, .string sv] 53) := ⟨_, rfl⟩
    have Hw6 := hid hw6
    have KW6 : Hid (Kept (fun _ => False) w5 w6) := by rw [hw6]; exact KW5.out
    have HO6 : Hid (OwnT w6 w5.heap.size (.slice (some ⟨w5.heap.size, 0, none⟩) 1 1) [⟨257, sv⟩]) := by rw [hw6]; exact O5.out
    clear O5 KW5 hw6
    go_wp2
    rw [← Hw6.out]
    · skip
      refine wp_region_held_drew (S := Kept (fun _ => False) w5) (by kernel_rfl) (KW6.out.drew) (fun hSd => ?_)
      refine wpAnyH_take (i := 0) (v := ?_) rfl (by kernel_rfl) (by kernel_rfl) (by kernel_rfl) (fun _ _ _ h => h) (Or.inl ⟨by kernel_rfl, fun W hSW => by go_simp; try with_reducible rfl⟩) (by assumption) ?_
      try simp only [List.getElem_toArray]
      try simp only [List.getElem_cons_succ]
      try simp only [List.getElem_cons_zero]
      try simp only [Act.put]
      try simp only [List.setIfInBounds_toArray]
      try simp only [List.set_cons_succ]
      try simp only [List.set_cons_zero]
      refine wpAnyH_take (i := 1) (v := ?_) rfl (by kernel_rfl) (by kernel_rfl) (by kernel_rfl) (fun _ _ _ h => h) (Or.inl ⟨by kernel_rfl, fun W hSW => by go_simp; try with_reducible rfl⟩) (by assumption) ?_
      try simp only [List.getElem_toArray]
      try simp only [List.getElem_cons_succ]
      try simp only [List.getElem_cons_zero]
      try simp only [Act.put]
      try simp only [List.setIfInBounds_toArray]
      try simp only [List.set_cons_succ]
      try simp only [List.set_cons_zero]
      refine wpAnyH_take (i := 2) (v := ?_) rfl (by kernel_rfl) (by kernel_rfl) (by kernel_rfl) (fun _ _ _ h => h) (Or.inl ⟨by kernel_rfl, fun W hSW => by go_simp; try with_reducible rfl⟩) (by assumption) ?_
      try simp only [List.getElem_toArray]
      try simp only [List.getElem_cons_succ]
      try simp only [List.getElem_cons_zero]
      try simp only [Act.put]
      try simp only [List.setIfInBounds_toArray]
      try simp only [List.set_cons_succ]
      try simp only [List.set_cons_zero]
      refine wpAnyH_take (i := 3) (v := ?_) rfl (by kernel_rfl) (by kernel_rfl) (by kernel_rfl) (fun _ _ _ h => h) (Or.inl ⟨by kernel_rfl, fun W hSW => by go_simp; try with_reducible rfl⟩) (by assumption) ?_
      try simp only [List.getElem_toArray]
      try simp only [List.getElem_cons_succ]
      try simp only [List.getElem_cons_zero]
      try simp only [Act.put]
      try simp only [List.setIfInBounds_toArray]
      try simp only [List.set_cons_succ]
      try simp only [List.set_cons_zero]
      refine wpAnyH_take (i := 4) (v := ?_) rfl (by kernel_rfl) (by kernel_rfl) (by kernel_rfl) (fun _ _ _ h => h) (Or.inl ⟨by kernel_rfl, fun W hSW => by go_simp; try with_reducible rfl⟩) (by assumption) ?_
      try simp only [List.getElem_toArray]
      try simp only [List.getElem_cons_succ]
      try simp only [List.getElem_cons_zero]
      try simp only [Act.put]
      try simp only [List.setIfInBounds_toArray]
      try simp only [List.set_cons_succ]
      try simp only [List.set_cons_zero]
      refine wpAnyH_take (i := 5) (v := ?_) rfl (by kernel_rfl) (by kernel_rfl) (by kernel_rfl) (fun _ _ _ h => h) (Or.inl ⟨by kernel_rfl, fun W hSW => by go_simp; try with_reducible rfl⟩) (by assumption) ?_
      try simp only [List.getElem_toArray]
      try simp only [List.getElem_cons_succ]
      try simp only [List.getElem_cons_zero]
      try simp only [Act.put]
      try simp only [List.setIfInBounds_toArray]
      try simp only [List.set_cons_succ]
      try simp only [List.set_cons_zero]
      refine wpAnyH_take (i := 6) (v := ?_) rfl (by kernel_rfl) (by kernel_rfl) (by kernel_rfl) (fun _ _ _ h => h) (Or.inl ⟨by kernel_rfl, fun W hSW => by go_simp; try with_reducible rfl⟩) (by assumption) ?_
      try simp only [List.getElem_toArray]
      try simp only [List.getElem_cons_succ]
      try simp only [List.getElem_cons_zero]
      try simp only [Act.put]
      try simp only [List.setIfInBounds_toArray]
      try simp only [List.set_cons_succ]
      try simp only [List.set_cons_zero]
      refine wpAnyH_take (i := 7) (v := ?_) rfl (by kernel_rfl) (by kernel_rfl) (by kernel_rfl) (fun _ _ _ h => h) (Or.inl ⟨by kernel_rfl, fun W hSW => by go_simp; try with_reducible rfl⟩) (by assumption) ?_
      try simp only [List.getElem_toArray]
      try simp only [List.getElem_cons_succ]
      try simp only [List.getElem_cons_zero]
      try simp only [Act.put]
      try simp only [List.setIfInBounds_toArray]
      try simp only [List.set_cons_succ]
      try simp only [List.set_cons_zero]
      refine wpAnyH_ready (rs := [8]) (by kernel_rfl) (by simp) ?_
      refine AllReadyH.cons rfl (fun K hK => ?_) AllReadyH.nil
      go_simp
      refine (HEC.out _ KW6.out.drew).mono ?_
      rintro e w7 ⟨u7, rfl, hu7, hk7⟩
      have hK7 : Kept (fun _ => False) w5 w7 := KW6.out.drew.trans hk7
      obtain ⟨v8, w8, hrun8, hown8, hk8⟩ := append_run hK7 (OwnT.kept HO6.out ((Kept.refl _ w6).drew.trans hk7)) hu7.tags HLN.out
      obtain ⟨p8, c8, rfl⟩ := slice_of hown8
      obtain ⟨p7, c7, rfl⟩ := slice_of hu7
      refine hK.out _ _ (hK7) (fun _ => ?_)
      clear hK K
      try simp only [List.getElem_toArray]
      try simp only [List.getElem_cons_succ]
      try simp only [List.getElem_cons_zero]
      try simp only [Act.put]
      try simp only [List.setIfInBounds_toArray]
      try simp only [List.set_cons_succ]
      try simp only [List.set_cons_zero]
      refine wpAnyH_ready (rs := [9]) (by kernel_rfl) (by simp) ?_
      refine AllReadyH.cons rfl (fun K hK => ?_) AllReadyH.nil
      refine step_append_run rfl (.tmp 75) (.tmp 77) 77 rfl (.slice (some ⟨w5.heap.size, 0, none⟩) 1 1) _ rfl rfl (hrun8 _) ?_
      refine hK.out _ _ (hk8) (fun _ => ?_)
      clear hK K
      try simp only [List.getElem_toArray]
      try simp only [List.getElem_cons_succ]
      try simp only [List.getElem_cons_zero]
      try simp only [Act.put]
      try simp only [List.setIfInBounds_toArray]
      try simp only [List.set_cons_succ]
      try simp only [List.set_cons_zero]
      refine wpAnyH_ready (rs := [10]) (by kernel_rfl) (by simp) ?_
      refine AllReadyH.cons rfl (fun K hK => ?_) AllReadyH.nil
      go_simp
      refine (HSD.out _ _ hk8 (by rw [hgt'.out]; exact hown8.tags)).mono ?_
      rintro e w9 ⟨u9, rfl, hu9, hk9⟩
      have hK9 : Kept (fun _ => False) w5 w9 := hk8.trans hk9
      refine hK.out _ _ (hK9) (fun _ => ?_)
      clear hK K
      try simp only [List.getElem_toArray]
      try simp only [List.getElem_cons_succ]
      try simp only [List.getElem_cons_zero]
      try simp only [Act.put]
      try simp only [List.setIfInBounds_toArray]
      try simp only [List.set_cons_succ]
      try simp only [List.set_cons_zero]
      refine wpAnyH_take (i := 11) (v := ?_) rfl (by kernel_rfl) (by kernel_rfl) (by kernel_rfl) (fun _ _ _ h => h) (Or.inl ⟨by kernel_rfl, fun W hSW => by go_simp; try with_reducible rfl⟩) (by assumption) ?_
      try simp only [List.getElem_toArray]
      try simp only [List.getElem_cons_succ]
      try simp only [List.getElem_cons_zero]
      try simp only [Act.put]
      try simp only [List.setIfInBounds_toArray]
      try simp only [List.set_cons_succ]
      try simp only [List.set_cons_zero]
      refine wpAnyH_done (by kernel_rfl) ?_ _
      go_wp2
      go_ret
      refine ⟨u9, rfl, ?_, ?_⟩
      · exact hu9.mono (Nat.le_trans HW5.out hk8.size)
      · have hfin : CNext S w w5 b c' := CNext.back HN5.out K4.out
        exact CNext.still hfin hK9
end Go.Proofs.YtgaamehjdoakhaaDoor
