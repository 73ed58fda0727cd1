/- The contract of the concentrator's inner offer: the answer to a Padi. -/
import Derived.Test.YtgaamehjdoakhaaDoorAcGrant2
namespace Go.Proofs.YtgaamehjdoakhaaDoor
open Go.RowKit

set_option maxHeartbeats 2000000 in
set_option maxRecDepth 100000 in
theorem offer_no {S : Nat → Prop} (b : Nat) (c : Cs) (hg : Good c) (to : List UInt8) (hto : to.length = 6) (v : Value) (l : List Tg) (hl : Few l) (t : Int) (w : World) (hA : CAt S w b c) (hv : TagsAt w v l)
    (hno : (findF l 257).2 ≠ 1 ∨ servesF (findF l 257).1 = false) :
    Calls Tryd.prog 31 #[.pointer (some ⟨b, 0, none⟩), .agg (Lib.byteCells to).toArray, v, .int .i64 t] w fun e w' => e = .returned (.slice none 0 0) ∧ Kept (fun _ => False) w w' := by
  obtain ⟨mb, gv, hC, hS⟩ := id hA
  obtain ⟨x0, x1, x2, x3, x4, x5, hx⟩ := six_cells hg.mac
  obtain ⟨y0, y1, y2, y3, y4, y5, hy⟩ := six_cells hto
  have HF := hid (fun W (hk : Kept (fun _ => False) w W) => find_any v l 257 W (hv.kept0 hk) (by have := hl.1; omega) hl.size)
  have hs1 := hl.find 257
  have HSV := hid (fun W (hk : Kept (fun _ => False) w W) => serves_any b (findF l 257).1 W ((hC.kept0 hk).cells hx).c7)
  rw [hy]
  generalize (findF l 257).1 = sv at *
  generalize (findF l 257).2 = n1 at *
  generalize servesF sv = q at *
  have K0 := hid ((Kept.refl (fun _ => False) w).alloc (.cells #[.int .u8 y0, .int .u8 y1, .int .u8 y2, .int .u8 y3, .int .u8 y4, .int .u8 y5] 23))
  clear hC hA hS hv hl hs1
  by_cases h1 : n1 = 1
  · subst h1
    have hq : q = false := by
      rcases hno with h | h
      · exact absurd rfl h
      · exact h
    subst hq
    go_enter Tryd.func31, Tryd.ntmps31
    go_wp2_with fail
    refine (HF.out _ K0.out).mono ?_
    rintro e w1 ⟨rfl, hk1⟩
    have K1 := hid (K0.out.trans hk1)
    go_wp2_with fail
    refine (HSV.out _ K1.out).mono ?_
    rintro e w2 ⟨rfl, rfl⟩
    go_wp2
    go_ret
    exact ⟨rfl, K1.out⟩
  · have hn1 : ((n1 : Int) != 1) = true := by simp; omega
    go_enter Tryd.func31, Tryd.ntmps31
    go_wp2_with fail
    refine (HF.out _ K0.out).mono ?_
    rintro e w1 ⟨rfl, hk1⟩
    have K1 := hid (K0.out.trans hk1)
    go_wp2
    go_ret
    exact ⟨rfl, K1.out⟩

theorem own_two (w : World) (base : Nat) (hb : base ≤ w.heap.size) (t : Int) (v : ByteArray) (t' : Int) (v' : ByteArray) : OwnT (w.alloc (.cells #[.int .i64 t, .string v, .int .i64 t', .string v'] 53)) base (.slice (some ⟨w.heap.size, 0, none⟩) 2 2) [⟨t, v⟩, ⟨t', v'⟩] :=
  ⟨rfl, Or.inr ⟨w.heap.size, 2, #[.int .i64 t, .string v, .int .i64 t', .string v'], rfl, hb, heap_alloc_new w _, Nat.le_refl _, by unfold maxLen; omega, rfl, rfl⟩⟩

set_option maxHeartbeats 4000000 in
set_option maxRecDepth 100000 in
theorem offer_yes {S : Nat → Prop} (b : Nat) (c : Cs) (hg : Good c) (to : List UInt8) (hto : to.length = 6) (v : Value) (l : List Tg) (hl : Few l) (t : Int) (w : World) (hT : Tables w) (hA : CAt S w b c) (hv : TagsAt w v l)
    (h1 : (findF l 257).2 = 1) (h2 : servesF (findF l 257).1 = true) :
    Calls Tryd.prog 31 #[.pointer (some ⟨b, 0, none⟩), .agg (Lib.byteCells to).toArray, v, .int .i64 t] w fun e w' => ∃ u, e = .returned u ∧
      OwnE w' w.heap.size u (sendF c to 7 0 (([⟨258, c.name⟩, ⟨257, (findF l 257).1⟩] ++ [⟨260, ⟨(makeB c.secret to (findF l 257).1 t).toArray⟩⟩]) ++ echoF l)) ∧ Kept (fun _ => False) w w' := by
  obtain ⟨mb, gv, hC, hS⟩ := id hA
  obtain ⟨x0, x1, x2, x3, x4, x5, hx⟩ := six_cells hg.mac
  obtain ⟨y0, y1, y2, y3, y4, y5, hy⟩ := six_cells hto
  have HF := hid (fun W (hk : Kept (fun _ => False) w W) => find_any v l 257 W (hv.kept0 hk) (by have := hl.1; omega) hl.size)
  have hs1 := hl.find 257
  have HSV := hid (fun W (hk : Kept (fun _ => False) w W) => serves_any b (findF l 257).1 W ((hC.kept0 hk).cells hx).c7)
  have HMK := hid (fun W (hk : Kept (fun _ => False) w W) => make_any c.secret (findF l 257).1 to hto t (by have := hg.secret; omega) (by omega) W (hT.kept hk))
  change Hid (∀ W, Kept (fun _ => False) w W → Calls Tryd.prog 17 _ W fun r w' => r = .returned (.string ⟨(makeB c.secret to (findF l 257).1 t).toArray⟩) ∧ Below W.heap.size W w') at HMK
  have hmkl : (makeB c.secret to (findF l 257).1 t).length = 16 := bakeF_length _ _ _ _
  have HSD0 := hid (fun (v8 : Value) (l8 : List Tg) W (hk : Kept (fun _ => False) w W) (hsz : ∀ x ∈ l8, x.value.size ≤ 140737488351232) (h8 : TagsAt W v8 l8) => send_any b c hg to hto 7 0 v8 l8 W h8 hsz (hA.kept0 hk))
  have HEC := hid (fun W (hk : Kept (fun _ => False) w W) => echo_any v l W (hv.kept0 hk) (by have := hl.1; omega) hl.size)
  have HC := hid (fun W (hk : Kept (fun _ => False) w W) => (hC.kept0 hk).cells hx)
  have hef := echo_few hl
  have hnm := hg.name
  rw [hy] at HMK HSD0 ⊢
  rw [hx] at HSD0
  rw [h2] at HSV
  rw [h1] at HF
  have hemp : (findF l 257).1.toList = [] := by simpa [servesF] using h2
  generalize (findF l 257).1 = sv at *
  obtain ⟨mk, hmk⟩ : ∃ mk : ByteArray, mk = ⟨(makeB c.secret to sv t).toArray⟩ := ⟨_, rfl⟩
  have hmks : mk.size ≤ 1000 := by rw [hmk, Lib.size_eq]; show (makeB c.secret to sv t).length ≤ _; rw [hmkl]; decide
  rw [← hmk] at HMK ⊢
  clear hmk hmkl
  have HSD := hid (fun v8 W (h : Kept (fun _ => False) w W) (hv8 : TagsAt W v8 (([(⟨258, c.name⟩ : Tg), ⟨257, sv⟩] ++ [⟨260, mk⟩]) ++ echoF l)) => HSD0.out v8 _ W h (fun x hx => by
    simp only [List.mem_append, List.mem_cons, List.not_mem_nil, or_false] at hx
    rcases hx with ((rfl | rfl) | rfl) | hx
    · show c.name.size ≤ _; omega
    · show sv.size ≤ _; omega
    · show mk.size ≤ _; omega
    · exact Nat.le_trans (hef.2 x hx) (by decide)) hv8)
  have HLN : Hid ((([(⟨258, c.name⟩ : Tg), ⟨257, sv⟩] ++ [(⟨260, mk⟩ : Tg)]) : List Tg).length + (echoF l).length ≤ 1000000) := by have := hef.1; show 3 + _ ≤ _; omega
  have K0 := hid ((Kept.refl (fun _ => False) w).alloc (.cells #[.int .u8 y0, .int .u8 y1, .int .u8 y2, .int .u8 y3, .int .u8 y4, .int .u8 y5] 23))
  have B0 := hid (box6_new w 23 (.int .u8 y0) (.int .u8 y1) (.int .u8 y2) (.int .u8 y3) (.int .u8 y4) (.int .u8 y5))
  clear hC hA hS hv hl hs1 hT HSD0 hg hmks hef hnm
  go_enter Tryd.func31, Tryd.ntmps31
  go_wp2_with fail
  refine (HF.out _ K0.out).mono ?_
  rintro e w1 ⟨rfl, hk1⟩
  have K1 := hid (K0.out.trans hk1)
  have B1 := hid (B0.out.kept hk1)
  clear hk1 K0 B0
  go_wp2_with fail
  refine (HSV.out _ K1.out).mono ?_
  rintro e w2 ⟨rfl, rfl⟩
  have c6 := (HC.out w2 K1.out).c6
  obtain ⟨w3, hw3⟩ : ∃ w3, w3 = w2.alloc (.cells #[.int .i64 258, .string c.name, .int .i64 257, .string sv] 53) := ⟨_, rfl⟩
  have Hw3 := hid hw3
  have K3 : Hid (Kept (fun _ => False) w w3) := by rw [hw3]; exact K1.out.alloc _
  have B3 : Hid (Box6 w3 w.heap.size (.int .u8 y0) (.int .u8 y1) (.int .u8 y2) (.int .u8 y3) (.int .u8 y4) (.int .u8 y5)) := by rw [hw3]; exact B1.out.alloc _
  have O3 : Hid (OwnT w3 w2.heap.size (.slice (some ⟨w2.heap.size, 0, none⟩) 2 2) [⟨258, c.name⟩, ⟨257, sv⟩]) := by rw [hw3]; exact own_two w2 _ (Nat.le_refl _) _ _ _ _
  have k23 : Hid (Kept (fun _ => False) w2 w3) := by rw [hw3]; exact (Kept.refl _ w2).alloc _
  have c7 := (HC.out w3 K3.out).c7
  rw [hw3] at c7
  clear hw3
  go_wp2
  refine wp_loop_rounds 1 ?_
  rw [rounds_succ]
  go_wp2
  rw [← Hw3.out]
  clear c6 c7
  have q8 : ∀ W, Kept (fun _ => False) w2 W → W.cell? ⟨b, 8, none⟩ = some (.string c.secret) := fun W h => (HC.out W (K1.out.trans h)).c8
  have r0 : ∀ W, Kept (fun _ => False) w2 W → W.cell? ⟨w.heap.size, 0, none⟩ = some (.int .u8 y0) := fun W h => (B1.out.kept h).c0
  have r1 : ∀ W, Kept (fun _ => False) w2 W → W.cell? ⟨w.heap.size, 1, none⟩ = some (.int .u8 y1) := fun W h => (B1.out.kept h).c1
  have r2 : ∀ W, Kept (fun _ => False) w2 W → W.cell? ⟨w.heap.size, 2, none⟩ = some (.int .u8 y2) := fun W h => (B1.out.kept h).c2
  have r3 : ∀ W, Kept (fun _ => False) w2 W → W.cell? ⟨w.heap.size, 3, none⟩ = some (.int .u8 y3) := fun W h => (B1.out.kept h).c3
  have r4 : ∀ W, Kept (fun _ => False) w2 W → W.cell? ⟨w.heap.size, 4, none⟩ = some (.int .u8 y4) := fun W h => (B1.out.kept h).c4
  have r5 : ∀ W, Kept (fun _ => False) w2 W → W.cell? ⟨w.heap.size, 5, none⟩ = some (.int .u8 y5) := fun W h => (B1.out.kept h).c5
  have m0 : ∀ W, Kept (fun _ => False) w2 W → W.cell? ⟨b, 0, none⟩ = some (.int .u8 x0) := fun W h => (HC.out W (K1.out.trans h)).c0
  have m1 : ∀ W, Kept (fun _ => False) w2 W → W.cell? ⟨b, 1, none⟩ = some (.int .u8 x1) := fun W h => (HC.out W (K1.out.trans h)).c1
  have m2 : ∀ W, Kept (fun _ => False) w2 W → W.cell? ⟨b, 2, none⟩ = some (.int .u8 x2) := fun W h => (HC.out W (K1.out.trans h)).c2
  have m3 : ∀ W, Kept (fun _ => False) w2 W → W.cell? ⟨b, 3, none⟩ = some (.int .u8 x3) := fun W h => (HC.out W (K1.out.trans h)).c3
  have m4 : ∀ W, Kept (fun _ => False) w2 W → W.cell? ⟨b, 4, none⟩ = some (.int .u8 x4) := fun W h => (HC.out W (K1.out.trans h)).c4
  have m5 : ∀ W, Kept (fun _ => False) w2 W → W.cell? ⟨b, 5, none⟩ = some (.int .u8 x5) := fun W h => (HC.out W (K1.out.trans h)).c5
  refine wp_region_held_drew (S := Kept (fun _ => False) w2) (by kernel_rfl) (k23.out.drew) (fun hSd => ?_)
  refine wpAnyH_take (i := 0) (v := ?_) rfl (by kernel_rfl) (by kernel_rfl) (by kernel_rfl) (fun _ _ _ h => h) (Or.inl ⟨by kernel_rfl, fun W hSW => by go_simp; try with_reducible rfl⟩) (by assumption) ?_
  try simp only [List.getElem_toArray]
  try simp only [List.getElem_cons_succ]
  try simp only [List.getElem_cons_zero]
  try simp only [Act.put]
  try simp only [List.setIfInBounds_toArray]
  try simp only [List.set_cons_succ]
  try simp only [List.set_cons_zero]
  refine wpAnyH_take (i := 1) (v := ?_) rfl (by kernel_rfl) (by kernel_rfl) (by kernel_rfl) (fun _ _ _ h => h) (Or.inl ⟨by kernel_rfl, fun W hSW => by go_simp; try with_reducible rfl⟩) (by assumption) ?_
  try simp only [List.getElem_toArray]
  try simp only [List.getElem_cons_succ]
  try simp only [List.getElem_cons_zero]
  try simp only [Act.put]
  try simp only [List.setIfInBounds_toArray]
  try simp only [List.set_cons_succ]
  try simp only [List.set_cons_zero]
  refine wpAnyH_take (i := 2) (v := ?_) rfl (by kernel_rfl) (by kernel_rfl) (by kernel_rfl) (fun _ _ _ h => h) (Or.inl ⟨by kernel_rfl, fun W hSW => by go_simp; try with_reducible rfl⟩) (by assumption) ?_
  try simp only [List.getElem_toArray]
  try simp only [List.getElem_cons_succ]
  try simp only [List.getElem_cons_zero]
  try simp only [Act.put]
  try simp only [List.setIfInBounds_toArray]
  try simp only [List.set_cons_succ]
  try simp only [List.set_cons_zero]
  refine wpAnyH_take (i := 3) (v := ?_) rfl (by kernel_rfl) (by kernel_rfl) (by kernel_rfl) (fun _ _ _ h => h) (Or.inl ⟨by kernel_rfl, fun W hSW => by go_simp; try with_reducible rfl⟩) (by assumption) ?_
  try simp only [List.getElem_toArray]
  try simp only [List.getElem_cons_succ]
  try simp only [List.getElem_cons_zero]
  try simp only [Act.put]
  try simp only [List.setIfInBounds_toArray]
  try simp only [List.set_cons_succ]
  try simp only [List.set_cons_zero]
  refine wpAnyH_take (i := 4) (v := ?_) rfl (by kernel_rfl) (by kernel_rfl) (by kernel_rfl) (fun _ _ _ h => h) (Or.inl ⟨by kernel_rfl, fun W hSW => by go_simp; try with_reducible rfl⟩) (by assumption) ?_
  try simp only [List.getElem_toArray]
  try simp only [List.getElem_cons_succ]
  try simp only [List.getElem_cons_zero]
  try simp only [Act.put]
  try simp only [List.setIfInBounds_toArray]
  try simp only [List.set_cons_succ]
  try simp only [List.set_cons_zero]
  refine wpAnyH_take (i := 5) (v := ?_) rfl (by kernel_rfl) (by kernel_rfl) (by kernel_rfl) (fun _ _ _ h => h) (Or.inl ⟨by kernel_rfl, fun W hSW => by go_simp; try with_reducible rfl⟩) (by assumption) ?_
  try simp only [List.getElem_toArray]
  try simp only [List.getElem_cons_succ]
  try simp only [List.getElem_cons_zero]
  try simp only [Act.put]
  try simp only [List.setIfInBounds_toArray]
  try simp only [List.set_cons_succ]
  try simp only [List.set_cons_zero]
  refine wpAnyH_take (i := 6) (v := ?_) rfl (by kernel_rfl) (by kernel_rfl) (by kernel_rfl) (fun _ _ _ h => h) (Or.inl ⟨by kernel_rfl, fun W hSW => by go_simp; try with_reducible rfl⟩) (by assumption) ?_
  try simp only [List.getElem_toArray]
  try simp only [List.getElem_cons_succ]
  try simp only [List.getElem_cons_zero]
  try simp only [Act.put]
  try simp only [List.setIfInBounds_toArray]
  try simp only [List.set_cons_succ]
  try simp only [List.set_cons_zero]
  refine wpAnyH_take (i := 7) (v := ?_) rfl (by kernel_rfl) (by kernel_rfl) (by kernel_rfl) (fun _ _ _ h => h) (Or.inl ⟨by kernel_rfl, fun W hSW => by go_simp; try with_reducible rfl⟩) (by assumption) ?_
  try simp only [List.getElem_toArray]
  try simp only [List.getElem_cons_succ]
  try simp only [List.getElem_cons_zero]
  try simp only [Act.put]
  try simp only [List.setIfInBounds_toArray]
  try simp only [List.set_cons_succ]
  try simp only [List.set_cons_zero]
  refine wpAnyH_ready (rs := [8]) (by kernel_rfl) (by simp) ?_
  refine AllReadyH.cons rfl (fun K hK => ?_) AllReadyH.nil
  go_simp
  refine (HMK.out _ K3.out.drew).mono ?_
  rintro e w4 ⟨rfl, hb4⟩
  have hk4 : Kept (fun _ => False) w2 w4 := k23.out.drew.trans (kept_of hb4)
  have O4 := OwnT.kept O3.out ((Kept.refl _ w3).drew.trans (kept_of hb4))
  refine hK.out _ _ (hk4) (fun _ => ?_)
  clear hK K
  try simp only [List.getElem_toArray]
  try simp only [List.getElem_cons_succ]
  try simp only [List.getElem_cons_zero]
  try simp only [Act.put]
  try simp only [List.setIfInBounds_toArray]
  try simp only [List.set_cons_succ]
  try simp only [List.set_cons_zero]
  refine wpAnyH_take (i := 9) (v := ?_) rfl (by kernel_rfl) (by kernel_rfl) (by kernel_rfl) (fun _ _ _ h => h) (Or.inl ⟨by kernel_rfl, fun W hSW => by go_simp; try with_reducible rfl⟩) (by assumption) ?_
  try simp only [List.getElem_toArray]
  try simp only [List.getElem_cons_succ]
  try simp only [List.getElem_cons_zero]
  try simp only [Act.put]
  try simp only [List.setIfInBounds_toArray]
  try simp only [List.set_cons_succ]
  try simp only [List.set_cons_zero]
  refine wpAnyH_ready (rs := [10]) (by kernel_rfl) (by simp) ?_
  refine AllReadyH.cons rfl (fun K hK => ?_) AllReadyH.nil
  go_simp
  refine hK.out _ _ (hk4.alloc _) (fun _ => ?_)
  clear hK K
  try simp only [List.getElem_toArray]
  try simp only [List.getElem_cons_succ]
  try simp only [List.getElem_cons_zero]
  try simp only [Act.put]
  try simp only [List.setIfInBounds_toArray]
  try simp only [List.set_cons_succ]
  try simp only [List.set_cons_zero]
  refine wpAnyH_ready (rs := [11]) (by kernel_rfl) (by simp) ?_
  refine AllReadyH.cons rfl (fun K hK => ?_) AllReadyH.nil
  obtain ⟨v5, w5, hrun5, hown5, hk5⟩ := append_run (u := .slice (some ⟨w4.heap.size, 0, none⟩) 1 1) (b := [⟨260, mk⟩]) (hk4.alloc (.cells #[.int .i64 260, .string mk] 53)) (OwnT.kept O4 ((Kept.refl _ w4).alloc _)) (own_one w4 0 (Nat.zero_le _) 260 mk).tags (by show (2 : Nat) + 1 ≤ 1000000; omega)
  obtain ⟨p5, c5, hv5⟩ := slice_of hown5
  obtain rfl : v5 = .slice p5 3 c5 := hv5
  refine step_append_run rfl (.tmp 52) (.tmp 62) 77 rfl (.slice (some ⟨w2.heap.size, 0, none⟩) 2 2) (.slice (some ⟨w4.heap.size, 0, none⟩) 1 1) rfl rfl (hrun5 _) ?_
  refine hK.out _ _ (hk5) (fun _ => ?_)
  clear hK K
  try simp only [List.getElem_toArray]
  try simp only [List.getElem_cons_succ]
  try simp only [List.getElem_cons_zero]
  try simp only [Act.put]
  try simp only [List.setIfInBounds_toArray]
  try simp only [List.set_cons_succ]
  try simp only [List.set_cons_zero]
  refine wpAnyH_take (i := 12) (v := ?_) rfl (by kernel_rfl) (by kernel_rfl) (by kernel_rfl) (fun _ _ _ h => h) (Or.inl ⟨by kernel_rfl, fun W hSW => by go_simp; try with_reducible rfl⟩) (by assumption) ?_
  try simp only [List.getElem_toArray]
  try simp only [List.getElem_cons_succ]
  try simp only [List.getElem_cons_zero]
  try simp only [Act.put]
  try simp only [List.setIfInBounds_toArray]
  try simp only [List.set_cons_succ]
  try simp only [List.set_cons_zero]
  refine wpAnyH_done (by kernel_rfl) ?_ _
  have K5 := hid (K1.out.trans hk5)
  have HO5 := hid hown5
  have hK5 := hid hk5
  clear hrun5 hown5 hk5 hk4 O4 hb4
  go_wp2
  refine wp_region_held_drew (S := Kept (fun _ => False) w2) (by kernel_rfl) (hK5.out.drew) (fun hSd => ?_)
  refine wpAnyH_take (i := 0) (v := ?_) rfl (by kernel_rfl) (by kernel_rfl) (by kernel_rfl) (fun _ _ _ h => h) (Or.inl ⟨by kernel_rfl, fun W hSW => by go_simp; try with_reducible rfl⟩) (by assumption) ?_
  try simp only [List.getElem_toArray]
  try simp only [List.getElem_cons_succ]
  try simp only [List.getElem_cons_zero]
  try simp only [Act.put]
  try simp only [List.setIfInBounds_toArray]
  try simp only [List.set_cons_succ]
  try simp only [List.set_cons_zero]
  refine wpAnyH_take (i := 1) (v := ?_) rfl (by kernel_rfl) (by kernel_rfl) (by kernel_rfl) (fun _ _ _ h => h) (Or.inl ⟨by kernel_rfl, fun W hSW => by go_simp; try with_reducible rfl⟩) (by assumption) ?_
  try simp only [List.getElem_toArray]
  try simp only [List.getElem_cons_succ]
  try simp only [List.getElem_cons_zero]
  try simp only [Act.put]
  try simp only [List.setIfInBounds_toArray]
  try simp only [List.set_cons_succ]
  try simp only [List.set_cons_zero]
  refine wpAnyH_take (i := 2) (v := ?_) rfl (by kernel_rfl) (by kernel_rfl) (by kernel_rfl) (fun _ _ _ h => h) (Or.inl ⟨by kernel_rfl, fun W hSW => by go_simp; try with_reducible rfl⟩) (by assumption) ?_
  try simp only [List.getElem_toArray]
  try simp only [List.getElem_cons_succ]
  try simp only [List.getElem_cons_zero]
  try simp only [Act.put]
  try simp only [List.setIfInBounds_toArray]
  try simp only [List.set_cons_succ]
  try simp only [List.set_cons_zero]
  refine wpAnyH_take (i := 3) (v := ?_) rfl (by kernel_rfl) (by kernel_rfl) (by kernel_rfl) (fun _ _ _ h => h) (Or.inl ⟨by kernel_rfl, fun W hSW => by go_simp; try with_reducible rfl⟩) (by assumption) ?_
  try simp only [List.getElem_toArray]
  try simp only [List.getElem_cons_succ]
  try simp only [List.getElem_cons_zero]
  try simp only [Act.put]
  try simp only [List.setIfInBounds_toArray]
  try simp only [List.set_cons_succ]
  try simp only [List.set_cons_zero]
  refine wpAnyH_take (i := 4) (v := ?_) rfl (by kernel_rfl) (by kernel_rfl) (by kernel_rfl) (fun _ _ _ h => h) (Or.inl ⟨by kernel_rfl, fun W hSW => by go_simp; try with_reducible rfl⟩) (by assumption) ?_
  try simp only [List.getElem_toArray]
  try simp only [List.getElem_cons_succ]
  try simp only [List.getElem_cons_zero]
  try simp only [Act.put]
  try simp only [List.setIfInBounds_toArray]
  try simp only [List.set_cons_succ]
  try simp only [List.set_cons_zero]
  refine wpAnyH_take (i := 5) (v := ?_) rfl (by kernel_rfl) (by kernel_rfl) (by kernel_rfl) (fun _ _ _ h => h) (Or.inl ⟨by kernel_rfl, fun W hSW => by go_simp; try with_reducible rfl⟩) (by assumption) ?_
  try simp only [List.getElem_toArray]
  try simp only [List.getElem_cons_succ]
  try simp only [List.getElem_cons_zero]
  try simp only [Act.put]
  try simp only [List.setIfInBounds_toArray]
  try simp only [List.set_cons_succ]
  try simp only [List.set_cons_zero]
  refine wpAnyH_take (i := 6) (v := ?_) rfl (by kernel_rfl) (by kernel_rfl) (by kernel_rfl) (fun _ _ _ h => h) (Or.inl ⟨by kernel_rfl, fun W hSW => by go_simp; try with_reducible rfl⟩) (by assumption) ?_
  try simp only [List.getElem_toArray]
  try simp only [List.getElem_cons_succ]
  try simp only [List.getElem_cons_zero]
  try simp only [Act.put]
  try simp only [List.setIfInBounds_toArray]
  try simp only [List.set_cons_succ]
  try simp only [List.set_cons_zero]
  refine wpAnyH_ready (rs := [7]) (by kernel_rfl) (by simp) ?_
  refine AllReadyH.cons rfl (fun K hK => ?_) AllReadyH.nil
  go_simp
  refine (HEC.out _ K5.out.drew).mono ?_
  rintro e w7 ⟨u7, rfl, hu7, hk7⟩
  have hK7 : Kept (fun _ => False) w2 w7 := hK5.out.drew.trans hk7
  obtain ⟨v8, w8, hrun8, hown8, hk8⟩ := append_run hK7 (OwnT.kept HO5.out ((Kept.refl _ w5).drew.trans hk7)) hu7.tags HLN.out
  obtain ⟨p8, c8, rfl⟩ := slice_of hown8
  obtain ⟨p7, c7, rfl⟩ := slice_of hu7
  refine hK.out _ _ (hK7) (fun _ => ?_)
  clear hK K
  try simp only [List.getElem_toArray]
  try simp only [List.getElem_cons_succ]
  try simp only [List.getElem_cons_zero]
  try simp only [Act.put]
  try simp only [List.setIfInBounds_toArray]
  try simp only [List.set_cons_succ]
  try simp only [List.set_cons_zero]
  refine wpAnyH_ready (rs := [8]) (by kernel_rfl) (by simp) ?_
  refine AllReadyH.cons rfl (fun K hK => ?_) AllReadyH.nil
  refine step_append_run rfl (.tmp 69) (.tmp 71) 77 rfl (.slice p5 3 c5) _ rfl rfl (hrun8 _) ?_
  refine hK.out _ _ (hk8) (fun _ => ?_)
  clear hK K
  try simp only [List.getElem_toArray]
  try simp only [List.getElem_cons_succ]
  try simp only [List.getElem_cons_zero]
  try simp only [Act.put]
  try simp only [List.setIfInBounds_toArray]
  try simp only [List.set_cons_succ]
  try simp only [List.set_cons_zero]
  refine wpAnyH_ready (rs := [9]) (by kernel_rfl) (by simp) ?_
  refine AllReadyH.cons rfl (fun K hK => ?_) AllReadyH.nil
  go_simp
  refine (HSD.out _ _ (K1.out.trans hk8) hown8.tags).mono ?_
  rintro e w9 ⟨u9, rfl, hu9, hk9⟩
  have hK9 : Kept (fun _ => False) w2 w9 := hk8.trans hk9
  refine hK.out _ _ (hK9) (fun _ => ?_)
  clear hK K
  try simp only [List.getElem_toArray]
  try simp only [List.getElem_cons_succ]
  try simp only [List.getElem_cons_zero]
  try simp only [Act.put]
  try simp only [List.setIfInBounds_toArray]
  try simp only [List.set_cons_succ]
  try simp only [List.set_cons_zero]
  refine wpAnyH_take (i := 10) (v := ?_) rfl (by kernel_rfl) (by kernel_rfl) (by kernel_rfl) (fun _ _ _ h => h) (Or.inl ⟨by kernel_rfl, fun W hSW => by go_simp; try with_reducible rfl⟩) (by assumption) ?_
  try simp only [List.getElem_toArray]
  try simp only [List.getElem_cons_succ]
  try simp only [List.getElem_cons_zero]
  try simp only [Act.put]
  try simp only [List.setIfInBounds_toArray]
  try simp only [List.set_cons_succ]
  try simp only [List.set_cons_zero]
  refine wpAnyH_done (by kernel_rfl) ?_ _
  go_wp2
  go_ret
  refine ⟨u9, rfl, ?_, ?_⟩
  · exact hu9.mono (K1.out.trans hk8).size
  · exact K1.out.trans hK9
end Go.Proofs.YtgaamehjdoakhaaDoor
