/- The contract of alive, of the laws of chapter 14; where digest's two tables hold what the program's text lays. -/
import Derived.Test.YtndpfcanfcbldaaDoorCaDuo
namespace Go.Proofs.YtndpfcanfcbldaaDoor
open Go.RowKit

/-- A claim in a block of its own. -/
theorem claim_cells (W : World) (n v r : ByteArray) (i : Int) : Box4 (W.alloc (.cells #[.string n, .string v, .string r, .int .i64 i] 42)) W.heap.size (.string n) (.string v) (.string r) (.int .i64 i) := box4_new W _ _ _ _ _

set_option maxHeartbeats 2000000 in
set_option maxRecDepth 100000 in
theorem aliveH_any (w : World) (hT : Tables w) : Calls Tryd.prog 7 #[] w fun e w' => e = .returned (.bool true) ∧ Kept (fun _ => False) w w' := by
  have HT := hid hT
  have C1 := hid (psNew_ok ⟨#[115, 114, 118]⟩ (by decide) 2 3 (by decide) (by decide) w)
  have C2 := hid (lcNew_ok ⟨#[109, 101]⟩ ⟨#[107, 101, 121]⟩ (by decide) (by decide))
  have C3 := hid (fun W bs bc c (h : Duo w W bs bc (newP ⟨#[115, 114, 118]⟩ 2 3) c) => duo_start (v := ⟨#[99, 104, 97, 108, 108, 101, 110, 103, 101]⟩) h (by decide) (by decide) (by decide) (by decide))
  have C4 := hid (fun W bs bc p (h : Duo w W bs bc p (newCr ⟨#[109, 101]⟩ ⟨#[107, 101, 121]⟩)) => duo_answer (srv := ⟨#[115, 114, 118]⟩) (v := ⟨#[99, 104, 97, 108, 108, 101, 110, 103, 101]⟩) hT h (by decide) (by decide) (by decide) (by decide) (by decide))
  have C5 := hid (fun W bs bc c (h : Duo w W bs bc (sv1 ⟨#[115, 114, 118]⟩ ⟨#[99, 104, 97, 108, 108, 101, 110, 103, 101]⟩ 2 3) c) => duo_claim (n := ⟨#[109, 101]⟩) (s := ⟨#[107, 101, 121]⟩) h (by decide))
  have C6 := hid (fun W bs bc c (h : Duo w W bs bc (sv2 ⟨#[115, 114, 118]⟩ ⟨#[99, 104, 97, 108, 108, 101, 110, 103, 101]⟩ 2 3) c) => duo_judge (good := true) h)
  have C7 := hid (fun W bs bc p (h : Duo w W bs bc p (cl1 ⟨#[109, 101]⟩ ⟨#[107, 101, 121]⟩)) => duo_told (good := true) hT h (by decide) (by decide))
  have C8 := hid (fun W (hTW : Tables W) => chapK_any 1 ⟨#[107, 101, 121]⟩ ⟨#[99, 104, 97, 108, 108, 101, 110, 103, 101]⟩ (by decide) (by decide) W hTW)
  rw [show codeOf true = 3 from rfl] at C6 C7
  generalize chapK 1 ⟨#[107, 101, 121]⟩ ⟨#[99, 104, 97, 108, 108, 101, 110, 103, 101]⟩ = RR at *
  generalize layF RR ++ ⟨#[109, 101]⟩ = D2 at *
  generalize layF ⟨#[99, 104, 97, 108, 108, 101, 110, 103, 101]⟩ ++ ⟨#[115, 114, 118]⟩ = D1 at *
  clear hT
  go_enter Tryd.func7, Tryd.ntmps7
  go_wp2_with fail
  refine C1.out.mono ?_
  rintro e w1 ⟨bs, hbs, rfl, hs1, hk1⟩
  have HS1 := hid hs1
  have HK1 := hid hk1
  clear hs1 hk1 C1
  go_wp2_with fail
  refine (C2.out _).mono ?_
  rintro e w2 ⟨bc, hbc, rfl, hc2, hk2⟩
  have D : Hid (Duo w w2 bs bc (newP ⟨#[115, 114, 118]⟩ 2 3) (newCr ⟨#[109, 101]⟩ ⟨#[107, 101, 121]⟩)) := ⟨HS1.out.kept0 hk2, hc2, hbs, Nat.le_trans HK1.out.size hbc, below_of (HK1.out.trans hk2)⟩
  clear hc2 hk2 C2 HS1 HK1 hbs hbc
  go_wp2_with fail
  refine (C3.out _ _ _ _ D.out).mono ?_
  rintro e w3 ⟨g3, k3, rfl, hk3a, hk3b, D3⟩
  clear C3 D
  obtain ⟨d0, d1, d2, d3⟩ := D3.out.2.box
  simp only at d0 d1 d3
  go_wp2_with fail
  refine (C4.out _ _ _ _ D3.out.1).mono ?_
  rintro e w4 ⟨g4, k4, rfl, hk4a, hk4b, D4⟩
  clear C4 D3 d0 d1 d2 d3
  obtain ⟨d0, d1, d2, d3⟩ := D4.out.2.1.box
  simp only at d0 d1 d3
  go_wp2_with fail
  refine (C5.out _ _ _ _ D4.out.1).mono ?_
  rintro e w5 ⟨rfl, D5⟩
  clear C5 D4 d0 d1 d2 d3
  have B5 := hid (claim_cells w5 ⟨#[109, 101]⟩ ⟨#[99, 104, 97, 108, 108, 101, 110, 103, 101]⟩ RR 1)
  have D5' := hid (D5.out.1.kept0 ((Kept.refl (fun _ => False) w5).alloc (.cells #[.string ⟨#[109, 101]⟩, .string ⟨#[99, 104, 97, 108, 108, 101, 110, 103, 101]⟩, .string RR, .int .i64 1] 42)))
  have hn1 : Hid (w5.heap.size ≠ bs) := fun e => by have := D5.out.1.sv.lt; omega
  have hn2 : Hid (w5.heap.size ≠ bc) := fun e => by have := D5.out.1.cl.lt; omega
  clear D5
  go_upto_region 12 with fail
  generalize hW5 : w5.alloc (.cells #[.string ⟨#[109, 101]⟩, .string ⟨#[99, 104, 97, 108, 108, 101, 110, 103, 101]⟩, .string RR, .int .i64 1] 42) = W5 at *
  obtain ⟨gc, hgc⟩ : ∃ gc, gc = w5.heap.size := ⟨_, rfl⟩
  rw [← hgc] at B5 hn1 hn2 ⊢
  clear hW5 hgc
  go_wp2_with fail
  refine (C6.out _ _ _ _ D5'.out).mono ?_
  rintro e w6 ⟨g6, k6, rfl, hk6a, hk6b, D6⟩
  have B6 := hid (B5.out.kept D6.out.2.2 hn1.out)
  clear C6 D5' B5
  obtain ⟨d0, d1, d2, d3⟩ := D6.out.2.1.box
  simp only at d0 d1 d3
  go_wp2_with fail
  refine (C7.out _ _ _ _ D6.out.1).mono ?_
  rintro e w7 ⟨q7, k7, rfl, D7⟩
  have B7 := hid (B6.out.kept D7.out.2 hn2.out)
  have O7 : Hid (One w w7 g6 k6 ⟨3, 1, ⟨#[]⟩⟩) := D6.out.1.ownC D6.out.2.1 D7.out.2
  clear C7 D6 B6 d0 d1 d2 d3
  have HD := hid (lcDone_any bc _ w7 D7.out.1.cl)
  simp only [cl2] at HD
  go_wp2_with fail
  refine HD.out.mono ?_
  rintro e w8 ⟨rfl, hk8⟩
  have D8 := hid (D7.out.1.kept0 hk8)
  have B8 := hid (B7.out.kept hk8 (fun h => h))
  have O8 : Hid (One w w8 g6 k6 ⟨3, 1, ⟨#[]⟩⟩) := OwnQ.kept0 O7.out hk8
  clear hk8 D7 B7 O7 HD
  have b0 : ∀ W, Kept (fun _ => False) w8 W → W.cell? ⟨gc, 0, none⟩ = some (.string ⟨#[109, 101]⟩) := fun W hk => (B8.out.kept hk (fun h => h)).1
  have b1 : ∀ W, Kept (fun _ => False) w8 W → W.cell? ⟨gc, 1, none⟩ = some (.string ⟨#[99, 104, 97, 108, 108, 101, 110, 103, 101]⟩) := fun W hk => (B8.out.kept hk (fun h => h)).2.1
  have b2 : ∀ W, Kept (fun _ => False) w8 W → W.cell? ⟨gc, 2, none⟩ = some (.string RR) := fun W hk => (B8.out.kept hk (fun h => h)).2.2.1
  have b3 : ∀ W, Kept (fun _ => False) w8 W → W.cell? ⟨gc, 3, none⟩ = some (.int .i64 1) := fun W hk => (B8.out.kept hk (fun h => h)).2.2.2
  have e0 : ∀ W, Kept (fun _ => False) w8 W → W.cell? ⟨g6, 0, none⟩ = some (.int .i64 3) := fun W hk => (O8.out.box.kept hk (fun h => h)).1
  have hTab : Hid (∀ W, Kept (fun _ => False) w8 W → Tables W) := fun W hk => HT.out.next (D8.out.bel.trans (hk.below D8.out.bel.size (fun _ h => h.elim)))
  go_wp2_with fail
  refine wp_region_held_drew (S := Kept (fun _ => False) w8) (by kernel_rfl) ((Kept.refl _ w8).drew) (fun hSd => ?_)
  refine wpAnyH_take (i := 0) (v := ?_) rfl (by kernel_rfl) (by kernel_rfl) (by kernel_rfl) (fun _ _ _ h => h) (Or.inl ⟨by kernel_rfl, fun W hSW => by go_simp; try with_reducible rfl⟩) (by assumption) ?_
  try simp only [List.getElem_toArray]
  try simp only [List.getElem_cons_succ]
  try simp only [List.getElem_cons_zero]
  try simp only [Act.put]
  try simp only [List.setIfInBounds_toArray]
  try simp only [List.set_cons_succ]
  try simp only [List.set_cons_zero]
  refine wpAnyH_take (i := 1) (v := ?_) rfl (by kernel_rfl) (by kernel_rfl) (by kernel_rfl) (fun _ _ _ h => h) (Or.inl ⟨by kernel_rfl, fun W hSW => by go_simp; try with_reducible rfl⟩) (by assumption) ?_
  try simp only [List.getElem_toArray]
  try simp only [List.getElem_cons_succ]
  try simp only [List.getElem_cons_zero]
  try simp only [Act.put]
  try simp only [List.setIfInBounds_toArray]
  try simp only [List.set_cons_succ]
  try simp only [List.set_cons_zero]
  refine wpAnyH_take (i := 2) (v := ?_) rfl (by kernel_rfl) (by kernel_rfl) (by kernel_rfl) (fun _ _ _ h => h) (Or.inl ⟨by kernel_rfl, fun W hSW => by go_simp; try with_reducible rfl⟩) (by assumption) ?_
  try simp only [List.getElem_toArray]
  try simp only [List.getElem_cons_succ]
  try simp only [List.getElem_cons_zero]
  try simp only [Act.put]
  try simp only [List.setIfInBounds_toArray]
  try simp only [List.set_cons_succ]
  try simp only [List.set_cons_zero]
  refine wpAnyH_take (i := 3) (v := ?_) rfl (by kernel_rfl) (by kernel_rfl) (by kernel_rfl) (fun _ _ _ h => h) (Or.inl ⟨by kernel_rfl, fun W hSW => by go_simp; try with_reducible rfl⟩) (by assumption) ?_
  try simp only [List.getElem_toArray]
  try simp only [List.getElem_cons_succ]
  try simp only [List.getElem_cons_zero]
  try simp only [Act.put]
  try simp only [List.setIfInBounds_toArray]
  try simp only [List.set_cons_succ]
  try simp only [List.set_cons_zero]
  refine wpAnyH_take (i := 4) (v := (.bool true)) rfl (by kernel_rfl) (by kernel_rfl) (by kernel_rfl) (fun _ _ _ h => h) (Or.inl ⟨by kernel_rfl, fun W hSW => by go_simp; try with_reducible rfl⟩) (by assumption) ?_
  try simp only [List.getElem_toArray]
  try simp only [List.getElem_cons_succ]
  try simp only [List.getElem_cons_zero]
  try simp only [Act.put]
  try simp only [List.setIfInBounds_toArray]
  try simp only [List.set_cons_succ]
  try simp only [List.set_cons_zero]
  refine wpAnyH_take (i := 5) (v := ?_) rfl (by kernel_rfl) (by kernel_rfl) (by kernel_rfl) (fun _ _ _ h => h) (Or.inl ⟨by kernel_rfl, fun W hSW => by go_simp; try with_reducible rfl⟩) (by assumption) ?_
  try simp only [List.getElem_toArray]
  try simp only [List.getElem_cons_succ]
  try simp only [List.getElem_cons_zero]
  try simp only [Act.put]
  try simp only [List.setIfInBounds_toArray]
  try simp only [List.set_cons_succ]
  try simp only [List.set_cons_zero]
  refine wpAnyH_take (i := 6) (v := ?_) rfl (by kernel_rfl) (by kernel_rfl) (by kernel_rfl) (fun _ _ _ h => h) (Or.inl ⟨by kernel_rfl, fun W hSW => by go_simp; try with_reducible rfl⟩) (by assumption) ?_
  try simp only [List.getElem_toArray]
  try simp only [List.getElem_cons_succ]
  try simp only [List.getElem_cons_zero]
  try simp only [Act.put]
  try simp only [List.setIfInBounds_toArray]
  try simp only [List.set_cons_succ]
  try simp only [List.set_cons_zero]
  refine wpAnyH_take (i := 7) (v := ?_) rfl (by kernel_rfl) (by kernel_rfl) (by kernel_rfl) (fun _ _ _ h => h) (Or.inl ⟨by kernel_rfl, fun W hSW => by go_simp; try with_reducible rfl⟩) (by assumption) ?_
  try simp only [List.getElem_toArray]
  try simp only [List.getElem_cons_succ]
  try simp only [List.getElem_cons_zero]
  try simp only [Act.put]
  try simp only [List.setIfInBounds_toArray]
  try simp only [List.set_cons_succ]
  try simp only [List.set_cons_zero]
  refine wpAnyH_take (i := 8) (v := ?_) rfl (by kernel_rfl) (by kernel_rfl) (by kernel_rfl) (fun _ _ _ h => h) (Or.inl ⟨by kernel_rfl, fun W hSW => by go_simp; try with_reducible rfl⟩) (by assumption) ?_
  try simp only [List.getElem_toArray]
  try simp only [List.getElem_cons_succ]
  try simp only [List.getElem_cons_zero]
  try simp only [Act.put]
  try simp only [List.setIfInBounds_toArray]
  try simp only [List.set_cons_succ]
  try simp only [List.set_cons_zero]
  refine wpAnyH_take (i := 9) (v := (.bool true)) rfl (by kernel_rfl) (by kernel_rfl) (by kernel_rfl) (fun _ _ _ h => h) (Or.inl ⟨by kernel_rfl, fun W hSW => by go_simp; try with_reducible rfl⟩) (by assumption) ?_
  try simp only [List.getElem_toArray]
  try simp only [List.getElem_cons_succ]
  try simp only [List.getElem_cons_zero]
  try simp only [Act.put]
  try simp only [List.setIfInBounds_toArray]
  try simp only [List.set_cons_succ]
  try simp only [List.set_cons_zero]
  refine wpAnyH_take (i := 10) (v := ?_) rfl (by kernel_rfl) (by kernel_rfl) (by kernel_rfl) (fun _ _ _ h => h) (Or.inl ⟨by kernel_rfl, fun W hSW => by go_simp; try with_reducible rfl⟩) (by assumption) ?_
  try simp only [List.getElem_toArray]
  try simp only [List.getElem_cons_succ]
  try simp only [List.getElem_cons_zero]
  try simp only [Act.put]
  try simp only [List.setIfInBounds_toArray]
  try simp only [List.set_cons_succ]
  try simp only [List.set_cons_zero]
  refine wpAnyH_take (i := 11) (v := ?_) rfl (by kernel_rfl) (by kernel_rfl) (by kernel_rfl) (fun _ _ _ h => h) (Or.inl ⟨by kernel_rfl, fun W hSW => by go_simp; try with_reducible rfl⟩) (by assumption) ?_
  try simp only [List.getElem_toArray]
  try simp only [List.getElem_cons_succ]
  try simp only [List.getElem_cons_zero]
  try simp only [Act.put]
  try simp only [List.setIfInBounds_toArray]
  try simp only [List.set_cons_succ]
  try simp only [List.set_cons_zero]
  refine wpAnyH_take (i := 12) (v := ?_) rfl (by kernel_rfl) (by kernel_rfl) (by kernel_rfl) (fun _ _ _ h => h) (Or.inl ⟨by kernel_rfl, fun W hSW => by go_simp; try with_reducible rfl⟩) (by assumption) ?_
  try simp only [List.getElem_toArray]
  try simp only [List.getElem_cons_succ]
  try simp only [List.getElem_cons_zero]
  try simp only [Act.put]
  try simp only [List.setIfInBounds_toArray]
  try simp only [List.set_cons_succ]
  try simp only [List.set_cons_zero]
  refine wpAnyH_take (i := 13) (v := ?_) rfl (by kernel_rfl) (by kernel_rfl) (by kernel_rfl) (fun _ _ _ h => h) (Or.inl ⟨by kernel_rfl, fun W hSW => by go_simp; try with_reducible rfl⟩) (by assumption) ?_
  try simp only [List.getElem_toArray]
  try simp only [List.getElem_cons_succ]
  try simp only [List.getElem_cons_zero]
  try simp only [Act.put]
  try simp only [List.setIfInBounds_toArray]
  try simp only [List.set_cons_succ]
  try simp only [List.set_cons_zero]
  refine wpAnyH_take (i := 14) (v := ?_) rfl (by kernel_rfl) (by kernel_rfl) (by kernel_rfl) (fun _ _ _ h => h) (Or.inl ⟨by kernel_rfl, fun W hSW => by go_simp; try with_reducible rfl⟩) (by assumption) ?_
  try simp only [List.getElem_toArray]
  try simp only [List.getElem_cons_succ]
  try simp only [List.getElem_cons_zero]
  try simp only [Act.put]
  try simp only [List.setIfInBounds_toArray]
  try simp only [List.set_cons_succ]
  try simp only [List.set_cons_zero]
  refine wpAnyH_take (i := 15) (v := ?_) rfl (by kernel_rfl) (by kernel_rfl) (by kernel_rfl) (fun _ _ _ h => h) (Or.inl ⟨by kernel_rfl, fun W hSW => by go_simp; try with_reducible rfl⟩) (by assumption) ?_
  try simp only [List.getElem_toArray]
  try simp only [List.getElem_cons_succ]
  try simp only [List.getElem_cons_zero]
  try simp only [Act.put]
  try simp only [List.setIfInBounds_toArray]
  try simp only [List.set_cons_succ]
  try simp only [List.set_cons_zero]
  refine wpAnyH_ready (rs := [16]) (by kernel_rfl) (by simp) ?_
  refine AllReadyH.cons rfl (fun K hK => ?_) AllReadyH.nil
  go_simp
  refine (C8.out _ (hTab.out _ hSd)).mono ?_
  rintro e w9 ⟨rfl, hk9⟩
  have hS9 : Kept (fun _ => False) w8 w9 := hSd.trans hk9
  clear hk9
  refine hK.out _ _ (hS9) (fun _ => ?_)
  clear hK K
  try simp only [List.getElem_toArray]
  try simp only [List.getElem_cons_succ]
  try simp only [List.getElem_cons_zero]
  try simp only [Act.put]
  try simp only [List.setIfInBounds_toArray]
  try simp only [List.set_cons_succ]
  try simp only [List.set_cons_zero]
  refine wpAnyH_take (i := 17) (v := (.bool true)) rfl (by kernel_rfl) (by kernel_rfl) (by kernel_rfl) (fun _ _ _ h => h) (Or.inl ⟨by kernel_rfl, fun W hSW => by go_simp; try with_reducible rfl⟩) (by assumption) ?_
  try simp only [List.getElem_toArray]
  try simp only [List.getElem_cons_succ]
  try simp only [List.getElem_cons_zero]
  try simp only [Act.put]
  try simp only [List.setIfInBounds_toArray]
  try simp only [List.set_cons_succ]
  try simp only [List.set_cons_zero]
  refine wpAnyH_take (i := 18) (v := ?_) rfl (by kernel_rfl) (by kernel_rfl) (by kernel_rfl) (fun _ _ _ h => h) (Or.inl ⟨by kernel_rfl, fun W hSW => by go_simp; try with_reducible rfl⟩) (by assumption) ?_
  try simp only [List.getElem_toArray]
  try simp only [List.getElem_cons_succ]
  try simp only [List.getElem_cons_zero]
  try simp only [Act.put]
  try simp only [List.setIfInBounds_toArray]
  try simp only [List.set_cons_succ]
  try simp only [List.set_cons_zero]
  refine wpAnyH_take (i := 19) (v := ?_) rfl (by kernel_rfl) (by kernel_rfl) (by kernel_rfl) (fun _ _ _ h => h) (Or.inl ⟨by kernel_rfl, fun W hSW => by go_simp; try with_reducible rfl⟩) (by assumption) ?_
  try simp only [List.getElem_toArray]
  try simp only [List.getElem_cons_succ]
  try simp only [List.getElem_cons_zero]
  try simp only [Act.put]
  try simp only [List.setIfInBounds_toArray]
  try simp only [List.set_cons_succ]
  try simp only [List.set_cons_zero]
  refine wpAnyH_take (i := 20) (v := ?_) rfl (by kernel_rfl) (by kernel_rfl) (by kernel_rfl) (fun _ _ _ h => h) (Or.inl ⟨by kernel_rfl, fun W hSW => by go_simp; try with_reducible rfl⟩) (by assumption) ?_
  try simp only [List.getElem_toArray]
  try simp only [List.getElem_cons_succ]
  try simp only [List.getElem_cons_zero]
  try simp only [Act.put]
  try simp only [List.setIfInBounds_toArray]
  try simp only [List.set_cons_succ]
  try simp only [List.set_cons_zero]
  refine wpAnyH_take (i := 21) (v := ?_) rfl (by kernel_rfl) (by kernel_rfl) (by kernel_rfl) (fun _ _ _ h => h) (Or.inl ⟨by kernel_rfl, fun W hSW => by go_simp; try with_reducible rfl⟩) (by assumption) ?_
  try simp only [List.getElem_toArray]
  try simp only [List.getElem_cons_succ]
  try simp only [List.getElem_cons_zero]
  try simp only [Act.put]
  try simp only [List.setIfInBounds_toArray]
  try simp only [List.set_cons_succ]
  try simp only [List.set_cons_zero]
  refine wpAnyH_take (i := 22) (v := ?_) rfl (by kernel_rfl) (by kernel_rfl) (by kernel_rfl) (fun _ _ _ h => h) (Or.inl ⟨by kernel_rfl, fun W hSW => by go_simp; try with_reducible rfl⟩) (by assumption) ?_
  try simp only [List.getElem_toArray]
  try simp only [List.getElem_cons_succ]
  try simp only [List.getElem_cons_zero]
  try simp only [Act.put]
  try simp only [List.setIfInBounds_toArray]
  try simp only [List.set_cons_succ]
  try simp only [List.set_cons_zero]
  refine wpAnyH_take (i := 23) (v := ?_) rfl (by kernel_rfl) (by kernel_rfl) (by kernel_rfl) (fun _ _ _ h => h) (Or.inl ⟨by kernel_rfl, fun W hSW => by go_simp; try with_reducible rfl⟩) (by assumption) ?_
  try simp only [List.getElem_toArray]
  try simp only [List.getElem_cons_succ]
  try simp only [List.getElem_cons_zero]
  try simp only [Act.put]
  try simp only [List.setIfInBounds_toArray]
  try simp only [List.set_cons_succ]
  try simp only [List.set_cons_zero]
  refine wpAnyH_take (i := 24) (v := (.bool true)) rfl (by kernel_rfl) (by kernel_rfl) (by kernel_rfl) (fun _ _ _ h => h) (Or.inl ⟨by kernel_rfl, fun W hSW => by go_simp; try with_reducible rfl⟩) (by assumption) ?_
  try simp only [List.getElem_toArray]
  try simp only [List.getElem_cons_succ]
  try simp only [List.getElem_cons_zero]
  try simp only [Act.put]
  try simp only [List.setIfInBounds_toArray]
  try simp only [List.set_cons_succ]
  try simp only [List.set_cons_zero]
  refine wpAnyH_take (i := 25) (v := ?_) rfl (by kernel_rfl) (by kernel_rfl) (by kernel_rfl) (fun _ _ _ h => h) (Or.inl ⟨by kernel_rfl, fun W hSW => by go_simp; try with_reducible rfl⟩) (by assumption) ?_
  try simp only [List.getElem_toArray]
  try simp only [List.getElem_cons_succ]
  try simp only [List.getElem_cons_zero]
  try simp only [Act.put]
  try simp only [List.setIfInBounds_toArray]
  try simp only [List.set_cons_succ]
  try simp only [List.set_cons_zero]
  refine wpAnyH_take (i := 26) (v := ?_) rfl (by kernel_rfl) (by kernel_rfl) (by kernel_rfl) (fun _ _ _ h => h) (Or.inl ⟨by kernel_rfl, fun W hSW => by go_simp; try with_reducible rfl⟩) (by assumption) ?_
  try simp only [List.getElem_toArray]
  try simp only [List.getElem_cons_succ]
  try simp only [List.getElem_cons_zero]
  try simp only [Act.put]
  try simp only [List.setIfInBounds_toArray]
  try simp only [List.set_cons_succ]
  try simp only [List.set_cons_zero]
  refine wpAnyH_take (i := 27) (v := ?_) rfl (by kernel_rfl) (by kernel_rfl) (by kernel_rfl) (fun _ _ _ h => h) (Or.inl ⟨by kernel_rfl, fun W hSW => by go_simp; try with_reducible rfl⟩) (by assumption) ?_
  try simp only [List.getElem_toArray]
  try simp only [List.getElem_cons_succ]
  try simp only [List.getElem_cons_zero]
  try simp only [Act.put]
  try simp only [List.setIfInBounds_toArray]
  try simp only [List.set_cons_succ]
  try simp only [List.set_cons_zero]
  refine wpAnyH_take (i := 28) (v := ?_) rfl (by kernel_rfl) (by kernel_rfl) (by kernel_rfl) (fun _ _ _ h => h) (Or.inl ⟨by kernel_rfl, fun W hSW => by go_simp; try with_reducible rfl⟩) (by assumption) ?_
  try simp only [List.getElem_toArray]
  try simp only [List.getElem_cons_succ]
  try simp only [List.getElem_cons_zero]
  try simp only [Act.put]
  try simp only [List.setIfInBounds_toArray]
  try simp only [List.set_cons_succ]
  try simp only [List.set_cons_zero]
  refine wpAnyH_take (i := 29) (v := ?_) rfl (by kernel_rfl) (by kernel_rfl) (by kernel_rfl) (fun _ _ _ h => h) (Or.inl ⟨by kernel_rfl, fun W hSW => by go_simp; try with_reducible rfl⟩) (by assumption) ?_
  try simp only [List.getElem_toArray]
  try simp only [List.getElem_cons_succ]
  try simp only [List.getElem_cons_zero]
  try simp only [Act.put]
  try simp only [List.setIfInBounds_toArray]
  try simp only [List.set_cons_succ]
  try simp only [List.set_cons_zero]
  refine wpAnyH_take (i := 30) (v := ?_) rfl (by kernel_rfl) (by kernel_rfl) (by kernel_rfl) (fun _ _ _ h => h) (Or.inl ⟨by kernel_rfl, fun W hSW => by go_simp; try with_reducible rfl⟩) (by assumption) ?_
  try simp only [List.getElem_toArray]
  try simp only [List.getElem_cons_succ]
  try simp only [List.getElem_cons_zero]
  try simp only [Act.put]
  try simp only [List.setIfInBounds_toArray]
  try simp only [List.set_cons_succ]
  try simp only [List.set_cons_zero]
  refine wpAnyH_take (i := 31) (v := ?_) rfl (by kernel_rfl) (by kernel_rfl) (by kernel_rfl) (fun _ _ _ h => h) (Or.inl ⟨by kernel_rfl, fun W hSW => by go_simp; try with_reducible rfl⟩) (by assumption) ?_
  try simp only [List.getElem_toArray]
  try simp only [List.getElem_cons_succ]
  try simp only [List.getElem_cons_zero]
  try simp only [Act.put]
  try simp only [List.setIfInBounds_toArray]
  try simp only [List.set_cons_succ]
  try simp only [List.set_cons_zero]
  refine wpAnyH_take (i := 32) (v := ?_) rfl (by kernel_rfl) (by kernel_rfl) (by kernel_rfl) (fun _ _ _ h => h) (Or.inl ⟨by kernel_rfl, fun W hSW => by go_simp; try with_reducible rfl⟩) (by assumption) ?_
  try simp only [List.getElem_toArray]
  try simp only [List.getElem_cons_succ]
  try simp only [List.getElem_cons_zero]
  try simp only [Act.put]
  try simp only [List.setIfInBounds_toArray]
  try simp only [List.set_cons_succ]
  try simp only [List.set_cons_zero]
  refine wpAnyH_done (by kernel_rfl) ?_ _
  have HF : Hid (Kept (fun _ => False) w w9) := kept_of (D8.out.bel.trans (hS9.below D8.out.bel.size (fun _ h => h.elim)))
  clear b0 b1 b2 b3 e0 hSd hS9
  go_wp2
  go_ret
  exact ⟨rfl, HF.out⟩
end Go.Proofs.YtndpfcanfcbldaaDoor
