/- The document's own pool (tollgateref13): Who. -/
import Derived.Test.YtblcojggjplndaaDoorPlRef2
import Derived.Test.YtblcojggjplndaaDoorPlEq
namespace Go.Proofs.YtblcojggjplndaaDoor
open Go.RowKit

def isW (x y : Ad) (l : List Lt) (i : Nat) : Bool := (match l[i]? with | none => false | some e => e.is) && decide (numAd (addAd x (i : Int)) = numAd y)
theorem atL_some {x y : Ad} {l : List Lt} {j : Nat} (h : ∀ i, i < j → isW x y l i = false) (hj : isW x y l j = true) (hlt : j < l.length) : atL x y l = some j := by
  unfold atL
  rw [List.find?_range_eq_some]
  exact ⟨hj, List.mem_range.2 hlt, fun i hi => by have e := h i hi; show (!isW x y l i) = true; rw [e]; rfl⟩
theorem atL_none {x y : Ad} {l : List Lt} (h : ∀ i, i < l.length → isW x y l i = false) : atL x y l = none := by
  unfold atL
  rw [List.find?_range_eq_none]
  exact fun i hi => by have e := h i hi; show (!isW x y l i) = true; rw [e]; rfl

section
variable {w : World} {base b : Nat} {v : Value} {x : Ad} {l : List Lt}

set_option maxHeartbeats 4000000 in
set_option maxRecDepth 100000 in
theorem rWho_any (h : PoIn w base b v x l) (hl : FewL l) (y : Ad) :
    Calls Tryd.prog 18 #[.pointer (some ⟨b, 0, none⟩), adV y] w fun e w' => e = .returned (.tuple #[.agg #[.int .i64 (whoL x l y).1, .int .i64 (whoL x l y).2.1], .bool (whoL x l y).2.2]) ∧ Kept (fun _ => False) w w' := by
  obtain ⟨p, cap, rfl⟩ := slice_of h.own
  obtain ⟨R, hR⟩ : ∃ R, R = whoL x l y := ⟨_, rfl⟩
  have HR := hid hR
  rw [← hR]
  have HAdd : Hid (∀ n W, Calls Tryd.prog 22 #[adV x, .int .i64 n] W fun e w' => e = .returned (adV (addAd x n)) ∧ Kept (fun _ => False) W w') := rAdd_any x
  have HEq := hid (fun n => ad_eq (addAd x n) y)
  have hk0 := (Kept.refl (fun _ => False) w).alloc (.cells #[.int .u8 (y.a.toNat : Int), .int .u8 (y.b.toNat : Int), .int .u8 (y.c.toNat : Int), .int .u8 (y.d.toNat : Int)] 23)
  have hk1 := (Kept.refl (fun _ => False) (w.alloc (.cells #[.int .u8 (y.a.toNat : Int), .int .u8 (y.b.toNat : Int), .int .u8 (y.c.toNat : Int), .int .u8 (y.d.toNat : Int)] 23))).alloc (.cells #[.int .i64 0, .int .i64 0] 37)
  have H4 := hid ((four4_new w 23 (.int .u8 (y.a.toNat : Int)) (.int .u8 (y.b.toNat : Int)) (.int .u8 (y.c.toNat : Int)) (.int .u8 (y.d.toNat : Int))).kept hk1 (fun h => h))
  have H2 := hid (two2_new (w.alloc (.cells #[.int .u8 (y.a.toNat : Int), .int .u8 (y.b.toNat : Int), .int .u8 (y.c.toNat : Int), .int .u8 (y.d.toNat : Int)] 23)) 37 (.int .i64 0) (.int .i64 0))
  have HB : Hid (((w.alloc (.cells #[.int .u8 (y.a.toNat : Int), .int .u8 (y.b.toNat : Int), .int .u8 (y.c.toNat : Int), .int .u8 (y.d.toNat : Int)] 23)).alloc (.cells #[.int .i64 0, .int .i64 0] 37)).heap[w.heap.size + 1]? = some (.cells #[.int .i64 0, .int .i64 0] 37 (0, 0))) := by
    have this := heap_alloc_new (w.alloc (.cells #[.int .u8 (y.a.toNat : Int), .int .u8 (y.b.toNat : Int), .int .u8 (y.c.toNat : Int), .int .u8 (y.d.toNat : Int)] 23)) (.cells #[.int .i64 0, .int .i64 0] 37)
    have e : (w.alloc (.cells #[.int .u8 (y.a.toNat : Int), .int .u8 (y.b.toNat : Int), .int .u8 (y.c.toNat : Int), .int .u8 (y.d.toNat : Int)] 23)).heap.size = w.heap.size + 1 := by simp
    rw [e] at this
    exact this
  have hsz : (w.alloc (.cells #[.int .u8 (y.a.toNat : Int), .int .u8 (y.b.toNat : Int), .int .u8 (y.c.toNat : Int), .int .u8 (y.d.toNat : Int)] 23)).heap.size = w.heap.size + 1 := by simp
  rw [hsz] at H2
  have K0 := hid (hk0.trans hk1)
  have HI := hid (h.kept0 K0.out)
  have hlen := hl.1
  unfold adV at *
  clear h hk0 hk1 hR hl hsz
  go_enter Tryd.func18, Tryd.ntmps18
  go_upto_region 1 with fail
  generalize (w.alloc (.cells #[.int .u8 (y.a.toNat : Int), .int .u8 (y.b.toNat : Int), .int .u8 (y.c.toNat : Int), .int .u8 (y.d.toNat : Int)] 23)).alloc (.cells #[.int .i64 0, .int .i64 0] 37) = W at *
  go_wp2
  go_loopw [6] (fun vi wr => ∃ j : Nat, j ≤ l.length ∧ vi = .int .i64 (j : Int) ∧ Hid (Kept (fun _ => False) W wr ∧ ∀ i, i < j → isW x y l i = false)) (fun vi _ => l.length - (intOf vi).toNat)
  case atStart => exact ⟨0, Nat.zero_le _, rfl, Kept.refl _ _, by intro i hi; omega⟩
  case round =>
    obtain ⟨j, hj, rfl, HJ⟩ := hrel
    have HI' := hid (HI.out.kept0 HJ.out.1)
    have c4 := HI'.out.c4
    by_cases hlt : j < l.length
    · have hltz : (j : Int) < (l.length : Int) := by omega
      obtain ⟨u, hu⟩ : ∃ u, l[j]? = some u := ⟨l[j], by simp [hlt]⟩
      obtain ⟨g, rfl, _, _, hcap, hcm, hcs, _⟩ := HI'.out.own.at encL hu
      have hqw : isW x y l j = (u.is && decide (numAd (addAd x (j : Int)) = numAd y)) := by unfold isW; rw [hu]
      have HQ := hid hqw
      have HU := hid hu
      have step : Hid (isW x y l j = false → ∀ i, i < j + 1 → isW x y l i = false) := fun hf i hi => by
        by_cases e : i = j
        · rw [e]; exact hf
        · exact HJ.out.2 i (by omega)
      clear hu hqw
      obtain ⟨q, ut, us⟩ := u
      simp only at HQ
      cases q with
      | false =>
        have n0 := hcs 0 _ rfl
        rw [Nat.add_zero] at n0
        clear hcs
        have hW := hid (HQ.out.trans (Bool.false_and _))
        go_upto_region 4 with fail
        go_quiet (fail)
        go_wp2
        exact ⟨⟨j + 1, hlt, by go_num, HJ.out.1.drewN _, step.out hW.out⟩, by simp [intOf]; omega⟩
      | true =>
        have HC : Hid (∀ V, Kept (fun _ => False) W V → ∀ i e, (ltCells ⟨true, ut, us⟩)[i]? = some e → V.cell? ⟨g, j * 3 + i, none⟩ = some e) := fun V hk i e he => by
          obtain ⟨g', e', _, _, _, _, hc, _⟩ := (HI.out.own.kept0 hk).at encL HU.out
          cases e'
          exact hc i e he
        have g4 : ∀ V, Kept (fun _ => False) W V → V.cell? ⟨b, 4, none⟩ = some (.slice (some ⟨g, 0, none⟩) l.length cap) := fun V hk => (HI.out.kept0 hk).c4
        have d0 : ∀ V, Kept (fun _ => False) W V → V.cell? ⟨b, 0, none⟩ = some (.int .u8 (x.a.toNat : Int)) := fun V hk => (HI.out.kept0 hk).c0
        have d1 : ∀ V, Kept (fun _ => False) W V → V.cell? ⟨b, 1, none⟩ = some (.int .u8 (x.b.toNat : Int)) := fun V hk => (HI.out.kept0 hk).c1
        have d2 : ∀ V, Kept (fun _ => False) W V → V.cell? ⟨b, 2, none⟩ = some (.int .u8 (x.c.toNat : Int)) := fun V hk => (HI.out.kept0 hk).c2
        have d3 : ∀ V, Kept (fun _ => False) W V → V.cell? ⟨b, 3, none⟩ = some (.int .u8 (x.d.toNat : Int)) := fun V hk => (HI.out.kept0 hk).c3
        have y0 : ∀ V, Kept (fun _ => False) W V → V.cell? ⟨w.heap.size, 0, none⟩ = some (.int .u8 (y.a.toNat : Int)) := fun V hk => (H4.out.kept hk (fun h => h)).1.1
        have y1 : ∀ V, Kept (fun _ => False) W V → V.cell? ⟨w.heap.size, 1, none⟩ = some (.int .u8 (y.b.toNat : Int)) := fun V hk => (H4.out.kept hk (fun h => h)).1.2.1
        have y2 : ∀ V, Kept (fun _ => False) W V → V.cell? ⟨w.heap.size, 2, none⟩ = some (.int .u8 (y.c.toNat : Int)) := fun V hk => (H4.out.kept hk (fun h => h)).1.2.2.1
        have y3 : ∀ V, Kept (fun _ => False) W V → V.cell? ⟨w.heap.size, 3, none⟩ = some (.int .u8 (y.d.toNat : Int)) := fun V hk => (H4.out.kept hk (fun h => h)).1.2.2.2
        have n0 : ∀ V, Kept (fun _ => False) W V → V.cell? ⟨g, j * 3, none⟩ = some (.bool true) := fun V hk => HC.out V hk 0 _ rfl
        have heq := HEq.out (j : Int)
        have HA := hid (HAdd.out (j : Int))
        have hk0 := HJ.out.1
        obtain ⟨B, hB⟩ : ∃ B, decide (numAd (addAd x (j : Int)) = numAd y) = B := ⟨_, rfl⟩
        have HQ' := hid (isW_of HQ.out hB)
        rw [hB] at heq
        clear HQ hB hcs
        generalize addAd x (j : Int) = z at *
        go_upto_region 4 with fail
        refine wp_region_held_drew (S := Kept (fun _ => False) W) (by kernel_rfl) (hk0.drew) (fun hSd => ?_)
        refine wpAnyH_take (i := 0) (v := ?_) rfl (by kernel_rfl) (by kernel_rfl) (by kernel_rfl) (fun _ _ _ h => h) (Or.inl ⟨by kernel_rfl, fun W hSW => by go_simp; try with_reducible rfl⟩) (by assumption) ?_
        try simp only [List.getElem_toArray]
        try simp only [List.getElem_cons_succ]
        try simp only [List.getElem_cons_zero]
        try simp only [Act.put]
        try simp only [List.setIfInBounds_toArray]
        try simp only [List.set_cons_succ]
        try simp only [List.set_cons_zero]
        refine wpAnyH_take (i := 1) (v := ?_) rfl (by kernel_rfl) (by kernel_rfl) (by kernel_rfl) (fun _ _ _ h => h) (Or.inl ⟨by kernel_rfl, fun W hSW => by go_simp; try with_reducible rfl⟩) (by assumption) ?_
        try simp only [List.getElem_toArray]
        try simp only [List.getElem_cons_succ]
        try simp only [List.getElem_cons_zero]
        try simp only [Act.put]
        try simp only [List.setIfInBounds_toArray]
        try simp only [List.set_cons_succ]
        try simp only [List.set_cons_zero]
        refine wpAnyH_take (i := 2) (v := ?_) rfl (by kernel_rfl) (by kernel_rfl) (by kernel_rfl) (fun _ _ _ h => h) (Or.inl ⟨by kernel_rfl, fun W hSW => by go_simp; try with_reducible rfl⟩) (by assumption) ?_
        try simp only [List.getElem_toArray]
        try simp only [List.getElem_cons_succ]
        try simp only [List.getElem_cons_zero]
        try simp only [Act.put]
        try simp only [List.setIfInBounds_toArray]
        try simp only [List.set_cons_succ]
        try simp only [List.set_cons_zero]
        refine wpAnyH_take (i := 3) (v := ?_) rfl (by kernel_rfl) (by kernel_rfl) (by kernel_rfl) (fun _ _ _ h => h) (Or.inl ⟨by kernel_rfl, fun W hSW => by go_simp; try with_reducible rfl⟩) (by assumption) ?_
        try simp only [List.getElem_toArray]
        try simp only [List.getElem_cons_succ]
        try simp only [List.getElem_cons_zero]
        try simp only [Act.put]
        try simp only [List.setIfInBounds_toArray]
        try simp only [List.set_cons_succ]
        try simp only [List.set_cons_zero]
        refine wpAnyH_take (i := 4) (v := ?_) rfl (by kernel_rfl) (by kernel_rfl) (by kernel_rfl) (fun _ _ _ h => h) (Or.inl ⟨by kernel_rfl, fun W hSW => by go_simp; try with_reducible rfl⟩) (by assumption) ?_
        try simp only [List.getElem_toArray]
        try simp only [List.getElem_cons_succ]
        try simp only [List.getElem_cons_zero]
        try simp only [Act.put]
        try simp only [List.setIfInBounds_toArray]
        try simp only [List.set_cons_succ]
        try simp only [List.set_cons_zero]
        refine wpAnyH_take (i := 5) (v := ?_) rfl (by kernel_rfl) (by kernel_rfl) (by kernel_rfl) (fun _ _ _ h => h) (Or.inl ⟨by kernel_rfl, fun W hSW => by go_simp; try with_reducible rfl⟩) (by assumption) ?_
        try simp only [List.getElem_toArray]
        try simp only [List.getElem_cons_succ]
        try simp only [List.getElem_cons_zero]
        try simp only [Act.put]
        try simp only [List.setIfInBounds_toArray]
        try simp only [List.set_cons_succ]
        try simp only [List.set_cons_zero]
        refine wpAnyH_take (i := 6) (v := ?_) rfl (by kernel_rfl) (by kernel_rfl) (by kernel_rfl) (fun _ _ _ h => h) (Or.inl ⟨by kernel_rfl, fun W hSW => by go_simp; try with_reducible rfl⟩) (by assumption) ?_
        try simp only [List.getElem_toArray]
        try simp only [List.getElem_cons_succ]
        try simp only [List.getElem_cons_zero]
        try simp only [Act.put]
        try simp only [List.setIfInBounds_toArray]
        try simp only [List.set_cons_succ]
        try simp only [List.set_cons_zero]
        refine wpAnyH_take (i := 7) (v := ?_) rfl (by kernel_rfl) (by kernel_rfl) (by kernel_rfl) (fun _ _ _ h => h) (Or.inl ⟨by kernel_rfl, fun W hSW => by go_simp; try with_reducible rfl⟩) (by assumption) ?_
        try simp only [List.getElem_toArray]
        try simp only [List.getElem_cons_succ]
        try simp only [List.getElem_cons_zero]
        try simp only [Act.put]
        try simp only [List.setIfInBounds_toArray]
        try simp only [List.set_cons_succ]
        try simp only [List.set_cons_zero]
        refine wpAnyH_take (i := 8) (v := ?_) rfl (by kernel_rfl) (by kernel_rfl) (by kernel_rfl) (fun _ _ _ h => h) (Or.inl ⟨by kernel_rfl, fun W hSW => by go_simp; try with_reducible rfl⟩) (by assumption) ?_
        try simp only [List.getElem_toArray]
        try simp only [List.getElem_cons_succ]
        try simp only [List.getElem_cons_zero]
        try simp only [Act.put]
        try simp only [List.setIfInBounds_toArray]
        try simp only [List.set_cons_succ]
        try simp only [List.set_cons_zero]
        refine wpAnyH_take (i := 9) (v := ?_) rfl (by kernel_rfl) (by kernel_rfl) (by kernel_rfl) (fun _ _ _ h => h) (Or.inl ⟨by kernel_rfl, fun W hSW => by go_simp; try with_reducible rfl⟩) (by assumption) ?_
        try simp only [List.getElem_toArray]
        try simp only [List.getElem_cons_succ]
        try simp only [List.getElem_cons_zero]
        try simp only [Act.put]
        try simp only [List.setIfInBounds_toArray]
        try simp only [List.set_cons_succ]
        try simp only [List.set_cons_zero]
        refine wpAnyH_take (i := 10) (v := ?_) rfl (by kernel_rfl) (by kernel_rfl) (by kernel_rfl) (fun _ _ _ h => h) (Or.inl ⟨by kernel_rfl, fun W hSW => by go_simp; try with_reducible rfl⟩) (by assumption) ?_
        try simp only [List.getElem_toArray]
        try simp only [List.getElem_cons_succ]
        try simp only [List.getElem_cons_zero]
        try simp only [Act.put]
        try simp only [List.setIfInBounds_toArray]
        try simp only [List.set_cons_succ]
        try simp only [List.set_cons_zero]
        refine wpAnyH_take (i := 11) (v := ?_) rfl (by kernel_rfl) (by kernel_rfl) (by kernel_rfl) (fun _ _ _ h => h) (Or.inl ⟨by kernel_rfl, fun W hSW => by go_simp; try with_reducible rfl⟩) (by assumption) ?_
        try simp only [List.getElem_toArray]
        try simp only [List.getElem_cons_succ]
        try simp only [List.getElem_cons_zero]
        try simp only [Act.put]
        try simp only [List.setIfInBounds_toArray]
        try simp only [List.set_cons_succ]
        try simp only [List.set_cons_zero]
        refine wpAnyH_take (i := 12) (v := ?_) rfl (by kernel_rfl) (by kernel_rfl) (by kernel_rfl) (fun _ _ _ h => h) (Or.inl ⟨by kernel_rfl, fun W hSW => by go_simp; try with_reducible rfl⟩) (by assumption) ?_
        try simp only [List.getElem_toArray]
        try simp only [List.getElem_cons_succ]
        try simp only [List.getElem_cons_zero]
        try simp only [Act.put]
        try simp only [List.setIfInBounds_toArray]
        try simp only [List.set_cons_succ]
        try simp only [List.set_cons_zero]
        refine wpAnyH_take (i := 13) (v := ?_) rfl (by kernel_rfl) (by kernel_rfl) (by kernel_rfl) (fun _ _ _ h => h) (Or.inl ⟨by kernel_rfl, fun W hSW => by go_simp; try with_reducible rfl⟩) (by assumption) ?_
        try simp only [List.getElem_toArray]
        try simp only [List.getElem_cons_succ]
        try simp only [List.getElem_cons_zero]
        try simp only [Act.put]
        try simp only [List.setIfInBounds_toArray]
        try simp only [List.set_cons_succ]
        try simp only [List.set_cons_zero]
        refine wpAnyH_take (i := 15) (v := ?_) rfl (by kernel_rfl) (by kernel_rfl) (by kernel_rfl) (fun _ _ _ h => h) (Or.inl ⟨by kernel_rfl, fun W hSW => by go_simp; try with_reducible rfl⟩) (by assumption) ?_
        try simp only [List.getElem_toArray]
        try simp only [List.getElem_cons_succ]
        try simp only [List.getElem_cons_zero]
        try simp only [Act.put]
        try simp only [List.setIfInBounds_toArray]
        try simp only [List.set_cons_succ]
        try simp only [List.set_cons_zero]
        refine wpAnyH_ready (rs := [14]) (by kernel_rfl) (by simp) ?_
        refine AllReadyH.cons rfl (fun K hK => ?_) AllReadyH.nil
        go_simp
        refine (HA.out _).mono ?_
        rintro e w5 ⟨rfl, hk5⟩
        have hS5 : Kept (fun _ => False) W w5 := hSd.trans hk5
        clear hk5
        refine hK.out _ _ (hS5) (fun _ => ?_)
        clear hK K
        try simp only [List.getElem_toArray]
        try simp only [List.getElem_cons_succ]
        try simp only [List.getElem_cons_zero]
        try simp only [Act.put]
        try simp only [List.setIfInBounds_toArray]
        try simp only [List.set_cons_succ]
        try simp only [List.set_cons_zero]
        refine wpAnyH_take (i := 16) (v := .bool B) rfl (by kernel_rfl) (by kernel_rfl) (by kernel_rfl) (fun _ _ _ h => h) (Or.inl ⟨by kernel_rfl, fun W hSW => execOp_eql Tryd.eqGuardType23 rfl rfl rfl (heq W)⟩) (by assumption) ?_
        try simp only [List.getElem_toArray]
        try simp only [List.getElem_cons_succ]
        try simp only [List.getElem_cons_zero]
        try simp only [Act.put]
        try simp only [List.setIfInBounds_toArray]
        try simp only [List.set_cons_succ]
        try simp only [List.set_cons_zero]
        refine wpAnyH_take (i := 17) (v := ?_) rfl (by kernel_rfl) (by kernel_rfl) (by kernel_rfl) (fun _ _ _ h => h) (Or.inl ⟨by kernel_rfl, fun W hSW => by go_simp; try with_reducible rfl⟩) (by assumption) ?_
        try simp only [List.getElem_toArray]
        try simp only [List.getElem_cons_succ]
        try simp only [List.getElem_cons_zero]
        try simp only [Act.put]
        try simp only [List.setIfInBounds_toArray]
        try simp only [List.set_cons_succ]
        try simp only [List.set_cons_zero]
        refine wpAnyH_done (by kernel_rfl) ?_ _
        have n1 := HC.out w5 hS5 1 _ rfl
        have n2 := HC.out w5 hS5 2 _ rfl
        have c4 := (HI.out.kept0 hS5).c4
        clear g4 d0 d1 d2 d3 y0 y1 y2 y3 n0 hSd heq
        cases B with
        | true =>
          have hR : Hid (R = (ut, us, true)) := by
            rw [HR.out]
            unfold whoL
            rw [atL_some HJ.out.2 HQ'.out hlt]
            simp only [HU.out]
            exact trivial
          obtain ⟨o0, o1⟩ := H2.out.kept hS5 (fun h => h)
          have hf : ∀ i, w5.frozen? ⟨w.heap.size + 1, i, none⟩ = false := fun i => frozen_of_row _ _ i _ _ ((hS5.block _ (lt_of_cell H2.out.1) (fun h => h)).trans HB.out)
          have f0 := hf 0
          have f1 := hf 1
          clear hf
          go_wp2
          refine bodyPost_ret (v := .tuple #[.agg #[.int .i64 ut, .int .i64 us], .bool true]) (by simp [results, Tryd.results18, go_sem, o0, o1]) rfl ⟨by rw [hR.out], ?_⟩
          exact (((K0.out.trans hS5).setCell (Or.inl (Nat.le_succ _)) _).setCell (Or.inl (Nat.le_succ _)) _)
        | false =>
          go_wp2
          exact ⟨⟨j + 1, hlt, by go_num, hS5, step.out HQ'.out⟩, by simp [intOf]; omega⟩
    · obtain rfl : j = l.length := by omega
      have hltz : ¬ (l.length : Int) < (l.length : Int) := by omega
      have hR : Hid (R = (0, 0, false)) := by
        rw [HR.out]
        unfold whoL
        rw [atL_none HJ.out.2]
        exact rfl
      obtain ⟨o0, o1⟩ := H2.out.kept HJ.out.1 (fun h => h)
      have hf : ∀ i, wr.frozen? ⟨w.heap.size + 1, i, none⟩ = false := fun i => frozen_of_row _ _ i _ _ ((HJ.out.1.block _ (lt_of_cell H2.out.1) (fun h => h)).trans HB.out)
      have f0 := hf 0
      have f1 := hf 1
      go_wp2
      refine bodyPost_ret (v := .tuple #[.agg #[.int .i64 0, .int .i64 0], .bool false]) (by simp [results, Tryd.results18, go_sem, o0, o1]) rfl ⟨by rw [hR.out], ?_⟩
      exact (((K0.out.trans HJ.out.1).setCell (Or.inl (Nat.le_succ _)) _).setCell (Or.inl (Nat.le_succ _)) _)
end
end Go.Proofs.YtblcojggjplndaaDoor
