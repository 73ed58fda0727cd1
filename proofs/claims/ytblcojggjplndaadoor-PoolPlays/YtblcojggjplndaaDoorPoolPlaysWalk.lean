/- The walk of the law PoolPlays: for every address, number and list of steps it returns true, where the library's table of powers holds what its text lays. (Written by gen_plays16.py.) -/
import Derived.Test.YtblcojggjplndaaDoorPpDuo
import Derived.Test.YtblcojggjplndaaDoorPpArgs
import Derived.OpenShut
import Derived.Deep.CutRange
import Derived.Deep.CutBlock
namespace Go.Proofs.YtblcojggjplndaaDoor
open Go.RowKit

set_option maxHeartbeats 8000000 in
set_option maxRecDepth 100000 in
theorem poolPlays_walk (x : Ad) (n : Int) (v : Value) (l : List Op16) (w : World) (hn : -9223372036854775808 ≤ n ∧ n ≤ 9223372036854775807) (hv : Ops16 w v l) (_ : l.length ≤ maxLen) (hl : ∀ x ∈ l, I64 x.t ∧ I64 x.s) (hT : PowTab w) :
    Calls Tryd.prog 3 #[adV x, .int .i64 n, v] w fun e w' => e = .returned (.bool true) ∧ Below w.heap.size w w' := by
  obtain ⟨p, cap, rfl⟩ := hv.slice
  have HV := hid hv
  have HA : Hid (∀ W, Kept (fun _ => False) w W → _) := hid (fun W hk => alive16_any W (hT.kept hk))
  have K0 := hid ((Kept.refl (fun _ => False) w).alloc (.cells #[.int .u8 (x.a.toNat : Int), .int .u8 (x.b.toNat : Int), .int .u8 (x.c.toNat : Int), .int .u8 (x.d.toNat : Int)] 23))
  have B0 := hid (Bx.new w #[.int .u8 (x.a.toNat : Int), .int .u8 (x.b.toNat : Int), .int .u8 (x.c.toNat : Int), .int .u8 (x.d.toNat : Int)] 23)
  have HX := hid hl
  clear hv hT hl
  by_cases h400 : 400 < l.length
  · have hz : (400 : Int) < (l.length : Int) := by omega
    unfold adV
    go_enter Tryd.func3, Tryd.ntmps3
    go_upto_region 1 with fail
    generalize w.alloc (.cells #[.int .u8 (x.a.toNat : Int), .int .u8 (x.b.toNat : Int), .int .u8 (x.c.toNat : Int), .int .u8 (x.d.toNat : Int)] 23) = W at *
    go_wp2_with fail
    refine (HA.out _ K0.out).mono ?_
    rintro e w2 ⟨rfl, k2⟩
    have K2 := hid (K0.out.trans k2)
    clear k2
    go_wp2
    go_ret
    exact ⟨rfl, K2.out.below (Nat.le_refl _) (fun _ h => h.elim)⟩
  · have hz : ¬ (400 : Int) < (l.length : Int) := by omega
    by_cases hg : goodP x n
    · obtain ⟨m, rfl⟩ : ∃ m : Nat, n = (m : Int) := ⟨n.toNat, by have := hg.1; omega⟩
      have g1 : 1 ≤ m := by have := hg.1; omega
      have g2 : m ≤ 256 := by have := hg.2.1; omega
      have C1 : Hid (∀ W, Kept (fun _ => False) w W → _) := hid (fun W hk => new_mine2 (w0 := w) (w := W) hk x m g1 g2 hg.2.2)
      have C2 : Hid (∀ W b L, PMine w W b x L → _) := hid (fun W b L h => Duo.made (w0 := w) (w := W) (b := b) (l := L) h m g1 g2 hg.2.2)
      unfold adV at C1 C2 ⊢
      clear hg
      go_enter Tryd.func3, Tryd.ntmps3
      go_upto_region 1 with fail
      generalize w.alloc (.cells #[.int .u8 (x.a.toNat : Int), .int .u8 (x.b.toNat : Int), .int .u8 (x.c.toNat : Int), .int .u8 (x.d.toNat : Int)] 23) = W at *
      have c0 := B0.out.cell 0
      have c1 := B0.out.cell 1
      have c2 := B0.out.cell 2
      have c3 := B0.out.cell 3
      simp only [List.getElem?_toArray, List.getElem?_cons_zero, List.getElem?_cons_succ] at c0 c1 c2 c3
      go_wp2_with fail
      refine (C1.out _ K0.out).mono ?_
      rintro e w1 ⟨b, rfl, m1, k1⟩
      have M1 := hid m1
      have B1 := hid (Keeps.none k1 _ _ _ (by decide) B0.out)
      have d0 := B1.out.cell 0
      have d1 := B1.out.cell 1
      have d2 := B1.out.cell 2
      have d3 := B1.out.cell 3
      simp only [List.getElem?_toArray, List.getElem?_cons_zero, List.getElem?_cons_succ] at d0 d1 d2 d3
      clear m1 k1 c0 c1 c2 c3 C1 B0 K0
      go_wp2_with fail
      refine (C2.out _ _ _ M1.out).mono ?_
      rintro e w2 ⟨d, rfl, m2⟩
      have D2 := hid m2
      clear m2 d0 d1 d2 d3 B1 M1 C2
      go_wp2
      go_loopw [11] (fun vi wr => ∃ (j : Nat) (L : List Lt), j ≤ l.length ∧ vi = .int .i64 (j : Int) ∧ Hid (Duo w wr b d x L L)) (fun vi _ => l.length - (intOf vi).toNat)
      case atStart => exact ⟨0, _, Nat.zero_le _, rfl, D2.out⟩
      case round =>
        obtain ⟨j, L, hj, rfl, HJ⟩ := hrel
        clear D2
        by_cases hlt : j < l.length
        · have hltz : (j : Int) < (l.length : Int) := by omega
          obtain ⟨o, ho⟩ : ∃ o, l[j]? = some o := ⟨l[j], by simp [hlt]⟩
          obtain ⟨ht, hs⟩ := HX.out o (List.mem_of_getElem? ho)
          obtain ⟨g, q, rfl, hcap, hc⟩ := (HV.out.kept0 HJ.out.kept).at ho
          have HC : Hid (∀ U, Kept (fun _ => False) w U → ∀ i u, (op16Cells o)[i]? = some u → U.cell? ⟨g, q + j * 7 + i, none⟩ = some u) := fun U hk i u hu => by
            obtain ⟨g', q', e', _, hc'⟩ := (HV.out.kept0 hk).at ho
            cases e'
            exact hc' i u hu
          clear hc ho
          obtain ⟨xk, xt, xs, xa⟩ := o
          simp only at ht hs
          have e1 : ∀ U, Kept (fun _ => False) wr U → U.cell? ⟨g, q + j * 7 + 1, none⟩ = some (.int .i64 xt) := fun U hk => HC.out U (HJ.out.kept.trans hk) 1 _ rfl
          have e2 : ∀ U, Kept (fun _ => False) wr U → U.cell? ⟨g, q + j * 7 + 2, none⟩ = some (.int .i64 xs) := fun U hk => HC.out U (HJ.out.kept.trans hk) 2 _ rfl
          go_upto_region 12 with fail
          refine wp_region_held_drew (S := Kept (fun _ => False) wr) (by kernel_rfl) ((Kept.refl _ wr).drew) (fun hSd => ?_)
          refine wpAnyH_take (i := 0) (v := ?_) rfl (by kernel_rfl) (by kernel_rfl) (by kernel_rfl) (fun _ _ _ h => h) (Or.inl ⟨by kernel_rfl, fun W hSW => by go_simp; try with_reducible rfl⟩) (by assumption) ?_
          try simp only [List.getElem_toArray]
          try simp only [List.getElem_cons_succ]
          try simp only [List.getElem_cons_zero]
          try simp only [Act.put]
          try simp only [List.setIfInBounds_toArray]
          try simp only [List.set_cons_succ]
          try simp only [List.set_cons_zero]
          refine wpAnyH_take (i := 1) (v := ?_) rfl (by kernel_rfl) (by kernel_rfl) (by kernel_rfl) (fun _ _ _ h => h) (Or.inl ⟨by kernel_rfl, fun W hSW => by go_simp; try with_reducible rfl⟩) (by assumption) ?_
          try simp only [List.getElem_toArray]
          try simp only [List.getElem_cons_succ]
          try simp only [List.getElem_cons_zero]
          try simp only [Act.put]
          try simp only [List.setIfInBounds_toArray]
          try simp only [List.set_cons_succ]
          try simp only [List.set_cons_zero]
          refine wpAnyH_take (i := 2) (v := ?_) rfl (by kernel_rfl) (by kernel_rfl) (by kernel_rfl) (fun _ _ _ h => h) (Or.inl ⟨by kernel_rfl, fun W hSW => by go_simp; try with_reducible rfl⟩) (by assumption) ?_
          try simp only [List.getElem_toArray]
          try simp only [List.getElem_cons_succ]
          try simp only [List.getElem_cons_zero]
          try simp only [Act.put]
          try simp only [List.setIfInBounds_toArray]
          try simp only [List.set_cons_succ]
          try simp only [List.set_cons_zero]
          refine wpAnyH_take (i := 3) (v := ?_) rfl (by kernel_rfl) (by kernel_rfl) (by kernel_rfl) (fun _ _ _ h => h) (Or.inl ⟨by kernel_rfl, fun W hSW => by go_simp; try with_reducible rfl⟩) (by assumption) ?_
          try simp only [List.getElem_toArray]
          try simp only [List.getElem_cons_succ]
          try simp only [List.getElem_cons_zero]
          try simp only [Act.put]
          try simp only [List.setIfInBounds_toArray]
          try simp only [List.set_cons_succ]
          try simp only [List.set_cons_zero]
          refine wpAnyH_take (i := 4) (v := ?_) rfl (by kernel_rfl) (by kernel_rfl) (by kernel_rfl) (fun _ _ _ h => h) (Or.inl ⟨by kernel_rfl, fun W hSW => by go_simp; try with_reducible rfl⟩) (by assumption) ?_
          try simp only [List.getElem_toArray]
          try simp only [List.getElem_cons_succ]
          try simp only [List.getElem_cons_zero]
          try simp only [Act.put]
          try simp only [List.setIfInBounds_toArray]
          try simp only [List.set_cons_succ]
          try simp only [List.set_cons_zero]
          refine wpAnyH_take (i := 5) (v := ?_) rfl (by kernel_rfl) (by kernel_rfl) (by kernel_rfl) (fun _ _ _ h => h) (Or.inl ⟨by kernel_rfl, fun W hSW => by go_simp; try with_reducible rfl⟩) (by assumption) ?_
          try simp only [List.getElem_toArray]
          try simp only [List.getElem_cons_succ]
          try simp only [List.getElem_cons_zero]
          try simp only [Act.put]
          try simp only [List.setIfInBounds_toArray]
          try simp only [List.set_cons_succ]
          try simp only [List.set_cons_zero]
          refine wpAnyH_take (i := 6) (v := ?_) rfl (by kernel_rfl) (by kernel_rfl) (by kernel_rfl) (fun _ _ _ h => h) (Or.inl ⟨by kernel_rfl, fun W hSW => by go_simp; try with_reducible rfl⟩) (by assumption) ?_
          try simp only [List.getElem_toArray]
          try simp only [List.getElem_cons_succ]
          try simp only [List.getElem_cons_zero]
          try simp only [Act.put]
          try simp only [List.setIfInBounds_toArray]
          try simp only [List.set_cons_succ]
          try simp only [List.set_cons_zero]
          refine wpAnyH_take (i := 7) (v := ?_) rfl (by kernel_rfl) (by kernel_rfl) (by kernel_rfl) (fun _ _ _ h => h) (Or.inl ⟨by kernel_rfl, fun W hSW => by go_simp; try with_reducible rfl⟩) (by assumption) ?_
          try simp only [List.getElem_toArray]
          try simp only [List.getElem_cons_succ]
          try simp only [List.getElem_cons_zero]
          try simp only [Act.put]
          try simp only [List.setIfInBounds_toArray]
          try simp only [List.set_cons_succ]
          try simp only [List.set_cons_zero]
          refine wpAnyH_take (i := 8) (v := ?_) rfl (by kernel_rfl) (by kernel_rfl) (by kernel_rfl) (fun _ _ _ h => h) (Or.inl ⟨by kernel_rfl, fun W hSW => by go_simp; try with_reducible rfl⟩) (by assumption) ?_
          try simp only [List.getElem_toArray]
          try simp only [List.getElem_cons_succ]
          try simp only [List.getElem_cons_zero]
          try simp only [Act.put]
          try simp only [List.setIfInBounds_toArray]
          try simp only [List.set_cons_succ]
          try simp only [List.set_cons_zero]
          refine wpAnyH_take (i := 9) (v := ?_) rfl (by kernel_rfl) (by kernel_rfl) (by kernel_rfl) (fun _ _ _ h => h) (Or.inl ⟨by kernel_rfl, fun W hSW => by go_simp; try with_reducible rfl⟩) (by assumption) ?_
          try simp only [List.getElem_toArray]
          try simp only [List.getElem_cons_succ]
          try simp only [List.getElem_cons_zero]
          try simp only [Act.put]
          try simp only [List.setIfInBounds_toArray]
          try simp only [List.set_cons_succ]
          try simp only [List.set_cons_zero]
          refine wpAnyH_take (i := 10) (v := ?_) rfl (by kernel_rfl) (by kernel_rfl) (by kernel_rfl) (fun _ _ _ h => h) (Or.inl ⟨by kernel_rfl, fun W hSW => by go_simp; try with_reducible rfl⟩) (by assumption) ?_
          try simp only [List.getElem_toArray]
          try simp only [List.getElem_cons_succ]
          try simp only [List.getElem_cons_zero]
          try simp only [Act.put]
          try simp only [List.setIfInBounds_toArray]
          try simp only [List.set_cons_succ]
          try simp only [List.set_cons_zero]
          refine wpAnyH_take (i := 11) (v := ?_) rfl (by kernel_rfl) (by kernel_rfl) (by kernel_rfl) (fun _ _ _ h => h) (Or.inl ⟨by kernel_rfl, fun W hSW => by go_simp; try with_reducible rfl⟩) (by assumption) ?_
          try simp only [List.getElem_toArray]
          try simp only [List.getElem_cons_succ]
          try simp only [List.getElem_cons_zero]
          try simp only [Act.put]
          try simp only [List.setIfInBounds_toArray]
          try simp only [List.set_cons_succ]
          try simp only [List.set_cons_zero]
          refine wpAnyH_take (i := 12) (v := ?_) rfl (by kernel_rfl) (by kernel_rfl) (by kernel_rfl) (fun _ _ _ h => h) (Or.inl ⟨by kernel_rfl, fun W hSW => by go_simp; try with_reducible rfl⟩) (by assumption) ?_
          try simp only [List.getElem_toArray]
          try simp only [List.getElem_cons_succ]
          try simp only [List.getElem_cons_zero]
          try simp only [Act.put]
          try simp only [List.setIfInBounds_toArray]
          try simp only [List.set_cons_succ]
          try simp only [List.set_cons_zero]
          refine wpAnyH_ready (rs := [13]) (by kernel_rfl) (by simp) ?_
          refine AllReadyH.cons rfl (fun K hK => ?_) AllReadyH.nil
          go_simp
          have K13 := hid ((Kept.refl (fun _ => False) wr).drew.alloc (.cells #[.int .i64 0, .int .i64 0] 37))
          refine hK.out _ _ (K13.out) (fun _ => ?_)
          clear hK K
          try simp only [List.getElem_toArray]
          try simp only [List.getElem_cons_succ]
          try simp only [List.getElem_cons_zero]
          try simp only [Act.put]
          try simp only [List.setIfInBounds_toArray]
          try simp only [List.set_cons_succ]
          try simp only [List.set_cons_zero]
          refine wpAnyH_ready (rs := [14]) (by kernel_rfl) (by simp) ?_
          refine AllReadyH.cons rfl (fun K hK => ?_) AllReadyH.nil
          go_simp
          have K14 := hid (((Kept.refl (fun _ => False) wr).alloc (.cells #[.int .i64 xt, .int .i64 xs] 37)).drew)
          have X14 : Hid (Bx (wr.alloc (.cells #[.int .i64 xt, .int .i64 xs] 37)).drew wr.heap.size #[.int .i64 xt, .int .i64 xs] 37) := heap_alloc_new wr _
          refine hK.out _ _ (K14.out) (fun _ => ?_)
          clear hK K
          try simp only [List.getElem_toArray]
          try simp only [List.getElem_cons_succ]
          try simp only [List.getElem_cons_zero]
          try simp only [Act.put]
          try simp only [List.setIfInBounds_toArray]
          try simp only [List.set_cons_succ]
          try simp only [List.set_cons_zero]
          refine wpAnyH_done (by kernel_rfl) ?_ _
          have D3 := hid (HJ.out.still K14.out)
          clear e1 e2 K13 K14 HJ
          generalize (wr.alloc (.cells #[.int .i64 xt, .int .i64 xs] 37)).drew = V at *
          generalize wr.heap.size = kb at *
          have e0 := HC.out V D3.out.kept 0 _ rfl
          have e1 := HC.out V D3.out.kept 1 _ rfl
          have e2 := HC.out V D3.out.kept 2 _ rfl
          simp only [Nat.add_zero] at e0
          simp only at e1 e2
          go_upto_block 2 with fail
          go_cut [13, 14, 15, 16] from 54 to 186 (fun _ _ _ _ wx => ∃ L', Hid (Duo w wx b d x L' L' ∧ Bx wx kb #[.int .i64 xt, .int .i64 xs] 37))
          case first =>
            by_cases hk1 : xk = 1
            · have hk1b : (xk == 1) = true := by simp [hk1]
              clear hk1
              have HFw := hid D3.out.mine.good.few
              obtain ⟨R, hR⟩ : ∃ R, takeL x L xt xs = R := ⟨_, rfl⟩
              have P1 := hid (D3.out.ptake ht hs R hR)
              have Q1 := hid (fun U (h : Duo w U b d x R.2.2 L) => h.dtake HFw.out ht hs R hR)
              clear hR
              obtain ⟨y, E, L2⟩ := R
              have HEq := ad_self y
              unfold adV at P1 Q1 HEq
              simp only at P1 Q1
              go_wp2_with fail
              refine P1.out.mono ?_
              rintro e w4 ⟨rfl, m4, k4⟩
              have D4 := hid (m4.still ((Kept.refl (fun _ => False) w4).alloc (.cells #[.int .u8 (y.a.toNat : Int), .int .u8 (y.b.toNat : Int), .int .u8 (y.c.toNat : Int), .int .u8 (y.d.toNat : Int)] 23)))
              have X4 := hid (Keeps.none ((Kept.refl (fun _ => False) w4).alloc (.cells #[.int .u8 (y.a.toNat : Int), .int .u8 (y.b.toNat : Int), .int .u8 (y.c.toNat : Int), .int .u8 (y.d.toNat : Int)] 23)) _ _ _ (by decide) (k4 _ _ _ (by decide) X14.out))
              have Y4 := hid (Bx.new w4 #[.int .u8 (y.a.toNat : Int), .int .u8 (y.b.toNat : Int), .int .u8 (y.c.toNat : Int), .int .u8 (y.d.toNat : Int)] 23)
              clear m4 k4 P1 D3 X14 e0 e1 e2
              go_upto_region 16 with fail
              generalize w4.alloc (.cells #[.int .u8 (y.a.toNat : Int), .int .u8 (y.b.toNat : Int), .int .u8 (y.c.toNat : Int), .int .u8 (y.d.toNat : Int)] 23) = V4 at *
              generalize w4.heap.size = yb at *
              have k0 := X4.out.cell 0
              have k1 := X4.out.cell 1
              simp only [List.getElem?_toArray, List.getElem?_cons_zero, List.getElem?_cons_succ] at k0 k1
              go_wp2_with fail
              refine (Q1.out _ D4.out).mono ?_
              rintro e w5 ⟨rfl, m5, k5⟩
              have D5 := hid (m5.still ((Kept.refl (fun _ => False) w5).alloc (.cells #[.int .u8 (y.a.toNat : Int), .int .u8 (y.b.toNat : Int), .int .u8 (y.c.toNat : Int), .int .u8 (y.d.toNat : Int)] 23)))
              have X5 := hid (Keeps.none ((Kept.refl (fun _ => False) w5).alloc (.cells #[.int .u8 (y.a.toNat : Int), .int .u8 (y.b.toNat : Int), .int .u8 (y.c.toNat : Int), .int .u8 (y.d.toNat : Int)] 23)) _ _ _ (by decide) (k5 _ _ _ (by decide) X4.out))
              have Y5 := hid (Keeps.none ((Kept.refl (fun _ => False) w5).alloc (.cells #[.int .u8 (y.a.toNat : Int), .int .u8 (y.b.toNat : Int), .int .u8 (y.c.toNat : Int), .int .u8 (y.d.toNat : Int)] 23)) _ _ _ (by decide) (k5 _ _ _ (by decide) Y4.out))
              have Z5 := hid (Bx.new w5 #[.int .u8 (y.a.toNat : Int), .int .u8 (y.b.toNat : Int), .int .u8 (y.c.toNat : Int), .int .u8 (y.d.toNat : Int)] 23)
              clear m5 k5 Q1 D4 X4 Y4 k0 k1
              go_upto_region 17 with fail
              generalize w5.alloc (.cells #[.int .u8 (y.a.toNat : Int), .int .u8 (y.b.toNat : Int), .int .u8 (y.c.toNat : Int), .int .u8 (y.d.toNat : Int)] 23) = V5 at *
              generalize w5.heap.size = zb at *
              have y0 := Y5.out.cell 0
              have y1 := Y5.out.cell 1
              have y2 := Y5.out.cell 2
              have y3 := Y5.out.cell 3
              simp only [List.getElem?_toArray, List.getElem?_cons_zero, List.getElem?_cons_succ] at y0 y1 y2 y3
              have z0 := Z5.out.cell 0
              have z1 := Z5.out.cell 1
              have z2 := Z5.out.cell 2
              have z3 := Z5.out.cell 3
              simp only [List.getElem?_toArray, List.getElem?_cons_zero, List.getElem?_cons_succ] at z0 z1 z2 z3
              go_wp2
              go_meet
              exact ⟨L2, D5.out, X5.out⟩
            · have hk1b : (xk == 1) = false := by simpa using hk1
              by_cases hk2 : xk = 2
              · have hk2b : (xk == 2) = true := by simp [hk2]
                clear hk1 hk2
                have HFw := hid D3.out.mine.good.few
                obtain ⟨R, hR⟩ : ∃ R, giveL L xt xs = R := ⟨_, rfl⟩
                have P1 : Hid (∀ U, Duo w U b d x L L → _) := hid (fun U h => h.pgive ht hs R hR)
                have Q1 := hid (fun U (h : Duo w U b d x R.2 L) => h.dgive HFw.out ht hs R hR)
                clear hR
                obtain ⟨E, L2⟩ := R
                simp only at P1 Q1
                go_upto_region 20 with fail
                have s1 : ∀ U, (Kept (fun _ => False) w U ∧ Bx U kb #[.int .i64 xt, .int .i64 xs] 37) → U.cell? ⟨g, q + j * 7 + 1, none⟩ = some (.int .i64 xt) := fun U hk => HC.out U hk.1 1 _ rfl
                have s2 : ∀ U, (Kept (fun _ => False) w U ∧ Bx U kb #[.int .i64 xt, .int .i64 xs] 37) → U.cell? ⟨g, q + j * 7 + 2, none⟩ = some (.int .i64 xs) := fun U hk => HC.out U hk.1 2 _ rfl
                have s3 : ∀ U, (Kept (fun _ => False) w U ∧ Bx U kb #[.int .i64 xt, .int .i64 xs] 37) → U.cell? ⟨kb, 0, none⟩ = some (.int .i64 xt) := fun U hk => hk.2.cell 0
                have s4 : ∀ U, (Kept (fun _ => False) w U ∧ Bx U kb #[.int .i64 xt, .int .i64 xs] 37) → U.cell? ⟨kb, 1, none⟩ = some (.int .i64 xs) := fun U hk => hk.2.cell 1
                clear e0 e1 e2
                refine wp_region_held_drew (S := (fun U => Kept (fun _ => False) w U ∧ Bx U kb #[.int .i64 xt, .int .i64 xs] 37)) (by kernel_rfl) (⟨D3.out.kept.drew, X14.out⟩) (fun hSd => ?_)
                refine wpAnyH_take (i := 0) (v := ?_) rfl (by kernel_rfl) (by kernel_rfl) (by kernel_rfl) (fun _ _ _ h => h) (Or.inl ⟨by kernel_rfl, fun W hSW => by go_simp; try with_reducible rfl⟩) (by assumption) ?_
                try simp only [List.getElem_toArray]
                try simp only [List.getElem_cons_succ]
                try simp only [List.getElem_cons_zero]
                try simp only [Act.put]
                try simp only [List.setIfInBounds_toArray]
                try simp only [List.set_cons_succ]
                try simp only [List.set_cons_zero]
                refine wpAnyH_take (i := 1) (v := ?_) rfl (by kernel_rfl) (by kernel_rfl) (by kernel_rfl) (fun _ _ _ h => h) (Or.inl ⟨by kernel_rfl, fun W hSW => by go_simp; try with_reducible rfl⟩) (by assumption) ?_
                try simp only [List.getElem_toArray]
                try simp only [List.getElem_cons_succ]
                try simp only [List.getElem_cons_zero]
                try simp only [Act.put]
                try simp only [List.setIfInBounds_toArray]
                try simp only [List.set_cons_succ]
                try simp only [List.set_cons_zero]
                refine wpAnyH_take (i := 2) (v := ?_) rfl (by kernel_rfl) (by kernel_rfl) (by kernel_rfl) (fun _ _ _ h => h) (Or.inl ⟨by kernel_rfl, fun W hSW => by go_simp; try with_reducible rfl⟩) (by assumption) ?_
                try simp only [List.getElem_toArray]
                try simp only [List.getElem_cons_succ]
                try simp only [List.getElem_cons_zero]
                try simp only [Act.put]
                try simp only [List.setIfInBounds_toArray]
                try simp only [List.set_cons_succ]
                try simp only [List.set_cons_zero]
                refine wpAnyH_take (i := 3) (v := ?_) rfl (by kernel_rfl) (by kernel_rfl) (by kernel_rfl) (fun _ _ _ h => h) (Or.inl ⟨by kernel_rfl, fun W hSW => by go_simp; try with_reducible rfl⟩) (by assumption) ?_
                try simp only [List.getElem_toArray]
                try simp only [List.getElem_cons_succ]
                try simp only [List.getElem_cons_zero]
                try simp only [Act.put]
                try simp only [List.setIfInBounds_toArray]
                try simp only [List.set_cons_succ]
                try simp only [List.set_cons_zero]
                refine wpAnyH_take (i := 4) (v := ?_) rfl (by kernel_rfl) (by kernel_rfl) (by kernel_rfl) (fun _ _ _ h => h) (Or.inl ⟨by kernel_rfl, fun W hSW => by go_simp; try with_reducible rfl⟩) (by assumption) ?_
                try simp only [List.getElem_toArray]
                try simp only [List.getElem_cons_succ]
                try simp only [List.getElem_cons_zero]
                try simp only [Act.put]
                try simp only [List.setIfInBounds_toArray]
                try simp only [List.set_cons_succ]
                try simp only [List.set_cons_zero]
                refine wpAnyH_take (i := 5) (v := ?_) rfl (by kernel_rfl) (by kernel_rfl) (by kernel_rfl) (fun _ _ _ h => h) (Or.inl ⟨by kernel_rfl, fun W hSW => by go_simp; try with_reducible rfl⟩) (by assumption) ?_
                try simp only [List.getElem_toArray]
                try simp only [List.getElem_cons_succ]
                try simp only [List.getElem_cons_zero]
                try simp only [Act.put]
                try simp only [List.setIfInBounds_toArray]
                try simp only [List.set_cons_succ]
                try simp only [List.set_cons_zero]
                refine wpAnyH_take (i := 7) (v := ?_) rfl (by kernel_rfl) (by kernel_rfl) (by kernel_rfl) (fun _ _ _ h => h) (Or.inl ⟨by kernel_rfl, fun W hSW => by go_simp; try with_reducible rfl⟩) (by assumption) ?_
                try simp only [List.getElem_toArray]
                try simp only [List.getElem_cons_succ]
                try simp only [List.getElem_cons_zero]
                try simp only [Act.put]
                try simp only [List.setIfInBounds_toArray]
                try simp only [List.set_cons_succ]
                try simp only [List.set_cons_zero]
                refine wpAnyH_take (i := 8) (v := ?_) rfl (by kernel_rfl) (by kernel_rfl) (by kernel_rfl) (fun _ _ _ h => h) (Or.inl ⟨by kernel_rfl, fun W hSW => by go_simp; try with_reducible rfl⟩) (by assumption) ?_
                try simp only [List.getElem_toArray]
                try simp only [List.getElem_cons_succ]
                try simp only [List.getElem_cons_zero]
                try simp only [Act.put]
                try simp only [List.setIfInBounds_toArray]
                try simp only [List.set_cons_succ]
                try simp only [List.set_cons_zero]
                refine wpAnyH_ready (rs := [6]) (by kernel_rfl) (by simp) ?_
                refine AllReadyH.cons rfl (fun K hK => ?_) AllReadyH.nil
                go_simp
                refine (P1.out _ (D3.out.still (Kept.refl _ V).drew)).mono ?_
                rintro e w4 ⟨rfl, m4, k4⟩
                have D4 := hid m4
                have X4 : Kept (fun _ => False) w w4 ∧ Bx w4 kb #[.int .i64 xt, .int .i64 xs] 37 := ⟨m4.kept, k4 _ _ _ (by decide) (Keeps.none (Kept.refl _ V).drew _ _ _ (by decide) X14.out)⟩
                clear m4 k4
                refine hK.out _ _ (X4) (fun _ => ?_)
                clear hK K
                try simp only [List.getElem_toArray]
                try simp only [List.getElem_cons_succ]
                try simp only [List.getElem_cons_zero]
                try simp only [Act.put]
                try simp only [List.setIfInBounds_toArray]
                try simp only [List.set_cons_succ]
                try simp only [List.set_cons_zero]
                refine wpAnyH_ready (rs := [9]) (by kernel_rfl) (by simp) ?_
                refine AllReadyH.cons rfl (fun K hK => ?_) AllReadyH.nil
                go_simp
                refine (Q1.out _ D4.out).mono ?_
                rintro e w5 ⟨rfl, m5, k5⟩
                have D5 := hid m5
                have X5 : Kept (fun _ => False) w w5 ∧ Bx w5 kb #[.int .i64 xt, .int .i64 xs] 37 := ⟨m5.kept, k5 _ _ _ (by decide) X4.2⟩
                clear m5 k5
                refine hK.out _ _ (X5) (fun _ => ?_)
                clear hK K
                try simp only [List.getElem_toArray]
                try simp only [List.getElem_cons_succ]
                try simp only [List.getElem_cons_zero]
                try simp only [Act.put]
                try simp only [List.setIfInBounds_toArray]
                try simp only [List.set_cons_succ]
                try simp only [List.set_cons_zero]
                refine wpAnyH_take (i := 10) (v := ?_) rfl (by kernel_rfl) (by kernel_rfl) (by kernel_rfl) (fun _ _ _ h => h) (Or.inl ⟨by kernel_rfl, fun W hSW => by go_simp; try with_reducible rfl⟩) (by assumption) ?_
                try simp only [List.getElem_toArray]
                try simp only [List.getElem_cons_succ]
                try simp only [List.getElem_cons_zero]
                try simp only [Act.put]
                try simp only [List.setIfInBounds_toArray]
                try simp only [List.set_cons_succ]
                try simp only [List.set_cons_zero]
                refine wpAnyH_done (by kernel_rfl) ?_ _
                go_wp2
                go_meet
                exact ⟨L2, D5.out, X5.2⟩
              · have hk2b : (xk == 2) = false := by simpa using hk2
                clear hk1 hk2
                go_wp2
                go_meet
                exact ⟨L, D3.out, X14.out⟩
          case rest =>
            obtain ⟨L', HL⟩ := hcut
            clear D3 X14 e0 e1 e2
            have D6 := hid HL.out.1
            have X6 := hid HL.out.2
            clear HL
            have HFw := hid D6.out.mine.good.few
            obtain ⟨R, hR⟩ : ∃ R, hasL x L' xt xs = R := ⟨_, rfl⟩
            obtain ⟨Q, hQ⟩ : ∃ Q, whoL x L' xa = Q := ⟨_, rfl⟩
            have P1 := hid (fun U (h : Duo w U b d x L' L') => h.phas ht hs R hR)
            have P2 := hid (fun U (h : Duo w U b d x L' L') => h.dhas HFw.out ht hs R hR)
            have P3 := hid (fun U (h : Duo w U b d x L' L') => h.pwho xa Q hQ)
            have P4 := hid (fun U (h : Duo w U b d x L' L') => h.dwho HFw.out xa Q hQ)
            have P5 := hid (fun U (h : Duo w U b d x L' L') => h.pfree)
            have P6 := hid (fun U (h : Duo w U b d x L' L') => h.dfree HFw.out)
            clear hR hQ
            obtain ⟨y, f⟩ := R
            obtain ⟨t', s', f'⟩ := Q
            have HEq := hid (ad_self y)
            unfold adV at P1 P2 P3 P4 HEq
            simp only at P1 P2 P3 P4
            generalize (nFree L' : Int) = nf at *
            go_upto_region 22 with fail
            have e1 := HC.out _ D6.out.kept 1 _ rfl
            have e2 := HC.out _ D6.out.kept 2 _ rfl
            simp only at e1 e2
            go_wp2_with fail
            refine (P1.out _ D6.out).mono ?_
            rintro e w7 ⟨rfl, k7⟩
            have D7 := hid (D6.out.still (k7.alloc (.cells #[.int .u8 (y.a.toNat : Int), .int .u8 (y.b.toNat : Int), .int .u8 (y.c.toNat : Int), .int .u8 (y.d.toNat : Int)] 23)))
            have X7 := hid (Keeps.none (k7.alloc (.cells #[.int .u8 (y.a.toNat : Int), .int .u8 (y.b.toNat : Int), .int .u8 (y.c.toNat : Int), .int .u8 (y.d.toNat : Int)] 23)) _ _ _ (by decide) X6.out)
            have A7 := hid (Bx.new w7 #[.int .u8 (y.a.toNat : Int), .int .u8 (y.b.toNat : Int), .int .u8 (y.c.toNat : Int), .int .u8 (y.d.toNat : Int)] 23)
            clear k7 D6 X6 e1 e2 P1
            go_upto_region 23 with fail
            generalize w7.alloc (.cells #[.int .u8 (y.a.toNat : Int), .int .u8 (y.b.toNat : Int), .int .u8 (y.c.toNat : Int), .int .u8 (y.d.toNat : Int)] 23) = V7 at *
            generalize w7.heap.size = ab at *
            have k0 := X7.out.cell 0
            have k1 := X7.out.cell 1
            simp only [List.getElem?_toArray, List.getElem?_cons_zero, List.getElem?_cons_succ] at k0 k1
            go_wp2_with fail
            refine (P2.out _ D7.out).mono ?_
            rintro e w8 ⟨rfl, k8⟩
            have D8 := hid (D7.out.still (k8.alloc (.cells #[.int .u8 (y.a.toNat : Int), .int .u8 (y.b.toNat : Int), .int .u8 (y.c.toNat : Int), .int .u8 (y.d.toNat : Int)] 23)))
            have A8 := hid (Keeps.none (k8.alloc (.cells #[.int .u8 (y.a.toNat : Int), .int .u8 (y.b.toNat : Int), .int .u8 (y.c.toNat : Int), .int .u8 (y.d.toNat : Int)] 23)) _ _ _ (by decide) A7.out)
            have B8 := hid (Bx.new w8 #[.int .u8 (y.a.toNat : Int), .int .u8 (y.b.toNat : Int), .int .u8 (y.c.toNat : Int), .int .u8 (y.d.toNat : Int)] 23)
            clear k8 D7 A7 k0 k1 X7 P2
            go_upto_region 24 with fail
            generalize w8.alloc (.cells #[.int .u8 (y.a.toNat : Int), .int .u8 (y.b.toNat : Int), .int .u8 (y.c.toNat : Int), .int .u8 (y.d.toNat : Int)] 23) = V8 at *
            generalize w8.heap.size = bb at *
            have e3 := HC.out _ D8.out.kept 3 _ rfl
            have e4 := HC.out _ D8.out.kept 4 _ rfl
            have e5 := HC.out _ D8.out.kept 5 _ rfl
            have e6 := HC.out _ D8.out.kept 6 _ rfl
            simp only at e3 e4 e5 e6
            go_wp2_with fail
            refine (P3.out _ D8.out).mono ?_
            rintro e w9 ⟨rfl, k9⟩
            have D9 := hid (D8.out.still (k9.alloc (.cells #[.int .i64 t', .int .i64 s'] 34)))
            have A9 := hid (Keeps.none (k9.alloc (.cells #[.int .i64 t', .int .i64 s'] 34)) _ _ _ (by decide) A8.out)
            have B9 := hid (Keeps.none (k9.alloc (.cells #[.int .i64 t', .int .i64 s'] 34)) _ _ _ (by decide) B8.out)
            have C9 := hid (Bx.new w9 #[.int .i64 t', .int .i64 s'] 34)
            clear k9 D8 A8 B8 e3 e4 e5 e6 P3
            go_upto_region 25 with fail
            generalize w9.alloc (.cells #[.int .i64 t', .int .i64 s'] 34) = V9 at *
            generalize w9.heap.size = cb at *
            have e3 := HC.out _ D9.out.kept 3 _ rfl
            have e4 := HC.out _ D9.out.kept 4 _ rfl
            have e5 := HC.out _ D9.out.kept 5 _ rfl
            have e6 := HC.out _ D9.out.kept 6 _ rfl
            simp only at e3 e4 e5 e6
            go_wp2_with fail
            refine (P4.out _ D9.out).mono ?_
            rintro e w10 ⟨rfl, k10⟩
            have D10 := hid (D9.out.still (k10.alloc (.cells #[.int .i64 t', .int .i64 s'] 37)))
            have A10 := hid (Keeps.none (k10.alloc (.cells #[.int .i64 t', .int .i64 s'] 37)) _ _ _ (by decide) A9.out)
            have B10 := hid (Keeps.none (k10.alloc (.cells #[.int .i64 t', .int .i64 s'] 37)) _ _ _ (by decide) B9.out)
            have C10 := hid (Keeps.none (k10.alloc (.cells #[.int .i64 t', .int .i64 s'] 37)) _ _ _ (by decide) C9.out)
            have G10 := hid (Bx.new w10 #[.int .i64 t', .int .i64 s'] 37)
            clear k10 D9 A9 B9 C9 e3 e4 e5 e6 P4
            go_upto_region 26 with fail
            generalize w10.alloc (.cells #[.int .i64 t', .int .i64 s'] 37) = V10 at *
            generalize w10.heap.size = gb at *
            have a0 := A10.out.cell 0
            have a1 := A10.out.cell 1
            have a2 := A10.out.cell 2
            have a3 := A10.out.cell 3
            simp only [List.getElem?_toArray, List.getElem?_cons_zero, List.getElem?_cons_succ] at a0 a1 a2 a3
            have b0 := B10.out.cell 0
            have b1 := B10.out.cell 1
            have b2 := B10.out.cell 2
            have b3 := B10.out.cell 3
            simp only [List.getElem?_toArray, List.getElem?_cons_zero, List.getElem?_cons_succ] at b0 b1 b2 b3
            have k0 := C10.out.cell 0
            have k1 := C10.out.cell 1
            simp only [List.getElem?_toArray, List.getElem?_cons_zero, List.getElem?_cons_succ] at k0 k1
            have g0 := G10.out.cell 0
            have g1 := G10.out.cell 1
            simp only [List.getElem?_toArray, List.getElem?_cons_zero, List.getElem?_cons_succ] at g0 g1
            have heq := HEq.out
            have hff : (f != f) = false := by simp
            have hff' : (f' != f') = false := by simp
            have htt : (t' != t') = false := by simp
            have hss : (s' != s') = false := by simp
            have hnn : (nf != nf) = false := by simp
            go_wp2_with fail
            refine (P5.out _ D10.out).mono ?_
            rintro e w11 ⟨rfl, k11⟩
            have D11 := hid (D10.out.still k11)
            clear k11 D10 A10 B10 C10 G10 P5 a0 a1 a2 a3 b0 b1 b2 b3 k0 k1 g0 g1
            go_wp2_with fail
            refine (P6.out _ D11.out).mono ?_
            rintro e w12 ⟨rfl, k12⟩
            have D12 := hid (D11.out.still k12)
            clear k12 D11 P6
            go_wp2
            exact ⟨⟨j + 1, L', hlt, by go_num, D12.out⟩, by simp [intOf]; omega⟩
        · obtain rfl : j = l.length := by omega
          have hltz : ¬ (l.length : Int) < (l.length : Int) := by omega
          go_wp2_with fail
          refine (HA.out _ HJ.out.kept).mono ?_
          rintro e w4 ⟨rfl, k4⟩
          have K4 := hid (HJ.out.kept.trans k4)
          clear k4 HJ
          go_wp2
          go_ret
          exact ⟨rfl, K4.out.below (Nat.le_refl _) (fun _ h => h.elim)⟩
    · have C1 : Hid (∀ W, _) := hid (fun W => new_bad x n hn hg W)
      have C2 : Hid (∀ W, _) := hid (fun W => rNewPool_bad x n hn hg W)
      unfold adV at C1 C2 ⊢
      clear hg
      go_enter Tryd.func3, Tryd.ntmps3
      go_upto_region 1 with fail
      generalize w.alloc (.cells #[.int .u8 (x.a.toNat : Int), .int .u8 (x.b.toNat : Int), .int .u8 (x.c.toNat : Int), .int .u8 (x.d.toNat : Int)] 23) = W at *
      have c0 := B0.out.cell 0
      have c1 := B0.out.cell 1
      have c2 := B0.out.cell 2
      have c3 := B0.out.cell 3
      simp only [List.getElem?_toArray, List.getElem?_cons_zero, List.getElem?_cons_succ] at c0 c1 c2 c3
      go_wp2_with fail
      refine (C1.out _).mono ?_
      rintro e w1 ⟨rfl, k1⟩
      have K1 := hid (K0.out.trans k1)
      have B1 := hid (Keeps.none k1 _ _ _ (by decide) B0.out)
      have d0 := B1.out.cell 0
      have d1 := B1.out.cell 1
      have d2 := B1.out.cell 2
      have d3 := B1.out.cell 3
      simp only [List.getElem?_toArray, List.getElem?_cons_zero, List.getElem?_cons_succ] at d0 d1 d2 d3
      clear k1 c0 c1 c2 c3 C1 B0 K0
      go_wp2_with fail
      refine (C2.out _).mono ?_
      rintro e w2 ⟨rfl, k2⟩
      have K2 := hid (K1.out.trans k2)
      clear k2 d0 d1 d2 d3 B1 K1 C2
      go_wp2_with fail
      refine (HA.out _ K2.out).mono ?_
      rintro e w3 ⟨rfl, k3⟩
      have K3 := hid (K2.out.trans k3)
      clear k3 K2
      go_wp2
      go_ret
      exact ⟨rfl, K3.out.below (Nat.le_refl _) (fun _ h => h.elim)⟩
end Go.Proofs.YtblcojggjplndaaDoor
