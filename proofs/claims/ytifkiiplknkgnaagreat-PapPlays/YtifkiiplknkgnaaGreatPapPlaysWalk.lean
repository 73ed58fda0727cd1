/- The law PapPlays: it returns true for every client and every list of steps, and leaves what was there. -/
import Derived.Test.YtifkiiplknkgnaaGreatPaPlayKit
import Derived.Deep.RegionHeld3
import Derived.Deep.CutRange
import Derived.Deep.CutBlock
namespace Go.Proofs.YtifkiiplknkgnaaGreat
open Go.RowKit

theorem putReqF_is {n s : ByteArray} (h : (putReqF n s).2 = 0) : n.size ≤ 60 ∧ s.size ≤ 60 ∧ putReqF n s = (layF n ++ layF s, 0) := by
  unfold putReqF at *
  by_cases h1 : (longB n || longB s) = true
  · rw [if_pos h1] at h
    exact absurd h (by decide)
  · rw [if_neg h1]
    simp only [Bool.or_eq_true, not_or, Bool.not_eq_true] at h1
    exact ⟨longB_no h1.1, longB_no h1.2, rfl⟩

theorem tick_data (c : Pc) : (tickC c).2.data = c.data := by
  unfold tickC
  split
  · split
    · rfl
    · split <;> rfl
  · rfl
theorem tick_few (c : Pc) : (tickC c).1.length ≤ 1 := by
  unfold tickC
  split
  · split
    · exact Nat.zero_le _
    · split
      · exact Nat.zero_le _
      · exact Nat.le_refl _
  · exact Nat.zero_le _
theorem take_data (c : Pc) (code id : Int) : (takeC c code id).data = c.data := by
  unfold takeC
  split
  · split
    · rfl
    · split <;> rfl
  · rfl

set_option maxHeartbeats 8000000 in
set_option maxRecDepth 100000 in
theorem papPlays_walk (n s : ByteArray) (retry wait : Int) (v : Value) (l : List Op13) (w : World) (hn : n.size ≤ 140737488351232) (hs : s.size ≤ 140737488351232) (_ : -9223372036854775808 ≤ retry ∧ retry ≤ 9223372036854775807) (_ : -9223372036854775808 ≤ wait ∧ wait ≤ 9223372036854775807)
    (hv : Ops13 w v l) (hl : l.length ≤ maxLen) (hin : ∀ x ∈ l, x.n ≤ maxLen ∧ x.data.size ≤ 140737488351232) :
    Calls Tryz.prog 3 #[.string n, .string s, .int .i64 retry, .int .i64 wait, v] w fun e w' => e = .returned (.bool true) ∧ Below w.heap.size w w' := by
  have Ha := hid aliveP_any
  have HSh := hid (short_any v l w hv hl hin)
  have HV := hid hv
  have HIn := hid hin
  have HN := hid (newC_any n s hn hs retry wait)
  have HR := hid (rNew_any n s hn hs retry wait)
  obtain ⟨p, cap, hp⟩ := RowsAt.slice hv
  subst hp
  obtain ⟨BC, hBC⟩ : ∃ BC, bookCells (restO (.slice none 0 0) (.slice none 0 0)) (.slice none 0 0) (.slice none 0 0) = BC := ⟨_, rfl⟩
  have HBC := hid hBC
  have hl' := hl
  unfold maxLen at hl'
  clear hBC hv hin hl
  go_enter Tryz.func3, Tryz.ntmps3
  go_wp2_with fail
  refine HSh.out.mono ?_
  rintro e w0 ⟨B, rfl, hB, hw⟩
  rw [hw]
  clear HSh hw w0
  cases B with
  | false =>
    clear hB
    go_wp2_with fail
    refine (Ha.out _).mono ?_
    rintro e w2 ⟨rfl, hk2⟩
    go_wp2
    go_ret
    exact ⟨rfl, below_of hk2⟩
  | true =>
    have h200 := hB rfl
    clear hB
    by_cases h3 : 300 < n.size + s.size
    · have h3z : (300 : Int) < (n.size : Int) + (s.size : Int) := by omega
      go_wp2_with fail
      refine (Ha.out _).mono ?_
      rintro e w2 ⟨rfl, hk2⟩
      go_wp2
      go_ret
      exact ⟨rfl, below_of hk2⟩
    · have h3z : ¬ (300 : Int) < (n.size : Int) + (s.size : Int) := by omega
      go_wp2_with fail
      refine (HN.out _).mono ?_
      rintro e w1 ⟨hN1, hk1⟩
      have HN1 := hid hN1
      have HK1 := hid hk1
      clear hN1 hk1 HN
      rcases HN1.out with ⟨E, h0, hE1, rfl⟩ | ⟨hE1, hbad, rfl⟩ | ⟨hE1, hgood, bc, hbc, rfl, hc⟩
      · have hE : (E != 0) = true := by simpa using h0
        have hE' : (E == 0) = false := by simpa using h0
        have hEE : (E != E) = false := by simp
        clear HN1
        go_wp2_with fail
        refine (HR.out _).mono ?_
        rintro e w2 ⟨hR2, hk2⟩
        rcases hR2 with ⟨E', h0', hE2, rfl⟩ | ⟨hE2, _, rfl⟩ | ⟨hE2, _, rfl, _⟩
        · obtain rfl : E' = E := by rw [← hE2, ← hE1]
          have HK2 := hid (HK1.out.trans hk2)
          clear hE1 hE2 h0 h0' hk2 HR
          go_wp2_with fail
          refine (Ha.out _).mono ?_
          rintro e w3 ⟨rfl, hk3⟩
          have HK3 := hid (HK2.out.trans hk3)
          clear hk3
          go_wp2
          go_ret
          exact ⟨rfl, below_of HK3.out⟩
        · exact absurd (hE1.symm.trans hE2) h0
        · exact absurd (hE1.symm.trans hE2) h0
      · clear HN1
        go_wp2_with fail
        refine (HR.out _).mono ?_
        rintro e w2 ⟨hR2, hk2⟩
        rcases hR2 with ⟨E', h0', hE2, rfl⟩ | ⟨hE2, _, rfl⟩ | ⟨hE2, hgood, rfl, _⟩
        · exact absurd (hE2.symm.trans hE1) h0'
        · have HK2 := hid (HK1.out.trans hk2)
          clear hE1 hE2 hk2 HR hbad
          go_wp2_with fail
          refine (Ha.out _).mono ?_
          rintro e w3 ⟨rfl, hk3⟩
          have HK3 := hid (HK2.out.trans hk3)
          clear hk3
          go_wp2
          go_ret
          exact ⟨rfl, below_of HK3.out⟩
        · exact absurd hgood hbad
      · have HC1 := hid hc
        clear HN1 hc
        go_wp2_with fail
        refine (HR.out _).mono ?_
        rintro e w2 ⟨hR2, hk2⟩
        rcases hR2 with ⟨E', h0', hE2, rfl⟩ | ⟨hE2, hbad, rfl⟩ | ⟨hE2, _, rfl, hr2⟩
        · exact absurd (hE2.symm.trans hE1) h0'
        · exact absurd hgood hbad
        · obtain ⟨n6, s6, e0⟩ := putReqF_is hE1
          rw [e0] at HC1 hr2
          have P2 : Hid (PlayP w ((w2.alloc (.cells BC 52))) bc w1.heap.size w2.heap.size n s (newC (layF n ++ layF s) retry wait) 0 (fun _ => True)) := by
            have k3 : Kept (fun _ => False) w2 (w2.alloc (.cells BC 52)) := (Kept.refl _ w2).alloc _
            have hs2 : w.heap.size ≤ w2.heap.size := (HK1.out.trans hk2).size
            have hb := two_new w2 w.heap.size hs2
            rw [HBC.out] at hb
            exact ⟨(HC1.out.kept0 hk2).kept0 k3, hr2.kept0 k3, GoodC.new ⟨hgood.1, hgood.2.1⟩ hgood.2.2, rfl, hbc, HK1.out.size, ⟨_, _, _, _, _, _, _, _, _, _, hb, (fun L hL => by cases hL), (fun L hL => by cases hL), Nat.le_refl _, Nat.le_refl _, trivial⟩, below_of ((HK1.out.trans hk2).trans k3)⟩
          have HN6 := hid (And.intro n6 s6)
          clear hE1 hE2 hk2 HR hgood hr2 HC1 HK1 hbc e0 n6 s6
          go_wp2_with (refine wpList_book2 HBC.out rfl rfl ?_)
          obtain ⟨br, hbr⟩ : ∃ br, br = w1.heap.size := ⟨_, rfl⟩
          obtain ⟨bk, hbk⟩ : ∃ bk, bk = w2.heap.size := ⟨_, rfl⟩
          rw [← hbk] at P2 ⊢
          rw [← hbr] at P2 ⊢
          clear HBC hbr hbk
          go_loopw [16, 17, 18] (fun vi _ _ wr => ∃ (j : Nat) (c : Pc), j ≤ l.length ∧ vi = .int .i64 (j : Int) ∧ Hid (PlayP w wr bc br bk n s c j (fun _ => True))) (fun vi _ _ _ => l.length - (intOf vi).toNat)
          case atStart => exact ⟨0, _, Nat.zero_le _, rfl, P2.out⟩
          case round =>
            obtain ⟨j, c, hj, rfl, HI⟩ := hrel
            clear P2
            by_cases hlt : j < l.length
            · have hltz : (j : Int) < (l.length : Int) := by omega
              obtain ⟨x, hx⟩ : ∃ x, l[j]? = some x := ⟨l[j], by simp [hlt]⟩
              obtain ⟨hx1, hx2⟩ := HIn.out x (List.mem_of_getElem? hx)
              obtain ⟨g, o, rfl, hcap, hc⟩ := (RowsAt.kept0 HV.out (kept_of HI.out.bel)).at hx
              have c0 := hc 0 _ rfl
              have c1 := hc 1 _ rfl
              have c2 := hc 2 _ rfl
              have c3 := hc 3 _ rfl
              have c4 := hc 4 _ rfl
              simp only [Nat.add_zero] at c0
              unfold maxLen at hx1
              clear hc hx
              obtain ⟨xk, xc, xi, xp, xn, xq, xd⟩ := x
              simp only at c0 c1 c2 c3 c4 hx1 hx2
              have hsz := HI.out.bel.size
              have k4 := (Kept.refl (fun _ => False) wr).alloc (.cells #[.int .i64 xc, .int .i64 xi, .slice xp xn xq, .string xd] 56)
              have c0' := (k4.cell (p := ⟨g, o + j * 5, none⟩) (lt_of_cell c0) (fun h => h)).trans c0
              have HP4 := hid (HI.out.kept0 k4)
              have HX4 := hid (PkAt.new wr xc xi (.slice xp xn xq) xd)
              clear k4 HI
              go_upto_block 2 with fail
              generalize hW4 : wr.alloc (.cells #[.int .i64 xc, .int .i64 xi, .slice xp xn xq, .string xd] 56) = W4 at *
              obtain ⟨gb, hgb⟩ : ∃ gb, gb = wr.heap.size := ⟨_, rfl⟩
              rw [← hgb] at HX4 ⊢
              clear hW4 hgb c0 c1 c2 c3 c4 c0' hcap
              obtain ⟨d0, d1, d2, d3⟩ := HX4.out.cells
              go_cut [17, 18] from 71 to 179 (fun va vb wx => ∃ (c' : Pc) (L : List Pq), Hid (MidP w wx bc br bk n s c' j va vb L gb ⟨xk, xc, xi, xp, xn, xq, xd⟩))
              case first =>
                have n6 := HN6.out.1
                have s6 := HN6.out.2
                by_cases hk1 : xk = 1
                · have hk1b : (xk == 1) = true := by simp [hk1]
                  clear hk1
                  go_wp2_with fail
                  refine (start_any bc c HP4.out.good W4 HP4.out.cl).mono ?_
                  rintro e w5 ⟨va, rfl, hc5, ho5, hk5⟩
                  have H5 := hid (And.intro hc5 (And.intro ho5 hk5))
                  have HRs := hid (rStart_any br n s n6 s6 c HP4.out.data HP4.out.good w5 (HP4.out.rp.kept hk5 HP4.out.ne))
                  obtain ⟨pa, ca, hpa⟩ := slice_of ho5
                  subst hpa
                  clear hc5 ho5 hk5
                  go_wp2_with fail
                  refine HRs.out.mono ?_
                  rintro e w6 ⟨vb, rfl, hr6, ho6, hk6⟩
                  have HM := hid (HP4.out.both (x := ⟨xk, xc, xi, xp, xn, xq, xd⟩) HX4.out H5.out.1 H5.out.2.1 H5.out.2.2 hr6 ho6 hk6 HP4.out.good.start rfl (Nat.le_refl _))
                  obtain ⟨pb, cb, hpb⟩ := slice_of ho6
                  subst hpb
                  clear hr6 ho6 hk6 HRs H5
                  go_wp2
                  go_meet
                  exact ⟨_, _, HM.out⟩
                · have hk1b : (xk == 1) = false := by simpa using hk1
                  by_cases hk2 : xk = 2
                  · have hk2b : (xk == 2) = true := by simp [hk2]
                    clear hk1 hk2
                    go_wp2_with fail
                    refine (tick_any bc c HP4.out.good W4 HP4.out.cl).mono ?_
                    rintro e w5 ⟨va, rfl, hc5, ho5, hk5⟩
                    have H5 := hid (And.intro hc5 (And.intro ho5 hk5))
                    have HRs := hid (rTick_any br n s n6 s6 c HP4.out.data HP4.out.good w5 (HP4.out.rp.kept hk5 HP4.out.ne))
                    obtain ⟨pa, ca, hpa⟩ := slice_of ho5
                    subst hpa
                    clear hc5 ho5 hk5
                    go_wp2_with fail
                    refine HRs.out.mono ?_
                    rintro e w6 ⟨vb, rfl, hr6, ho6, hk6⟩
                    have HM := hid (HP4.out.both (x := ⟨xk, xc, xi, xp, xn, xq, xd⟩) HX4.out H5.out.1 H5.out.2.1 H5.out.2.2 hr6 ho6 hk6 HP4.out.good.tick (tick_data c) (tick_few c))
                    obtain ⟨pb, cb, hpb⟩ := slice_of ho6
                    subst hpb
                    clear hr6 ho6 hk6 HRs H5
                    go_wp2
                    go_meet
                    exact ⟨_, _, HM.out⟩
                  · have hk2b : (xk == 2) = false := by simpa using hk2
                    clear hk1 hk2
                    have HT1 := hid (takeC_any bc c xc xi xp xn xq xd W4 HP4.out.cl)
                    unfold pkV at HT1
                    go_wp2_with fail
                    refine HT1.out.mono ?_
                    rintro e w5 ⟨rfl, hc5, hk5⟩
                    have H5 := hid (And.intro hc5 hk5)
                    have HT2 := hid (rTake_any br n s c xc xi xp xn xq xd w5 (HP4.out.rp.kept hk5 HP4.out.ne))
                    unfold pkV at HT2
                    obtain ⟨d0', d1', d2', d3'⟩ := (HX4.out.kept hk5 (HX4.out.ne_cl HP4.out.cl)).cells
                    clear hc5 hk5 d0 d1 d2 d3 HT1
                    go_wp2_with fail
                    refine HT2.out.mono ?_
                    rintro e w6 ⟨rfl, hr6, hk6⟩
                    have HM := hid (HP4.out.both (x := ⟨xk, xc, xi, xp, xn, xq, xd⟩) (va := .slice none 0 0) (vb := .slice none 0 0) (L := []) HX4.out H5.out.1 (OwnQ.nil _ _) H5.out.2 hr6 (OwnQ.nil _ _) hk6 (HP4.out.good.take xc xi) (take_data c xc xi) (Nat.zero_le _))
                    clear hr6 hk6 HT2 H5
                    go_wp2
                    go_meet
                    exact ⟨_, _, HM.out⟩
              case rest =>
                obtain ⟨c', L, HM⟩ := hcut
                clear HP4 HX4 d0 d1 d2 d3
                obtain ⟨pa, ca, hpa⟩ := slice_of HM.out.own
                obtain ⟨pb, cb, hpb⟩ := slice_of HM.out.too
                subst hpa hpb
                have HSe := hid (HM.out.sent (by omega))
                have hfew := HM.out.few
                clear HM
                go_wp2_with fail
                refine HSe.out.mono ?_
                rintro e w7 ⟨rfl, hp7, hoa7, hob7, hx7⟩
                have P7 := hid hp7
                have A7 := hid hoa7
                have B7 := hid hob7
                have X7 : Hid (PkAt w7 gb xc xi (.slice xp xn xq) xd) := hx7
                clear hp7 hoa7 hob7 hx7 HSe
                have HDn := hid (done_any bc c' w7 P7.out.cl)
                go_wp2_with fail
                refine HDn.out.mono ?_
                rintro e w8 ⟨rfl, hk8⟩
                have P8 := hid (P7.out.kept0 hk8)
                have A8 := hid (A7.out.kept0 hk8)
                have B8 := hid (B7.out.kept0 hk8)
                have X8 := hid (X7.out.kept hk8 (fun h => h))
                clear hk8 P7 A7 B7 X7 HDn
                obtain ⟨d0, d1, d2, d3⟩ := X8.out.cells
                have HS1 := hid (fun W => serve_any xc xi xp xn xq xd hx2 W)
                have HS2 := hid (fun W => rServe_any xc xi xp xn xq xd hx2 W)
                unfold pkV at HS1 HS2
                generalize serveF xc xn xd = SV at *
                obtain ⟨sX, sY, sB⟩ := SV
                simp only at HS1 HS2
                go_wp2_with fail
                refine (HS1.out _).mono ?_
                rintro e w9 ⟨rfl, hk9⟩
                have P9 := hid (P8.out.kept0 hk9)
                have A9 := hid (A8.out.kept0 hk9)
                have B9 := hid (B8.out.kept0 hk9)
                have X9 := hid (X8.out.kept hk9 (fun h => h))
                clear hk9 P8 A8 B8 X8 HS1 d0 d1 d2 d3
                obtain ⟨d0, d1, d2, d3⟩ := X9.out.cells
                go_wp2_with fail
                refine (HS2.out _).mono ?_
                rintro e w10 ⟨rfl, hk10⟩
                have P10 := hid (P9.out.kept0 hk10)
                have A10 := hid (A9.out.kept0 hk10)
                have B10 := hid (B9.out.kept0 hk10)
                have X10 := hid (X9.out.kept hk10 (fun h => h))
                clear hk10 P9 A9 B9 X9 HS2 d0 d1 d2 d3
                have g0 : ∀ W, Kept (fun _ => False) w10 W → W.cell? ⟨gb, 0, none⟩ = some (.int .i64 xc) := fun W hk => (X10.out.kept hk (fun h => h)).cells.1
                have g1 : ∀ W, Kept (fun _ => False) w10 W → W.cell? ⟨gb, 1, none⟩ = some (.int .i64 xi) := fun W hk => (X10.out.kept hk (fun h => h)).cells.2.1
                have g2 : ∀ W, Kept (fun _ => False) w10 W → W.cell? ⟨gb, 2, none⟩ = some (.slice xp xn xq) := fun W hk => (X10.out.kept hk (fun h => h)).cells.2.2.1
                have g3 : ∀ W, Kept (fun _ => False) w10 W → W.cell? ⟨gb, 3, none⟩ = some (.string xd) := fun W hk => (X10.out.kept hk (fun h => h)).cells.2.2.2
                have r8 : ∀ W, Kept (fun _ => False) w10 W → W.cell? ⟨br, 8, none⟩ = some (.bool (doneC c')) := fun W hk => (P10.out.rp.kept0 hk).c8
                have r9 : ∀ W, Kept (fun _ => False) w10 W → W.cell? ⟨br, 9, none⟩ = some (.bool (c'.st == 2)) := fun W hk => (P10.out.rp.kept0 hk).c9
                have HSm := hid (fun W (hk : Kept (fun _ => False) w10 W) => BPackets.samePackets_eq _ _ L W (A10.out.kept0 hk).tags (B10.out.kept0 hk).tags (by omega))
                have HAn := hid (fun W (q : Bool) => answer_any xc xi xp xn xq xd q W)
                have HRn := hid (fun W (q : Bool) => rAnswer_any xc xi xp xn xq xd q W)
                have HSq := hid (fun (q r : Pq) W (va vb : Value) (ha : RdQ W va [q, r]) (hb : RdQ W vb [q, r]) => BPackets.samePackets_eq va vb [q, r] W ha hb (by simp))
                unfold pkV pqV at HAn HRn
                generalize doneC c' = dn at *
                generalize (c'.st == 2) = gd at *
                have ndn : (dn != dn) = false := by simp
                have ngd : (gd != gd) = false := by simp
                have nsb : (sB != sB) = false := by simp
                generalize answerQ xi = AQ at *
                go_wp2_with fail
                refine wp_region_held_drew (S := Kept (fun _ => False) w10) (by kernel_rfl) ((Kept.refl _ w10).drew) (fun hSd => ?_)
                refine wpAnyH_take (i := 0) (v := ?_) rfl (by kernel_rfl) (by kernel_rfl) (by kernel_rfl) (fun _ _ _ h => h) (Or.inl ⟨by kernel_rfl, fun W hSW => by go_simp; try with_reducible rfl⟩) (by assumption) ?_
                try simp only [List.getElem_toArray]
                try simp only [List.getElem_cons_succ]
                try simp only [List.getElem_cons_zero]
                try simp only [Act.put]
                try simp only [List.setIfInBounds_toArray]
                try simp only [List.set_cons_succ]
                try simp only [List.set_cons_zero]
                refine wpAnyH_take (i := 1) (v := ?_) rfl (by kernel_rfl) (by kernel_rfl) (by kernel_rfl) (fun _ _ _ h => h) (Or.inl ⟨by kernel_rfl, fun W hSW => by go_simp; try with_reducible rfl⟩) (by assumption) ?_
                try simp only [List.getElem_toArray]
                try simp only [List.getElem_cons_succ]
                try simp only [List.getElem_cons_zero]
                try simp only [Act.put]
                try simp only [List.setIfInBounds_toArray]
                try simp only [List.set_cons_succ]
                try simp only [List.set_cons_zero]
                refine wpAnyH_ready (rs := [2]) (by kernel_rfl) (by simp) ?_
                refine AllReadyH.cons rfl (fun K hK => ?_) AllReadyH.nil
                go_simp
                refine (HSm.out _ hSd).mono ?_
                rintro e w11 ⟨rfl, hk⟩
                have hS11 : Kept (fun _ => False) w10 w11 := hSd.trans hk
                clear hk
                refine hK.out _ _ (hS11) (fun _ => ?_)
                clear hK K
                try simp only [List.getElem_toArray]
                try simp only [List.getElem_cons_succ]
                try simp only [List.getElem_cons_zero]
                try simp only [Act.put]
                try simp only [List.setIfInBounds_toArray]
                try simp only [List.set_cons_succ]
                try simp only [List.set_cons_zero]
                refine wpAnyH_take (i := 3) (v := ?_) rfl (by kernel_rfl) (by kernel_rfl) (by kernel_rfl) (fun _ _ _ h => h) (Or.inl ⟨by kernel_rfl, fun W hSW => by go_simp; try with_reducible rfl⟩) (by assumption) ?_
                try simp only [List.getElem_toArray]
                try simp only [List.getElem_cons_succ]
                try simp only [List.getElem_cons_zero]
                try simp only [Act.put]
                try simp only [List.setIfInBounds_toArray]
                try simp only [List.set_cons_succ]
                try simp only [List.set_cons_zero]
                refine wpAnyH_take (i := 4) (v := ?_) rfl (by kernel_rfl) (by kernel_rfl) (by kernel_rfl) (fun _ _ _ h => h) (Or.inl ⟨by kernel_rfl, fun W hSW => by go_simp; try with_reducible rfl⟩) (by assumption) ?_
                try simp only [List.getElem_toArray]
                try simp only [List.getElem_cons_succ]
                try simp only [List.getElem_cons_zero]
                try simp only [Act.put]
                try simp only [List.setIfInBounds_toArray]
                try simp only [List.set_cons_succ]
                try simp only [List.set_cons_zero]
                refine wpAnyH_take (i := 5) (v := ?_) rfl (by kernel_rfl) (by kernel_rfl) (by kernel_rfl) (fun _ _ _ h => h) (Or.inl ⟨by kernel_rfl, fun W hSW => by go_simp; try with_reducible rfl⟩) (by assumption) ?_
                try simp only [List.getElem_toArray]
                try simp only [List.getElem_cons_succ]
                try simp only [List.getElem_cons_zero]
                try simp only [Act.put]
                try simp only [List.setIfInBounds_toArray]
                try simp only [List.set_cons_succ]
                try simp only [List.set_cons_zero]
                refine wpAnyH_take (i := 6) (v := ?_) rfl (by kernel_rfl) (by kernel_rfl) (by kernel_rfl) (fun _ _ _ h => h) (Or.inl ⟨by kernel_rfl, fun W hSW => by go_simp; try with_reducible rfl⟩) (by assumption) ?_
                try simp only [List.getElem_toArray]
                try simp only [List.getElem_cons_succ]
                try simp only [List.getElem_cons_zero]
                try simp only [Act.put]
                try simp only [List.setIfInBounds_toArray]
                try simp only [List.set_cons_succ]
                try simp only [List.set_cons_zero]
                refine wpAnyH_take (i := 7) (v := ?_) rfl (by kernel_rfl) (by kernel_rfl) (by kernel_rfl) (fun _ _ _ h => h) (Or.inl ⟨by kernel_rfl, fun W hSW => by go_simp; try with_reducible rfl⟩) (by assumption) ?_
                try simp only [List.getElem_toArray]
                try simp only [List.getElem_cons_succ]
                try simp only [List.getElem_cons_zero]
                try simp only [Act.put]
                try simp only [List.setIfInBounds_toArray]
                try simp only [List.set_cons_succ]
                try simp only [List.set_cons_zero]
                refine wpAnyH_take (i := 8) (v := ?_) rfl (by kernel_rfl) (by kernel_rfl) (by kernel_rfl) (fun _ _ _ h => h) (Or.inl ⟨by kernel_rfl, fun W hSW => by go_simp; try with_reducible rfl⟩) (by assumption) ?_
                try simp only [List.getElem_toArray]
                try simp only [List.getElem_cons_succ]
                try simp only [List.getElem_cons_zero]
                try simp only [Act.put]
                try simp only [List.setIfInBounds_toArray]
                try simp only [List.set_cons_succ]
                try simp only [List.set_cons_zero]
                refine wpAnyH_take (i := 9) (v := ?_) rfl (by kernel_rfl) (by kernel_rfl) (by kernel_rfl) (fun _ _ _ h => h) (Or.inl ⟨by kernel_rfl, fun W hSW => by go_simp; try with_reducible rfl⟩) (by assumption) ?_
                try simp only [List.getElem_toArray]
                try simp only [List.getElem_cons_succ]
                try simp only [List.getElem_cons_zero]
                try simp only [Act.put]
                try simp only [List.setIfInBounds_toArray]
                try simp only [List.set_cons_succ]
                try simp only [List.set_cons_zero]
                refine wpAnyH_take (i := 10) (v := (.bool false)) rfl (by kernel_rfl) (by kernel_rfl) (by kernel_rfl) (fun _ _ _ h => h) (Or.inl ⟨by kernel_rfl, fun W hSW => by go_simp; try with_reducible rfl⟩) (by assumption) ?_
                try simp only [List.getElem_toArray]
                try simp only [List.getElem_cons_succ]
                try simp only [List.getElem_cons_zero]
                try simp only [Act.put]
                try simp only [List.setIfInBounds_toArray]
                try simp only [List.set_cons_succ]
                try simp only [List.set_cons_zero]
                refine wpAnyH_take (i := 11) (v := ?_) rfl (by kernel_rfl) (by kernel_rfl) (by kernel_rfl) (fun _ _ _ h => h) (Or.inl ⟨by kernel_rfl, fun W hSW => by go_simp; try with_reducible rfl⟩) (by assumption) ?_
                try simp only [List.getElem_toArray]
                try simp only [List.getElem_cons_succ]
                try simp only [List.getElem_cons_zero]
                try simp only [Act.put]
                try simp only [List.setIfInBounds_toArray]
                try simp only [List.set_cons_succ]
                try simp only [List.set_cons_zero]
                refine wpAnyH_take (i := 12) (v := ?_) rfl (by kernel_rfl) (by kernel_rfl) (by kernel_rfl) (fun _ _ _ h => h) (Or.inl ⟨by kernel_rfl, fun W hSW => by go_simp; try with_reducible rfl⟩) (by assumption) ?_
                try simp only [List.getElem_toArray]
                try simp only [List.getElem_cons_succ]
                try simp only [List.getElem_cons_zero]
                try simp only [Act.put]
                try simp only [List.setIfInBounds_toArray]
                try simp only [List.set_cons_succ]
                try simp only [List.set_cons_zero]
                refine wpAnyH_take (i := 13) (v := ?_) rfl (by kernel_rfl) (by kernel_rfl) (by kernel_rfl) (fun _ _ _ h => h) (Or.inl ⟨by kernel_rfl, fun W hSW => by go_simp; try with_reducible rfl⟩) (by assumption) ?_
                try simp only [List.getElem_toArray]
                try simp only [List.getElem_cons_succ]
                try simp only [List.getElem_cons_zero]
                try simp only [Act.put]
                try simp only [List.setIfInBounds_toArray]
                try simp only [List.set_cons_succ]
                try simp only [List.set_cons_zero]
                refine wpAnyH_take (i := 14) (v := ?_) rfl (by kernel_rfl) (by kernel_rfl) (by kernel_rfl) (fun _ _ _ h => h) (Or.inl ⟨by kernel_rfl, fun W hSW => by go_simp; try with_reducible rfl⟩) (by assumption) ?_
                try simp only [List.getElem_toArray]
                try simp only [List.getElem_cons_succ]
                try simp only [List.getElem_cons_zero]
                try simp only [Act.put]
                try simp only [List.setIfInBounds_toArray]
                try simp only [List.set_cons_succ]
                try simp only [List.set_cons_zero]
                refine wpAnyH_take (i := 15) (v := ?_) rfl (by kernel_rfl) (by kernel_rfl) (by kernel_rfl) (fun _ _ _ h => h) (Or.inl ⟨by kernel_rfl, fun W hSW => by go_simp; try with_reducible rfl⟩) (by assumption) ?_
                try simp only [List.getElem_toArray]
                try simp only [List.getElem_cons_succ]
                try simp only [List.getElem_cons_zero]
                try simp only [Act.put]
                try simp only [List.setIfInBounds_toArray]
                try simp only [List.set_cons_succ]
                try simp only [List.set_cons_zero]
                refine wpAnyH_take (i := 16) (v := ?_) rfl (by kernel_rfl) (by kernel_rfl) (by kernel_rfl) (fun _ _ _ h => h) (Or.inl ⟨by kernel_rfl, fun W hSW => by go_simp; try with_reducible rfl⟩) (by assumption) ?_
                try simp only [List.getElem_toArray]
                try simp only [List.getElem_cons_succ]
                try simp only [List.getElem_cons_zero]
                try simp only [Act.put]
                try simp only [List.setIfInBounds_toArray]
                try simp only [List.set_cons_succ]
                try simp only [List.set_cons_zero]
                refine wpAnyH_take (i := 17) (v := ?_) rfl (by kernel_rfl) (by kernel_rfl) (by kernel_rfl) (fun _ _ _ h => h) (Or.inl ⟨by kernel_rfl, fun W hSW => by go_simp; try with_reducible rfl⟩) (by assumption) ?_
                try simp only [List.getElem_toArray]
                try simp only [List.getElem_cons_succ]
                try simp only [List.getElem_cons_zero]
                try simp only [Act.put]
                try simp only [List.setIfInBounds_toArray]
                try simp only [List.set_cons_succ]
                try simp only [List.set_cons_zero]
                refine wpAnyH_take (i := 18) (v := (.bool false)) rfl (by kernel_rfl) (by kernel_rfl) (by kernel_rfl) (fun _ _ _ h => h) (Or.inl ⟨by kernel_rfl, fun W hSW => by go_simp; try with_reducible rfl⟩) (by assumption) ?_
                try simp only [List.getElem_toArray]
                try simp only [List.getElem_cons_succ]
                try simp only [List.getElem_cons_zero]
                try simp only [Act.put]
                try simp only [List.setIfInBounds_toArray]
                try simp only [List.set_cons_succ]
                try simp only [List.set_cons_zero]
                refine wpAnyH_take (i := 19) (v := ?_) rfl (by kernel_rfl) (by kernel_rfl) (by kernel_rfl) (fun _ _ _ h => h) (Or.inl ⟨by kernel_rfl, fun W hSW => by go_simp; try with_reducible rfl⟩) (by assumption) ?_
                try simp only [List.getElem_toArray]
                try simp only [List.getElem_cons_succ]
                try simp only [List.getElem_cons_zero]
                try simp only [Act.put]
                try simp only [List.setIfInBounds_toArray]
                try simp only [List.set_cons_succ]
                try simp only [List.set_cons_zero]
                refine wpAnyH_take (i := 20) (v := ?_) rfl (by kernel_rfl) (by kernel_rfl) (by kernel_rfl) (fun _ _ _ h => h) (Or.inl ⟨by kernel_rfl, fun W hSW => by go_simp; try with_reducible rfl⟩) (by assumption) ?_
                try simp only [List.getElem_toArray]
                try simp only [List.getElem_cons_succ]
                try simp only [List.getElem_cons_zero]
                try simp only [Act.put]
                try simp only [List.setIfInBounds_toArray]
                try simp only [List.set_cons_succ]
                try simp only [List.set_cons_zero]
                refine wpAnyH_take (i := 21) (v := ?_) rfl (by kernel_rfl) (by kernel_rfl) (by kernel_rfl) (fun _ _ _ h => h) (Or.inl ⟨by kernel_rfl, fun W hSW => by go_simp; try with_reducible rfl⟩) (by assumption) ?_
                try simp only [List.getElem_toArray]
                try simp only [List.getElem_cons_succ]
                try simp only [List.getElem_cons_zero]
                try simp only [Act.put]
                try simp only [List.setIfInBounds_toArray]
                try simp only [List.set_cons_succ]
                try simp only [List.set_cons_zero]
                refine wpAnyH_take (i := 22) (v := ?_) rfl (by kernel_rfl) (by kernel_rfl) (by kernel_rfl) (fun _ _ _ h => h) (Or.inl ⟨by kernel_rfl, fun W hSW => by go_simp; try with_reducible rfl⟩) (by assumption) ?_
                try simp only [List.getElem_toArray]
                try simp only [List.getElem_cons_succ]
                try simp only [List.getElem_cons_zero]
                try simp only [Act.put]
                try simp only [List.setIfInBounds_toArray]
                try simp only [List.set_cons_succ]
                try simp only [List.set_cons_zero]
                refine wpAnyH_take (i := 23) (v := (.bool false)) rfl (by kernel_rfl) (by kernel_rfl) (by kernel_rfl) (fun _ _ _ h => h) (Or.inl ⟨by kernel_rfl, fun W hSW => by go_simp; try with_reducible rfl⟩) (by assumption) ?_
                try simp only [List.getElem_toArray]
                try simp only [List.getElem_cons_succ]
                try simp only [List.getElem_cons_zero]
                try simp only [Act.put]
                try simp only [List.setIfInBounds_toArray]
                try simp only [List.set_cons_succ]
                try simp only [List.set_cons_zero]
                refine wpAnyH_take (i := 24) (v := ?_) rfl (by kernel_rfl) (by kernel_rfl) (by kernel_rfl) (fun _ _ _ h => h) (Or.inl ⟨by kernel_rfl, fun W hSW => by go_simp; try with_reducible rfl⟩) (by assumption) ?_
                try simp only [List.getElem_toArray]
                try simp only [List.getElem_cons_succ]
                try simp only [List.getElem_cons_zero]
                try simp only [Act.put]
                try simp only [List.setIfInBounds_toArray]
                try simp only [List.set_cons_succ]
                try simp only [List.set_cons_zero]
                refine wpAnyH_take (i := 25) (v := ?_) rfl (by kernel_rfl) (by kernel_rfl) (by kernel_rfl) (fun _ _ _ h => h) (Or.inl ⟨by kernel_rfl, fun W hSW => by go_simp; try with_reducible rfl⟩) (by assumption) ?_
                try simp only [List.getElem_toArray]
                try simp only [List.getElem_cons_succ]
                try simp only [List.getElem_cons_zero]
                try simp only [Act.put]
                try simp only [List.setIfInBounds_toArray]
                try simp only [List.set_cons_succ]
                try simp only [List.set_cons_zero]
                refine wpAnyH_take (i := 26) (v := ?_) rfl (by kernel_rfl) (by kernel_rfl) (by kernel_rfl) (fun _ _ _ h => h) (Or.inl ⟨by kernel_rfl, fun W hSW => by go_simp; try with_reducible rfl⟩) (by assumption) ?_
                try simp only [List.getElem_toArray]
                try simp only [List.getElem_cons_succ]
                try simp only [List.getElem_cons_zero]
                try simp only [Act.put]
                try simp only [List.setIfInBounds_toArray]
                try simp only [List.set_cons_succ]
                try simp only [List.set_cons_zero]
                refine wpAnyH_take (i := 27) (v := ?_) rfl (by kernel_rfl) (by kernel_rfl) (by kernel_rfl) (fun _ _ _ h => h) (Or.inl ⟨by kernel_rfl, fun W hSW => by go_simp; try with_reducible rfl⟩) (by assumption) ?_
                try simp only [List.getElem_toArray]
                try simp only [List.getElem_cons_succ]
                try simp only [List.getElem_cons_zero]
                try simp only [Act.put]
                try simp only [List.setIfInBounds_toArray]
                try simp only [List.set_cons_succ]
                try simp only [List.set_cons_zero]
                refine wpAnyH_take (i := 28) (v := (.bool false)) rfl (by kernel_rfl) (by kernel_rfl) (by kernel_rfl) (fun _ _ _ h => h) (Or.inl ⟨by kernel_rfl, fun W hSW => by go_simp; try with_reducible rfl⟩) (by assumption) ?_
                try simp only [List.getElem_toArray]
                try simp only [List.getElem_cons_succ]
                try simp only [List.getElem_cons_zero]
                try simp only [Act.put]
                try simp only [List.setIfInBounds_toArray]
                try simp only [List.set_cons_succ]
                try simp only [List.set_cons_zero]
                refine wpAnyH_take (i := 29) (v := ?_) rfl (by kernel_rfl) (by kernel_rfl) (by kernel_rfl) (fun _ _ _ h => h) (Or.inl ⟨by kernel_rfl, fun W hSW => by go_simp; try with_reducible rfl⟩) (by assumption) ?_
                try simp only [List.getElem_toArray]
                try simp only [List.getElem_cons_succ]
                try simp only [List.getElem_cons_zero]
                try simp only [Act.put]
                try simp only [List.setIfInBounds_toArray]
                try simp only [List.set_cons_succ]
                try simp only [List.set_cons_zero]
                refine wpAnyH_take (i := 30) (v := ?_) rfl (by kernel_rfl) (by kernel_rfl) (by kernel_rfl) (fun _ _ _ h => h) (Or.inl ⟨by kernel_rfl, fun W hSW => by go_simp; try with_reducible rfl⟩) (by assumption) ?_
                try simp only [List.getElem_toArray]
                try simp only [List.getElem_cons_succ]
                try simp only [List.getElem_cons_zero]
                try simp only [Act.put]
                try simp only [List.setIfInBounds_toArray]
                try simp only [List.set_cons_succ]
                try simp only [List.set_cons_zero]
                refine wpAnyH_take (i := 31) (v := ?_) rfl (by kernel_rfl) (by kernel_rfl) (by kernel_rfl) (fun _ _ _ h => h) (Or.inl ⟨by kernel_rfl, fun W hSW => by go_simp; try with_reducible rfl⟩) (by assumption) ?_
                try simp only [List.getElem_toArray]
                try simp only [List.getElem_cons_succ]
                try simp only [List.getElem_cons_zero]
                try simp only [Act.put]
                try simp only [List.setIfInBounds_toArray]
                try simp only [List.set_cons_succ]
                try simp only [List.set_cons_zero]
                refine wpAnyH_take (i := 32) (v := ?_) rfl (by kernel_rfl) (by kernel_rfl) (by kernel_rfl) (fun _ _ _ h => h) (Or.inl ⟨by kernel_rfl, fun W hSW => by go_simp; try with_reducible rfl⟩) (by assumption) ?_
                try simp only [List.getElem_toArray]
                try simp only [List.getElem_cons_succ]
                try simp only [List.getElem_cons_zero]
                try simp only [Act.put]
                try simp only [List.setIfInBounds_toArray]
                try simp only [List.set_cons_succ]
                try simp only [List.set_cons_zero]
                refine wpAnyH_take (i := 33) (v := (.bool false)) rfl (by kernel_rfl) (by kernel_rfl) (by kernel_rfl) (fun _ _ _ h => h) (Or.inl ⟨by kernel_rfl, fun W hSW => by go_simp; try with_reducible rfl⟩) (by assumption) ?_
                try simp only [List.getElem_toArray]
                try simp only [List.getElem_cons_succ]
                try simp only [List.getElem_cons_zero]
                try simp only [Act.put]
                try simp only [List.setIfInBounds_toArray]
                try simp only [List.set_cons_succ]
                try simp only [List.set_cons_zero]
                refine wpAnyH_take (i := 34) (v := ?_) rfl (by kernel_rfl) (by kernel_rfl) (by kernel_rfl) (fun _ _ _ h => h) (Or.inl ⟨by kernel_rfl, fun W hSW => by go_simp; try with_reducible rfl⟩) (by assumption) ?_
                try simp only [List.getElem_toArray]
                try simp only [List.getElem_cons_succ]
                try simp only [List.getElem_cons_zero]
                try simp only [Act.put]
                try simp only [List.setIfInBounds_toArray]
                try simp only [List.set_cons_succ]
                try simp only [List.set_cons_zero]
                refine wpAnyH_take (i := 35) (v := ?_) rfl (by kernel_rfl) (by kernel_rfl) (by kernel_rfl) (fun _ _ _ h => h) (Or.inl ⟨by kernel_rfl, fun W hSW => by go_simp; try with_reducible rfl⟩) (by assumption) ?_
                try simp only [List.getElem_toArray]
                try simp only [List.getElem_cons_succ]
                try simp only [List.getElem_cons_zero]
                try simp only [Act.put]
                try simp only [List.setIfInBounds_toArray]
                try simp only [List.set_cons_succ]
                try simp only [List.set_cons_zero]
                refine wpAnyH_take (i := 36) (v := ?_) rfl (by kernel_rfl) (by kernel_rfl) (by kernel_rfl) (fun _ _ _ h => h) (Or.inl ⟨by kernel_rfl, fun W hSW => by go_simp; try with_reducible rfl⟩) (by assumption) ?_
                try simp only [List.getElem_toArray]
                try simp only [List.getElem_cons_succ]
                try simp only [List.getElem_cons_zero]
                try simp only [Act.put]
                try simp only [List.setIfInBounds_toArray]
                try simp only [List.set_cons_succ]
                try simp only [List.set_cons_zero]
                refine wpAnyH_take (i := 37) (v := ?_) rfl (by kernel_rfl) (by kernel_rfl) (by kernel_rfl) (fun _ _ _ h => h) (Or.inl ⟨by kernel_rfl, fun W hSW => by go_simp; try with_reducible rfl⟩) (by assumption) ?_
                try simp only [List.getElem_toArray]
                try simp only [List.getElem_cons_succ]
                try simp only [List.getElem_cons_zero]
                try simp only [Act.put]
                try simp only [List.setIfInBounds_toArray]
                try simp only [List.set_cons_succ]
                try simp only [List.set_cons_zero]
                refine wpAnyH_take (i := 39) (v := ?_) rfl (by kernel_rfl) (by kernel_rfl) (by kernel_rfl) (fun _ _ _ h => h) (Or.inl ⟨by kernel_rfl, fun W hSW => by go_simp; try with_reducible rfl⟩) (by assumption) ?_
                try simp only [List.getElem_toArray]
                try simp only [List.getElem_cons_succ]
                try simp only [List.getElem_cons_zero]
                try simp only [Act.put]
                try simp only [List.setIfInBounds_toArray]
                try simp only [List.set_cons_succ]
                try simp only [List.set_cons_zero]
                refine wpAnyH_take (i := 40) (v := ?_) rfl (by kernel_rfl) (by kernel_rfl) (by kernel_rfl) (fun _ _ _ h => h) (Or.inl ⟨by kernel_rfl, fun W hSW => by go_simp; try with_reducible rfl⟩) (by assumption) ?_
                try simp only [List.getElem_toArray]
                try simp only [List.getElem_cons_succ]
                try simp only [List.getElem_cons_zero]
                try simp only [Act.put]
                try simp only [List.setIfInBounds_toArray]
                try simp only [List.set_cons_succ]
                try simp only [List.set_cons_zero]
                refine wpAnyH_take (i := 41) (v := ?_) rfl (by kernel_rfl) (by kernel_rfl) (by kernel_rfl) (fun _ _ _ h => h) (Or.inl ⟨by kernel_rfl, fun W hSW => by go_simp; try with_reducible rfl⟩) (by assumption) ?_
                try simp only [List.getElem_toArray]
                try simp only [List.getElem_cons_succ]
                try simp only [List.getElem_cons_zero]
                try simp only [Act.put]
                try simp only [List.setIfInBounds_toArray]
                try simp only [List.set_cons_succ]
                try simp only [List.set_cons_zero]
                refine wpAnyH_take (i := 44) (v := ?_) rfl (by kernel_rfl) (by kernel_rfl) (by kernel_rfl) (fun _ _ _ h => h) (Or.inl ⟨by kernel_rfl, fun W hSW => by go_simp; try with_reducible rfl⟩) (by assumption) ?_
                try simp only [List.getElem_toArray]
                try simp only [List.getElem_cons_succ]
                try simp only [List.getElem_cons_zero]
                try simp only [Act.put]
                try simp only [List.setIfInBounds_toArray]
                try simp only [List.set_cons_succ]
                try simp only [List.set_cons_zero]
                refine wpAnyH_take (i := 45) (v := ?_) rfl (by kernel_rfl) (by kernel_rfl) (by kernel_rfl) (fun _ _ _ h => h) (Or.inl ⟨by kernel_rfl, fun W hSW => by go_simp; try with_reducible rfl⟩) (by assumption) ?_
                try simp only [List.getElem_toArray]
                try simp only [List.getElem_cons_succ]
                try simp only [List.getElem_cons_zero]
                try simp only [Act.put]
                try simp only [List.setIfInBounds_toArray]
                try simp only [List.set_cons_succ]
                try simp only [List.set_cons_zero]
                refine wpAnyH_take (i := 47) (v := ?_) rfl (by kernel_rfl) (by kernel_rfl) (by kernel_rfl) (fun _ _ _ h => h) (Or.inl ⟨by kernel_rfl, fun W hSW => by go_simp; try with_reducible rfl⟩) (by assumption) ?_
                try simp only [List.getElem_toArray]
                try simp only [List.getElem_cons_succ]
                try simp only [List.getElem_cons_zero]
                try simp only [Act.put]
                try simp only [List.setIfInBounds_toArray]
                try simp only [List.set_cons_succ]
                try simp only [List.set_cons_zero]
                refine wpAnyH_take (i := 48) (v := ?_) rfl (by kernel_rfl) (by kernel_rfl) (by kernel_rfl) (fun _ _ _ h => h) (Or.inl ⟨by kernel_rfl, fun W hSW => by go_simp; try with_reducible rfl⟩) (by assumption) ?_
                try simp only [List.getElem_toArray]
                try simp only [List.getElem_cons_succ]
                try simp only [List.getElem_cons_zero]
                try simp only [Act.put]
                try simp only [List.setIfInBounds_toArray]
                try simp only [List.set_cons_succ]
                try simp only [List.set_cons_zero]
                refine wpAnyH_take (i := 49) (v := ?_) rfl (by kernel_rfl) (by kernel_rfl) (by kernel_rfl) (fun _ _ _ h => h) (Or.inl ⟨by kernel_rfl, fun W hSW => by go_simp; try with_reducible rfl⟩) (by assumption) ?_
                try simp only [List.getElem_toArray]
                try simp only [List.getElem_cons_succ]
                try simp only [List.getElem_cons_zero]
                try simp only [Act.put]
                try simp only [List.setIfInBounds_toArray]
                try simp only [List.set_cons_succ]
                try simp only [List.set_cons_zero]
                refine wpAnyH_ready (rs := [38]) (by kernel_rfl) (by simp) ?_
                refine AllReadyH.cons rfl (fun K hK => ?_) AllReadyH.nil
                go_simp
                refine (HAn.out _ gd).mono ?_
                rintro e w12 ⟨rfl, hk⟩
                have hS12 : Kept (fun _ => False) w10 w12 := hS11.trans hk
                clear hk
                refine hK.out _ _ (hS12) (fun _ => ?_)
                clear hK K
                try simp only [List.getElem_toArray]
                try simp only [List.getElem_cons_succ]
                try simp only [List.getElem_cons_zero]
                try simp only [Act.put]
                try simp only [List.setIfInBounds_toArray]
                try simp only [List.set_cons_succ]
                try simp only [List.set_cons_zero]
                refine wpAnyH_ready (rs := [42]) (by kernel_rfl) (by simp) ?_
                refine AllReadyH.cons rfl (fun K hK => ?_) AllReadyH.nil
                go_simp
                refine (HAn.out _ (!gd)).mono ?_
                rintro e w13 ⟨rfl, hk⟩
                have hS13 : Kept (fun _ => False) w10 w13 := hS12.trans hk
                clear hk
                refine hK.out _ _ (hS13) (fun _ => ?_)
                clear hK K
                try simp only [List.getElem_toArray]
                try simp only [List.getElem_cons_succ]
                try simp only [List.getElem_cons_zero]
                try simp only [Act.put]
                try simp only [List.setIfInBounds_toArray]
                try simp only [List.set_cons_succ]
                try simp only [List.set_cons_zero]
                refine wpAnyH_ready (rs := [43, 46]) (by kernel_rfl) (by simp) ?_
                refine AllReadyH.cons rfl (fun K hK => ?_) (AllReadyH.cons rfl (fun K hK => ?_) AllReadyH.nil)
                · skip
                  go_simp
                  have hS14 : Kept (fun _ => False) w10 (World.alloc w13 (.cells #[.int .i64 (AQ gd).code, .int .i64 (AQ gd).id, .slice none 0 0, .string (AQ gd).data, .int .i64 (AQ (!gd)).code, .int .i64 (AQ (!gd)).id, .slice none 0 0, .string (AQ (!gd)).data] 56)) := hS13.alloc _
                  have LA := hid (OwnQ.new2 w13 (AQ gd) (AQ (!gd)))
                  refine hK.out _ _ (hS14) (fun _ => ?_)
                  clear hK K
                  try simp only [List.getElem_toArray]
                  try simp only [List.getElem_cons_succ]
                  try simp only [List.getElem_cons_zero]
                  try simp only [Act.put]
                  try simp only [List.setIfInBounds_toArray]
                  try simp only [List.set_cons_succ]
                  try simp only [List.set_cons_zero]
                  refine wpAnyH_ready (rs := [46]) (by kernel_rfl) (by simp) ?_
                  refine AllReadyH.cons rfl (fun K hK => ?_) AllReadyH.nil
                  go_simp
                  refine (HRn.out _ gd).mono ?_
                  rintro e w15 ⟨rfl, hk⟩
                  have hS15 : Kept (fun _ => False) w10 w15 := hS14.trans hk
                  have LA' := hid (LA.out.kept0 hk)
                  clear hk
                  refine hK.out _ _ (hS15) (fun _ => ?_)
                  clear hK K
                  try simp only [List.getElem_toArray]
                  try simp only [List.getElem_cons_succ]
                  try simp only [List.getElem_cons_zero]
                  try simp only [Act.put]
                  try simp only [List.setIfInBounds_toArray]
                  try simp only [List.set_cons_succ]
                  try simp only [List.set_cons_zero]
                  refine wpAnyH_ready (rs := [50]) (by kernel_rfl) (by simp) ?_
                  refine AllReadyH.cons rfl (fun K hK => ?_) AllReadyH.nil
                  go_simp
                  refine (HRn.out _ (!gd)).mono ?_
                  rintro e w16 ⟨rfl, hk⟩
                  have hS16 : Kept (fun _ => False) w10 w16 := hS15.trans hk
                  have LA'' := hid (LA'.out.kept0 hk)
                  clear hk
                  refine hK.out _ _ (hS16) (fun _ => ?_)
                  clear hK K
                  try simp only [List.getElem_toArray]
                  try simp only [List.getElem_cons_succ]
                  try simp only [List.getElem_cons_zero]
                  try simp only [Act.put]
                  try simp only [List.setIfInBounds_toArray]
                  try simp only [List.set_cons_succ]
                  try simp only [List.set_cons_zero]
                  refine wpAnyH_ready (rs := [51]) (by kernel_rfl) (by simp) ?_
                  refine AllReadyH.cons rfl (fun K hK => ?_) AllReadyH.nil
                  go_simp
                  have hS17 : Kept (fun _ => False) w10 (World.alloc w16 (.cells #[.int .i64 (AQ gd).code, .int .i64 (AQ gd).id, .slice none 0 0, .string (AQ gd).data, .int .i64 (AQ (!gd)).code, .int .i64 (AQ (!gd)).id, .slice none 0 0, .string (AQ (!gd)).data] 56)) := hS16.alloc _
                  have LA''' := hid (LA''.out.kept0 ((Kept.refl (fun _ => False) w16).alloc (.cells #[.int .i64 (AQ gd).code, .int .i64 (AQ gd).id, .slice none 0 0, .string (AQ gd).data, .int .i64 (AQ (!gd)).code, .int .i64 (AQ (!gd)).id, .slice none 0 0, .string (AQ (!gd)).data] 56)))
                  have LB := hid (OwnQ.new2 w16 (AQ gd) (AQ (!gd)))
                  refine hK.out _ _ (hS17) (fun _ => ?_)
                  clear hK K
                  try simp only [List.getElem_toArray]
                  try simp only [List.getElem_cons_succ]
                  try simp only [List.getElem_cons_zero]
                  try simp only [Act.put]
                  try simp only [List.setIfInBounds_toArray]
                  try simp only [List.set_cons_succ]
                  try simp only [List.set_cons_zero]
                  refine wpAnyH_ready (rs := [52]) (by kernel_rfl) (by simp) ?_
                  refine AllReadyH.cons rfl (fun K hK => ?_) AllReadyH.nil
                  go_simp
                  refine (HSq.out (AQ gd) (AQ (!gd)) _ _ _ LA'''.out.tags LB.out.tags).mono ?_
                  rintro e wz ⟨rfl, hk⟩
                  have hSz : Kept (fun _ => False) w10 wz := hS17.trans hk
                  refine hK.out _ _ (hSz) (fun _ => ?_)
                  clear hK K
                  try simp only [List.getElem_toArray]
                  try simp only [List.getElem_cons_succ]
                  try simp only [List.getElem_cons_zero]
                  try simp only [Act.put]
                  try simp only [List.setIfInBounds_toArray]
                  try simp only [List.set_cons_succ]
                  try simp only [List.set_cons_zero]
                  refine wpAnyH_take (i := 53) (v := ?_) rfl (by kernel_rfl) (by kernel_rfl) (by kernel_rfl) (fun _ _ _ h => h) (Or.inl ⟨by kernel_rfl, fun W hSW => by go_simp; try with_reducible rfl⟩) (by assumption) ?_
                  try simp only [List.getElem_toArray]
                  try simp only [List.getElem_cons_succ]
                  try simp only [List.getElem_cons_zero]
                  try simp only [Act.put]
                  try simp only [List.setIfInBounds_toArray]
                  try simp only [List.set_cons_succ]
                  try simp only [List.set_cons_zero]
                  refine wpAnyH_take (i := 54) (v := ?_) rfl (by kernel_rfl) (by kernel_rfl) (by kernel_rfl) (fun _ _ _ h => h) (Or.inl ⟨by kernel_rfl, fun W hSW => by go_simp; try with_reducible rfl⟩) (by assumption) ?_
                  try simp only [List.getElem_toArray]
                  try simp only [List.getElem_cons_succ]
                  try simp only [List.getElem_cons_zero]
                  try simp only [Act.put]
                  try simp only [List.setIfInBounds_toArray]
                  try simp only [List.set_cons_succ]
                  try simp only [List.set_cons_zero]
                  refine wpAnyH_done (by kernel_rfl) ?_ _
                  have PZ := hid (P10.out.kept0 hSz)
                  clear hSz hk
                  go_wp2
                  exact ⟨⟨j + 1, c', hlt, by go_num, PZ.out⟩, by simp [intOf]; omega⟩
                · skip
                  go_simp
                  refine (HRn.out _ gd).mono ?_
                  rintro e w18 ⟨rfl, hk⟩
                  have hS18 : Kept (fun _ => False) w10 w18 := hS13.trans hk
                  clear hk
                  refine hK.out _ _ (hS18) (fun _ => ?_)
                  clear hK K
                  try simp only [List.getElem_toArray]
                  try simp only [List.getElem_cons_succ]
                  try simp only [List.getElem_cons_zero]
                  try simp only [Act.put]
                  try simp only [List.setIfInBounds_toArray]
                  try simp only [List.set_cons_succ]
                  try simp only [List.set_cons_zero]
                  refine wpAnyH_ready (rs := [43, 50]) (by kernel_rfl) (by simp) ?_
                  refine AllReadyH.cons rfl (fun K hK => ?_) (AllReadyH.cons rfl (fun K hK => ?_) AllReadyH.nil)
                  · skip
                    go_simp
                    have hS19 : Kept (fun _ => False) w10 (World.alloc w18 (.cells #[.int .i64 (AQ gd).code, .int .i64 (AQ gd).id, .slice none 0 0, .string (AQ gd).data, .int .i64 (AQ (!gd)).code, .int .i64 (AQ (!gd)).id, .slice none 0 0, .string (AQ (!gd)).data] 56)) := hS18.alloc _
                    have LA := hid (OwnQ.new2 w18 (AQ gd) (AQ (!gd)))
                    refine hK.out _ _ (hS19) (fun _ => ?_)
                    clear hK K
                    try simp only [List.getElem_toArray]
                    try simp only [List.getElem_cons_succ]
                    try simp only [List.getElem_cons_zero]
                    try simp only [Act.put]
                    try simp only [List.setIfInBounds_toArray]
                    try simp only [List.set_cons_succ]
                    try simp only [List.set_cons_zero]
                    refine wpAnyH_ready (rs := [50]) (by kernel_rfl) (by simp) ?_
                    refine AllReadyH.cons rfl (fun K hK => ?_) AllReadyH.nil
                    go_simp
                    refine (HRn.out _ (!gd)).mono ?_
                    rintro e w20 ⟨rfl, hk⟩
                    have hS20 : Kept (fun _ => False) w10 w20 := hS19.trans hk
                    have LA' := hid (LA.out.kept0 hk)
                    clear hk
                    refine hK.out _ _ (hS20) (fun _ => ?_)
                    clear hK K
                    try simp only [List.getElem_toArray]
                    try simp only [List.getElem_cons_succ]
                    try simp only [List.getElem_cons_zero]
                    try simp only [Act.put]
                    try simp only [List.setIfInBounds_toArray]
                    try simp only [List.set_cons_succ]
                    try simp only [List.set_cons_zero]
                    refine wpAnyH_ready (rs := [51]) (by kernel_rfl) (by simp) ?_
                    refine AllReadyH.cons rfl (fun K hK => ?_) AllReadyH.nil
                    go_simp
                    have hS21 : Kept (fun _ => False) w10 (World.alloc w20 (.cells #[.int .i64 (AQ gd).code, .int .i64 (AQ gd).id, .slice none 0 0, .string (AQ gd).data, .int .i64 (AQ (!gd)).code, .int .i64 (AQ (!gd)).id, .slice none 0 0, .string (AQ (!gd)).data] 56)) := hS20.alloc _
                    have LA'' := hid (LA'.out.kept0 ((Kept.refl (fun _ => False) w20).alloc (.cells #[.int .i64 (AQ gd).code, .int .i64 (AQ gd).id, .slice none 0 0, .string (AQ gd).data, .int .i64 (AQ (!gd)).code, .int .i64 (AQ (!gd)).id, .slice none 0 0, .string (AQ (!gd)).data] 56)))
                    have LB := hid (OwnQ.new2 w20 (AQ gd) (AQ (!gd)))
                    refine hK.out _ _ (hS21) (fun _ => ?_)
                    clear hK K
                    try simp only [List.getElem_toArray]
                    try simp only [List.getElem_cons_succ]
                    try simp only [List.getElem_cons_zero]
                    try simp only [Act.put]
                    try simp only [List.setIfInBounds_toArray]
                    try simp only [List.set_cons_succ]
                    try simp only [List.set_cons_zero]
                    refine wpAnyH_ready (rs := [52]) (by kernel_rfl) (by simp) ?_
                    refine AllReadyH.cons rfl (fun K hK => ?_) AllReadyH.nil
                    go_simp
                    refine (HSq.out (AQ gd) (AQ (!gd)) _ _ _ LA''.out.tags LB.out.tags).mono ?_
                    rintro e wz ⟨rfl, hk⟩
                    have hSz : Kept (fun _ => False) w10 wz := hS21.trans hk
                    refine hK.out _ _ (hSz) (fun _ => ?_)
                    clear hK K
                    try simp only [List.getElem_toArray]
                    try simp only [List.getElem_cons_succ]
                    try simp only [List.getElem_cons_zero]
                    try simp only [Act.put]
                    try simp only [List.setIfInBounds_toArray]
                    try simp only [List.set_cons_succ]
                    try simp only [List.set_cons_zero]
                    refine wpAnyH_take (i := 53) (v := ?_) rfl (by kernel_rfl) (by kernel_rfl) (by kernel_rfl) (fun _ _ _ h => h) (Or.inl ⟨by kernel_rfl, fun W hSW => by go_simp; try with_reducible rfl⟩) (by assumption) ?_
                    try simp only [List.getElem_toArray]
                    try simp only [List.getElem_cons_succ]
                    try simp only [List.getElem_cons_zero]
                    try simp only [Act.put]
                    try simp only [List.setIfInBounds_toArray]
                    try simp only [List.set_cons_succ]
                    try simp only [List.set_cons_zero]
                    refine wpAnyH_take (i := 54) (v := ?_) rfl (by kernel_rfl) (by kernel_rfl) (by kernel_rfl) (fun _ _ _ h => h) (Or.inl ⟨by kernel_rfl, fun W hSW => by go_simp; try with_reducible rfl⟩) (by assumption) ?_
                    try simp only [List.getElem_toArray]
                    try simp only [List.getElem_cons_succ]
                    try simp only [List.getElem_cons_zero]
                    try simp only [Act.put]
                    try simp only [List.setIfInBounds_toArray]
                    try simp only [List.set_cons_succ]
                    try simp only [List.set_cons_zero]
                    refine wpAnyH_done (by kernel_rfl) ?_ _
                    have PZ := hid (P10.out.kept0 hSz)
                    clear hSz hk
                    go_wp2
                    exact ⟨⟨j + 1, c', hlt, by go_num, PZ.out⟩, by simp [intOf]; omega⟩
                  · skip
                    go_simp
                    refine (HRn.out _ (!gd)).mono ?_
                    rintro e w22 ⟨rfl, hk⟩
                    have hS22 : Kept (fun _ => False) w10 w22 := hS18.trans hk
                    clear hk
                    refine hK.out _ _ (hS22) (fun _ => ?_)
                    clear hK K
                    try simp only [List.getElem_toArray]
                    try simp only [List.getElem_cons_succ]
                    try simp only [List.getElem_cons_zero]
                    try simp only [Act.put]
                    try simp only [List.setIfInBounds_toArray]
                    try simp only [List.set_cons_succ]
                    try simp only [List.set_cons_zero]
                    refine wpAnyH_ready (rs := [43, 51]) (by kernel_rfl) (by simp) ?_
                    refine AllReadyH.cons rfl (fun K hK => ?_) (AllReadyH.cons rfl (fun K hK => ?_) AllReadyH.nil)
                    · skip
                      go_simp
                      have hS23 : Kept (fun _ => False) w10 (World.alloc w22 (.cells #[.int .i64 (AQ gd).code, .int .i64 (AQ gd).id, .slice none 0 0, .string (AQ gd).data, .int .i64 (AQ (!gd)).code, .int .i64 (AQ (!gd)).id, .slice none 0 0, .string (AQ (!gd)).data] 56)) := hS22.alloc _
                      have LA := hid (OwnQ.new2 w22 (AQ gd) (AQ (!gd)))
                      refine hK.out _ _ (hS23) (fun _ => ?_)
                      clear hK K
                      try simp only [List.getElem_toArray]
                      try simp only [List.getElem_cons_succ]
                      try simp only [List.getElem_cons_zero]
                      try simp only [Act.put]
                      try simp only [List.setIfInBounds_toArray]
                      try simp only [List.set_cons_succ]
                      try simp only [List.set_cons_zero]
                      refine wpAnyH_ready (rs := [51]) (by kernel_rfl) (by simp) ?_
                      refine AllReadyH.cons rfl (fun K hK => ?_) AllReadyH.nil
                      go_simp
                      have hS24 : Kept (fun _ => False) w10 (World.alloc (World.alloc w22 (.cells #[.int .i64 (AQ gd).code, .int .i64 (AQ gd).id, .slice none 0 0, .string (AQ gd).data, .int .i64 (AQ (!gd)).code, .int .i64 (AQ (!gd)).id, .slice none 0 0, .string (AQ (!gd)).data] 56)) (.cells #[.int .i64 (AQ gd).code, .int .i64 (AQ gd).id, .slice none 0 0, .string (AQ gd).data, .int .i64 (AQ (!gd)).code, .int .i64 (AQ (!gd)).id, .slice none 0 0, .string (AQ (!gd)).data] 56)) := hS23.alloc _
                      have LA' := hid (LA.out.kept0 ((Kept.refl (fun _ => False) (World.alloc w22 (.cells #[.int .i64 (AQ gd).code, .int .i64 (AQ gd).id, .slice none 0 0, .string (AQ gd).data, .int .i64 (AQ (!gd)).code, .int .i64 (AQ (!gd)).id, .slice none 0 0, .string (AQ (!gd)).data] 56))).alloc (.cells #[.int .i64 (AQ gd).code, .int .i64 (AQ gd).id, .slice none 0 0, .string (AQ gd).data, .int .i64 (AQ (!gd)).code, .int .i64 (AQ (!gd)).id, .slice none 0 0, .string (AQ (!gd)).data] 56)))
                      have LB := hid (OwnQ.new2 (World.alloc w22 (.cells #[.int .i64 (AQ gd).code, .int .i64 (AQ gd).id, .slice none 0 0, .string (AQ gd).data, .int .i64 (AQ (!gd)).code, .int .i64 (AQ (!gd)).id, .slice none 0 0, .string (AQ (!gd)).data] 56)) (AQ gd) (AQ (!gd)))
                      rw [show ((World.alloc w22 (.cells #[.int .i64 (AQ gd).code, .int .i64 (AQ gd).id, .slice none 0 0, .string (AQ gd).data, .int .i64 (AQ (!gd)).code, .int .i64 (AQ (!gd)).id, .slice none 0 0, .string (AQ (!gd)).data] 56))).heap.size = w22.heap.size + 1 by simp] at LB
                      refine hK.out _ _ (hS24) (fun _ => ?_)
                      clear hK K
                      try simp only [List.getElem_toArray]
                      try simp only [List.getElem_cons_succ]
                      try simp only [List.getElem_cons_zero]
                      try simp only [Act.put]
                      try simp only [List.setIfInBounds_toArray]
                      try simp only [List.set_cons_succ]
                      try simp only [List.set_cons_zero]
                      refine wpAnyH_ready (rs := [52]) (by kernel_rfl) (by simp) ?_
                      refine AllReadyH.cons rfl (fun K hK => ?_) AllReadyH.nil
                      go_simp
                      refine (HSq.out (AQ gd) (AQ (!gd)) _ _ _ LA'.out.tags LB.out.tags).mono ?_
                      rintro e wz ⟨rfl, hk⟩
                      have hSz : Kept (fun _ => False) w10 wz := hS24.trans hk
                      refine hK.out _ _ (hSz) (fun _ => ?_)
                      clear hK K
                      try simp only [List.getElem_toArray]
                      try simp only [List.getElem_cons_succ]
                      try simp only [List.getElem_cons_zero]
                      try simp only [Act.put]
                      try simp only [List.setIfInBounds_toArray]
                      try simp only [List.set_cons_succ]
                      try simp only [List.set_cons_zero]
                      refine wpAnyH_take (i := 53) (v := ?_) rfl (by kernel_rfl) (by kernel_rfl) (by kernel_rfl) (fun _ _ _ h => h) (Or.inl ⟨by kernel_rfl, fun W hSW => by go_simp; try with_reducible rfl⟩) (by assumption) ?_
                      try simp only [List.getElem_toArray]
                      try simp only [List.getElem_cons_succ]
                      try simp only [List.getElem_cons_zero]
                      try simp only [Act.put]
                      try simp only [List.setIfInBounds_toArray]
                      try simp only [List.set_cons_succ]
                      try simp only [List.set_cons_zero]
                      refine wpAnyH_take (i := 54) (v := ?_) rfl (by kernel_rfl) (by kernel_rfl) (by kernel_rfl) (fun _ _ _ h => h) (Or.inl ⟨by kernel_rfl, fun W hSW => by go_simp; try with_reducible rfl⟩) (by assumption) ?_
                      try simp only [List.getElem_toArray]
                      try simp only [List.getElem_cons_succ]
                      try simp only [List.getElem_cons_zero]
                      try simp only [Act.put]
                      try simp only [List.setIfInBounds_toArray]
                      try simp only [List.set_cons_succ]
                      try simp only [List.set_cons_zero]
                      refine wpAnyH_done (by kernel_rfl) ?_ _
                      have PZ := hid (P10.out.kept0 hSz)
                      clear hSz hk
                      go_wp2
                      exact ⟨⟨j + 1, c', hlt, by go_num, PZ.out⟩, by simp [intOf]; omega⟩
                    · skip
                      go_simp
                      have hS25 : Kept (fun _ => False) w10 (World.alloc w22 (.cells #[.int .i64 (AQ gd).code, .int .i64 (AQ gd).id, .slice none 0 0, .string (AQ gd).data, .int .i64 (AQ (!gd)).code, .int .i64 (AQ (!gd)).id, .slice none 0 0, .string (AQ (!gd)).data] 56)) := hS22.alloc _
                      have LB := hid (OwnQ.new2 w22 (AQ gd) (AQ (!gd)))
                      refine hK.out _ _ (hS25) (fun _ => ?_)
                      clear hK K
                      try simp only [List.getElem_toArray]
                      try simp only [List.getElem_cons_succ]
                      try simp only [List.getElem_cons_zero]
                      try simp only [Act.put]
                      try simp only [List.setIfInBounds_toArray]
                      try simp only [List.set_cons_succ]
                      try simp only [List.set_cons_zero]
                      refine wpAnyH_ready (rs := [43]) (by kernel_rfl) (by simp) ?_
                      refine AllReadyH.cons rfl (fun K hK => ?_) AllReadyH.nil
                      go_simp
                      have hS26 : Kept (fun _ => False) w10 (World.alloc (World.alloc w22 (.cells #[.int .i64 (AQ gd).code, .int .i64 (AQ gd).id, .slice none 0 0, .string (AQ gd).data, .int .i64 (AQ (!gd)).code, .int .i64 (AQ (!gd)).id, .slice none 0 0, .string (AQ (!gd)).data] 56)) (.cells #[.int .i64 (AQ gd).code, .int .i64 (AQ gd).id, .slice none 0 0, .string (AQ gd).data, .int .i64 (AQ (!gd)).code, .int .i64 (AQ (!gd)).id, .slice none 0 0, .string (AQ (!gd)).data] 56)) := hS25.alloc _
                      have LB' := hid (LB.out.kept0 ((Kept.refl (fun _ => False) (World.alloc w22 (.cells #[.int .i64 (AQ gd).code, .int .i64 (AQ gd).id, .slice none 0 0, .string (AQ gd).data, .int .i64 (AQ (!gd)).code, .int .i64 (AQ (!gd)).id, .slice none 0 0, .string (AQ (!gd)).data] 56))).alloc (.cells #[.int .i64 (AQ gd).code, .int .i64 (AQ gd).id, .slice none 0 0, .string (AQ gd).data, .int .i64 (AQ (!gd)).code, .int .i64 (AQ (!gd)).id, .slice none 0 0, .string (AQ (!gd)).data] 56)))
                      have LA := hid (OwnQ.new2 (World.alloc w22 (.cells #[.int .i64 (AQ gd).code, .int .i64 (AQ gd).id, .slice none 0 0, .string (AQ gd).data, .int .i64 (AQ (!gd)).code, .int .i64 (AQ (!gd)).id, .slice none 0 0, .string (AQ (!gd)).data] 56)) (AQ gd) (AQ (!gd)))
                      rw [show ((World.alloc w22 (.cells #[.int .i64 (AQ gd).code, .int .i64 (AQ gd).id, .slice none 0 0, .string (AQ gd).data, .int .i64 (AQ (!gd)).code, .int .i64 (AQ (!gd)).id, .slice none 0 0, .string (AQ (!gd)).data] 56))).heap.size = w22.heap.size + 1 by simp] at LA
                      refine hK.out _ _ (hS26) (fun _ => ?_)
                      clear hK K
                      try simp only [List.getElem_toArray]
                      try simp only [List.getElem_cons_succ]
                      try simp only [List.getElem_cons_zero]
                      try simp only [Act.put]
                      try simp only [List.setIfInBounds_toArray]
                      try simp only [List.set_cons_succ]
                      try simp only [List.set_cons_zero]
                      refine wpAnyH_ready (rs := [52]) (by kernel_rfl) (by simp) ?_
                      refine AllReadyH.cons rfl (fun K hK => ?_) AllReadyH.nil
                      go_simp
                      refine (HSq.out (AQ gd) (AQ (!gd)) _ _ _ LA.out.tags LB'.out.tags).mono ?_
                      rintro e wz ⟨rfl, hk⟩
                      have hSz : Kept (fun _ => False) w10 wz := hS26.trans hk
                      refine hK.out _ _ (hSz) (fun _ => ?_)
                      clear hK K
                      try simp only [List.getElem_toArray]
                      try simp only [List.getElem_cons_succ]
                      try simp only [List.getElem_cons_zero]
                      try simp only [Act.put]
                      try simp only [List.setIfInBounds_toArray]
                      try simp only [List.set_cons_succ]
                      try simp only [List.set_cons_zero]
                      refine wpAnyH_take (i := 53) (v := ?_) rfl (by kernel_rfl) (by kernel_rfl) (by kernel_rfl) (fun _ _ _ h => h) (Or.inl ⟨by kernel_rfl, fun W hSW => by go_simp; try with_reducible rfl⟩) (by assumption) ?_
                      try simp only [List.getElem_toArray]
                      try simp only [List.getElem_cons_succ]
                      try simp only [List.getElem_cons_zero]
                      try simp only [Act.put]
                      try simp only [List.setIfInBounds_toArray]
                      try simp only [List.set_cons_succ]
                      try simp only [List.set_cons_zero]
                      refine wpAnyH_take (i := 54) (v := ?_) rfl (by kernel_rfl) (by kernel_rfl) (by kernel_rfl) (fun _ _ _ h => h) (Or.inl ⟨by kernel_rfl, fun W hSW => by go_simp; try with_reducible rfl⟩) (by assumption) ?_
                      try simp only [List.getElem_toArray]
                      try simp only [List.getElem_cons_succ]
                      try simp only [List.getElem_cons_zero]
                      try simp only [Act.put]
                      try simp only [List.setIfInBounds_toArray]
                      try simp only [List.set_cons_succ]
                      try simp only [List.set_cons_zero]
                      refine wpAnyH_done (by kernel_rfl) ?_ _
                      have PZ := hid (P10.out.kept0 hSz)
                      clear hSz hk
                      go_wp2
                      exact ⟨⟨j + 1, c', hlt, by go_num, PZ.out⟩, by simp [intOf]; omega⟩
            · obtain rfl : j = l.length := by omega
              have hltz : ¬ (l.length : Int) < (l.length : Int) := by omega
              go_wp2_with fail
              refine (Ha.out _).mono ?_
              rintro e w3 ⟨rfl, hk3⟩
              have HAp := hid ((HI.out.kept0 hk3).apart (by omega))
              clear hk3 HI
              go_wp2_with fail
              refine HAp.out.mono ?_
              rintro e w4 ⟨rfl, hb4⟩
              have HB4 := hid hb4
              clear hb4 HAp
              go_wp2
              go_ret
              exact ⟨rfl, HB4.out⟩
end Go.Proofs.YtifkiiplknkgnaaGreat

