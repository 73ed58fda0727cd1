/- The contract of an end's Out. (Written by gen_cnout.py.) -/
import Derived.Test.YtoflohomnoppnaaCnLaunch
namespace Go.Proofs.Ytoflohomnoppnaa
open Go.RowKit

def lenV : Value → Nat
  | .slice _ n _ => n
  | _ => 0
theorem flyN_go (C : Cn) (O : List Ite) {x : ByteArray} {r : List ByteArray} (hw : C.waits = x :: r) (hf : (C.flies.length : Int) < C.room) : flyN C.waits.length C O = flyN (launchN C x r).waits.length (launchN C x r) (O ++ [⟨C.next, C.come, x⟩]) := by
  have e : C.waits.length = r.length + 1 := by rw [hw]; rfl
  rw [e]
  simp only [flyN, hw, if_pos hf]
  rfl
theorem flyN_stop (C : Cn) (O : List Ite) (h : C.waits = [] ∨ ¬ (C.flies.length : Int) < C.room) : flyN C.waits.length C O = (C, O) := by
  cases hw : C.waits with
  | nil => rfl
  | cons x r =>
    have hf : ¬ (C.flies.length : Int) < C.room := by
      rcases h with h | h
      · rw [hw] at h; cases h
      · exact h
    simp only [flyN, List.length_cons, hw, if_neg hf]
/-- How far Out has come. -/
structure OutI (w : World) (b : Nat) (vw vf : Value) (G : Cn × List Ite) (C : Cn) (O : List Ite) (vw' vf' vo : Value) (wr : World) : Prop where
  n : NextN w wr b vw vf C vw' vf'
  own : OwnI wr w.heap.size vo O
  good : GoodN C
  goal : flyN C.waits.length C O = G
  few : C.waits.length + O.length ≤ 41
theorem againN_few (c : Cn) : (againN c).length ≤ 1 := by
  unfold againN
  split
  · split <;> simp
  · simp

set_option maxHeartbeats 8000000 in
set_option maxRecDepth 100000 in
theorem outB_any {w : World} {b : Nat} {c : Cn} {vw vf : Value} (h : CnIn w b c vw vf) (hg : GoodN c) (hd : c.dead = false) :
    Calls Try.prog 16 #[.pointer (some ⟨b, 0, none⟩)] w fun e w' => ∃ vo vw' vf', e = .returned vo ∧ NextN w w' b vw vf (outN c).1 vw' vf' ∧ OwnI w' w.heap.size vo (outN c).2 := by
  obtain ⟨G, hG⟩ : ∃ G, G = flyN c.waits.length c (againN c) := ⟨_, rfl⟩
  have hE : Hid (outN c = (quiet G.1, ackOf G.1 G.2)) := by
    show _ = _
    unfold outN
    rw [hd, if_neg (by decide), hG]
  have HG := hid hG.symm
  have H1 := hid (dead_any b c _ _ w h.blk hg.wait.1)
  rw [hd] at H1
  obtain ⟨p, cap, hvf⟩ := own_slice h.rf
  obtain ⟨m, hm⟩ : ∃ m, m = c.flies.length := ⟨_, rfl⟩
  rw [← hm] at hvf
  subst hvf
  have hF := hid (fun W (hk : Kept (fun _ => False) w W) => first_any b c p cap vw W (by have := (h.kept0 hk).blk; rw [hm] at this; exact this) hg)
  have hIt := hid (fun W (x : ByteArray) (hk : Kept (fun _ => False) w W) => item_any b c.come (firstN c) x W ((hk.cell (p := ⟨b, 8, none⟩) h.blk.lt id).trans h.blk.cells.2.2.2.2.2.2.2.2.1))
  have H := hid h
  have Hg := hid hg
  have HM := hid hm
  have d12 : w.cell? ⟨b, 12, none⟩ = some (.bool c.again) := h.blk.cell 12
  obtain ⟨ag, hag⟩ : ∃ ag, ag = c.again := ⟨_, rfl⟩
  rw [← hag] at d12
  have HAG := hid hag
  unfold iteV at hIt
  dsimp only at hIt
  clear h hg hG hm hd hag
  go_enter Try.func16, Try.ntmps16
  go_wp2_with fail
  refine (H1.out).mono ?_
  rintro e w1 ⟨rfl, hq⟩
  rw [hq]
  clear hq w1 H1
  go_upto_if 9 with fail
  go_cut [3] from 10 to 23 (fun v wx => OwnI wx w.heap.size v (againN c) ∧ Kept (fun _ => False) w wx)
  case first =>
    cases ag with
    | false =>
      go_wp2
      go_meet
      have : againN c = [] := by unfold againN; rw [← HAG.out]; rfl
      exact ⟨by rw [this]; exact OwnG.nil _ _, Kept.refl _ _⟩
    | true =>
      have hne := Hg.out.again HAG.out.symm
      obtain ⟨x, r, hx⟩ : ∃ x r, c.flies = x :: r := by
        cases hc : c.flies with
        | nil => exact absurd hc hne
        | cons x r => exact ⟨x, r, rfl⟩
      have hAe : Hid (againN c = [⟨firstN c, c.come, x⟩]) := by show _ = _; unfold againN; rw [← HAG.out, if_pos rfl, hx]
      obtain ⟨gf, cf, hvf, _, hcf, hmf, hcellf, hff⟩ := H.out.rf.lies hne
      simp only [Value.slice.injEq] at hvf
      obtain ⟨hp, -, rfl⟩ := hvf
      subst hp
      have hm0 : 0 < m := by rw [HM.out, hx]; simp
      have hm0z : (0 : Int) < (m : Int) := by omega
      have hx0 : w.cell? ⟨gf, 0, none⟩ = some (.string x) := by
        rw [hcellf 0 (by rw [← HM.out]; omega), hx]
        rfl
      have hgf : gf < w.heap.size := lt_of_cell hx0
      have q10 : ∀ U, Kept (fun _ => False) w U → U.cell? ⟨b, 10, none⟩ = some (.slice (some ⟨gf, 0, none⟩) m cap) := fun U hk => (H.out.kept0 hk).blk.cell 10
      have qx : ∀ U, Kept (fun _ => False) w U → U.cell? ⟨gf, 0, none⟩ = some (.string x) := fun U hk => (hk.cell (p := ⟨gf, 0, none⟩) hgf id).trans hx0
      have hIx := hid (fun W hk => hIt.out W x hk)
      obtain ⟨ns, hns⟩ : ∃ ns, ns = firstN c := ⟨_, rfl⟩
      rw [← hns] at hIx hAe hF
      have HNS := hid hns
      clear hx hcellf hff hcf hmf hx0 hne hns
      go_upto_region 5 with fail
      refine wp_region_held_drew (S := Kept (fun _ => False) w) (by kernel_rfl) ((Kept.refl _ w).drew) (fun hSd => ?_)
      refine wpAnyH_take (i := 0) (v := ?_) rfl (by kernel_rfl) (by kernel_rfl) (by kernel_rfl) (fun _ _ _ h => h) (Or.inl ⟨by kernel_rfl, fun W hSW => by go_simp; try with_reducible rfl⟩) (by assumption) ?_
      try simp only [List.getElem_toArray]
      try simp only [List.getElem_cons_succ]
      try simp only [List.getElem_cons_zero]
      try simp only [Act.put]
      try simp only [List.setIfInBounds_toArray]
      try simp only [List.set_cons_succ]
      try simp only [List.set_cons_zero]
      refine wpAnyH_take (i := 1) (v := ?_) rfl (by kernel_rfl) (by kernel_rfl) (by kernel_rfl) (fun _ _ _ h => h) (Or.inl ⟨by kernel_rfl, fun W hSW => by go_simp; try with_reducible rfl⟩) (by assumption) ?_
      try simp only [List.getElem_toArray]
      try simp only [List.getElem_cons_succ]
      try simp only [List.getElem_cons_zero]
      try simp only [Act.put]
      try simp only [List.setIfInBounds_toArray]
      try simp only [List.set_cons_succ]
      try simp only [List.set_cons_zero]
      refine wpAnyH_take (i := 2) (v := ?_) rfl (by kernel_rfl) (by kernel_rfl) (by kernel_rfl) (fun _ _ _ h => h) (Or.inl ⟨by kernel_rfl, fun W hSW => by go_simp; try with_reducible rfl⟩) (by assumption) ?_
      try simp only [List.getElem_toArray]
      try simp only [List.getElem_cons_succ]
      try simp only [List.getElem_cons_zero]
      try simp only [Act.put]
      try simp only [List.setIfInBounds_toArray]
      try simp only [List.set_cons_succ]
      try simp only [List.set_cons_zero]
      refine wpAnyH_take (i := 4) (v := ?_) rfl (by kernel_rfl) (by kernel_rfl) (by kernel_rfl) (fun _ _ _ h => h) (Or.inl ⟨by kernel_rfl, fun W hSW => by go_simp; try with_reducible rfl⟩) (by assumption) ?_
      try simp only [List.getElem_toArray]
      try simp only [List.getElem_cons_succ]
      try simp only [List.getElem_cons_zero]
      try simp only [Act.put]
      try simp only [List.setIfInBounds_toArray]
      try simp only [List.set_cons_succ]
      try simp only [List.set_cons_zero]
      refine wpAnyH_take (i := 5) (v := ?_) rfl (by kernel_rfl) (by kernel_rfl) (by kernel_rfl) (fun _ _ _ h => h) (Or.inl ⟨by kernel_rfl, fun W hSW => by go_simp; try with_reducible rfl⟩) (by assumption) ?_
      try simp only [List.getElem_toArray]
      try simp only [List.getElem_cons_succ]
      try simp only [List.getElem_cons_zero]
      try simp only [Act.put]
      try simp only [List.setIfInBounds_toArray]
      try simp only [List.set_cons_succ]
      try simp only [List.set_cons_zero]
      refine wpAnyH_take (i := 6) (v := ?_) rfl (by kernel_rfl) (by kernel_rfl) (by kernel_rfl) (fun _ _ _ h => h) (Or.inl ⟨by kernel_rfl, fun W hSW => by go_simp; try with_reducible rfl⟩) (by assumption) ?_
      try simp only [List.getElem_toArray]
      try simp only [List.getElem_cons_succ]
      try simp only [List.getElem_cons_zero]
      try simp only [Act.put]
      try simp only [List.setIfInBounds_toArray]
      try simp only [List.set_cons_succ]
      try simp only [List.set_cons_zero]
      refine wpAnyH_take (i := 7) (v := ?_) rfl (by kernel_rfl) (by kernel_rfl) (by kernel_rfl) (fun _ _ _ h => h) (Or.inl ⟨by kernel_rfl, fun W hSW => by go_simp; try with_reducible rfl⟩) (by assumption) ?_
      try simp only [List.getElem_toArray]
      try simp only [List.getElem_cons_succ]
      try simp only [List.getElem_cons_zero]
      try simp only [Act.put]
      try simp only [List.setIfInBounds_toArray]
      try simp only [List.set_cons_succ]
      try simp only [List.set_cons_zero]
      refine wpAnyH_take (i := 8) (v := ?_) rfl (by kernel_rfl) (by kernel_rfl) (by kernel_rfl) (fun _ _ _ h => h) (Or.inl ⟨by kernel_rfl, fun W hSW => by go_simp; try with_reducible rfl⟩) (by assumption) ?_
      try simp only [List.getElem_toArray]
      try simp only [List.getElem_cons_succ]
      try simp only [List.getElem_cons_zero]
      try simp only [Act.put]
      try simp only [List.setIfInBounds_toArray]
      try simp only [List.set_cons_succ]
      try simp only [List.set_cons_zero]
      refine wpAnyH_take (i := 9) (v := ?_) rfl (by kernel_rfl) (by kernel_rfl) (by kernel_rfl) (fun _ _ _ h => h) (Or.inl ⟨by kernel_rfl, fun W hSW => by go_simp; try with_reducible rfl⟩) (by assumption) ?_
      try simp only [List.getElem_toArray]
      try simp only [List.getElem_cons_succ]
      try simp only [List.getElem_cons_zero]
      try simp only [Act.put]
      try simp only [List.setIfInBounds_toArray]
      try simp only [List.set_cons_succ]
      try simp only [List.set_cons_zero]
      refine wpAnyH_ready (rs := [3]) (by kernel_rfl) (by simp) ?_
      refine AllReadyH.cons rfl (fun K hK => ?_) AllReadyH.nil
      go_simp
      refine (hF.out _ hSd).mono ?_
      rintro e v1 ⟨rfl, hk⟩
      have kv1 : Kept (fun _ => False) w v1 := hSd.trans hk
      clear hk
      refine hK.out _ _ (kv1) (fun _ => ?_)
      clear hK K
      try simp only [List.getElem_toArray]
      try simp only [List.getElem_cons_succ]
      try simp only [List.getElem_cons_zero]
      try simp only [Act.put]
      try simp only [List.setIfInBounds_toArray]
      try simp only [List.set_cons_succ]
      try simp only [List.set_cons_zero]
      refine wpAnyH_ready (rs := [10]) (by kernel_rfl) (by simp) ?_
      refine AllReadyH.cons rfl (fun K hK => ?_) AllReadyH.nil
      go_simp
      refine (hIx.out _ kv1).mono ?_
      rintro e v2 ⟨rfl, hk⟩
      have kv2 : Kept (fun _ => False) w v2 := kv1.trans hk
      clear hk
      refine hK.out _ _ (kv2) (fun _ => ?_)
      clear hK K
      try simp only [List.getElem_toArray]
      try simp only [List.getElem_cons_succ]
      try simp only [List.getElem_cons_zero]
      try simp only [Act.put]
      try simp only [List.setIfInBounds_toArray]
      try simp only [List.set_cons_succ]
      try simp only [List.set_cons_zero]
      have kv3 : Kept (fun _ => False) w (v2.alloc (.cells #[.int .i64 ns, .int .i64 c.come, .string x] 25)) := kv2.alloc _
      obtain ⟨v3, w3, happ, ho3, hk3, hn3⟩ := push_one tyI encI_ok (OwnG.nil v2 w.heap.size) (kv2.size) (⟨ns, c.come, x⟩ : Ite) (by simp)
      obtain ⟨p3, cap3, hv3⟩ := own_slice ho3
      generalize ([] ++ [(⟨ns, c.come, x⟩ : Ite)]).length = n3 at hv3
      subst hv3
      have hrun : ∀ ty, (Builtin.append_ #[37, 37] ty #[.slice none 0 0, .slice (some ⟨v2.heap.size, 0, none⟩) 1 1]).run Try.prog (v2.alloc (.cells #[.int .i64 ns, .int .i64 c.come, .string x] 25)) = .ok (.slice p3 n3 cap3) w3 := happ
      have kv4 : Kept (fun _ => False) w w3 := kv2.trans (hk3.mono (fun i _ e => by cases e))
      refine wpAnyH_ready (rs := [11]) (by kernel_rfl) (by simp) ?_
      refine AllReadyH.cons rfl (fun K hK => ?_) AllReadyH.nil
      go_simp
      refine hK.out _ _ (kv3) (fun _ => ?_)
      clear hK K
      try simp only [List.getElem_toArray]
      try simp only [List.getElem_cons_succ]
      try simp only [List.getElem_cons_zero]
      try simp only [Act.put]
      try simp only [List.setIfInBounds_toArray]
      try simp only [List.set_cons_succ]
      try simp only [List.set_cons_zero]
      refine wpAnyH_ready (rs := [12]) (by kernel_rfl) (by simp) ?_
      refine AllReadyH.cons rfl (fun K hK => ?_) AllReadyH.nil
      refine stepG_append rfl (.tmp 10) (.tmp 21) 37 rfl (.slice none 0 0) (.slice (some ⟨v2.heap.size, 0, none⟩) 1 1) rfl rfl (hrun _) ?_
      refine hK.out _ _ (kv4) (fun _ => ?_)
      clear hK K
      try simp only [List.getElem_toArray]
      try simp only [List.getElem_cons_succ]
      try simp only [List.getElem_cons_zero]
      try simp only [Act.put]
      try simp only [List.setIfInBounds_toArray]
      try simp only [List.set_cons_succ]
      try simp only [List.set_cons_zero]
      refine wpAnyH_take (i := 13) (v := ?_) rfl (by kernel_rfl) (by kernel_rfl) (by kernel_rfl) (fun _ _ _ h => h) (Or.inl ⟨by kernel_rfl, fun W hSW => by go_simp; try with_reducible rfl⟩) (by assumption) ?_
      try simp only [List.getElem_toArray]
      try simp only [List.getElem_cons_succ]
      try simp only [List.getElem_cons_zero]
      try simp only [Act.put]
      try simp only [List.setIfInBounds_toArray]
      try simp only [List.set_cons_succ]
      try simp only [List.set_cons_zero]
      refine wpAnyH_done (by kernel_rfl) ?_ _
      go_wp2
      go_meet
      exact ⟨by rw [hAe.out]; exact ho3, kv4⟩
  obtain ⟨hob, hkb⟩ := hcut
  clear d12 HAG hF hIt HM
  have HOI : Hid (OutI w b vw (.slice p m cap) G c (againN c) vw (.slice p m cap) u3 wc) := ⟨NextN.same H.out hkb, hob, Hg.out, HG.out, by
    have h1 := Hg.out.waits.1
    have h2 := Hg.out.queue
    have h3 := againN_few c
    omega⟩
  clear hob hkb HG H
  go_upto_region 6 with fail
  go_loopw [3] (fun vo wr => ∃ (C : Cn) (O : List Ite) (vw' vf' : Value), Hid (OutI w b vw (.slice p m cap) G C O vw' vf' vo wr)) (fun vo _ => 100 - lenV vo)
  case atStart => exact ⟨c, againN c, vw, _, HOI.out⟩
  case round =>
    obtain ⟨C, O, vw', vf', HR⟩ := hrel
    clear HOI
    obtain ⟨p9, c9, hv9⟩ := own_slice HR.out.n.mem.rw
    obtain ⟨p10, c10, hv10⟩ := own_slice HR.out.n.mem.rf
    obtain ⟨po, co, hvo⟩ := own_slice HR.out.own
    subst hv9 hv10 hvo
    have e9 : wr.cell? ⟨b, 9, none⟩ = some (.slice p9 C.waits.length c9) := HR.out.n.mem.blk.cell 9
    have e10 : wr.cell? ⟨b, 10, none⟩ = some (.slice p10 C.flies.length c10) := HR.out.n.mem.blk.cell 10
    have e4 : wr.cell? ⟨b, 4, none⟩ = some (.int .i64 C.room) := HR.out.n.mem.blk.cell 4
    by_cases hgo : C.waits ≠ [] ∧ (C.flies.length : Int) < C.room
    · obtain ⟨x, r, hw⟩ : ∃ x r, C.waits = x :: r := by
        cases hc : C.waits with
        | nil => exact absurd hc hgo.1
        | cons x r => exact ⟨x, r, rfl⟩
      have h9 : (0 : Int) < (C.waits.length : Int) := by rw [hw]; simp
      have h9n : 0 < C.waits.length := by rw [hw]; simp
      have h10 := hgo.2
      have hr1 : r.length + 1 + O.length ≤ 41 := by have := HR.out.few; rw [hw] at this; simpa using this
      have HL := hid (fun W (hk : Kept (fun _ => False) wr W) => launch_any (HR.out.n.mem.kept0 hk) HR.out.good x r hw)
      have HGo : Hid (flyN (launchN C x r).waits.length (launchN C x r) (O ++ [⟨C.next, C.come, x⟩]) = G) := by
        show _ = _
        rw [← flyN_go C O hw h10]
        exact HR.out.goal
      have HGd := hid (good_launchN HR.out.good hw h10)
      have Hr1 := hid hr1
      unfold iteV at HL
      dsimp only at HL
      generalize C.waits.length = n9 at *
      generalize C.flies.length = n10 at *
      generalize hOl : O.length = no at *
      have HOl := hid hOl
      obtain ⟨nx, hnx⟩ : ∃ nx, nx = C.next := ⟨_, rfl⟩
      obtain ⟨cm, hcm⟩ : ∃ cm, cm = C.come := ⟨_, rfl⟩
      rw [← hnx, ← hcm] at HL HGo
      obtain ⟨L, hL⟩ : ∃ L, L = launchN C x r := ⟨_, rfl⟩
      rw [← hL] at HL HGo HGd
      have HLw : Hid (L.waits.length = r.length) := by show _ = _; rw [hL]; rfl
      clear hgo hw hnx hcm hL hr1 hOl
      go_wp2
      go_quiet (fail)
      rename_i nq
      have hkq := (Kept.refl (fun _ => False) wr).drewN nq
      have HLq := hid (HL.out _ hkq)
      have HRn := hid (HR.out.n.kept0 hkq)
      have HOq := hid (HR.out.own.kept0 hkq)
      generalize wr.drewN nq = X at *
      clear hkq HL HR e9 e10 e4 h9 h9n h10
      go_wp2_with fail
      refine (HLq.out).mono ?_
      rintro e w5 ⟨rfl, vw5, vf5, hn5⟩
      have HN5 := hid (HRn.out.trans hn5)
      have HO5 := hid (hn5.own HOq.out (fun i hi => HRn.out.mem.unlikeI HOq.out hi))
      have hs5 := HN5.out.kept.size
      obtain ⟨v6, w6, happ, ho6, hk6, hn6⟩ := push_one tyI encI_ok HO5.out hs5 (⟨nx, cm, x⟩ : Ite) (by have := Hr1.out; have := HOl.out; omega)
      obtain ⟨p6, cap6, hv6⟩ := own_slice ho6
      rw [show (O ++ [(⟨nx, cm, x⟩ : Ite)]).length = no + 1 by rw [← HOl.out]; simp] at hv6
      subst hv6
      have Happ : Hid (∀ ty, (Builtin.append_ #[37, 37] ty #[.slice po no co, .slice (some ⟨w5.heap.size, 0, none⟩) 1 1]).run Try.prog (w5.alloc (.cells #[.int .i64 nx, .int .i64 cm, .string x] 25)) = .ok (.slice p6 (no + 1) cap6) w6) := happ
      have HN7 : Hid (NextN w w6 b vw (.slice p m cap) L vw5 vf5) := ⟨HN5.out.mem.keptS hk6 (fun i hi hi2 => HN5.out.mem.unlikeI HO5.out hi2 hi), HN5.out.kept.andThen hk6 (fun i hi e => by have := (HO5.out.block e).2.1; omega), HN5.out.new⟩
      have HI7 : Hid (OutI w b vw (.slice p m cap) G L (O ++ [⟨nx, cm, x⟩]) vw5 vf5 (.slice p6 (no + 1) cap6) w6) := ⟨HN7.out, ho6, HGd.out, HGo.out, by
        have h1 := Hr1.out
        have h2 := HOl.out
        have h3 := HLw.out
        simp only [List.length_append, List.length_cons, List.length_nil]
        omega⟩
      have hno : no ≤ 40 := by have := Hr1.out; omega
      clear happ hn5 ho6 hk6 hn6 HN5 HO5 HN7 hs5
      go_wp2_with (at_builtin; refine Lib.wpList_append_run _ rfl _ _ _ _ rfl _ _ rfl rfl _ _ (Happ.out _) ?_)
      go_wp2
      exact ⟨⟨L, _, vw5, vf5, HI7⟩, by simp only [lenV]; omega⟩
    · have hst : C.waits = [] ∨ ¬ (C.flies.length : Int) < C.room := by
        by_cases h0 : C.waits = []
        · exact Or.inl h0
        · exact Or.inr (fun h1 => hgo ⟨h0, h1⟩)
      have hGC : Hid (G = (C, O)) := by
        show _ = _
        rw [← HR.out.goal, flyN_stop C O hst]
      clear hgo
      go_wp2
      go_cut [41] from 23 to 42 (fun v wx => v = .bool false ∧ Kept (fun _ => False) wr wx)
      case first =>
        by_cases h0 : C.waits = []
        · have h9 : ¬ (0 : Int) < (C.waits.length : Int) := by rw [h0]; simp
          have h9n : C.waits.length = 0 := by rw [h0]; rfl
          rw [h9n] at e9 h9
          clear hst h9n h0
          go_quiet (fail)
          go_wp2
          go_meet
          exact ⟨rfl, (Kept.refl _ _).drewN _⟩
        · have h9 : (0 : Int) < (C.waits.length : Int) := by
            cases hc : C.waits with
            | nil => exact absurd hc h0
            | cons x r => simp
          have h9n : 0 < C.waits.length := by omega
          have h10 : ¬ (C.flies.length : Int) < C.room := by
            have := hst.resolve_left h0
            omega
          generalize C.waits.length = n9 at *
          generalize C.flies.length = n10 at *
          clear hst h0
          go_quiet (fail)
          go_wp2
          go_meet
          exact ⟨rfl, (Kept.refl _ _).drewN _⟩
      obtain ⟨rfl, hkq⟩ := hcut
      have HRn := hid (HR.out.n.kept0 hkq)
      have HOq := hid (HR.out.own.kept0 hkq)
      have HGc := hid HR.out.good
      have HFew := hid HR.out.few
      clear hkq hst HR e9 e10 e4
      have hGE : Hid (outN c = (quiet C, ackOf C O)) := by
        show _ = _
        rw [hE.out, hGC.out]
      clear hE hGC
      go_upto_region 8 with fail
      have e11 : wc.cell? ⟨b, 11, none⟩ = some (.bool C.owed) := HRn.out.mem.blk.cell 11
      have e7 : wc.cell? ⟨b, 7, none⟩ = some (.int .i64 C.next) := HRn.out.mem.blk.cell 7
      have e8 : wc.cell? ⟨b, 8, none⟩ = some (.int .i64 C.come) := HRn.out.mem.blk.cell 8
      obtain ⟨q, hq⟩ : ∃ q : Bool, q = if O = [] then C.owed else false := ⟨_, rfl⟩
      have HQ := hid hq
      clear hq
      go_cut [55] from 47 to 56 (fun v wx => v = .bool q ∧ wx = wc)
      case first =>
        by_cases hO : O = []
        · have HQ2 : Hid (q = C.owed) := by show _ = _; rw [HQ.out, if_pos hO]
          have hl0 : ((O.length : Int) == 0) = true := by rw [hO]; rfl
          generalize O.length = no at *
          clear hO e7 e8
          go_wp2
          go_meet
          exact ⟨by rw [HQ2.out], rfl⟩
        · have HQ2 : Hid (q = false) := by show _ = _; rw [HQ.out, if_neg hO]
          have hl0 : ((O.length : Int) == 0) = false := by
            rw [beq_eq_false_iff_ne]
            intro e
            exact hO (List.length_eq_zero_iff.1 (by omega))
          generalize O.length = no at *
          clear hO e7 e8 e11
          go_wp2
          go_meet
          exact ⟨by rw [HQ2.out], rfl⟩
      obtain ⟨rfl, hwx⟩ := hcut
      replace hwx := hwx.symm
      subst hwx
      clear e11
      go_upto_if 55 with fail
      go_cut [3] from 56 to 65 (fun v wx => OwnI wx w.heap.size v (ackOf C O) ∧ NextN w wx b vw (.slice p m cap) C (.slice p9 C.waits.length c9) (.slice p10 C.flies.length c10))
      case first =>
        cases q with
        | true =>
          have hO : O = [] ∧ C.owed = true := by
            have h1 := HQ.out
            by_cases h0 : O = []
            · rw [if_pos h0] at h1
              exact ⟨h0, h1.symm⟩
            · rw [if_neg h0] at h1
              cases h1
          have hA : Hid (ackOf C O = O ++ [⟨C.next, C.come, ⟨#[]⟩⟩]) := by
            show _ = _
            unfold ackOf
            rw [if_pos hO, hO.1]
            rfl
          have hl : O.length = 0 := by rw [hO.1]; rfl
          rw [hl]
          have HI := hid (item_any b C.come C.next ⟨#[]⟩ _ e8)
          unfold iteV at HI
          dsimp only at HI
          obtain ⟨nx, hnx⟩ : ∃ nx, nx = C.next := ⟨_, rfl⟩
          obtain ⟨cm, hcm⟩ : ∃ cm, cm = C.come := ⟨_, rfl⟩
          rw [← hnx, ← hcm] at HI hA
          rw [← hnx] at e7
          have Hl := hid hl
          clear hnx hcm e8 hO hl
          go_wp2_with fail
          refine (HI.out).mono ?_
          rintro e w5 ⟨rfl, hk5⟩
          have HR5 := hid (HRn.out.kept0 hk5)
          have HO5 := hid (HOq.out.kept0 hk5)
          obtain ⟨v6, w6, happ, ho6, hk6, hn6⟩ := push_one tyI encI_ok HO5.out HR5.out.kept.size (⟨nx, cm, ⟨#[]⟩⟩ : Ite) (by have := Hl.out; omega)
          obtain ⟨p6, cap6, hv6⟩ := own_slice ho6
          generalize (O ++ [(⟨nx, cm, ⟨#[]⟩⟩ : Ite)]).length = n6 at hv6
          subst hv6
          have Happ : Hid (∀ ty, (Builtin.append_ #[37, 37] ty #[.slice po 0 co, .slice (some ⟨w5.heap.size, 0, none⟩) 1 1]).run Try.prog (w5.alloc (.cells #[.int .i64 nx, .int .i64 cm, .string ⟨#[]⟩] 25)) = .ok (.slice p6 n6 cap6) w6) := by
            have := happ
            rw [Hl.out] at this
            exact this
          have HN7 : Hid (NextN w w6 b vw (.slice p m cap) C (.slice p9 C.waits.length c9) (.slice p10 C.flies.length c10)) := ⟨HR5.out.mem.keptS hk6 (fun i hi hi2 => HR5.out.mem.unlikeI HO5.out hi2 hi), HR5.out.kept.andThen hk6 (fun i hi e => by have := (HO5.out.block e).2.1; omega), HR5.out.new⟩
          have HO6 := hid ho6
          clear happ ho6 hk6 hn6 HR5 HO5 hk5 HI
          go_wp2_with (at_builtin; refine Lib.wpList_append_run _ rfl _ _ _ _ rfl _ _ rfl rfl _ _ (Happ.out _) ?_)
          go_wp2
          go_meet
          exact ⟨by rw [hA.out]; exact HO6.out, HN7.out⟩
        | false =>
          have hA : Hid (ackOf C O = O) := by
            show _ = _
            unfold ackOf
            have h1 := HQ.out
            by_cases h0 : O = []
            · rw [if_pos h0] at h1
              rw [if_neg (fun g => by rw [← h1] at g; exact absurd g.2 (by decide))]
            · rw [if_neg (fun g => h0 g.1)]
          clear e7 e8
          go_wp2
          go_meet
          exact ⟨by rw [hA.out]; exact HOq.out, HRn.out⟩
      obtain ⟨ho8, hn8⟩ := hcut
      obtain ⟨p8, c8, hv8⟩ := own_slice ho8
      generalize hl8 : (ackOf C O).length = n8 at hv8
      subst hv8
      have f11 := hn8.mem.blk.soft 11
      have f12 := hn8.mem.blk.soft 12
      have d11 : wc.cell? ⟨b, 11, none⟩ = some (.bool C.owed) := hn8.mem.blk.cell 11
      have d12 : wc.cell? ⟨b, 12, none⟩ = some (.bool C.again) := hn8.mem.blk.cell 12
      have b1 := hn8.mem.blk.set 12 (.bool false) (c' := { C with again := false }) rfl
      have b2 := b1.set 11 (.bool false) (c' := quiet C) rfl
      have hkA : Kept (fun i => i = b) wc ((wc.setCell ⟨b, 12, none⟩ (.bool false)).setCell ⟨b, 11, none⟩ (.bool false)) := kept_cn (kept_cn (Kept.refl (fun i => i = b) wc) rfl 12 _) rfl 11 _
      have HNA := hid (hn8.trans (NextN.cells hn8.mem hkA b2 rfl rfl))
      have HOA := hid (ho8.keptS hkA (fun i hi e => hn8.mem.unlikeI ho8 hi (Or.inl e)))
      clear b1 b2 hkA hn8 ho8 hl8 HRn HOq HGc HFew HQ e7 e8
      go_wp2
      iterate 2
        try (go_quiet (fail))
        try go_wp2
      go_returns
      exact ⟨_, _, _, rfl, by rw [hGE.out]; exact HNA.out, by rw [hGE.out]; exact HOA.out⟩

set_option maxHeartbeats 4000000 in
set_option maxRecDepth 100000 in
/-- Out, at every end. -/
theorem out_any {w : World} {b : Nat} {c : Cn} {vw vf : Value} (h : CnIn w b c vw vf) (hg : GoodN c) :
    Calls Try.prog 16 #[.pointer (some ⟨b, 0, none⟩)] w fun e w' => ∃ vo vw' vf', e = .returned vo ∧ NextN w w' b vw vf (outN c).1 vw' vf' ∧ OwnI w' w.heap.size vo (outN c).2 := by
  by_cases hd : c.dead = true
  · have hE : Hid (outN c = (c, [])) := by show _ = _; unfold outN; rw [if_pos hd]
    have H1 := hid (dead_any b c _ _ w h.blk hg.wait.1)
    rw [hd] at H1
    have H := hid h
    clear h hg hd
    go_enter Try.func16, Try.ntmps16
    go_wp2_with fail
    refine (H1.out).mono ?_
    rintro e w1 ⟨rfl, hq⟩
    rw [hq]
    clear hq w1 H1
    go_wp2
    go_returns
    exact ⟨_, vw, vf, rfl, by rw [hE.out]; exact NextN.refl H.out, by rw [hE.out]; exact OwnG.nil _ _⟩
  · exact outB_any h hg (by simpa using hd)
end Go.Proofs.Ytoflohomnoppnaa
