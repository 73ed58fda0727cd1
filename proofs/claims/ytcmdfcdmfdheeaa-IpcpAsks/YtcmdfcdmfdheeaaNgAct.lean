/- The contract of act: what actions become. -/
import Derived.Test.YtcmdfcdmfdheeaaNgOut
namespace Go.Proofs.Ytcmdfcdmfdheeaa
open Go.RowKit

theorem ints_far {W : World} {base b base' : Nat} {a : Nm} {n : Ng} (h : NegIn W base b a n) {v : Value} {l : List Int} (ho : OwnI W base' v l) : ∀ i, v.ownBlock = some i → ¬ Sn b a i := by
  rintro i hi (rfl | rfl | hs)
  · obtain ⟨⟨cur, hc⟩, _⟩ := ho.block hi
    rw [h.cells] at hc; simp at hc
  · obtain ⟨⟨cur, hc⟩, _⟩ := ho.block hi
    have h1 := h.auto
    unfold AutoIn at h1
    rw [h1] at hc; simp at hc
  · obtain ⟨⟨cur, hc⟩, _⟩ := ho.block hi
    obtain ⟨c, h1⟩ := h.req.cellsB hs
    rw [h1] at hc; simp at hc

/-- What stays through an act. -/
structure ActK (A : World) (base b r : Nat) (a : Nm) (c : Cz) (v u vd : Value) (mr : Option Nat) (acts : List Int) (base' : Nat) : Prop where
  cz : CzAt A base b a c v u mr
  box : Box8 A r c v u mr
  ints : OwnI A base' vd acts
  fints : ∀ i, vd.ownBlock = some i → ¬ Sn b a i
  fbox : ¬ Sn b a r

theorem act_more {A W : World} {base b j : Nat} {a : Nm} {u vt v : Value} {s X : Ng × List Pk0} {l : List (Pk0 × Value)} {q : Pk0 × Value} (U : ActU A W base b a u s vt v (l ++ [q])) (hl : l.length ≤ j) (e : X = s) :
    ∃ vt l, l.length ≤ j + 1 ∧ ActU A W base b a u X vt v l := ⟨vt, l ++ [q], by rw [List.length_append]; simp; omega, by rw [e]; exact U⟩

set_option maxHeartbeats 8000000 in
set_option maxRecDepth 100000 in
theorem act_any {base b base' : Nat} {a : Nm} {n : Ng} (c : Cz) (v u vd : Value) (mr : Option Nat) (acts : List Int) (hal : acts.length ≤ 100) (w : World) (h : NegIn w base b a n) (hc : CzAt w base b a c v u mr) (hd : OwnI w base' vd acts) :
    Calls Try.prog 46 #[.pointer (some ⟨b, 0, none⟩), vd, czV c.came.code c.came.id v c.came.data c.ans.code c.ans.id u c.ans.data mr] w fun e w' => ∃ vo, e = .returned vo ∧ ∃ vt l, ActU w w' base b a u (actsF c n acts) vt vo l := by
  unfold czV
  obtain ⟨pv, cv, hv⟩ := hc.came.1.slice
  obtain ⟨pu, cu, hu⟩ := slice_of hc.ans
  obtain ⟨pd, cd, hvd⟩ := hd.slice
  have hk0 := (Kept.refl (fun _ => False) w).alloc (.cells #[.int .i64 c.came.code, .int .i64 c.came.id, v, .string c.came.data, .int .i64 c.ans.code, .int .i64 c.ans.id, u, .string c.ans.data, .map mr] 68)
  have X0 : Box8 (w.alloc (.cells #[.int .i64 c.came.code, .int .i64 c.came.id, v, .string c.came.data, .int .i64 c.ans.code, .int .i64 c.ans.id, u, .string c.ans.data, .map mr] 68)) w.heap.size c v u mr := cells9_new _ _ _ _ _ _ _ _ _ _ _
  have hA0 := h.kept0 hk0
  have NA := hid hA0
  have hnS : ¬ Sn b a w.heap.size := fun s => by have := h.sn_lt _ s; omega
  have K : Hid (ActK _ base b w.heap.size a c v u vd mr acts base') := ⟨hc.kept0 hk0, X0, hd.kept0 hk0, ints_far hA0 (hd.kept0 hk0), hnS⟩
  have U0 : Hid (ActU (w.alloc (.cells #[.int .i64 c.came.code, .int .i64 c.came.id, v, .string c.came.data, .int .i64 c.ans.code, .int .i64 c.ans.id, u, .string c.ans.data, .map mr] 68)) (w.alloc (.cells #[.int .i64 c.came.code, .int .i64 c.came.id, v, .string c.came.data, .int .i64 c.ans.code, .int .i64 c.ans.id, u, .string c.ans.data, .map mr] 68)) base b a u (n, []) a.vt (.slice none 0 0) []) :=
    ⟨NNext.refl hA0, ⟨World.ownsRow_nil _ _ _ _, fun q hq => absurd hq List.not_mem_nil, fun q hq => absurd hq List.not_mem_nil, fun q hq => absurd hq List.not_mem_nil⟩, rfl⟩
  have HK0 := hid hk0
  generalize hA : w.alloc (.cells #[.int .i64 c.came.code, .int .i64 c.came.id, v, .string c.came.data, .int .i64 c.ans.code, .int .i64 c.ans.id, u, .string c.ans.data, .map mr] 68) = A at *
  have HA := hid hA
  subst hv hu hvd
  clear hA h hc hd hk0 X0 hA0
  go_enter Try.func46, Try.ntmps46
  go_upto_region 1 with fail
  rw [HA.out]
  clear HA
  go_wp2
  go_loopw [7, 12] (fun v7 vi wr => ∃ j : Nat, j ≤ acts.length ∧ vi = .int .i64 (j : Int) ∧ Hid (∃ vt l, l.length ≤ j ∧ ActU A wr base b a (.slice pu c.ans.opts.length cu) (actsF c n (acts.take j)) vt v7 l)) (fun _ vi _ => acts.length - (intOf vi).toNat)
  case atStart => exact ⟨0, Nat.zero_le _, rfl, _, _, Nat.le_refl _, U0.out⟩
  case round =>
    obtain ⟨j, hj, rfl, HI⟩ := hrel
    obtain ⟨vt, l, hlen, U⟩ := HI.out
    clear HI U0
    obtain ⟨p7, c7, rfl⟩ := slice_of U.out.row
    by_cases hlt : j < acts.length
    · have hltz : (j : Int) < (acts.length : Int) := by omega
      obtain ⟨x, hx⟩ : ∃ x, acts[j]? = some x := ⟨acts[j], by simp [hlt]⟩
      obtain ⟨p', cap', ev, hcell⟩ := (K.out.ints.kept U.nx.kept K.out.fints).form
      simp only [Value.slice.injEq, true_and] at ev
      obtain ⟨rfl, rfl⟩ := ev
      obtain ⟨g, rfl, hcap, hcl⟩ := hcell j x hx
      have HC := hid (ngCount_any x wr U.nx.neg)
      have eN := hid (actsF_take c n hx)
      have HU := hid U
      clear hx hcell U
      generalize actsF c n (acts.take j) = s at *
      go_wp2_with fail
      refine HC.out.mono ?_
      rintro e w1 ⟨rfl, N1⟩
      have U1 := HU.out.go N1
      have Z1 := K.out.cz.step NA.out U1.nx
      have X1 := K.out.box.kept U1.nx.kept K.out.fbox
      have x0 := X1 0 _ rfl
      have x1 := X1 1 _ rfl
      have x2 := X1 2 _ rfl
      have x3 := X1 3 _ rfl
      have x4 := X1 4 _ rfl
      have x5 := X1 5 _ rfl
      have x6 := X1 6 _ rfl
      have x7 := X1 7 _ rfl
      have x8 := X1 8 _ rfl
      have hA1 := U1.nx.kept.size
      have hSlt : ∀ i, Sn b a i → i < w1.heap.size := fun i s => U1.nx.neg.sn_lt i s
      clear HC N1 HU X1 hcl hcap
      generalize hm : tallyF s.1 x = m at *
      by_cases h6 : x = 6
      · subst h6
        have HX := hid (ask_any w1 U1.nx.neg)
        have HU1 := hid U1
        unfold pkV at HX
        clear U1 Z1
        go_wp2_with fail
        refine HX.out.mono ?_
        rintro e w2 ⟨u', rfl, N2, ho⟩
        have U2 := HU1.out.go N2
        have hs2 := N2.kept.size
        obtain ⟨v', w3, hr, U3⟩ := U2.push ⟨1, nextId m.id, m.req, ⟨#[]⟩⟩ u' (ho.mono (by have := U2.nx.neg.lo; have := HU1.out.nx.neg.lt; omega)) (fun i hi => Or.inr (by have := ho.baseB hi; omega)) (fun i hi s => by have := ho.baseB hi; have := hSlt i s; omega) (by omega)
        obtain ⟨pu', cu', rfl⟩ := slice_of ho
        have HR := hid (act_more U3 hlen (eN.out.trans (by unfold actF sendF; rw [hm, if_pos rfl])))
        unfold AppP at hr
        simp only at hr
        clear U2 U3 N2 ho HX HU1
        go_wp2_with (at_builtin; refine Lib.wpList_append_run _ rfl _ _ _ _ rfl _ _ rfl rfl _ _ (hr _) ?_)
        exact ⟨⟨j + 1, hlt, by go_num, HR.out⟩, by simp [intOf]; omega⟩
      · by_cases h7 : x = 7
        · subst h7
          have HX := hid (agree_any c.ans.code c.ans.id (.slice pu c.ans.opts.length cu) c.ans.opts c.ans.data w1 U1.nx.neg Z1.ans.at Z1.fineA)
          have HU1 := hid U1
          have HZ := hid Z1
          unfold pkV at HX
          clear U1 Z1
          go_wp2_with fail
          refine HX.out.mono ?_
          rintro e w2 ⟨rfl, vt', N2⟩
          have U2 := HU1.out.go N2
          have Z2 := HZ.out.step HU1.out.nx.neg N2
          obtain ⟨v', w3, hr, U3⟩ := U2.push c.ans (.slice pu c.ans.opts.length cu) Z2.ans (fun i hi => Or.inl hi) (fun i hi s => HZ.out.fans i hi s) (by omega)
          have HR := hid (act_more U3 hlen (eN.out.trans (by unfold actF sendF; rw [hm, if_neg (by decide), if_pos rfl])))
          unfold AppP at hr
          clear U2 U3 N2 Z2 HX HU1 HZ
          go_wp2_with (at_builtin; refine Lib.wpList_append_run _ rfl _ _ _ _ rfl _ _ rfl rfl _ _ (hr _) ?_)
          exact ⟨⟨j + 1, hlt, by go_num, HR.out⟩, by simp [intOf]; omega⟩
        · by_cases h8 : x = 8
          · subst h8
            have HX := hid (refuse_any c (.slice pv c.came.opts.length cv) (.slice pu c.ans.opts.length cu) mr w1 U1.nx.neg Z1)
            have HU1 := hid U1
            have HZ := hid Z1
            unfold pkV czV at HX
            have eS : Hid (actF c s 8 = ((refuseF m c).1, s.2 ++ [(refuseF m c).2])) := by
              show _ = _
              unfold actF sendF
              rw [hm, if_neg (by decide), if_neg (by decide), if_pos rfl]
            generalize refuseF m c = R at *
            clear U1 Z1
            go_wp2_with fail
            refine HX.out.mono ?_
            rintro e w2 ⟨u', rfl, N2, T2⟩
            have U2 := HU1.out.go N2
            have Z2 := HZ.out.step HU1.out.nx.neg N2
            obtain ⟨v', w3, hr, U3⟩ := U2.push R.2 u' T2.own (fun i hi => by rcases T2.fresh i hi with h | h; exact Or.inl h; exact Or.inr (by omega)) (fun i hi s => by
              rcases T2.fresh i hi with h | h
              · exact HZ.out.fans i h s
              · have := hSlt i s
                omega) (by omega)
            obtain ⟨pu', cu', rfl⟩ := slice_of T2.own
            have HR := hid (act_more U3 hlen (eN.out.trans eS.out))
            unfold AppP at hr
            clear U2 U3 N2 Z2 HX HU1 HZ T2
            go_wp2_with (at_builtin; refine Lib.wpList_append_run _ rfl _ _ _ _ rfl _ _ rfl rfl _ _ (hr _) ?_)
            exact ⟨⟨j + 1, hlt, by go_num, HR.out⟩, by simp [intOf]; omega⟩
          · by_cases h9 : x = 9
            · subst h9
              have HX := hid (end_any w1 U1.nx.neg)
              have HU1 := hid U1
              unfold pkV at HX
              clear U1 Z1
              go_wp2_with fail
              refine HX.out.mono ?_
              rintro e w2 ⟨rfl, N2⟩
              have U2 := HU1.out.go N2
              obtain ⟨v', w3, hr, U3⟩ := U2.push ⟨5, nextId m.id, [], ⟨#[]⟩⟩ (.slice none 0 0) (OwnO.nil _ _) (fun i hi => by cases hi) (fun i hi => by cases hi) (by omega)
              have HR := hid (act_more U3 hlen (eN.out.trans (by unfold actF sendF; rw [hm, if_neg (by decide), if_neg (by decide), if_neg (by decide), if_pos rfl])))
              unfold AppP at hr
              simp only at hr
              clear U2 U3 N2 HX HU1
              go_wp2_with (at_builtin; refine Lib.wpList_append_run _ rfl _ _ _ _ rfl _ _ rfl rfl _ _ (hr _) ?_)
              exact ⟨⟨j + 1, hlt, by go_num, HR.out⟩, by simp [intOf]; omega⟩
            · by_cases h10 : x = 10
              · subst h10
                obtain ⟨v', w3, hr, U3⟩ := U1.push ⟨6, c.came.id, [], ⟨#[]⟩⟩ (.slice none 0 0) (OwnO.nil _ _) (fun i hi => by cases hi) (fun i hi => by cases hi) (by omega)
                have HR := hid (act_more U3 hlen (eN.out.trans (by unfold actF sendF; rw [hm, if_neg (by decide), if_neg (by decide), if_neg (by decide), if_neg (by decide), if_pos rfl])))
                unfold AppP at hr
                simp only at hr
                clear U1 U3 Z1
                go_wp2_with (at_builtin; refine Lib.wpList_append_run _ rfl _ _ _ _ rfl _ _ rfl rfl _ _ (hr _) ?_)
                exact ⟨⟨j + 1, hlt, by go_num, HR.out⟩, by simp [intOf]; omega⟩
              · by_cases h11 : x = 11
                · subst h11
                  have HX := hid (reject_any c.came.code c.came.id (.slice pv c.came.opts.length cv) c.came.opts c.came.data w1 U1.nx.neg Z1.came Z1.fine Z1.data)
                  have HU1 := hid U1
                  unfold pkV at HX
                  have eS : Hid (actF c s 11 = ({ m with id := nextId m.id }, s.2 ++ [⟨7, nextId m.id, [], rejBytes c.came.code c.came.id c.came.opts c.came.data⟩])) := by
                    show _ = _
                    unfold actF sendF
                    rw [hm, if_neg (by decide), if_neg (by decide), if_neg (by decide), if_neg (by decide), if_neg (by decide), if_pos rfl]
                  generalize rejBytes c.came.code c.came.id c.came.opts c.came.data = RB at *
                  clear U1 Z1
                  go_wp2_with fail
                  refine HX.out.mono ?_
                  rintro e w2 ⟨rfl, N2⟩
                  have U2 := HU1.out.go N2
                  obtain ⟨v', w3, hr, U3⟩ := U2.push ⟨7, nextId m.id, [], RB⟩ (.slice none 0 0) (OwnO.nil _ _) (fun i hi => by cases hi) (fun i hi => by cases hi) (by omega)
                  have HR := hid (act_more U3 hlen (eN.out.trans eS.out))
                  unfold AppP at hr
                  simp only at hr
                  clear U2 U3 N2 HX HU1
                  go_wp2_with (at_builtin; refine Lib.wpList_append_run _ rfl _ _ _ _ rfl _ _ rfl rfl _ _ (hr _) ?_)
                  exact ⟨⟨j + 1, hlt, by go_num, HR.out⟩, by simp [intOf]; omega⟩
                · have HR : Hid (∃ vt' l', l'.length ≤ j + 1 ∧ ActU A w1 base b a (.slice pu c.ans.opts.length cu) (actsF c n (acts.take (j + 1))) vt' (.slice p7 l.length c7) l') := by
                    refine ⟨vt, l, by omega, ?_⟩
                    rw [eN.out]
                    unfold actF sendF
                    rw [hm, if_neg h6, if_neg h7, if_neg h8, if_neg h9, if_neg h10, if_neg h11, List.append_nil]
                    exact U1
                  clear U1 Z1
                  go_wp2
                  exact ⟨⟨j + 1, hlt, by go_num, HR.out⟩, by simp [intOf]; omega⟩
    · obtain rfl : j = acts.length := by omega
      have hltz : ¬ (acts.length : Int) < (acts.length : Int) := by omega
      rw [List.take_length] at U
      have HU := hid U
      clear U hlt
      go_wp2
      go_ret
      refine ⟨_, rfl, vt, l, NNext.before0 HK0.out HU.out.nx, ⟨?_, HU.out.out.opts, fun q hq i hi => ?_, HU.out.out.far⟩, HU.out.is⟩
      · have hs := HK0.out.size
        rcases HU.out.out.row.2 with ⟨e, h0⟩ | ⟨g, cap, cur, e, hb, r⟩
        · exact ⟨HU.out.out.row.1, Or.inl ⟨e, h0⟩⟩
        · exact ⟨HU.out.out.row.1, Or.inr ⟨g, cap, cur, e, by omega, r⟩⟩
      · have hs := HK0.out.size
        rcases HU.out.out.fresh q hq i hi with h1 | h1
        · exact Or.inl h1
        · exact Or.inr (by omega)
end Go.Proofs.Ytcmdfcdmfdheeaa
