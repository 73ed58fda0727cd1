/- The contracts of strangers, judge and Judge. -/
import Derived.Test.YtcmdfcdmfdheeaaNgJudge
namespace Go.Proofs.Ytcmdfcdmfdheeaa
open Go.RowKit

/-- Strangers under way. -/
structure StrU (w : World) (rs : List Rl) (l : List Tg) (j : Nat) (v : Value) (W : World) : Prop where
  own : OwnO W w.heap.size v (upTo (rejF rs l) l j)
  seen : SeenIs W w.heap.size (l.take j)
  kept : Kept (fun _ => False) w W

theorem badF_by {rules : List Rl} {l : List Tg} {i : Nat} {t : Tg} {b1 b2 : Bool} (h1 : (ruleF rules t.type).isSome = b1) (h2 : (findO (l.take i) t.type).isSome = b2) : badF rules l i t = (!b1 || b2) := by
  unfold badF
  rw [h1, h2]

set_option maxHeartbeats 2000000 in
set_option maxRecDepth 100000 in
theorem strangers_any (vb : Value) (rs : List Rl) (v : Value) (l : List Tg) (w : World) (hb : BookIs w vb rs) (hv : TagsAt w v l) (hl : l.length ≤ 10000) (h64 : ∀ x ∈ l, In64 x.type) :
    Calls Try.prog 67 #[vb, v] w fun e w' => ∃ u, e = .returned u ∧ OwnO w' w.heap.size u (upTo (rejF rs l) l l.length) ∧ Kept (fun _ => False) w w' := by
  obtain ⟨p, cap, rfl⟩ := hv.slice
  have Hat := hid (fun (j : Nat) (x : Tg) (hj : l[j]? = some x) (W : World) (hW : Kept (fun _ => False) w W) => (hv.kept0 hW).at hj)
  have HF := hid (fun (x : Tg) (h : In64 x.type) (W : World) (hW : Kept (fun _ => False) w W) => (hb.kept0 hW).look h true)
  have H64 := hid h64
  have HM := hid (SeenIs.made w)
  have HK0 := hid ((Kept.refl (fun _ => False) w).alloc (.map #[] 0))
  have hmm := @run_makeMap Try.prog
  obtain ⟨mb, L, rfl, _⟩ := hb
  clear hv h64
  go_enter Try.func67, Try.ntmps67
  go_wp2
  clear hmm
  go_loopw [5, 16] (fun v5 vi wr => ∃ j : Nat, j ≤ l.length ∧ vi = .int .i64 (j : Int) ∧ Hid (StrU w rs l j v5 wr)) (fun _ vi _ => l.length - (intOf vi).toNat)
  case atStart => exact ⟨0, Nat.zero_le _, rfl, OwnO.nil _ _, HM.out, HK0.out⟩
  case round =>
    obtain ⟨j, hj, rfl, HI⟩ := hrel
    by_cases hlt : j < l.length
    · have hltz : (j : Int) < (l.length : Int) := by omega
      obtain ⟨x, hx⟩ : ∃ x, l[j]? = some x := ⟨l[j], by simp [hlt]⟩
      obtain ⟨g, o, rfl, hcap, c0, c1⟩ := Hat.out j x hx wr HI.out.kept
      have hx64 := H64.out x (List.mem_of_getElem? hx)
      have hlen := upTo_rej_le rs l j
      obtain ⟨R, hR⟩ : ∃ R, R = (ruleF rs x.type).getD rl0 := ⟨_, rfl⟩
      obtain ⟨b1, hb1⟩ : ∃ b1, (ruleF rs x.type).isSome = b1 := ⟨_, rfl⟩
      obtain ⟨b2, hb2⟩ : ∃ b2, (findO (l.take j) x.type).isSome = b2 := ⟨_, rfl⟩
      have eN : upTo (rejF rs l) l (j + 1) = upTo (rejF rs l) l j ++ (if (!b1 || b2) = true then [x] else []) := by rw [upTo_next _ _ _ hx, rejF, badF_by hb1 hb2]
      have eT := take_next hx
      have hk1 := (Kept.refl (fun _ => False) wr).alloc (.cells #[.int .i64 x.type, .string x.value] 51)
      have hlook := HF.out x hx64 _ (HI.out.kept.trans hk1)
      rw [← hR, hb1] at hlook
      simp only [if_true, rlV] at hlook
      have hk2 := hk1.alloc (.cells #[.int .i64 R.type, .int .i64 R.len, .int .i64 R.min, .int .i64 R.max, .string R.suggest] 56)
      have hlook2 := (HI.out.seen.kept hk2 id).look hx64
      rw [hb2] at hlook2
      have hk3 := hk2.alloc (.cells #[] 126)
      have hs3 : (((wr.alloc (.cells #[.int .i64 x.type, .string x.value] 51)).alloc (.cells #[.int .i64 R.type, .int .i64 R.len, .int .i64 R.min, .int .i64 R.max, .string R.suggest] 56)).alloc (.cells #[] 126)).heap.size = wr.heap.size + 3 := by simp
      have hbx : BoxO (((wr.alloc (.cells #[.int .i64 x.type, .string x.value] 51)).alloc (.cells #[.int .i64 R.type, .int .i64 R.len, .int .i64 R.min, .int .i64 R.max, .string R.suggest] 56)).alloc (.cells #[] 126)) wr.heap.size x :=
        ((((Kept.refl (fun _ => False) _).alloc _).alloc _).block _ (BoxO.new wr x).lt id).trans (BoxO.new wr x)
      have b0 := (BoxO.new wr x).c0
      have d0 := hbx.c0
      have d1 := hbx.c1
      obtain ⟨p5, c5, rfl⟩ := slice_of HI.out.own
      have HX := hid HI.out
      clear hx hb1 hb2 hR HI hk1 hk2
      generalize hq : (!b1 || b2) = q at eN
      cases q with
      | false =>
        rw [if_neg (by simp), List.append_nil] at eN
        obtain ⟨w5, hst, hS5, hk5⟩ := (HX.out.seen.kept hk3 id).add x hx64 (by rw [List.length_take]; omega)
        have HR : Hid (StrU w rs l (j + 1) (.slice p5 (upTo (rejF rs l) l j).length c5) w5) := by
          refine ⟨?_, ?_, (HX.out.kept.trans hk3).andThen hk5 (fun i hi e => by omega)⟩
          · rw [eN]
            exact (HX.out.own.kept hk3).keptS hk5 (fun i hi e => by subst e; exact (HX.out.seen.kept hk3 id).ne (HX.out.own.kept hk3) hi)
          · rw [eT]; exact hS5
        clear hS5 hk5 hk3 eN eT hbx hs3
        cases b1 <;> cases b2 <;> simp at hq
        go_wp2
        exact ⟨⟨j + 1, hlt, by go_num, HR.out⟩, by simp [intOf]; omega⟩
      | true =>
        rw [if_pos rfl] at eN
        obtain ⟨v', w4, hr, ho4, hk4, _⟩ := pushO x (HX.out.kept.trans hk3).size (HX.out.own.kept hk3) (by omega)
        have hS4 := (HX.out.seen.kept hk3 id).kept hk4 ((HX.out.seen.kept hk3 id).ne (HX.out.own.kept hk3))
        have hbx4 : BoxO w4 wr.heap.size x := (hk4.block _ hbx.lt (fun e => by
          obtain ⟨cur, hc⟩ := HX.out.own.cellsB e
          have := (Array.getElem?_eq_some_iff.1 hc).1
          omega)).trans hbx
        have f0 := hbx4.c0
        obtain ⟨w5, hst, hS5, hk5⟩ := hS4.add x hx64 (by rw [List.length_take]; omega)
        have hk4' : Kept (fun _ => False) w w4 := (HX.out.kept.trans hk3).andThen hk4 (fun i hi e => by have := HX.out.own.baseB e; omega)
        have HR : Hid (StrU w rs l (j + 1) v' w5) := by
          refine ⟨?_, ?_, hk4'.andThen hk5 (fun i hi e => by omega)⟩
          · rw [eN]
            exact ho4.keptS hk5 (fun i hi e => by subst e; exact hS4.ne ho4 hi)
          · rw [eT]; exact hS5
        unfold AppO at hr
        rw [hs3] at hr
        clear hS5 hk5 hk3 eN eT hbx hs3 hS4 hbx4 hk4 hk4' ho4
        cases b1 <;> cases b2 <;> simp at hq
        all_goals
          go_wp2_with (at_builtin; refine Lib.wpList_append_run _ rfl _ _ _ _ rfl _ _ rfl rfl _ _ (hr _) ?_)
          exact ⟨⟨j + 1, hlt, by go_num, HR.out⟩, by simp [intOf]; omega⟩
    · obtain rfl : j = l.length := by omega
      have hltz : ¬ (l.length : Int) < (l.length : Int) := by omega
      have HO := hid HI.out
      clear HI hlt
      go_wp2
      go_ret
      exact ⟨_, rfl, HO.out.own, HO.out.kept⟩

theorem judgeF_rej {rs : List Rl} {l : List Tg} (h : 0 < (upTo (rejF rs l) l l.length).length) : judgeF rs l = (4, upTo (rejF rs l) l l.length) := by
  unfold judgeF
  rw [if_pos (by omega)]
theorem judgeF_nak {rs : List Rl} {l : List Tg} (h : (upTo (rejF rs l) l l.length).length = 0) (h2 : 0 < (misF rs l).length) : judgeF rs l = (3, (misF rs l).map (sugF rs)) := by
  have e := nak_is rs l l.length (Nat.le_refl _) (List.eq_nil_of_length_eq_zero h)
  rw [List.take_length] at e
  unfold judgeF
  rw [if_neg (by omega), e, if_pos (by simp; intro e0; rw [e0] at h2; simp at h2)]
theorem judgeF_ack {rs : List Rl} {l : List Tg} (h : (upTo (rejF rs l) l l.length).length = 0) (h2 : (misF rs l).length = 0) : judgeF rs l = (2, l) := by
  have e := nak_is rs l l.length (Nat.le_refl _) (List.eq_nil_of_length_eq_zero h)
  rw [List.take_length, List.eq_nil_of_length_eq_zero h2] at e
  unfold judgeF
  rw [if_neg (by omega), e, if_neg (by simp)]
theorem misF_sub {rs : List Rl} {l : List Tg} {x : Tg} (h : x ∈ misF rs l) : x ∈ l := (List.mem_filter.1 h).1

set_option maxHeartbeats 2000000 in
set_option maxRecDepth 100000 in
theorem judge_any (vb : Value) (rs : List Rl) (v : Value) (l : List Tg) (w : World) (hb : BookIs w vb rs) (hv : OptsAt w v l) (hl : l.length ≤ 10000) (h64 : ∀ x ∈ l, In64 x.type) (hsz : ∀ x ∈ l, x.value.size ≤ 140737488351232) :
    Calls Try.prog 48 #[vb, v] w fun e w' => ∃ u, e = .returned (.tuple #[.int .i64 (judgeF rs l).1, u]) ∧ OwnO w' w.heap.size u (judgeF rs l).2 ∧ Kept (fun _ => False) w w' := by
  have HS := hid (strangers_any vb rs v l w hb hv.1 hl h64)
  have HM := hid (fun (W : World) (hW : Kept (fun _ => False) w W) => misfits_any vb rs v l W (hb.kept0 hW) (hv.1.kept0 hW) hl h64 hsz)
  have HG := hid (fun (W : World) (hW : Kept (fun _ => False) w W) (u : Value) (hu : TagsAt W u (misF rs l)) => suggestions_any vb rs u (misF rs l) W (hb.kept0 hW) hu (by have := List.length_filter_le (fun x => !letsB rs x) l; unfold misF; omega) (fun x hx => h64 x (misF_sub hx)))
  have HC := hid (fun (W : World) (hW : Kept (fun _ => False) w W) => cloneO_any v l W (hv.kept0 hW) (by omega))
  obtain ⟨p, cap, rfl⟩ := hv.1.slice
  obtain ⟨mb, L, rfl, _⟩ := hb
  clear hv h64 hsz
  go_enter Try.func48, Try.ntmps48
  go_wp2_with fail
  refine HS.out.mono ?_
  rintro e w1 ⟨u, rfl, ho, hk⟩
  obtain ⟨pu, cu, rfl⟩ := slice_of ho
  have HO := hid ho
  have HK := hid hk
  clear ho hk HS
  by_cases h0 : 0 < (upTo (rejF rs l) l l.length).length
  · have h0z : (0 : Int) < ((upTo (rejF rs l) l l.length).length : Int) := by omega
    have HJ := hid (judgeF_rej h0)
    clear HM HG HC h0
    go_wp2
    go_ret2
    exact ⟨_, by rw [HJ.out]; rfl, by rw [HJ.out]; exact HO.out, HK.out⟩
  · have h0z : ¬ (0 : Int) < ((upTo (rejF rs l) l l.length).length : Int) := by omega
    have h0e : (upTo (rejF rs l) l l.length).length = 0 := by omega
    have HE := hid h0e
    clear h0 h0e
    go_wp2_with fail
    refine (HM.out _ HK.out).mono ?_
    rintro e w2 ⟨u2, rfl, ho2, hk2⟩
    obtain ⟨pu2, cu2, rfl⟩ := slice_of ho2
    have HT2 := hid ho2.tags
    have HK2 := hid (HK.out.trans hk2)
    clear ho2 hk2 HM HO
    by_cases h1 : 0 < (misF rs l).length
    · have h1z : (0 : Int) < ((misF rs l).length : Int) := by omega
      have HJ := hid (judgeF_nak HE.out h1)
      clear HC h1
      go_wp2_with fail
      refine (HG.out _ HK2.out _ HT2.out).mono ?_
      rintro e w3 ⟨u3, rfl, ho3, hk3⟩
      obtain ⟨pu3, cu3, e3⟩ := slice_of ho3
      rw [List.length_map] at e3
      subst e3
      have HO3 := hid (ho3.mono HK2.out.size)
      have HK3 := hid (HK2.out.trans hk3)
      clear ho3 hk3
      go_wp2
      go_ret2
      exact ⟨_, by rw [HJ.out]; rfl, by rw [HJ.out]; exact HO3.out, HK3.out⟩
    · have h1z : ¬ (0 : Int) < ((misF rs l).length : Int) := by omega
      have HJ := hid (judgeF_ack HE.out (by omega))
      clear HG h1
      go_wp2_with fail
      refine (HC.out _ HK2.out).mono ?_
      rintro e w3 ⟨u3, rfl, ho3, hk3⟩
      obtain ⟨pu3, cu3, rfl⟩ := slice_of ho3
      have HO3 := hid (ho3.mono HK2.out.size)
      have HK3 := hid (HK2.out.trans hk3)
      clear ho3 hk3
      go_wp2
      go_ret2
      exact ⟨_, by rw [HJ.out]; rfl, by rw [HJ.out]; exact HO3.out, HK3.out⟩

end Go.Proofs.Ytcmdfcdmfdheeaa
