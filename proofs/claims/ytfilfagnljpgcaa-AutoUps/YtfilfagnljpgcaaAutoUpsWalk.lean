/- The law AutoUps: it returns true for every list, and leaves what was there. -/
import Derived.Test.YtfilfagnljpgcaaAuKit
import Derived.Test.YtfilfagnljpgcaaAuArgs
namespace Go.Proofs.Ytfilfagnljpgcaa
open Go.RowKit

def sdP (x : Int) : Bool := decide (x = 6) || decide (x = 9)
def bgP (x : Int) : Bool := decide (x = 4) || decide (x = 5)
def upN (l : List Int) : Nat := l.countP (fun x => decide (x = 0))
def dnN (l : List Int) : Nat := l.countP (fun x => decide (x = 1))
def sdN (l : List Int) : Nat := l.countP sdP
def bgN (l : List Int) : Nat := l.countP bgP

theorem reckon_other {cf tm x ct : Int} {acts : List Int} (h1 : sdP x = false) (h2 : bgP x = false) : reckonF cf tm acts x ct = ct := by
  simp only [sdP, bgP, Bool.or_eq_false_iff, decide_eq_false_iff_not] at h1 h2
  unfold reckonF
  rw [if_neg h2.1, if_neg h2.2, if_neg (by rintro (h | h); exact h1.1 h; exact h1.2 h)]
theorem reckon_send {cf tm x ct : Int} {acts : List Int} (h1 : sdP x = true) : reckonF cf tm acts x ct = max (ct - 1) 0 := by
  simp only [sdP, Bool.or_eq_true, decide_eq_true_eq] at h1
  unfold reckonF
  rw [if_neg (by omega), if_neg (by omega), if_pos h1]
theorem cnt_none {cf tm : Int} {acts : List Int} : ∀ (l : List Int) (ct : Int), sdN l = 0 → bgN l = 0 → countF cf tm acts l ct = ct
  | [], _, _, _ => rfl
  | x :: l, ct, h1, h2 => by
    unfold sdN at h1
    unfold bgN at h2
    rw [List.countP_cons] at h1 h2
    cases hs : sdP x with
    | true => rw [hs] at h1; simp at h1
    | false =>
      cases hb : bgP x with
      | true => rw [hb] at h2; simp at h2
      | false =>
        show countF cf tm acts l (reckonF cf tm acts x ct) = ct
        rw [reckon_other hs hb]
        exact cnt_none l ct (by unfold sdN; omega) (by unfold bgN; omega)
theorem cnt_one {cf tm : Int} {acts : List Int} : ∀ (l : List Int) (ct : Int), sdN l = 1 → bgN l = 0 → countF cf tm acts l ct = max (ct - 1) 0
  | [], _, h, _ => by cases h
  | x :: l, ct, h1, h2 => by
    unfold sdN at h1
    unfold bgN at h2
    rw [List.countP_cons] at h1 h2
    cases hb : bgP x with
    | true => rw [hb] at h2; simp at h2
    | false =>
      show countF cf tm acts l (reckonF cf tm acts x ct) = _
      cases hs : sdP x with
      | true =>
        rw [hs] at h1
        simp only [if_true] at h1
        rw [reckon_send hs]
        exact cnt_none l _ (by unfold sdN; omega) (by unfold bgN; omega)
      | false =>
        rw [hs] at h1
        simp only [Bool.false_eq_true, if_false] at h1
        rw [reckon_other hs hb]
        exact cnt_one l ct (by unfold sdN; omega) (by unfold bgN; omega)

/-- What the counts of an event's actions can be, with the states ahead of it and behind. -/
def upsB (was now : Int) (l : List Int) : Bool :=
  decide (sdN l ≤ 1) && decide (bgN l ≤ 1) &&
  ((decide (upN l = 1) && decide (dnN l = 0) && decide (sdN l = 0) && decide (now = 9) && decide (was ≠ 9)) ||
   (decide (upN l = 0) && decide (dnN l = 1) && decide (was = 9) && decide (now ≠ 9)) ||
   (decide (upN l = 0) && decide (dnN l = 0) && ((decide (was = 9) && decide (now = 9) && decide (sdN l = 0) && decide (bgN l = 0)) || (decide (was ≠ 9) && decide (now ≠ 9)))))
theorem ups_ok (s e : Int) : upsB s (nextF s e).1 (nextF s e).2 = true := by
  rcases nextF_is s e with h1 | ⟨r, hr, rfl, _, h1⟩
  · rw [h1]
    by_cases hs : s = 9
    · subst hs; rfl
    · simp [upsB, sdN, bgN, upN, dnN, hs]
  · rw [h1]
    exact all_of (p := fun r => upsB r.s r.n r.acts) (by kernel_rfl) hr

/-- The four counts of the first k actions. -/
structure CntIn (l : List Int) (k u d s b : Nat) : Prop where
  u : u = upN (l.take k)
  d : d = dnN (l.take k)
  s : s = sdN (l.take k)
  b : b = bgN (l.take k)
theorem CntIn.le {l : List Int} {k u d s b : Nat} (h : CntIn l k u d s b) (hk : k ≤ l.length) (hl : l.length ≤ 3) : u ≤ 3 ∧ d ≤ 3 ∧ s ≤ 3 ∧ b ≤ 3 := by
  have hh : (l.take k).length ≤ 3 := by rw [List.length_take]; omega
  refine ⟨?_, ?_, ?_, ?_⟩
  · rw [h.u]; exact Nat.le_trans List.countP_le_length hh
  · rw [h.d]; exact Nat.le_trans List.countP_le_length hh
  · rw [h.s]; exact Nat.le_trans List.countP_le_length hh
  · rw [h.b]; exact Nat.le_trans List.countP_le_length hh
theorem countP_next (p : Int → Bool) {l : List Int} {k : Nat} {x : Int} (h : l[k]? = some x) : (l.take (k + 1)).countP p = (l.take k).countP p + if p x then 1 else 0 := by
  rw [List.take_add_one, h, List.countP_append]
  simp [List.countP_cons]
theorem CntIn.next {l : List Int} {k u d s b : Nat} {x : Int} (h : CntIn l k u d s b) (hx : l[k]? = some x) {u' d' s' b' : Nat} (hu : u' = u + if decide (x = 0) then 1 else 0) (hd : d' = d + if decide (x = 1) then 1 else 0) (hs : s' = s + if sdP x then 1 else 0) (hb : b' = b + if bgP x then 1 else 0) : CntIn l (k + 1) u' d' s' b' :=
  ⟨by unfold upN; rw [countP_next _ hx, hu, h.u]; rfl, by unfold dnN; rw [countP_next _ hx, hd, h.d]; rfl, by unfold sdN; rw [countP_next _ hx, hs, h.s]; rfl, by unfold bgN; rw [countP_next _ hx, hb, h.b]; rfl⟩

set_option maxHeartbeats 2000000 in
set_option maxRecDepth 100000 in
theorem autoUps_long (p : Option Addr) (n cap : Nat) (w : World) (hn : 300 < n) : Calls Try.prog 4 #[.slice p n cap] w fun e w' => e = .returned (.bool true) ∧ Below w.heap.size w w' := by
  have HN := hid (mine_new 10 3 (by decide) (by decide) w w (Kept.refl _ _))
  have hz : (300 : Int) < (n : Int) := by omega
  go_enter Try.func4, Try.ntmps4
  go_wp2_with fail
  refine HN.out.mono ?_
  rintro e w1 ⟨b, rfl, hm, hk⟩
  have HK := hid hk
  clear HN hm hk
  go_wp2_with fail
  refine (alive_any _).mono ?_
  rintro e w2 ⟨rfl, hk2⟩
  go_wp2
  go_ret
  exact ⟨rfl, below_of (HK.out.trans hk2)⟩

set_option maxHeartbeats 8000000 in
set_option maxRecDepth 100000 in
theorem autoUps_in (v : Value) (l : List Int) (w : World) (hv : IntsAt w v l) (h64 : ∀ x ∈ l, In64 x) (hn : l.length ≤ 300) : Calls Try.prog 4 #[v] w fun e w' => e = .returned (.bool true) ∧ Below w.heap.size w w' := by
  have HN := hid (mine_new 10 3 (by decide) (by decide) w w (Kept.refl _ _))
  have HV := hid (fun W' (hk : Kept (fun _ => False) w W') => (hv.kept hk).form)
  obtain ⟨p, cap, rfl, _⟩ := hv.form
  have H64 := hid h64
  have hz : ¬ (300 : Int) < (l.length : Int) := by omega
  clear hv h64
  go_enter Try.func4, Try.ntmps4
  go_wp2_with fail
  refine HN.out.mono ?_
  rintro e' w1 ⟨b, rfl, hm, hk⟩
  have H1 := hid hm
  clear HN hm hk
  go_wp2_with fail
  go_loopw [5] (fun vi wr => ∃ (j : Nat) (c : Au), j ≤ l.length ∧ vi = .int .i64 (j : Int) ∧ Hid (AMine w wr b c)) (fun vi _ => l.length - (intOf vi).toNat)
  case atStart => exact ⟨0, _, Nat.zero_le _, rfl, H1.out⟩
  case round =>
    obtain ⟨j, c, hj, rfl, HI⟩ := hrel
    clear H1
    by_cases hlt : j < l.length
    · have hltz : (j : Int) < (l.length : Int) := by omega
      obtain ⟨x, hx⟩ : ∃ x, l[j]? = some x := ⟨l[j], by simp [hlt]⟩
      obtain ⟨p', cap', ev, hc⟩ := HV.out wr HI.out.kept
      simp only [Value.slice.injEq, true_and] at ev
      obtain ⟨rfl, rfl⟩ := ev
      obtain ⟨g, o, rfl, hcap, hcell⟩ := hc j x hx
      have HX := hid (H64.out x (List.mem_of_getElem? hx))
      have HS := hid HI.out.stateBy
      have HC := hid HI.out.countBy
      clear hx hc
      go_wp2_with (first
        | (go_at_call 13; refine HS.out.mono ?_; rintro e w' ⟨rfl, hw⟩; rw [hw]; clear hw w')
        | (go_at_call 10; refine HC.out.mono ?_; rintro e w' ⟨rfl, hw⟩; rw [hw]; clear hw w'))
      clear HS HC
      have HU := hid (ups_ok c.st x)
      have hsh := next_short c.st x
      have HG := hid HI.out.good
      refine (HI.out.doBy x HX.out).mono ?_
      rintro e w2 ⟨v2, rfl, hm, ho, _⟩
      have hD : (doF c x).1 = (nextF c.st x).2 := rfl
      rw [hD] at ho
      obtain ⟨a, ha⟩ : ∃ a, a = (nextF c.st x).2 := ⟨_, rfl⟩
      rw [← ha] at ho hsh HU
      obtain ⟨p2, c2, rfl, hc2⟩ := ho.form
      have H2 := hid hm
      have HA := hid ha
      have HC2 := hid hc2
      clear hm HI ho hD ha hc2
      go_wp2_with fail
      go_loopw [13, 9, 10, 11, 12] (fun vk vu vd vs vb wr => ∃ k u d s t : Nat, k ≤ a.length ∧ vk = .int .i64 (k : Int) ∧ vu = .int .i64 (u : Int) ∧ vd = .int .i64 (d : Int) ∧ vs = .int .i64 (s : Int) ∧ vb = .int .i64 (t : Int) ∧ Hid (CntIn a k u d s t) ∧ wr = w2) (fun vk _ _ _ _ _ => a.length - (intOf vk).toNat)
      case atStart => exact ⟨0, 0, 0, 0, 0, Nat.zero_le _, rfl, rfl, rfl, rfl, rfl, ⟨rfl, rfl, rfl, rfl⟩, rfl⟩
      case round =>
        obtain ⟨k, u, d, s, t, hk, rfl, rfl, rfl, rfl, rfl, HR, rfl⟩ := hrel
        by_cases hklt : k < a.length
        · have hkz : (k : Int) < (a.length : Int) := by omega
          obtain ⟨y, hy⟩ : ∃ y, a[k]? = some y := ⟨a[k], by simp [hklt]⟩
          obtain ⟨g2, rfl, hcap2, hcell2⟩ := HC2.out k y hy
          obtain ⟨b1, b2, b3, b4⟩ := HR.out.le hk hsh
          have HY := hid hy
          clear hy
          by_cases y0 : y = 0
          · subst y0
            have R := hid (HR.out.next HY.out (u' := u + 1) (d' := d) (s' := s) (b' := t) rfl rfl rfl rfl)
            clear HR HY
            go_wp2
            exact ⟨⟨k + 1, u + 1, d, s, t, hklt, by go_num, by go_num, rfl, rfl, rfl, R.out, trivial⟩, by simp [intOf]; omega⟩
          · by_cases y1 : y = 1
            · subst y1
              have R := hid (HR.out.next HY.out (u' := u) (d' := d + 1) (s' := s) (b' := t) rfl rfl rfl rfl)
              clear HR HY
              go_wp2
              exact ⟨⟨k + 1, u, d + 1, s, t, hklt, by go_num, rfl, by go_num, rfl, rfl, R.out, trivial⟩, by simp [intOf]; omega⟩
            · by_cases y6 : y = 6
              · subst y6
                have R := hid (HR.out.next HY.out (u' := u) (d' := d) (s' := s + 1) (b' := t) rfl rfl rfl rfl)
                clear HR HY
                go_wp2
                exact ⟨⟨k + 1, u, d, s + 1, t, hklt, by go_num, rfl, rfl, by go_num, rfl, R.out, trivial⟩, by simp [intOf]; omega⟩
              · by_cases y9 : y = 9
                · subst y9
                  have R := hid (HR.out.next HY.out (u' := u) (d' := d) (s' := s + 1) (b' := t) rfl rfl rfl rfl)
                  clear HR HY
                  go_wp2
                  exact ⟨⟨k + 1, u, d, s + 1, t, hklt, by go_num, rfl, rfl, by go_num, rfl, R.out, trivial⟩, by simp [intOf]; omega⟩
                · by_cases y4 : y = 4
                  · subst y4
                    have R := hid (HR.out.next HY.out (u' := u) (d' := d) (s' := s) (b' := t + 1) rfl rfl rfl rfl)
                    clear HR HY
                    go_wp2
                    exact ⟨⟨k + 1, u, d, s, t + 1, hklt, by go_num, rfl, rfl, rfl, by go_num, R.out, trivial⟩, by simp [intOf]; omega⟩
                  · by_cases y5 : y = 5
                    · subst y5
                      have R := hid (HR.out.next HY.out (u' := u) (d' := d) (s' := s) (b' := t + 1) rfl rfl rfl rfl)
                      clear HR HY
                      go_wp2
                      exact ⟨⟨k + 1, u, d, s, t + 1, hklt, by go_num, rfl, rfl, rfl, by go_num, R.out, trivial⟩, by simp [intOf]; omega⟩
                    · have R := hid (HR.out.next HY.out (u' := u) (d' := d) (s' := s) (b' := t) (by simp [y0]) (by simp [y1]) (by simp [sdP, y6, y9]) (by simp [bgP, y4, y5]))
                      clear HR HY
                      go_wp2
                      exact ⟨⟨k + 1, u, d, s, t, hklt, by go_num, rfl, rfl, rfl, rfl, R.out, trivial⟩, by simp [intOf]; omega⟩
        · obtain rfl : k = a.length := by omega
          have hkz : ¬ (a.length : Int) < (a.length : Int) := by omega
          have hC := HR.out
          obtain ⟨q1, q2, q3, q4⟩ := hC
          rw [show a.take a.length = a from List.take_length ..] at q1 q2 q3 q4
          have hU := HU.out
          unfold upsB at hU
          rw [← q1, ← q2, ← q3, ← q4] at hU
          have HCt0 : Hid (s = 0 → t = 0 → (doF c x).2.ct = c.ct) := fun h0 h1 => by
            show countF c.cf c.tm (nextF c.st x).2 (nextF c.st x).2 c.ct = c.ct
            rw [← HA.out]
            exact cnt_none a c.ct (by rw [← q3]; exact h0) (by rw [← q4]; exact h1)
          have HCt1 : Hid (s = 1 → t = 0 → (doF c x).2.ct = max (c.ct - 1) 0) := fun h0 h1 => by
            show countF c.cf c.tm (nextF c.st x).2 (nextF c.st x).2 c.ct = _
            rw [← HA.out]
            exact cnt_one a c.ct (by rw [← q3]; exact h0) (by rw [← q4]; exact h1)
          have hst : (doF c x).2.st = (nextF c.st x).1 := rfl
          rw [← hst] at hU
          have hgd := H2.out.good
          have r1 := hgd.st1
          have r2 := hgd.st2
          have r3 := HG.out.ct1
          have r4 := HG.out.ct2
          have HS := hid H2.out.stateBy
          have HC := hid H2.out.countBy
          obtain ⟨c', hc'⟩ : ∃ c', c' = (doF c x).2 := ⟨_, rfl⟩
          rw [← hc'] at hU HCt0 HCt1 r1 r2 HS HC
          have H3 : Hid (AMine w wr b c') := by rw [hc']; exact H2.out
          clear q1 q2 q3 q4 HR HU hst hgd H2 hc' HA HC2 HG hcell
          have hcase : (u = 1 ∧ d = 0 ∧ c'.st = 9 ∧ c.st ≠ 9 ∧ s = 0 ∧ t ≤ 1) ∨ (u = 0 ∧ d = 1 ∧ c.st = 9 ∧ c'.st ≠ 9 ∧ s ≤ 1 ∧ t ≤ 1) ∨ (u = 0 ∧ d = 0 ∧ c.st = 9 ∧ c'.st = 9 ∧ s = 0 ∧ t = 0) ∨ (u = 0 ∧ d = 0 ∧ c.st ≠ 9 ∧ c'.st ≠ 9 ∧ s ≤ 1 ∧ t ≤ 1) := by
            simp only [Bool.and_eq_true, Bool.or_eq_true, decide_eq_true_eq] at hU
            omega
          clear hU
          have hct : t = 1 ∨ (s = 0 ∧ t = 0 ∧ c'.ct = c.ct) ∨ (s = 1 ∧ t = 0 ∧ c'.ct = c.ct - 1 ∧ 0 ≤ c.ct - 1) ∨ (s = 1 ∧ t = 0 ∧ c'.ct = 0 ∧ ¬ 0 ≤ c.ct - 1) := by
            by_cases ht : t = 0
            · by_cases hs0 : s = 0
              · exact Or.inr (Or.inl ⟨hs0, ht, HCt0.out hs0 ht⟩)
              · have hs1 : s = 1 := by omega
                have e := HCt1.out hs1 ht
                by_cases hq : 0 ≤ c.ct - 1
                · rw [Int.max_eq_left hq] at e
                  exact Or.inr (Or.inr (Or.inl ⟨hs1, ht, e, hq⟩))
                · rw [Int.max_eq_right (by omega)] at e
                  exact Or.inr (Or.inr (Or.inr ⟨hs1, ht, e, hq⟩))
            · omega
          clear HCt0 HCt1
          generalize c.st = was at *
          generalize c.ct = ct at *
          generalize hnow : c'.st = now at *
          generalize hctn : c'.ct = ct' at *
          clear hnow hctn HV H64 HX
          have hsz : ¬ (1 : Int) < (s : Int) := by omega
          rcases hcase with ⟨rfl, rfl, rfl, hw9, rfl, ht⟩ | ⟨rfl, rfl, rfl, hn9, hs, ht⟩ | ⟨rfl, rfl, rfl, rfl, rfl, rfl⟩ | ⟨rfl, rfl, hw9, hn9, hs, ht⟩
          case' inl => have e1 : (was == 9) = false := by simpa using hw9
          case' inl => have e2 : (was != 9) = true := by simpa using hw9
          case' inr.inl => have e1 : (now == 9) = false := by simpa using hn9
          case' inr.inl => have e2 : (now != 9) = true := by simpa using hn9
          case' inr.inr.inr => have e1 : (was == 9) = false := by simpa using hw9
          case' inr.inr.inr => have e2 : (was != 9) = true := by simpa using hw9
          case' inr.inr.inr => have e3 : (now == 9) = false := by simpa using hn9
          case' inr.inr.inr => have e4 : (now != 9) = true := by simpa using hn9
          all_goals
            rcases hct with h0 | ⟨h1, h0, h2⟩ | ⟨h1, h0, h2, hq⟩ | ⟨h1, h0, h2, hq⟩
            all_goals first
              | (exfalso; omega)
              | skip
            all_goals
              try subst h0
              try subst h1
              try subst h2
              try clear h0
              try clear h1
              try clear hs
              try clear ht
              as_aux_lemma =>
                go_wp2_with (first
                  | (go_at_call 13; refine HS.out.mono ?_; rintro e w' ⟨rfl, hw⟩; rw [hw]; clear hw w')
                  | (go_at_call 10; refine HC.out.mono ?_; rintro e w' ⟨rfl, hw⟩; rw [hw]; clear hw w'))
                exact ⟨⟨j + 1, c', hlt, by go_num, H3.out⟩, by simp [intOf]; omega⟩
    · obtain rfl : j = l.length := by omega
      have hltz : ¬ (l.length : Int) < (l.length : Int) := by omega
      go_wp2_with (go_at_call 8; refine (alive_any _).mono ?_; rintro e w' ⟨rfl, hk2⟩)
      go_ret
      exact ⟨rfl, below_of (HI.out.kept.trans hk2)⟩

theorem autoUps_walk (v : Value) (l : List Int) (w : World) (hv : IntsAt w v l ∧ ∀ x ∈ l, In64 x) : Calls Try.prog 4 #[v] w fun e w' => e = .returned (.bool true) ∧ Below w.heap.size w w' := by
  by_cases hl : l.length ≤ 300
  · exact autoUps_in v l w hv.1 hv.2 hl
  · obtain ⟨p, cap, rfl, _⟩ := hv.1.form
    exact autoUps_long p l.length cap w (by omega)
end Go.Proofs.Ytfilfagnljpgcaa
