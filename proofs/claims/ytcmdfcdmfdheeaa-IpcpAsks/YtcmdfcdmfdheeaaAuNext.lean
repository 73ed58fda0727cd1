/- The contracts of table and Next: what Next tells is a plain function of the state and the event; the list that it tells is the caller's own. -/
import Derived.Test.YtcmdfcdmfdheeaaAuTab
import Derived.Test.YtcmdfcdmfdheeaaTagPlain
import Derived.Deep.QuietTactic
import Derived.BigQuiet
import Derived.Lib.Hide
namespace Go.Proofs.Ytcmdfcdmfdheeaa
open Go.RowKit

/-- The part of the table in which an event stands. -/
def tabR (e : Int) : List Rw :=
  if 0 ≤ e ∧ e ≤ 3 then wantedR else if 4 ≤ e ∧ e ≤ 5 then waitedR else if 6 ≤ e ∧ e ≤ 7 then askedR else if 8 ≤ e ∧ e ≤ 9 then answeredR else if 10 ≤ e ∧ e ≤ 11 then endedR else if 12 ≤ e ∧ e ≤ 15 then rejectedR else []
def allR : List Rw := wantedR ++ waitedR ++ askedR ++ answeredR ++ endedR ++ rejectedR
def isAt (s e : Int) (r : Rw) : Bool := decide (r.s = s) && decide (r.e = e)
/-- The next state, and the actions. -/
def nextF (s e : Int) : Int × List Int := match (tabR e).find? (isAt s e) with | some r => (r.n, r.acts) | none => (s, [])

theorem tabR_sub (e : Int) : ∀ r ∈ tabR e, r ∈ allR := by
  unfold tabR allR
  intro r hr
  simp only [List.mem_append]
  split at hr
  · exact Or.inl (Or.inl (Or.inl (Or.inl (Or.inl hr))))
  · split at hr
    · exact Or.inl (Or.inl (Or.inl (Or.inl (Or.inr hr))))
    · split at hr
      · exact Or.inl (Or.inl (Or.inl (Or.inr hr)))
      · split at hr
        · exact Or.inl (Or.inl (Or.inr hr))
        · split at hr
          · exact Or.inl (Or.inr hr)
          · split at hr
            · exact Or.inr hr
            · cases hr
theorem allR_apart : allR.Pairwise fun p q => ¬ (p.s = q.s ∧ p.e = q.e) := of_decide_eq_true (by kernel_rfl)
theorem all_of {p : Rw → Bool} (h : allR.all p = true) {r : Rw} (hr : r ∈ allR) : p r = true := List.all_eq_true.1 h r hr
theorem same_row {l : List Rw} (h : l.Pairwise fun p q => ¬ (p.s = q.s ∧ p.e = q.e)) {r r' : Rw} (h1 : r ∈ l) (h2 : r' ∈ l) (hs : r.s = r'.s) (he : r.e = r'.e) : r = r' := by
  induction l with
  | nil => cases h1
  | cons a l ih =>
    obtain ⟨ha, hl⟩ := List.pairwise_cons.1 h
    rcases List.mem_cons.1 h1 with rfl | h1'
    · rcases List.mem_cons.1 h2 with rfl | h2'
      · rfl
      · exact absurd ⟨hs, he⟩ (ha r' h2')
    · rcases List.mem_cons.1 h2 with rfl | h2'
      · exact absurd ⟨hs.symm, he.symm⟩ (ha r h1')
      · exact ih hl h1' h2'
theorem nextF_row {s e : Int} {r : Rw} (hr : r ∈ tabR e) (hs : r.s = s) (he : r.e = e) : nextF s e = (r.n, r.acts) := by
  unfold nextF
  cases hf : (tabR e).find? (isAt s e) with
  | none =>
    have := List.find?_eq_none.1 hf r hr
    simp [isAt, hs, he] at this
  | some r' =>
    have h1 := List.mem_of_find?_eq_some hf
    have h2 := List.find?_some hf
    simp only [isAt, Bool.and_eq_true, decide_eq_true_eq] at h2
    have : r' = r := same_row allR_apart (tabR_sub e r' h1) (tabR_sub e r hr) (h2.1.trans hs.symm) (h2.2.trans he.symm)
    rw [this]
theorem nextF_none {s e : Int} (h : ∀ r ∈ tabR e, ¬ (r.s = s ∧ r.e = e)) : nextF s e = (s, []) := by
  unfold nextF
  rw [List.find?_eq_none.2 (fun r hr => by simpa [isAt] using h r hr)]
/-- What it can be. -/
theorem nextF_is (s e : Int) : nextF s e = (s, []) ∨ ∃ r ∈ allR, r.s = s ∧ r.e = e ∧ nextF s e = (r.n, r.acts) := by
  cases hf : (tabR e).find? (isAt s e) with
  | none => exact Or.inl (by unfold nextF; rw [hf])
  | some r =>
    have h1 := List.mem_of_find?_eq_some hf
    have h2 := List.find?_some hf
    simp only [isAt, Bool.and_eq_true, decide_eq_true_eq] at h2
    exact Or.inr ⟨r, tabR_sub e r h1, h2.1, h2.2, by unfold nextF; rw [hf]⟩

/-- What table leaves. -/
def TabIs (w0 w : World) (v : Value) (rs : List Rw) : Prop := (v = .map none ∧ rs = []) ∨ LitIs w0 w v rs

theorem TabIs.look {w0 w : World} {v : Value} {rs : List Rw} (h : TabIs w0 w v rs) {s e : Int} (hs : In64 s) (he : In64 e) :
    (∃ r u, r ∈ rs ∧ r.s = s ∧ r.e = e ∧ OwnI w w0.heap.size u r.acts ∧ (Instr.lookup 121 v (keyV s e) true).run Try.prog w = .ok (.tuple #[.agg #[.int .i64 r.n, u], .bool true]) w) ∨
    ((∀ r ∈ rs, ¬ (r.s = s ∧ r.e = e)) ∧ (Instr.lookup 121 v (keyV s e) true).run Try.prog w = .ok (.tuple #[.agg #[.int .i64 0, .slice none 0 0], .bool false]) w) := by
  obtain ⟨l, hl⟩ := key_reads hs he
  rcases h with ⟨rfl, rfl⟩ | ⟨mb, M, rfl, hlo, hA, hin, honly⟩
  · exact Or.inr ⟨by simp, Maps.look_nil true keyLaw Try.underlying121 (zeroEn w) hl⟩
  · rcases hA.look true keyLaw Try.underlying121 (zeroEn w) hl with ⟨h1, h2⟩ | ⟨x, h1, h2⟩
    · refine Or.inr ⟨fun r hr hk => ?_, h2⟩
      obtain ⟨u, hu, _⟩ := hin r hr
      exact h1 _ hu (by rw [hk.1, hk.2])
    · obtain ⟨r, hr, hk⟩ := honly _ h1
      obtain ⟨u, hu, ho⟩ := hin r hr
      have hkk := keyV_inj hk
      have hx : x = .agg #[.int .i64 r.n, u] := by
        have hp := hA.keys
        have hgen : ∀ (l : List (Value × Value)), l.Pairwise (fun p q => p.1 ≠ q.1) → ∀ a b : Value × Value, a ∈ l → b ∈ l → a.1 = b.1 → a = b := by
          intro l hl
          induction l with
          | nil => intro a b ha; cases ha
          | cons c l ih =>
            obtain ⟨hc, hl⟩ := List.pairwise_cons.1 hl
            intro a b ha hb hab
            rcases List.mem_cons.1 ha with rfl | ha'
            · rcases List.mem_cons.1 hb with rfl | hb'
              · rfl
              · exact absurd hab (hc b hb')
            · rcases List.mem_cons.1 hb with rfl | hb'
              · exact absurd hab.symm (hc a ha')
              · exact ih hl a b ha' hb' hab
        have := hgen M hp _ _ h1 hu hk
        exact congrArg Prod.snd this
      subst hx
      exact Or.inl ⟨r, u, hr, hkk.1.symm, hkk.2.symm, ho, h2⟩

set_option maxHeartbeats 2000000 in
set_option maxRecDepth 100000 in
theorem table_any (x : Int) (w : World) : Calls Try.prog 79 #[.int .i64 x] w fun e w' => ∃ v, e = .returned v ∧ TabIs w w' v (tabR x) ∧ Kept (fun _ => False) w w' := by
  have H1 := hid wanted_any
  have H2 := hid waited_any
  have H3 := hid asked_any
  have H4 := hid answered_any
  have H5 := hid ended_any
  have H6 := hid rejected_any
  by_cases hx : 0 ≤ x ∧ x ≤ 15
  · have hc : x = 0 ∨ x = 1 ∨ x = 2 ∨ x = 3 ∨ x = 4 ∨ x = 5 ∨ x = 6 ∨ x = 7 ∨ x = 8 ∨ x = 9 ∨ x = 10 ∨ x = 11 ∨ x = 12 ∨ x = 13 ∨ x = 14 ∨ x = 15 := by omega
    clear hx
    rcases hc with rfl | rfl | rfl | rfl | rfl | rfl | rfl | rfl | rfl | rfl | rfl | rfl | rfl | rfl | rfl | rfl
    all_goals
      go_enter Try.func79, Try.ntmps79
      go_wp2_with (first
        | (go_at_call 85; refine (H1.out _).mono ?_; rintro e w' ⟨v, rfl, hl, hk⟩)
        | (go_at_call 86; refine (H2.out _).mono ?_; rintro e w' ⟨v, rfl, hl, hk⟩)
        | (go_at_call 87; refine (H3.out _).mono ?_; rintro e w' ⟨v, rfl, hl, hk⟩)
        | (go_at_call 88; refine (H4.out _).mono ?_; rintro e w' ⟨v, rfl, hl, hk⟩)
        | (go_at_call 89; refine (H5.out _).mono ?_; rintro e w' ⟨v, rfl, hl, hk⟩)
        | (go_at_call 90; refine (H6.out _).mono ?_; rintro e w' ⟨v, rfl, hl, hk⟩))
      go_ret
      exact ⟨v, rfl, Or.inr hl, hk⟩
  · have e0 : tabR x = [] := by unfold tabR; repeat rw [if_neg (by omega)]
    rw [e0]
    clear e0
    have n0 : ¬ (x = 0) := by omega
    have n1 : ¬ (x = 1) := by omega
    have n2 : ¬ (x = 2) := by omega
    have n3 : ¬ (x = 3) := by omega
    have n4 : ¬ (x = 4) := by omega
    have n5 : ¬ (x = 5) := by omega
    have n6 : ¬ (x = 6) := by omega
    have n7 : ¬ (x = 7) := by omega
    have n8 : ¬ (x = 8) := by omega
    have n9 : ¬ (x = 9) := by omega
    have n10 : ¬ (x = 10) := by omega
    have n11 : ¬ (x = 11) := by omega
    have n12 : ¬ (x = 12) := by omega
    have n13 : ¬ (x = 13) := by omega
    have n14 : ¬ (x = 14) := by omega
    have n15 : ¬ (x = 15) := by omega
    clear hx
    go_enter Try.func79, Try.ntmps79
    go_wp2
    go_ret
    exact ⟨_, rfl, Or.inl ⟨rfl, rfl⟩, Kept.refl _ _⟩

/-- 'e, ok := m[k]' as the walk meets it. -/
def Looks (v : Value) (s e : Int) (W : World) (n : Int) (u : Value) (ok : Bool) : Prop := (Instr.lookup 121 v (.agg #[.int .i64 s, .int .i64 e]) true).run Try.prog W = .ok (.tuple #[.agg #[.int .i64 n, u], .bool ok]) W

set_option maxHeartbeats 2000000 in
set_option maxRecDepth 100000 in
theorem next_any (s e : Int) (hs : In64 s) (he : In64 e) (w : World) : Calls Try.prog 65 #[.int .i64 s, .int .i64 e] w fun en w' => ∃ v, en = .returned (.tuple #[.int .i64 (nextF s e).1, v]) ∧ OwnI w' w.heap.size v (nextF s e).2 ∧ Kept (fun _ => False) w w' := by
  have HT := hid (table_any e)
  have HS := hid hs
  have HE := hid he
  clear hs he
  go_enter Try.func65, Try.ntmps65
  go_wp2_with fail
  refine (HT.out _).mono ?_
  rintro en w1 ⟨v, rfl, ht, hk⟩
  have HK := hid hk
  rcases ht.look HS.out HE.out with ⟨r, u, hr, hrs, hre, ho, hl⟩ | ⟨hno, hl⟩
  · have HN := hid (nextF_row hr hrs hre)
    have HO := hid ho
    unfold keyV at hl
    obtain ⟨pu, cu, rfl⟩ := ho.slice
    clear ht hr hrs hre ho hk
    go_wp2
    go_region
    all_goals go_wp2
    all_goals go_ret2
    all_goals exact ⟨.slice pu r.acts.length cu, by rw [HN.out]; rfl, by rw [HN.out]; exact HO.out.kept0 ((Kept.refl _ w1).alloc _).drew, HK.out.trans ((Kept.refl _ w1).alloc _).drew⟩
  · have HN := hid (nextF_none hno)
    unfold keyV at hl
    clear ht hno hk
    go_wp2
    go_ret2
    exact ⟨.slice none 0 0, by rw [HN.out]; rfl, by rw [HN.out]; exact OwnI.nil _ _, HK.out.trans ((Kept.refl _ w1).alloc _)⟩
end Go.Proofs.Ytcmdfcdmfdheeaa
