/- The law TagFinds: it returns true for every two lists of tags and every kind, and leaves what was there. -/
import Derived.Test.YtofonelohlaenaaTagLight
import Derived.Deep.DeepCutAuto
import Derived.Deep.Upon
import Derived.Lib.AppendZeros
import Derived.Maps.AppendAt
namespace Go.Proofs.Ytofonelohlaenaa
open Go.RowKit

set_option maxHeartbeats 1000000 in
set_option maxRecDepth 100000 in
theorem tagFinds_not (v : Value) (l : List Tg) (u : Value) (m : List Tg) (kind : Int) (w : World) (hv : TagsAt w v l) (hln : l.length ≤ maxLen) (hsz : ∀ x ∈ l, x.value.size ≤ 140737488351232) (hu : TagsAt w u m) (hmn : m.length ≤ maxLen) (hsm : ∀ x ∈ m, x.value.size ≤ 140737488351232)
    (h : lightF l = false ∨ (lightF l = true ∧ lightF m = false)) :
    Calls Try.prog 5 #[v, u, .int .i64 kind] w fun e w' => e = .returned (.bool true) ∧ Below w.heap.size w w' := by
  have Ha := hid alive_any
  have HL := hid (light_any v l w hv (by unfold maxLen at hln; omega) hsz)
  have HM := hid (fun W (k : Kept (fun _ => False) w W) => light_any u m W (hu.kept0 k) (by unfold maxLen at hmn; omega) hsm)
  clear hv hsz hu hsm hln hmn
  rcases h with h | ⟨h, h6⟩
  · rw [h] at HL
    clear h
    go_enter Try.func5, Try.ntmps5
    go_wp2_with fail
    refine HL.out.mono ?_
    rintro e w1 ⟨rfl, hk1⟩
    have HK1 := hid hk1
    clear hk1
    go_wp2_with fail
    refine (Ha.out _).mono ?_
    rintro e w2 ⟨rfl, hk2⟩
    go_wp2
    go_ret
    exact ⟨rfl, below_of (HK1.out.trans hk2)⟩
  · rw [h] at HL
    rw [h6] at HM
    clear h h6
    go_enter Try.func5, Try.ntmps5
    go_wp2_with fail
    refine HL.out.mono ?_
    rintro e w1 ⟨rfl, hk1⟩
    have HK1 := hid hk1
    clear hk1
    go_wp2_with fail
    refine (HM.out _ HK1.out).mono ?_
    rintro e w3 ⟨rfl, hk3⟩
    have HK3 := hid (HK1.out.trans hk3)
    clear hk3
    go_wp2_with fail
    refine (Ha.out _).mono ?_
    rintro e w2 ⟨rfl, hk2⟩
    go_wp2
    go_ret
    exact ⟨rfl, below_of (HK3.out.trans hk2)⟩

/-- A list's cells, one behind the other. -/
theorem TagsAt.row {W : World} {v : Value} {l : List Tg} (h : TagsAt W v l) (hne : l ≠ []) : ∃ g o cap, v = .slice (some ⟨g, o, none⟩) l.length cap ∧ ∀ (j : Nat) (u : Value), (rowT l)[j]? = some u → W.cell? ((⟨g, o, none⟩ : Addr).add j) = some u := by
  rcases h with ⟨rfl, _⟩ | ⟨g, o, cap, rfl, h1, h2, hc⟩
  · exact absurd rfl hne
  · refine ⟨g, o, cap, rfl, fun j u hj => ?_⟩
    have hlt := (List.getElem?_eq_some_iff.1 hj).1
    rw [rowT_length] at hlt
    have hd : j / 2 < l.length := by omega
    obtain ⟨c0, c1⟩ := hc (j / 2) l[j / 2] (by simp)
    have hg := rowT_get (l := l) (k := j / 2) (x := l[j / 2]) (by simp) (j % 2) (by omega)
    rw [show j / 2 * 2 + j % 2 = j by omega, hj] at hg
    rw [add_none]
    rcases (show j % 2 = 0 ∨ j % 2 = 1 by omega) with e | e
    · rw [e] at hg
      simp [tgCells] at hg
      rw [hg, ← c0]
      congr 2
      omega
    · rw [e] at hg
      simp [tgCells] at hg
      rw [hg, ← c1]
      congr 2
      omega

/-- What 'append' makes of two lists of tags. -/
def AppT (w : World) (v u v' : Value) (w' : World) : Prop := ∀ ty, (Builtin.append_ #[24, 24] ty #[v, u]).run Try.prog w = .ok v' w'

/-- 'append' of a list that is read onto one of the call's own. -/
theorem append_run {w0 w : World} {v u : Value} {a b : List Tg} (hk : Kept (fun _ => False) w0 w) (hown : OwnT w w0.heap.size v a) (hu : TagsAt w u b) (hn : a.length + b.length ≤ 1000000) :
    ∃ v' w', AppT w v u v' w' ∧ OwnT w' w0.heap.size v' (a ++ b) ∧ Kept (fun _ => False) w0 w' := by
  obtain ⟨i0, hi0, hz0, hz1, hz2⟩ := info_parts infoTag
  by_cases hb : b = []
  · subst hb
    rcases hu with ⟨_, p, cap, rfl⟩ | ⟨g, o, cap, rfl, _⟩
    all_goals
      have hsrc : ∀ (q : Option Addr) (c : Nat), Src Try.prog i0.size 24 (.slice q 0 c) 0 [] w := fun q c => by
        cases q with
        | none => exact Src.ofNil w Try.underlying24 c
        | some a => exact Src.ofSlice w Try.underlying24 a 0 c [] (by simp) (fun j u hj => by simp at hj) (fun u hu => by simp at hu)
      refine ⟨v, w, fun ty => ?_, by rw [List.append_nil]; exact hown, hk⟩
      rcases hown.2 with ⟨rfl, _⟩ | ⟨g', cap', cur, rfl, _, _, h1, _⟩
      · exact run_append_nothing w _ _ _ _ i0 Try.underlying24 hi0 none 0 0 (Nat.le_refl _) _ (hsrc _ _)
      · exact run_append_nothing w _ _ _ _ i0 Try.underlying24 hi0 _ _ _ h1 _ (hsrc _ _)
  · obtain ⟨g, o, cap, rfl, hc⟩ := hu.row hb
    obtain ⟨v', w', h1, h2, h3, _, h5⟩ := run_append_own_at (P := Try.prog) w w0.heap.size 24 0 38 i0 (.agg #[.int .i64 0, .string ⟨#[]⟩]) 2 24 Try.underlying24 hi0 hz0 hz1 hz2 rfl (by decide) v a.length (rowT a) hown ⟨g, o, none⟩ b.length cap (rowT b) (rowT_length b) hc (rowT_oneCell b) (by unfold maxLen; omega) (by omega) hk.size
    refine ⟨v', w', fun ty => h1, ?_, hk.grown h3 (fun j hj => Or.inl (World.ownsRow.lt hown j hj).1)⟩
    unfold OwnT
    rw [rowT_append, List.length_append]
    exact h2

set_option maxHeartbeats 4000000 in
set_option maxRecDepth 100000 in
theorem tagFinds_in (v : Value) (l : List Tg) (u : Value) (m : List Tg) (kind : Int) (w : World) (hv : TagsAt w v l) (hln : l.length ≤ maxLen) (hsz : ∀ x ∈ l, x.value.size ≤ 140737488351232) (hu : TagsAt w u m) (hmn : m.length ≤ maxLen) (hsm : ∀ x ∈ m, x.value.size ≤ 140737488351232)
    (hl : lightF l = true) (hm : lightF m = true) :
    Calls Try.prog 5 #[v, u, .int .i64 kind] w fun e w' => e = .returned (.bool true) ∧ Below w.heap.size w w' := by
  have Ha := hid alive_any
  have hl4 := (lightF_true hl).1
  have hm4 := (lightF_true hm).1
  have HL : Hid (∀ W, Kept (fun _ => False) w W → Calls Try.prog 7 #[v] W fun e w' => e = .returned (.bool true) ∧ Kept (fun _ => False) W w') := fun W h => by
    have := light_any v l W (hv.kept0 h) (by unfold maxLen at hln; omega) hsz
    rw [hl] at this
    exact this
  have HM : Hid (∀ W, Kept (fun _ => False) w W → Calls Try.prog 7 #[u] W fun e w' => e = .returned (.bool true) ∧ Kept (fun _ => False) W w') := fun W h => by
    have := light_any u m W (hu.kept0 h) (by unfold maxLen at hmn; omega) hsm
    rw [hm] at this
    exact this
  have HF1 := hid (fun W (h : Kept (fun _ => False) w W) => find_any v l kind W (hv.kept0 h) (by omega) hsz)
  have HF2 := hid (fun W (h : Kept (fun _ => False) w W) => find_any u m kind W (hu.kept0 h) (by omega) hsm)
  have HF3 := hid (fun W x k (h : OwnT W k x (l ++ m)) => find_any x (l ++ m) kind W h.tags (by rw [List.length_append]; omega) (fun y hy => (List.mem_append.1 hy).elim (hsz y) (hsm y)))
  have HS1 : Hid (∀ W, Kept (fun _ => False) w W → Calls Try.prog 13 #[v, v] W fun e w' => e = .returned (.bool true) ∧ Kept (fun _ => False) W w') := fun W h => by
    have := same_any v v l l W (hv.kept0 h) (hv.kept0 h) (by omega)
    rw [sameF_self] at this
    exact this
  have HS2 := hid (fun W (h : Kept (fun _ => False) w W) (hne : l.length ≠ m.length) => by
    have := same_any v u l m W (hv.kept0 h) (hu.kept0 h) (by omega)
    rw [sameF_len hne] at this
    exact this)
  have HA1 := hid (fun W (h : Kept (fun _ => False) w W) => append_run h (OwnT.nil W w.heap.size) (hv.kept0 h) (by simp; omega))
  have HA2 := hid (fun W x (h : Kept (fun _ => False) w W) (ho : OwnT W w.heap.size x l) => append_run h ho (hu.kept0 h) (by omega))
  obtain ⟨p, cap, rfl⟩ := hv.slice
  obtain ⟨q, cbp, rfl⟩ := hu.slice
  rw [findF_append] at HF3
  have hn1 := findF_le l kind
  have hn2 := findF_le m kind
  obtain ⟨A, n1, hA⟩ : ∃ A n1, findF l kind = (A, n1) := ⟨_, _, rfl⟩
  obtain ⟨B, n2, hB⟩ : ∃ B n2, findF m kind = (B, n2) := ⟨_, _, rfl⟩
  rw [hA] at HF1 HF3 hn1
  rw [hB] at HF2 HF3 hn2
  simp only at HF1 HF2 HF3 hn1 hn2
  obtain ⟨Z, hZ⟩ : ∃ Z, (if n1 = 0 then B else A) = Z := ⟨_, rfl⟩
  rw [hZ] at HF3
  have HZ := hid hZ
  clear hv hu hsz hsm hln hmn hl hm hA hB hZ
  go_enter Try.func5, Try.ntmps5
  go_wp2_with fail
  refine (HL.out _ (Kept.refl _ _)).mono ?_
  rintro e1 w1 ⟨rfl, hk1⟩
  have K1 := hid hk1
  clear hk1 HL
  go_wp2_with fail
  refine (HM.out _ K1.out).mono ?_
  rintro e2 w2 ⟨rfl, hk2⟩
  have K2 := hid (K1.out.trans hk2)
  clear hk2 HM K1
  go_wp2_with fail
  refine (HF1.out _ K2.out).mono ?_
  rintro e3 w3 ⟨rfl, hk3⟩
  have K3 := hid (K2.out.trans hk3)
  clear hk3 HF1 K2
  go_wp2_with fail
  refine (HF2.out _ K3.out).mono ?_
  rintro e4 w4 ⟨rfl, hk4⟩
  have K4 := hid (K3.out.trans hk4)
  clear hk4 HF2 K3
  obtain ⟨v5, w5, hr5, ho5, hk5⟩ := HA1.out w4 K4.out
  rw [List.nil_append] at ho5
  obtain ⟨v6, w6, hr6, ho6, hk6⟩ := HA2.out w5 v5 hk5 ho5
  have K6 := hid hk6
  have O6 := hid ho6
  clear ho5 ho6 hk5 hk6 HA1 HA2
  go_wp2_with (first | (at_builtin; refine Lib.wpList_append_run _ rfl _ _ _ _ rfl _ _ rfl rfl _ _ (hr5 _) ?_) | (at_builtin; refine Lib.wpList_append_run _ rfl _ _ _ _ rfl _ _ rfl rfl _ _ (hr6 _) ?_) | fail)
  refine (HF3.out _ _ _ O6.out).mono ?_
  rintro e7 w7 ⟨rfl, hk7⟩
  have K7 := hid (K6.out.trans hk7)
  clear hk7 HF3 K6 O6 hr5 hr6
  go_upto_if 46 with fail
  go_cut [13] (fun v13 wx => v13 = .string Z ∧ wx = w7)
  case first =>
    by_cases h0 : n1 = 0
    · subst h0
      have hZ : B = Z := HZ.out
      clear HZ
      go_wp2
      go_meet
      exact ⟨by rw [hZ], rfl⟩
    · have hZ : A = Z := by have := HZ.out; rw [if_neg h0] at this; exact this
      have hne : ((n1 : Int) == 0) = false := by rw [beq_eq_false_iff_ne]; omega
      clear HZ
      go_wp2
      go_meet
      exact ⟨by rw [hZ], rfl⟩
  case rest =>
    obtain ⟨rfl, rfl⟩ := hcut
    clear HZ
    go_wp2_with fail
    refine (Ha.out _).mono ?_
    rintro e8 w8 ⟨rfl, hk8⟩
    have K8 := hid (K7.out.trans hk8)
    clear hk8 K7
    go_wp2_with fail
    refine (HS1.out _ K8.out).mono ?_
    rintro e9 w9 ⟨rfl, hk9⟩
    have K9 := hid (K8.out.trans hk9)
    clear hk9 K8
    by_cases hlm : l.length = m.length
    · have hne : ((l.length : Int) != (m.length : Int)) = false := by rw [hlm]; simp
      have heq : ((l.length : Int) == (m.length : Int)) = true := by rw [hlm]; simp
      clear HS2
      go_wp2
      go_ret
      exact ⟨rfl, below_of K9.out⟩
    · have hne : ((l.length : Int) != (m.length : Int)) = true := by rw [bne_iff_ne]; omega
      have HS2' := hid (HS2.out _ K9.out hlm)
      clear HS2
      go_wp2_with fail
      refine HS2'.out.mono ?_
      rintro e10 w10 ⟨rfl, hk10⟩
      have K10 := hid (K9.out.trans hk10)
      clear hk10
      go_wp2
      go_ret
      exact ⟨rfl, below_of K10.out⟩

theorem tagFinds_walk (v : Value) (l : List Tg) (u : Value) (m : List Tg) (kind : Int) (w : World) (hv : TagsAt w v l) (hln : l.length ≤ maxLen) (hsz : ∀ x ∈ l, x.value.size ≤ 140737488351232) (hu : TagsAt w u m) (hmn : m.length ≤ maxLen) (hsm : ∀ x ∈ m, x.value.size ≤ 140737488351232) (_ : -9223372036854775808 ≤ kind ∧ kind ≤ 9223372036854775807) :
    Calls Try.prog 5 #[v, u, .int .i64 kind] w fun e w' => e = .returned (.bool true) ∧ Below w.heap.size w w' := by
  cases h : lightF l with
  | false => exact tagFinds_not v l u m kind w hv hln hsz hu hmn hsm (Or.inl h)
  | true =>
    cases h2 : lightF m with
    | false => exact tagFinds_not v l u m kind w hv hln hsz hu hmn hsm (Or.inr ⟨h, h2⟩)
    | true => exact tagFinds_in v l u m kind w hv hln hsz hu hmn hsm h h2
end Go.Proofs.Ytofonelohlaenaa
