/- The law NegOrder: it returns true for every rules and options, and leaves what was there. -/
import Derived.Test.YtodgkmjiiijfpabNgAlive
import Derived.Test.YtodgkmjiiijfpabNgLight
import Derived.Test.YtodgkmjiiijfpabOpLight
import Derived.Deep.CutRange
import Derived.Deep.CutBlock
namespace Go.Proofs.Ytodgkmjiiijfpab
open Go.RowKit

/-- o stands in l, in its order, by R. -/
def SubR (R : Tg → Tg → Bool) : List Tg → List Tg → Prop
  | _, [] => True
  | [], _ :: _ => False
  | x :: l, y :: o => (R x y = true ∧ SubR R l o) ∨ SubR R l (y :: o)
theorem subR_nil (R : Tg → Tg → Bool) (l : List Tg) : SubR R l [] := by cases l <;> trivial
theorem subR_skip {R : Tg → Tg → Bool} {l o : List Tg} (x : Tg) (h : SubR R l o) : SubR R (x :: l) o := by
  cases o with
  | nil => exact subR_nil R _
  | cons y o => exact Or.inr h
theorem subR_tail {R : Tg → Tg → Bool} : ∀ {l o : List Tg} {y : Tg}, SubR R l (y :: o) → SubR R l o
  | [], _, _, h => h.elim
  | x :: l, [], _, _ => subR_nil R _
  | x :: l, z :: o, y, h => by
    rcases h with ⟨_, h2⟩ | h2
    · exact Or.inr h2
    · exact Or.inr (subR_tail h2)
theorem subR_on {R : Tg → Tg → Bool} {l o : List Tg} {x y : Tg} (h : SubR R (x :: l) (y :: o)) : (R x y = true → SubR R l o) ∧ (R x y = false → SubR R l (y :: o)) := by
  rcases h with ⟨h1, h2⟩ | h2
  · exact ⟨fun _ => h2, fun h => by rw [h1] at h; cases h⟩
  · exact ⟨fun _ => subR_tail h2, fun _ => h2⟩
theorem subR_done {R : Tg → Tg → Bool} {o : List Tg} (h : SubR R [] o) : o = [] := by
  cases o with
  | nil => rfl
  | cons y o => exact h.elim
theorem subR_of {R : Tg → Tg → Bool} (f : Tg → Tg) (hR : ∀ x, R x (f x) = true) {l o : List Tg} (h : o.Sublist l) : SubR R l (o.map f) := by
  induction h with
  | slnil => exact subR_nil R _
  | cons x _ ih => exact subR_skip x ih
  | cons_cons x _ ih => exact Or.inl ⟨hR x, ih⟩
theorem subR_len {R : Tg → Tg → Bool} : ∀ {l o : List Tg}, SubR R l o → o.length ≤ l.length
  | _, [], _ => Nat.zero_le _
  | [], _ :: _, h => h.elim
  | x :: l, y :: o, h => by
    rcases h with ⟨_, h2⟩ | h2
    · have := subR_len h2
      simp
      omega
    · have := subR_len h2
      simp at this ⊢
      omega

def likeB (c : Int) (x y : Tg) : Bool := (x.type == y.type) && ((c == 3) || (x.value.toList == y.value.toList))

theorem upTo_rej_sub (rs : List Rl) (l : List Tg) : ∀ j, j ≤ l.length → (upTo (rejF rs l) l j).Sublist (l.take j)
  | 0, _ => by simp [upTo]
  | j + 1, hj => by
    obtain ⟨t, ht⟩ : ∃ t, l[j]? = some t := ⟨l[j], by simp⟩
    rw [upTo_next _ _ _ ht, take_next ht]
    refine List.Sublist.append (upTo_rej_sub rs l j (by omega)) ?_
    unfold rejF
    split
    · exact List.Sublist.refl _
    · exact List.nil_sublist _

theorem judgeF_cases (rs : List Rl) (l : List Tg) : ((judgeF rs l).1 = 4 ∧ 0 < (judgeF rs l).2.length ∧ SubR (likeB 4) l (judgeF rs l).2) ∨ ((judgeF rs l).1 = 3 ∧ 0 < (judgeF rs l).2.length ∧ SubR (likeB 3) l (judgeF rs l).2) ∨ (judgeF rs l = (2, l) ∧ upTo (rejF rs l) l l.length = []) := by
  by_cases h0 : 0 < (upTo (rejF rs l) l l.length).length
  · rw [judgeF_rej h0]
    have hs := upTo_rej_sub rs l l.length (Nat.le_refl _)
    rw [List.take_length] at hs
    refine Or.inl ⟨rfl, h0, ?_⟩
    have := subR_of (R := likeB 4) id (fun x => by simp [likeB]) hs
    simpa using this
  · have h0' : (upTo (rejF rs l) l l.length).length = 0 := by omega
    by_cases h1 : 0 < (misF rs l).length
    · rw [judgeF_nak h0' h1]
      refine Or.inr (Or.inl ⟨rfl, by simpa using h1, ?_⟩)
      exact subR_of (R := likeB 3) (sugF rs) (fun x => by simp [likeB, sugF]) List.filter_sublist
    · exact Or.inr (Or.inr ⟨judgeF_ack h0' (by omega), List.eq_nil_of_length_eq_zero h0'⟩)
theorem judge_len (rs : List Rl) (l : List Tg) : (judgeF rs l).2.length ≤ l.length := by
  rcases judgeF_cases rs l with ⟨_, _, h⟩ | ⟨_, _, h⟩ | ⟨h, _⟩
  · exact subR_len h
  · exact subR_len h
  · rw [h]; exact Nat.le_refl _

def xNone : Tg := ⟨250, ⟨#[110, 111, 110, 101]⟩⟩
/-- With one more, of a type that has no rule. -/
theorem judge_more (rs : List Rl) (l : List Tg) (h : upTo (rejF rs l) l l.length = []) (hn : ruleF rs 250 = none) : (judgeF rs (l ++ [xNone])).1 = 4 ∧ (judgeF rs (l ++ [xNone])).2.length = 1 := by
  have hj : ∀ j, j ≤ l.length → upTo (rejF rs (l ++ [xNone])) (l ++ [xNone]) j = upTo (rejF rs l) l j := by
    intro j
    induction j with
    | zero => intro _; rfl
    | succ j ih =>
      intro hj
      obtain ⟨t, ht⟩ : ∃ t, l[j]? = some t := ⟨l[j], by simp⟩
      have ht' : (l ++ [xNone])[j]? = some t := by rw [List.getElem?_append_left (by omega)]; exact ht
      rw [upTo_next _ _ _ ht', upTo_next _ _ _ ht, ih (by omega)]
      unfold rejF badF
      rw [List.take_append_of_le_length (by omega)]
  have hx : (l ++ [xNone])[l.length]? = some xNone := by simp
  have e : upTo (rejF rs (l ++ [xNone])) (l ++ [xNone]) (l ++ [xNone]).length = [xNone] := by
    rw [List.length_append, List.length_singleton, upTo_next _ _ _ hx, hj l.length (Nat.le_refl _), h, List.nil_append]
    unfold rejF badF
    rw [show xNone.type = 250 from rfl, hn]
    rfl
  have h1 : 0 < (upTo (rejF rs (l ++ [xNone])) (l ++ [xNone]) (l ++ [xNone]).length).length := by rw [e]; decide
  rw [judgeF_rej h1, e]
  exact ⟨rfl, rfl⟩
def hasR (rs : List Rl) : Bool := rs.any fun r => r.type == 250
theorem rule_none {rs : List Rl} (h : hasR rs = false) : ruleF rs 250 = none := by
  unfold ruleF
  rw [List.find?_eq_none]
  intro r hr he
  have : hasR rs = true := List.any_eq_true.2 ⟨r, hr, he⟩
  rw [h] at this
  cases this

set_option maxHeartbeats 8000000 in
set_option maxRecDepth 100000 in
theorem negOrder_walk (vr : Value) (rs : List Rl) (v : Value) (l : List Tg) (w : World) (hr : RulesAt w vr rs) (hrn : rs.length ≤ maxLen) (hrs : ∀ x ∈ rs, x.suggest.size ≤ 140737488351232) (hr64 : ∀ x ∈ rs, In64 x.type) (hv : OptsAt w v l) (hln : l.length ≤ maxLen) (hsl : ∀ z ∈ l, z.value.size ≤ 140737488351232) (hl64 : ∀ x ∈ l, In64 x.type) :
    Calls Try.prog 4 #[vr, v] w fun e w' => e = .returned (.bool true) ∧ Below w.heap.size w w' := by
  have Ha := hid lawAlive_any
  have HLr := hid (lightR_any vr rs w hr hrn hrs)
  have HLl := hid (fun (W : World) (k : Kept (fun _ => False) w W) => lightO_any v l W (hv.1.kept0 k) hln hsl)
  obtain ⟨pr, cr, hvr⟩ := hr.slice
  obtain ⟨pv, cv, hvv⟩ := hv.1.slice
  cases h1 : lightR rs with
  | false =>
    rw [h1] at HLr
    subst hvr hvv
    clear hr hrn hrs hr64 hv hln hsl hl64 HLl
    go_enter Try.func4, Try.ntmps4
    go_wp2_with fail
    refine HLr.out.mono ?_
    rintro e w1 ⟨rfl, hk1⟩
    have K1 := hid hk1
    clear hk1
    go_wp2_with fail
    refine (Ha.out _).mono ?_
    rintro e w2 ⟨rfl, hk2⟩
    go_wp2
    go_ret
    exact ⟨rfl, below_of (K1.out.trans hk2)⟩
  | true =>
    rw [h1] at HLr
    cases h2 : lightO l with
    | false =>
      rw [h2] at HLl
      subst hvr hvv
      clear hr hrn hrs hr64 hv hln hsl hl64
      go_enter Try.func4, Try.ntmps4
      go_wp2_with fail
      refine HLr.out.mono ?_
      rintro e w1 ⟨rfl, hk1⟩
      have K1 := hid hk1
      clear hk1
      go_wp2_with fail
      refine (HLl.out _ K1.out).mono ?_
      rintro e w2 ⟨rfl, hk2⟩
      have K2 := hid (K1.out.trans hk2)
      clear hk2
      go_wp2_with fail
      refine (Ha.out _).mono ?_
      rintro e w3 ⟨rfl, hk3⟩
      go_wp2
      go_ret
      exact ⟨rfl, below_of (K2.out.trans hk3)⟩
    | true =>
      rw [h2] at HLl
      obtain ⟨hR40, _⟩ := lightR_true h1
      obtain ⟨hL50, _⟩ := lightO_true h2
      have HJ := hid (fun (W : World) (k : Kept (fun _ => False) w W) => judgeR_any vr rs v l W (hr.kept0 k) (by omega) hr64 (hv.kept0 k) (by omega) hl64 hsl)
      have HJ2 := hid (fun (W : World) (k : Kept (fun _ => False) w W) (u : Value) (hu : OptsAt W u (l ++ [xNone])) => judgeR_any vr rs u (l ++ [xNone]) W (hr.kept0 k) (by omega) hr64 hu (by simp; omega) (fun x hx => by
        rcases List.mem_append.1 hx with hx | hx
        · exact hl64 x hx
        · rw [List.mem_singleton.1 hx]; exact ⟨by decide, by decide⟩) (fun x hx => by
        rcases List.mem_append.1 hx with hx | hx
        · exact hsl x hx
        · rw [List.mem_singleton.1 hx]; decide))
      have HV := hid hv
      have HRu := hid hr
      have hlen := judge_len rs l
      have hcs := judgeF_cases rs l
      subst hvr hvv
      clear hrn hrs hr64 hln hsl hl64 h1 h2 hv hr
      obtain ⟨J, hJe⟩ : ∃ J, J = judgeF rs l := ⟨_, rfl⟩
      rw [← hJe] at HJ hlen hcs
      obtain ⟨c, o⟩ := J
      simp only at HJ hlen hcs
      clear hJe
      go_enter Try.func4, Try.ntmps4
      go_wp2_with fail
      refine HLr.out.mono ?_
      rintro e w1 ⟨rfl, hk1⟩
      have K1 := hid hk1
      clear hk1 HLr
      go_wp2_with fail
      refine (HLl.out _ K1.out).mono ?_
      rintro e w2 ⟨rfl, hk2⟩
      have K2 := hid (K1.out.trans hk2)
      clear hk2 HLl K1
      go_wp2_with fail
      refine (HJ.out _ K2.out).mono ?_
      rintro e w3 ⟨u, rfl, ho, hk3⟩
      obtain ⟨pu, cu, rfl⟩ := slice_of ho
      have HO := hid ho
      have K3 := hid (K2.out.trans hk3)
      clear ho hk3 HJ K2
      have hlenz : ¬ (l.length : Int) < (o.length : Int) := by omega
      rcases hcs with ⟨hc, hpos, hsub⟩ | ⟨hc, hpos, hsub⟩ | ⟨hq, hrej⟩
      · subst hc
        have HSub := hid hsub
        have hp0 : ((o.length : Int) == 0) = false := by rw [beq_eq_false_iff_ne]; omega
        have HTl := hid (HV.out.kept0 K3.out).1
        have HTo := hid HO.out.tags
        clear hsub hpos HJ2 HV HRu
        go_wp2
        go_loopw [11, 12] (fun va vi wr => ∃ i k : Nat, i ≤ l.length ∧ k ≤ o.length ∧ vi = .int .i64 (i : Int) ∧ va = .int .i64 (k : Int) ∧ Hid (SubR (likeB 4) (l.drop i) (o.drop k) ∧ Kept (fun _ => False) w3 wr)) (fun _ vi _ => l.length - (intOf vi).toNat)
        case atStart => exact ⟨0, 0, Nat.zero_le _, Nat.zero_le _, rfl, rfl, by simpa using HSub.out, Kept.refl _ _⟩
        case round =>
          obtain ⟨i, k, hi, hk, rfl, rfl, HI⟩ := hrel
          by_cases hil : i < l.length
          · have hilz : (i : Int) < (l.length : Int) := by omega
            by_cases hko : k < o.length
            · have hkoz : (k : Int) < (o.length : Int) := by omega
              obtain ⟨x, hx⟩ : ∃ x, l[i]? = some x := ⟨l[i], by simp [hil]⟩
              obtain ⟨y, hy⟩ : ∃ y, o[k]? = some y := ⟨o[k], by simp [hko]⟩
              obtain ⟨g1, o1, rfl, hc1, a0, a1⟩ := (HTl.out.kept0 HI.out.2).at hx
              obtain ⟨g2, o2, rfl, hc2, d0, d1⟩ := (HTo.out.kept0 HI.out.2).at hy
              have hd1 : l.drop i = x :: l.drop (i + 1) := by
                obtain ⟨h3, h4⟩ := List.getElem?_eq_some_iff.1 hx
                rw [List.drop_eq_getElem_cons h3, h4]
              have hd2 : o.drop k = y :: o.drop (k + 1) := by
                obtain ⟨h3, h4⟩ := List.getElem?_eq_some_iff.1 hy
                rw [List.drop_eq_getElem_cons h3, h4]
              have hon := HI.out.1
              rw [hd1, hd2] at hon
              have HOn := hid (subR_on hon)
              have HD2 := hid hd2
              have HKK := hid HI.out.2
              have eLike : likeB 4 x y = ((x.type == y.type) && (((4 : Int) == 3) || (x.value.toList == y.value.toList))) := rfl
              clear hx hy hd1 hd2 hon HI
              cases hL : likeB 4 x y with
              | false =>
                have R := hid (HOn.out.2 hL)
                rw [hL] at eLike
                have hcase : (x.type == y.type) = false ∨ ((x.type == y.type) = true ∧ (x.value.toList == y.value.toList) = false) := by
                  cases e1 : (x.type == y.type) with
                  | false => exact Or.inl rfl
                  | true =>
                    rw [e1] at eLike
                    exact Or.inr ⟨rfl, by simpa using eLike.symm⟩
                clear eLike hL
                rcases hcase with e1 | ⟨e1, e2⟩
                · go_wp2
                  go_quiet (fail)
                  go_wp2
                  exact ⟨⟨i + 1, k, hil, hk, by go_num, rfl, by rw [HD2.out]; exact R.out, HKK.out.drewN _⟩, by simp [intOf]; omega⟩
                · go_wp2
                  go_quiet (fail)
                  go_wp2
                  exact ⟨⟨i + 1, k, hil, hk, by go_num, rfl, by rw [HD2.out]; exact R.out, HKK.out.drewN _⟩, by simp [intOf]; omega⟩
              | true =>
                have R := hid (HOn.out.1 hL)
                rw [hL] at eLike
                have e1 : (x.type == y.type) = true := by
                  cases e1 : (x.type == y.type) with
                  | false => rw [e1] at eLike; cases eLike
                  | true => rfl
                have e2 : (x.value.toList == y.value.toList) = true := by
                  rw [e1] at eLike
                  simpa using eLike.symm
                clear eLike hL
                go_wp2
                go_quiet (fail)
                go_wp2
                exact ⟨⟨i + 1, k + 1, hil, hko, by go_num, by go_num, R.out, HKK.out.drewN _⟩, by simp [intOf]; omega⟩
            · have hkoz : ¬ (k : Int) < (o.length : Int) := by omega
              obtain rfl : k = o.length := by omega
              have HKK := hid (K3.out.trans HI.out.2)
              clear HI
              go_wp2_with fail
              refine (Ha.out _).mono ?_
              rintro e w5 ⟨rfl, hk5⟩
              go_wp2
              go_ret
              exact ⟨rfl, below_of (HKK.out.trans hk5)⟩
          · have hilz : ¬ (i : Int) < (l.length : Int) := by omega
            obtain rfl : k = o.length := by
              have h5 := HI.out.1
              rw [show l.drop i = [] from List.drop_eq_nil_of_le (by omega)] at h5
              have h6 := (subR_done h5)
              have h7 : (o.drop k).length = 0 := by rw [h6]; rfl
              rw [List.length_drop] at h7
              omega
            have HKK := hid (K3.out.trans HI.out.2)
            clear HI
            go_wp2_with fail
            refine (Ha.out _).mono ?_
            rintro e w5 ⟨rfl, hk5⟩
            go_wp2
            go_ret
            exact ⟨rfl, below_of (HKK.out.trans hk5)⟩
      · subst hc
        have HSub := hid hsub
        have hp0 : ((o.length : Int) == 0) = false := by rw [beq_eq_false_iff_ne]; omega
        have HTl := hid (HV.out.kept0 K3.out).1
        have HTo := hid HO.out.tags
        clear hsub hpos HJ2 HV HRu
        go_wp2
        go_loopw [11, 12] (fun va vi wr => ∃ i k : Nat, i ≤ l.length ∧ k ≤ o.length ∧ vi = .int .i64 (i : Int) ∧ va = .int .i64 (k : Int) ∧ Hid (SubR (likeB 3) (l.drop i) (o.drop k) ∧ Kept (fun _ => False) w3 wr)) (fun _ vi _ => l.length - (intOf vi).toNat)
        case atStart => exact ⟨0, 0, Nat.zero_le _, Nat.zero_le _, rfl, rfl, by simpa using HSub.out, Kept.refl _ _⟩
        case round =>
          obtain ⟨i, k, hi, hk, rfl, rfl, HI⟩ := hrel
          by_cases hil : i < l.length
          · have hilz : (i : Int) < (l.length : Int) := by omega
            by_cases hko : k < o.length
            · have hkoz : (k : Int) < (o.length : Int) := by omega
              obtain ⟨x, hx⟩ : ∃ x, l[i]? = some x := ⟨l[i], by simp [hil]⟩
              obtain ⟨y, hy⟩ : ∃ y, o[k]? = some y := ⟨o[k], by simp [hko]⟩
              obtain ⟨g1, o1, rfl, hc1, a0, a1⟩ := (HTl.out.kept0 HI.out.2).at hx
              obtain ⟨g2, o2, rfl, hc2, d0, d1⟩ := (HTo.out.kept0 HI.out.2).at hy
              have hd1 : l.drop i = x :: l.drop (i + 1) := by
                obtain ⟨h3, h4⟩ := List.getElem?_eq_some_iff.1 hx
                rw [List.drop_eq_getElem_cons h3, h4]
              have hd2 : o.drop k = y :: o.drop (k + 1) := by
                obtain ⟨h3, h4⟩ := List.getElem?_eq_some_iff.1 hy
                rw [List.drop_eq_getElem_cons h3, h4]
              have hon := HI.out.1
              rw [hd1, hd2] at hon
              have HOn := hid (subR_on hon)
              have HD2 := hid hd2
              have HKK := hid HI.out.2
              have eLike : likeB 3 x y = ((x.type == y.type) && (((3 : Int) == 3) || (x.value.toList == y.value.toList))) := rfl
              clear hx hy hd1 hd2 hon HI
              cases hL : likeB 3 x y with
              | false =>
                have R := hid (HOn.out.2 hL)
                rw [hL] at eLike
                have e1 : (x.type == y.type) = false := by
                  cases e1 : (x.type == y.type) with
                  | false => rfl
                  | true => rw [e1] at eLike; cases eLike
                clear eLike hL
                go_wp2
                go_quiet (fail)
                go_wp2
                exact ⟨⟨i + 1, k, hil, hk, by go_num, rfl, by rw [HD2.out]; exact R.out, HKK.out.drewN _⟩, by simp [intOf]; omega⟩
              | true =>
                have R := hid (HOn.out.1 hL)
                rw [hL] at eLike
                have e1 : (x.type == y.type) = true := by
                  cases e1 : (x.type == y.type) with
                  | false => rw [e1] at eLike; cases eLike
                  | true => rfl
                clear eLike hL
                go_wp2
                go_quiet (fail)
                go_wp2
                exact ⟨⟨i + 1, k + 1, hil, hko, by go_num, by go_num, R.out, HKK.out.drewN _⟩, by simp [intOf]; omega⟩
            · have hkoz : ¬ (k : Int) < (o.length : Int) := by omega
              obtain rfl : k = o.length := by omega
              have HKK := hid (K3.out.trans HI.out.2)
              clear HI
              go_wp2_with fail
              refine (Ha.out _).mono ?_
              rintro e w5 ⟨rfl, hk5⟩
              go_wp2
              go_ret
              exact ⟨rfl, below_of (HKK.out.trans hk5)⟩
          · have hilz : ¬ (i : Int) < (l.length : Int) := by omega
            obtain rfl : k = o.length := by
              have h5 := HI.out.1
              rw [show l.drop i = [] from List.drop_eq_nil_of_le (by omega)] at h5
              have h6 := (subR_done h5)
              have h7 : (o.drop k).length = 0 := by rw [h6]; rfl
              rw [List.length_drop] at h7
              omega
            have HKK := hid (K3.out.trans HI.out.2)
            clear HI
            go_wp2_with fail
            refine (Ha.out _).mono ?_
            rintro e w5 ⟨rfl, hk5⟩
            go_wp2
            go_ret
            exact ⟨rfl, below_of (HKK.out.trans hk5)⟩
      · simp only [Prod.mk.injEq] at hq
        obtain ⟨rfl, rfl⟩ := hq
        have HRj := hid hrej
        have HVo := hid (HV.out.kept0 K3.out)
        obtain ⟨v4, w4, hr4, ho4, hk4⟩ := appendO_run (w0 := w3) (Kept.refl _ w3) (OwnO.nil w3 w3.heap.size) HVo.out.1 (by simp; omega)
        rw [List.nil_append] at ho4
        obtain ⟨p4, c4, rfl⟩ := slice_of ho4
        obtain ⟨v5, w5, hr5, ho5, hk5, _⟩ := pushO xNone hk4.size ho4 (by omega)
        have K5 := hid (K3.out.trans (hk4.andThen hk5 (fun i hi e => by have := ho4.baseB e; omega)))
        have K35 := hid (hk4.andThen (S := fun _ => False) hk5 (fun i hi e => by have := ho4.baseB e; omega))
        obtain ⟨p5, c5, e5⟩ := slice_of ho5
        rw [List.length_append, List.length_singleton] at e5
        subst e5
        have HJ5 := hid (HJ2.out _ K5.out _ ho5.at)
        have hM := fun (hn : hasR rs = false) => judge_more rs _ HRj.out (rule_none hn)
        unfold AppO at hr4 hr5
        unfold xNone at hr5
        simp only at hr5
        have MK : Hid True := trivial
        obtain ⟨J5, hJ5⟩ : ∃ J5, J5 = judgeF rs (o ++ [xNone]) := ⟨_, rfl⟩
        rw [← hJ5] at HJ5 hM
        obtain ⟨c6, o6⟩ := J5
        simp only at HJ5 hM
        have HM := hid hM
        have HSm := hid (sameF_self o)
        clear hrej hM hJ5 ho4 ho5 hk4 hk5 HRj HJ2 HV
        go_wp2_with (first
          | (at_builtin; clear MK; refine Lib.wpList_append_run _ rfl _ _ _ _ rfl _ _ rfl rfl _ _ (hr4 _) ?_)
          | (at_builtin; refine Lib.wpList_append_run _ rfl _ _ _ _ rfl _ _ rfl rfl _ _ (hr5 _) ?_))
        refine HJ5.out.mono ?_
        rintro e w6 ⟨u6, rfl, ho6, hk6⟩
        obtain ⟨p6, c6', rfl⟩ := slice_of ho6
        have K6 := hid (K5.out.trans hk6)
        have K36 := hid (K35.out.trans hk6)
        clear ho6 hk6 HJ5 K5 K35 hr4 hr5
        go_wp2
        go_loopw [9, 10] (fun v9 vi wr => ∃ j : Nat, j ≤ rs.length ∧ vi = .int .i64 (j : Int) ∧ v9 = .bool (hasR (rs.take j)) ∧ Hid (Kept (fun _ => False) w6 wr)) (fun _ vi _ => rs.length - (intOf vi).toNat)
        case atStart => exact ⟨0, Nat.zero_le _, rfl, rfl, Kept.refl _ _⟩
        case round =>
          obtain ⟨j, hj, rfl, rfl, HI⟩ := hrel
          by_cases hjl : j < rs.length
          · have hjlz : (j : Int) < (rs.length : Int) := by omega
            obtain ⟨x, hx⟩ : ∃ x, rs[j]? = some x := ⟨rs[j], by simp [hjl]⟩
            obtain ⟨g, ox, rfl, hcap, c0, _⟩ := (HRu.out.kept0 (K6.out.trans HI.out)).at hx
            have eh : hasR (rs.take (j + 1)) = (hasR (rs.take j) || (x.type == 250)) := by
              unfold hasR
              rw [take_nextR hx, List.any_append]
              simp
            have EH := hid eh
            clear hx eh
            cases hq : hasR (rs.take j) with
            | true =>
              rw [hq] at EH
              go_wp2
              exact ⟨⟨j + 1, hjl, by go_num, by rw [EH.out]; rfl, HI.out⟩, by simp [intOf]; omega⟩
            | false =>
              rw [hq] at EH
              cases e9 : (x.type == 250) with
              | true =>
                rw [e9] at EH
                go_wp2
                exact ⟨⟨j + 1, hjl, by go_num, by rw [EH.out]; rfl, HI.out⟩, by simp [intOf]; omega⟩
              | false =>
                rw [e9] at EH
                go_wp2
                exact ⟨⟨j + 1, hjl, by go_num, by rw [EH.out]; rfl, HI.out⟩, by simp [intOf]; omega⟩
          · obtain rfl : j = rs.length := by omega
            have hjlz : ¬ (rs.length : Int) < (rs.length : Int) := by omega
            rw [List.take_length]
            have K7 := hid (K6.out.trans HI.out)
            have K37 := hid (K36.out.trans HI.out)
            clear HI
            go_wp2_with fail
            refine (Ha.out _).mono ?_
            rintro e w8 ⟨rfl, hk8⟩
            have HSame := hid (sameO_any _ _ o o w8 (HO.out.kept (K37.out.trans hk8)).tags (HVo.out.kept0 (K37.out.trans hk8)).1 (by omega))
            rw [HSm.out] at HSame
            have K8 := hid (K7.out.trans hk8)
            clear hk8
            go_wp2_with fail
            refine HSame.out.mono ?_
            rintro e w9 ⟨rfl, hk9⟩
            have K9 := hid (K8.out.trans hk9)
            clear hk9 HSame
            cases hq : hasR rs with
            | true =>
              go_wp2
              go_ret
              exact ⟨rfl, below_of K9.out⟩
            | false =>
              obtain ⟨q1, q2⟩ := HM.out hq
              subst q1
              have q3 : ((o6.length : Int) == 1) = true := by rw [q2]; rfl
              clear q2
              go_wp2
              go_ret
              exact ⟨rfl, below_of K9.out⟩
end Go.Proofs.Ytodgkmjiiijfpab
