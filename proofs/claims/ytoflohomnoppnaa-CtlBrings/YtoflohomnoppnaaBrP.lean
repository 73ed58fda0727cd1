/- Two ends and a way between them that loses, doubles and turns round: as plain data, what stays true. -/
import Derived.Test.YtoflohomnoppnaaFairP
namespace Go.Proofs.Ytoflohomnoppnaa
open Go.RowKit

/-- An end whose window stays. -/
structure WinQ (window : Int) (c : Cn) : Prop where
  good : GoodN c
  win : c.win = window
  fly : (c.flies.length : Int) ≤ window
theorem WinQ.give {window : Int} {c : Cn} (h : WinQ window c) (x : ByteArray) : WinQ window (giveN c x).1 := by
  refine ⟨good_giveN h.good x, ?_, ?_⟩ <;> unfold giveN <;> split
  · exact h.win
  · split
    · exact h.win
    · split <;> exact h.win
  · exact h.fly
  · split
    · exact h.fly
    · split <;> exact h.fly
theorem landN_rest (c : Cn) (n : Nat) : (landN c n).win = c.win ∧ (landN c n).next = c.next ∧ (landN c n).come = c.come ∧ (landN c n).waits = c.waits ∧ (landN c n).flies = c.flies.drop n ∧ (landN c n).dead = c.dead := by
  unfold landN
  split
  · rename_i h
    subst h
    exact ⟨rfl, rfl, rfl, rfl, rfl, rfl⟩
  · obtain ⟨q1, q2, q3, q4, q5, q6, q7, q8, q9, q10, q11, q12, q13, q14⟩ := growsN_rest n { c with flies := c.flies.drop n, tries := 0, ticks := 0, again := false }
    exact ⟨q4, q6, q7, q8, q9, q14⟩
theorem WinQ.take {window : Int} {c : Cn} (h : WinQ window c) (i : Ite) : WinQ window (takeN c i).1 := by
  have hg := good_landN h.good (ackedN c i.nr)
  obtain ⟨q1, _, _, _, q5, _⟩ := landN_rest c (ackedN c i.nr)
  have hl : WinQ window (landN c (ackedN c i.nr)) := ⟨hg, q1.trans h.win, by rw [q5, List.length_drop]; have := h.fly; omega⟩
  unfold takeN
  split
  · exact h
  · split
    · exact hl
    · split
      · exact ⟨{ hg with come := wrapN_in _ }, hl.win, hl.fly⟩
      · exact ⟨{ hg with }, hl.win, hl.fly⟩
theorem tickN_same (c : Cn) : (tickN c).come = c.come ∧ (tickN c).flies = c.flies ∧ (tickN c).waits = c.waits ∧ (tickN c).next = c.next := by
  unfold tickN
  split
  · exact ⟨rfl, rfl, rfl, rfl⟩
  · split
    · exact ⟨rfl, rfl, rfl, rfl⟩
    · split <;> exact ⟨rfl, rfl, rfl, rfl⟩
theorem mem_ackOf {C : Cn} {O : List Ite} {x : Ite} (h : x ∈ ackOf C O) : x ∈ O ∨ x = ⟨C.next, C.come, ⟨#[]⟩⟩ := by
  unfold ackOf at h
  split at h
  · exact Or.inr (List.mem_singleton.1 h)
  · exact Or.inl h
theorem WinQ.tick {window : Int} {c : Cn} (h : WinQ window c) : WinQ window (tickN c) := by
  refine ⟨good_tickN h.good, ?_, by rw [(tickN_same c).2.1]; exact h.fly⟩
  unfold tickN
  split
  · exact h.win
  · split
    · exact h.win
    · split <;> exact h.win
/-- What Out comes to, by how many of those that wait fly. -/
theorem out_shape {window : Int} {c : Cn} (h : WinQ window c) {f : Int} {n : Nat} (hn : c.next = wrapN (f + (n : Int))) : ∃ q, q ≤ c.waits.length ∧ WinQ window (outN c).1 ∧ (outN c).1.flies = c.flies ++ c.waits.take q ∧ (outN c).1.waits = c.waits.drop q ∧ (outN c).1.next = wrapN (f + ((n + q : Nat) : Int)) ∧ (outN c).1.come = c.come ∧
    ∀ x ∈ (outN c).2, x.nr = c.come ∧ ((x ∈ againN c) ∨ (x ∈ itsN f c.come n (c.waits.take q)) ∨ (x.body.size = 0 ∧ x.ns = wrapN (f + ((n + q : Nat) : Int)))) := by
  have hgo := good_outN h.good
  by_cases hd : c.dead = true
  · have e : outN c = (c, []) := by unfold outN; rw [if_pos hd]
    rw [e]
    exact ⟨0, Nat.zero_le _, h, by simp, by simp, by simpa using hn, rfl, fun x hx => by simp at hx⟩
  · obtain ⟨q, h1, h2, h3, h4, h5⟩ := flyN_all f c.waits c n (againN c) rfl hn
    have hr := h.good.room
    have hnr : ∀ x ∈ againN c, x.nr = c.come := fun x hx => by
      unfold againN at hx
      split at hx
      · split at hx
        · simp at hx
        · simp at hx
          subst hx
          rfl
      · simp at hx
    have hin : ∀ (l : List ByteArray) (j : Nat) (x : Ite), x ∈ itsN f c.come j l → x.nr = c.come := by
      intro l
      induction l with
      | nil => intro j x hx; simp [itsN] at hx
      | cons a r ih =>
        intro j x hx
        rcases List.mem_cons.1 hx with rfl | hx
        · rfl
        · exact ih (j + 1) x hx
    have e : outN c = (quiet { c with waits := c.waits.drop q, flies := c.flies ++ c.waits.take q, next := wrapN (f + ((n + q : Nat) : Int)), ticks := if q = 0 then c.ticks else 0 }, ackOf { c with waits := c.waits.drop q, flies := c.flies ++ c.waits.take q, next := wrapN (f + ((n + q : Nat) : Int)), ticks := if q = 0 then c.ticks else 0 } (againN c ++ itsN f c.come n (c.waits.take q))) := by
      unfold outN
      rw [if_neg hd, h4]
    refine ⟨q, h1, ⟨hgo, by rw [e]; exact h.win, ?_⟩, by rw [e]; rfl, by rw [e]; rfl, by rw [e]; rfl, by rw [e]; rfl, fun x hx => ?_⟩
    · rw [e]
      show ((c.flies ++ c.waits.take q).length : Int) ≤ window
      have hw := h.win
      have hf := h.fly
      rw [List.length_append, List.length_take]
      by_cases hc : (c.flies.length : Int) ≤ c.room
      · have := h5 hc
        push_cast
        omega
      · have := h3 (by omega)
        subst this
        push_cast
        omega
    · rw [e] at hx
      dsimp only at hx
      rcases mem_ackOf hx with g | rfl
      · rcases List.mem_append.1 g with g | g
        · exact ⟨hnr x g, Or.inl g⟩
        · exact ⟨hin _ _ x g, Or.inr (Or.inl g)⟩
      · exact ⟨rfl, Or.inr (Or.inr ⟨rfl, rfl⟩)⟩
/-- The way from one end, ce, to the other, co: a of what was given (S) is acked, h of it heard (G). -/
structure Half (first : Int) (ce co : Cn) (S G : List ByteArray) (a h : Nat) : Prop where
  rest : S.drop a = ce.flies ++ ce.waits
  next : ce.next = wrapN (first + ((a + ce.flies.length : Nat) : Int))
  come : co.come = wrapN (first + (h : Int))
  got : G = S.take h
  ah : a ≤ h
  hn : h ≤ a + ce.flies.length
  aS : a ≤ S.length
  full : ∀ x ∈ S, ¬ x.size = 0
theorem Half.le {first : Int} {ce co : Cn} {S G : List ByteArray} {a h : Nat} (H : Half first ce co S G a h) : a + ce.flies.length ≤ S.length := by
  have h1 := congrArg List.length H.rest
  rw [List.length_drop, List.length_append] at h1
  have := H.aS
  omega
/-- An item on its way. -/
def ItemOk (first : Int) (S : List ByteArray) (n h : Nat) (x : Ite) : Prop := ∃ j r : Nat, j ≤ n ∧ x.ns = wrapN (first + (j : Int)) ∧ r ≤ h ∧ x.nr = wrapN (first + (r : Int)) ∧ (¬ x.body.size = 0 → j < n ∧ S[j]? = some x.body)
theorem ItemOk.mono {first : Int} {S S' : List ByteArray} {n n' h h' : Nat} {x : Ite} (H : ItemOk first S n h x) (hS : ∀ (j : Nat) (y : ByteArray), S[j]? = some y → S'[j]? = some y) (hn : n ≤ n') (hh : h ≤ h') : ItemOk first S' n' h' x := by
  obtain ⟨j, r, h1, h2, h3, h4, h5⟩ := H
  exact ⟨j, r, by omega, h2, by omega, h4, fun g => ⟨by have := (h5 g).1; omega, hS _ _ (h5 g).2⟩⟩
/-- Send. -/
theorem Half.give {first : Int} {ce co : Cn} {S G : List ByteArray} {a h : Nat} (H : Half first ce co S G a h) {m : ByteArray} (hm : ¬ m.size = 0) (hr : (giveN ce m).2 = 0) : Half first (giveN ce m).1 co (S ++ [m]) G a h := by
  have hle := H.le
  have e : (giveN ce m).1 = { ce with waits := ce.waits ++ [m] } := by
    unfold giveN at hr ⊢
    split at hr
    · cases hr
    · split at hr
      · cases hr
      · split at hr
        · cases hr
        · rename_i h1 h2 h3
          rw [if_neg h1, if_neg h2, if_neg h3]
  have h1 := H.hn
  rw [e]
  refine ⟨?_, H.next, H.come, ?_, H.ah, H.hn, by rw [List.length_append]; have := H.aS; omega, fun x hx => ?_⟩
  · rw [List.drop_append_of_le_length H.aS, H.rest, List.append_assoc]
  · rw [H.got, List.take_append_of_le_length (by omega)]
  · rcases List.mem_append.1 hx with g | g
    · exact H.full x g
    · simp at g
      subst g
      exact hm
theorem giveN_no {c : Cn} {m : ByteArray} (hr : ¬ (giveN c m).2 = 0) : (giveN c m).1 = c := by
  unfold giveN at hr ⊢
  split
  · rfl
  · split
    · rfl
    · split
      · rfl
      · rename_i h1 h2 h3
        rw [if_neg h1, if_neg h2, if_neg h3] at hr
        exact absurd rfl hr
theorem giveN_come (c : Cn) (m : ByteArray) : (giveN c m).1.come = c.come ∧ (giveN c m).1.flies = c.flies := by
  unfold giveN
  split
  · exact ⟨rfl, rfl⟩
  · split
    · exact ⟨rfl, rfl⟩
    · split <;> exact ⟨rfl, rfl⟩
theorem Half.same {first : Int} {ce ce' co co' : Cn} {S G : List ByteArray} {a h : Nat} (H : Half first ce co S G a h) (e1 : ce'.flies = ce.flies) (e2 : ce'.waits = ce.waits) (e3 : ce'.next = ce.next) (e4 : co'.come = co.come) : Half first ce' co' S G a h :=
  ⟨by rw [e1, e2]; exact H.rest, by rw [e1, e3]; exact H.next, by rw [e4]; exact H.come, H.got, H.ah, by rw [e1]; exact H.hn, H.aS, H.full⟩
theorem mem_itsN {f c : Int} : ∀ (l : List ByteArray) (j : Nat) (x : Ite), x ∈ itsN f c j l → ∃ t y, l[t]? = some y ∧ x = ⟨wrapN (f + ((j + t : Nat) : Int)), c, y⟩
  | [], j, x, h => by simp [itsN] at h
  | y :: r, j, x, h => by
    rcases List.mem_cons.1 h with rfl | h
    · exact ⟨0, y, rfl, rfl⟩
    · obtain ⟨t, z, h1, rfl⟩ := mem_itsN r (j + 1) x h
      exact ⟨t + 1, z, by simpa using h1, by rw [show j + 1 + t = j + (t + 1) by omega]⟩
theorem Half.at {first : Int} {ce co : Cn} {S G : List ByteArray} {a h t : Nat} {y : ByteArray} (H : Half first ce co S G a h) (hy : (ce.flies ++ ce.waits)[t]? = some y) : S[a + t]? = some y := by
  rw [← H.rest, List.getElem?_drop] at hy
  exact hy
/-- Out. -/
theorem Half.out {first window : Int} {ce co : Cn} {S G : List ByteArray} {a h h' : Nat} (H : Half first ce co S G a h) (hw : WinQ window ce) (hc : ce.come = wrapN (first + (h' : Int))) :
    Half first (outN ce).1 co S G a h ∧ WinQ window (outN ce).1 ∧ (outN ce).1.come = ce.come ∧ a + ce.flies.length ≤ a + (outN ce).1.flies.length ∧ ∀ x ∈ (outN ce).2, ItemOk first S (a + (outN ce).1.flies.length) h' x := by
  obtain ⟨q, hq, hwo, h1, h2, h3, h4, h5⟩ := out_shape hw H.next
  have hl : (outN ce).1.flies.length = ce.flies.length + q := by rw [h1, List.length_append, List.length_take]; omega
  refine ⟨⟨?_, ?_, H.come, H.got, H.ah, by rw [hl]; have := H.hn; omega, H.aS, H.full⟩, hwo, h4, by omega, fun x hx => ?_⟩
  · rw [h1, h2, List.append_assoc, List.take_append_drop]
    exact H.rest
  · rw [h3, hl, Nat.add_assoc]
  · obtain ⟨hr, hcase⟩ := h5 x hx
    rw [hl]
    rcases hcase with g | g | ⟨g1, g2⟩
    · unfold againN at g
      split at g
      · split at g
        · simp at g
        · rename_i y r hf
          simp at g
          subst g
          refine ⟨a, h', by omega, ?_, Nat.le_refl _, hc, fun _ => ⟨by rw [hf, List.length_cons]; omega, ?_⟩⟩
          · show firstN ce = _
            unfold firstN
            rw [H.next]
            unfold wrapN
            push_cast
            omega
          · exact H.at (t := 0) (by rw [hf]; rfl)
      · simp at g
    · obtain ⟨t, y, ht, rfl⟩ := mem_itsN _ _ _ g
      have htq : t < q := by
        have := (List.getElem?_eq_some_iff.1 ht).1
        rw [List.length_take] at this
        omega
      have hty : ce.waits[t]? = some y := by
        rw [List.getElem?_take_of_lt htq] at ht
        exact ht
      refine ⟨a + ce.flies.length + t, h', by omega, rfl, Nat.le_refl _, hc, fun _ => ⟨by omega, ?_⟩⟩
      rw [Nat.add_assoc]
      exact H.at (by rw [List.getElem?_append_right (by omega), Nat.add_sub_cancel_left]; exact hty)
    · exact ⟨a + ce.flies.length + q, h', by omega, g2, Nat.le_refl _, by rw [hr]; exact hc, fun g => absurd g1 g⟩
theorem goN_cut {f nr : Int} {t : Nat} : ∀ (k n : Nat), n ≤ t → t ≤ n + k → (∀ j, n ≤ j → j < n + k → (beforeN (f + (j : Int)) nr = true ↔ j < t)) → goN f nr k n = t
  | 0, n, h1, h2, _ => by
    unfold goN
    omega
  | k + 1, n, h1, h2, h => by
    unfold goN
    by_cases hb : beforeN (f + (n : Int)) nr = true
    · have hn := (h n (Nat.le_refl _) (by omega)).1 hb
      rw [if_pos hb, goN_cut k (n + 1) (by omega) (by omega) (fun j g1 g2 => h j (by omega) (by omega))]
    · have hn : ¬ n < t := fun g => hb ((h n (Nat.le_refl _) (by omega)).2 g)
      rw [if_neg hb]
      omega
theorem acked_br {first : Int} {c : Cn} {a r : Nat} (hn : c.next = wrapN (first + ((a + c.flies.length : Nat) : Int))) (hr : r ≤ a + c.flies.length) (h60 : a + c.flies.length ≤ 60) : ackedN c (wrapN (first + (r : Int))) = r - a := by
  unfold ackedN
  have hb : ¬ beforeN c.next (wrapN (first + (r : Int))) = true := by
    rw [hn, beforeN_iff]
    unfold wrapN
    push_cast
    omega
  rw [if_neg hb]
  refine goN_cut _ _ (Nat.zero_le _) (by omega) (fun j _ hj => ?_)
  unfold firstN
  rw [hn, beforeN_iff]
  unfold wrapN
  push_cast
  omega
/-- Take. -/
theorem Half.take {first : Int} {ce co : Cn} {S G S' G' : List ByteArray} {a h a' h' : Nat} {x : Ite} (H : Half first ce co S G a h) (H' : Half first co ce S' G' a' h') (hx : ItemOk first S (a + ce.flies.length) h' x) (h60 : S.length ≤ 60) (h60' : S'.length ≤ 60) :
    ∃ a2 h2, Half first ce (takeN co x).1 S (G ++ (takeN co x).2) a h2 ∧ Half first (takeN co x).1 ce S' G' a2 h' ∧ h ≤ h2 ∧ a2 + (takeN co x).1.flies.length = a' + co.flies.length := by
  obtain ⟨j, r, hj, hns, hr, hnr, hb⟩ := hx
  have hl := H.le
  have hl' := H'.le
  have n1 : numN x.ns = true := by rw [hns]; exact num_word (wrapN_in _)
  have n2 : numN x.nr = true := by rw [hnr]; exact num_word (wrapN_in _)
  by_cases hd : co.dead = true
  · have e : takeN co x = (co, []) := by unfold takeN; rw [if_pos (Or.inl hd)]
    rw [e, List.append_nil]
    exact ⟨a', h, H, H', Nat.le_refl _, rfl⟩
  · have hak : ackedN co x.nr = r - a' := by
      rw [hnr]
      exact acked_br H'.next (by have := H'.hn; omega) (by omega)
    obtain ⟨_, q2, q3, q4, q5, _⟩ := landN_rest co (r - a')
    have htk : r - a' ≤ co.flies.length := by have := H'.hn; omega
    have hfl : (landN co (r - a')).flies.length = co.flies.length - (r - a') := by rw [q5, List.length_drop]
    have L' : Half first (landN co (r - a')) ce S' G' (a' + (r - a')) h' := by
      refine ⟨?_, ?_, H'.come, H'.got, by have := H'.ah; omega, by rw [hfl]; have := H'.hn; omega, by omega, H'.full⟩
      · rw [q4, q5, ← List.drop_drop, H'.rest, List.drop_append_of_le_length htk]
      · rw [q2, hfl, H'.next]
        congr 3
        omega
    have L : Half first ce (landN co (r - a')) S G a h := H.same rfl rfl rfl q3
    unfold takeN
    rw [if_neg (by rintro (g | g | g) <;> simp_all), hak]
    by_cases hz : x.body.size = 0
    · rw [if_pos hz, List.append_nil]
      exact ⟨_, h, L, L', Nat.le_refl _, by dsimp only; rw [hfl]; omega⟩
    · obtain ⟨hjn, hjS⟩ := hb hz
      rw [if_neg hz, q3, H.come]
      by_cases hc : x.ns = wrapN (first + (h : Int))
      · have hjh : j = h := by
          rw [hns] at hc
          unfold wrapN at hc
          have := H.hn
          omega
        subst hjh
        rw [if_pos hc]
        refine ⟨_, j + 1, ⟨H.rest, H.next, by dsimp only; unfold wrapN; push_cast; omega, ?_, by have := H.ah; omega, by omega, H.aS, H.full⟩, L'.same rfl rfl rfl rfl, by omega, by dsimp only; rw [hfl]; omega⟩
        rw [H.got, List.take_add_one, hjS]
        rfl
      · rw [if_neg hc]
        dsimp only
        rw [List.append_nil]
        exact ⟨_, h, L.same rfl rfl rfl rfl, L'.same rfl rfl rfl rfl, Nat.le_refl _, by rw [hfl]; omega⟩
end Go.Proofs.Ytoflohomnoppnaa
