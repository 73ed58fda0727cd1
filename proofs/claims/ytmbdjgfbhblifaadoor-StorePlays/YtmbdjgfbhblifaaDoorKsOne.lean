/- A law's own store; a store of one name; the contract of alive, of the laws of chapter 15. -/
import Derived.Test.YtmbdjgfbhblifaaDoorKsPap
import Derived.Test.YtmbdjgfbhblifaaDoorKsSet
namespace Go.Proofs.YtmbdjgfbhblifaaDoor
open Go.RowKit

/-- A store of one name. -/
def oneA (q : Two2) (e : En) : Ab := ⟨updA (fun _ => none) q (some e), 1⟩
/-- A try at what is known of a name. -/
def tryE (limit calm : Int) (e : En) (good : ByteArray → Bool) (time : Int) : Int × En :=
  if shutE limit calm e time = true then (20, e) else if good e.secret = true then (0, ⟨e.secret, 0, 0⟩) else (30, moreE e time)

theorem oneA_look (q : Two2) (e : En) : (oneA q e).look q = some e := by
  show updA (fun _ => none) q (some e) q = some e
  unfold updA
  rw [if_pos rfl]
theorem updA_again (f : Two2 → Option En) (q : Two2) (a b : Option En) : updA (updA f q a) q b = updA f q b := by
  funext p
  unfold updA
  by_cases h : p = q
  · rw [if_pos h, if_pos h]
  · rw [if_neg h, if_neg h, if_neg h]
theorem putA_one (q : Two2) (e e' : En) : putA (oneA q e) q e' = oneA q e' := by
  unfold putA
  rw [oneA_look]
  show (⟨updA (updA (fun _ => none) q (some e)) q (some e'), _⟩ : Ab) = _
  rw [updA_again]
  rfl
theorem tryP_one (limit calm : Int) (s : ByteArray) (e : En) (good : ByteArray → Bool) (time : Int) :
    tryP limit calm (oneA (splitF s) e) s good time = ((tryE limit calm e good time).1, oneA (splitF s) (tryE limit calm e good time).2) := by
  unfold tryP tryE
  rw [oneA_look]
  simp only
  split
  · rfl
  · split
    · rw [putA_one]
    · rw [putA_one]
theorem tryP_emp (limit calm : Int) (s : ByteArray) (good : ByteArray → Bool) (time : Int) : tryP limit calm empA s good time = (30, empA) := rfl
theorem wrongA_one (s : ByteArray) (e : En) : wrongA (oneA (splitF s) e) s = e.wrong := by
  unfold wrongA
  rw [oneA_look]
theorem wrongA_emp (s : ByteArray) : wrongA empA s = 0 := rfl
theorem setA_new (s x : ByteArray) (hs : s.size ≤ 60) (hx : x.size ≤ 60) (hx0 : x.size ≠ 0) : setA empA s x = (0, oneA (splitF s) ⟨x, 0, 0⟩) := by
  rw [setA_put (by omega) (Or.inr (by decide)) hx0]
  rfl
theorem setA_gone (s : ByteArray) (e : En) (hs : s.size ≤ 60) : setA (oneA (splitF s) e) s ⟨#[]⟩ = (0, empA) := by
  rw [setA_del (by show ¬ (60 < s.size ∨ 60 < 0); omega) (Or.inl (by rw [oneA_look]; rfl)) rfl]
  unfold delA
  rw [oneA_look]
  show (0, (⟨updA (updA (fun _ => none) (splitF s) (some e)) (splitF s) none, _⟩ : Ab)) = _
  rw [updA_again]
  have : updA (fun _ => none) (splitF s) none = fun _ => none := by
    funext p
    unfold updA
    split <;> rfl
  rw [this]
  rfl
/-- What is known of a name is small. -/
def FewE (e : En) : Prop := e.secret.size ≤ 1000000 ∧ 0 ≤ e.wrong ∧ e.wrong ≤ 1000000000000 ∧ In64 e.last
theorem few_one {q : Two2} {e : En} (h : FewE e) : FewA (oneA q e) := by
  refine ⟨by show 1 ≤ 1000; decide, fun p e' hp => ?_⟩
  have hp' : updA (fun _ => none) q (some e) p = some e' := hp
  unfold updA at hp'
  by_cases hpq : p = q
  · rw [if_pos hpq] at hp'
    rw [← Option.some.inj hp']
    exact h
  · rw [if_neg hpq] at hp'
    cases hp'
theorem few_emp : FewA empA := ⟨by decide, fun p e' hp => by cases hp⟩

/-- A law's own store. -/
structure SMine (w0 w : World) (b : Nat) (limit calm : Int) (A : Ab) : Prop where
  here : KsAt w w0.heap.size b limit calm A
  ge : w0.heap.size ≤ b
  kept : Kept (fun _ => False) w0 w
section
variable {w0 w w' : World} {b : Nat} {limit calm : Int} {A A' : Ab}
theorem SMine.still (h : SMine w0 w b limit calm A) (hk : Kept (fun _ => False) w w') : SMine w0 w' b limit calm A := by
  obtain ⟨m, hm⟩ := h.here
  exact ⟨⟨m, hm.kept0 hk⟩, h.ge, h.kept.trans hk⟩
theorem SMine.step (h : SMine w0 w b limit calm A) (ha : KsAt w' w0.heap.size b limit calm A') (hk : KsK w0.heap.size b w w') : SMine w0 w' b limit calm A' :=
  ⟨ha, h.ge, h.kept.andThen hk (fun i hi e => by
    have := h.ge
    rcases e with e | ⟨e, _⟩ <;> omega)⟩
theorem SMine.set (h : SMine w0 w b limit calm A) (hA : FewA A) (s x : ByteArray) (hs : s.size ≤ 1000000) (hx : x.size ≤ 1000000) :
    Calls Tryd.prog 8 #[.pointer (some ⟨b, 0, none⟩), .string s, .string x] w fun e w' => e = .returned (.int .i64 (setA A s x).1) ∧ SMine w0 w' b limit calm (setA A s x).2 := by
  obtain ⟨m, hm⟩ := h.here
  exact (set_any hm h.kept.size hA s x hs hx).mono fun _ _ ⟨h1, h2, h3⟩ => ⟨h1, h.step h2 h3⟩
theorem SMine.pap (h : SMine w0 w b limit calm A) (hc : 0 ≤ calm ∧ calm ≤ 1000000) (hA : FewA A) (s x : ByteArray) (hs : s.size ≤ 1000000) (hx : x.size ≤ 1000000) (time : Int) (ht : In64 time) :
    Calls Tryd.prog 10 #[.pointer (some ⟨b, 0, none⟩), .string s, .string x, .int .i64 time] w fun e w' => e = .returned (.int .i64 (tryP limit calm A s (goodS x) time).1) ∧ SMine w0 w' b limit calm (tryP limit calm A s (goodS x) time).2 := by
  obtain ⟨m, hm⟩ := h.here
  exact (pap_any hm hc hA s x hs hx time ht).mono fun _ _ ⟨h1, h2, h3⟩ => ⟨h1, h.step h2 h3⟩
theorem SMine.wrong (h : SMine w0 w b limit calm A) (s : ByteArray) (hs : s.size ≤ 1000000) :
    Calls Tryd.prog 15 #[.pointer (some ⟨b, 0, none⟩), .string s] w fun e w' => e = .returned (.int .i64 (wrongA A s)) ∧ SMine w0 w' b limit calm A := by
  obtain ⟨m, hm⟩ := h.here
  exact (wrong_any hm s hs).mono fun _ _ ⟨h1, h2⟩ => ⟨h1, h.still h2⟩
/-- What New leaves, for a law. -/
def MNew (w0 w : World) (limit calm : Int) (e : Ending) (w' : World) : Prop :=
  (¬ (0 ≤ limit ∧ limit ≤ 100 ∧ 1 ≤ calm ∧ calm ≤ 1000) ∧ e = .returned (.tuple #[.pointer none, .int .i64 1]) ∧ w' = w) ∨
  ∃ b, (0 ≤ limit ∧ limit ≤ 100 ∧ 1 ≤ calm ∧ calm ≤ 1000) ∧ e = .returned (.tuple #[.pointer (some ⟨b, 0, none⟩), .int .i64 0]) ∧ SMine w0 w' b limit calm empA
theorem new_mine (hk : Kept (fun _ => False) w0 w) (limit calm : Int) : Calls Tryd.prog 6 #[.int .i64 limit, .int .i64 calm] w (MNew w0 w limit calm) :=
  (new_any limit calm w).mono fun e w' h => by
    rcases h with h | ⟨h1, h2, h3, h4, h5⟩
    · exact Or.inl h
    · exact Or.inr ⟨_, h1, h2, ⟨⟨_, h5 _⟩, hk.size, hk.trans h4⟩⟩
theorem new_good (hk : Kept (fun _ => False) w0 w) (limit calm : Int) (hg : 0 ≤ limit ∧ limit ≤ 100 ∧ 1 ≤ calm ∧ calm ≤ 1000) : Calls Tryd.prog 6 #[.int .i64 limit, .int .i64 calm] w fun e w' => ∃ b, e = .returned (.tuple #[.pointer (some ⟨b, 0, none⟩), .int .i64 0]) ∧ SMine w0 w' b limit calm empA :=
  (new_mine hk limit calm).mono fun e w' h => by
    rcases h with ⟨h, _⟩ | ⟨b, _, h2, h3⟩
    · exact absurd hg h
    · exact ⟨b, h2, h3⟩
/-- The calls at a store of one name. -/
theorem SMine.set1 (h : SMine w0 w b limit calm empA) (s x : ByteArray) (hs : s.size ≤ 60) (hx : x.size ≤ 60) (hx0 : x.size ≠ 0) :
    Calls Tryd.prog 8 #[.pointer (some ⟨b, 0, none⟩), .string s, .string x] w fun e w' => e = .returned (.int .i64 0) ∧ SMine w0 w' b limit calm (oneA (splitF s) ⟨x, 0, 0⟩) := by
  have := h.set few_emp s x (by omega) (by omega)
  rw [setA_new s x hs hx hx0] at this
  exact this
theorem SMine.pap1 {s : ByteArray} {k : En} (h : SMine w0 w b limit calm (oneA (splitF s) k)) (hs : s.size ≤ 1000000) (hc : 0 ≤ calm ∧ calm ≤ 1000000) (hk : FewE k) (x : ByteArray) (hx : x.size ≤ 1000000) (time : Int) (ht : In64 time) (R : Int × En) (hR : tryE limit calm k (goodS x) time = R) :
    Calls Tryd.prog 10 #[.pointer (some ⟨b, 0, none⟩), .string s, .string x, .int .i64 time] w fun e w' => e = .returned (.int .i64 R.1) ∧ SMine w0 w' b limit calm (oneA (splitF s) R.2) := by
  have := h.pap hc (few_one hk) s x hs hx time ht
  rw [tryP_one, hR] at this
  exact this
end

def aB : ByteArray := ⟨#[97, 64, 120]⟩
def pB : ByteArray := ⟨#[112]⟩
def qB : ByteArray := ⟨#[113]⟩
theorem good_qp : goodS qB pB = false := by rw [goodS_eq]; decide
theorem good_pp : goodS pB pB = true := by rw [goodS_eq]; decide
theorem split_abc : splitF ⟨#[97, 64, 98, 64, 99]⟩ = (⟨#[97, 64, 98]⟩, ⟨#[99]⟩) := by kernel_rfl

set_option maxHeartbeats 2000000 in
set_option maxRecDepth 100000 in
theorem alive15_any (w : World) : Calls Tryd.prog 5 #[] w fun e w' => e = .returned (.bool true) ∧ Kept (fun _ => False) w w' := by
  have few : ∀ n : Int, 0 ≤ n → n ≤ 10 → FewE ⟨pB, n, 0⟩ := fun n h1 h2 => ⟨by show 1 ≤ 1000000; decide, h1, by show n ≤ 1000000000000; omega, by show In64 0; exact ⟨by decide, by decide⟩⟩
  have t1 : tryE 2 10 ⟨pB, 0, 0⟩ (goodS qB) 0 = (30, ⟨pB, 1, 0⟩) := by unfold tryE; rw [if_neg (by decide), good_qp]; rfl
  have t2 : tryE 2 10 ⟨pB, 1, 0⟩ (goodS qB) 0 = (30, ⟨pB, 2, 0⟩) := by unfold tryE; rw [if_neg (by decide), good_qp]; rfl
  have t3 : tryE 2 10 ⟨pB, 2, 0⟩ (goodS pB) 9 = (20, ⟨pB, 2, 0⟩) := by unfold tryE; rw [if_pos (by decide)]
  have t4 : tryE 2 10 ⟨pB, 2, 0⟩ (goodS pB) 10 = (0, ⟨pB, 0, 0⟩) := by unfold tryE; rw [if_neg (by decide), good_pp]; rfl
  have i64 : ∀ n : Int, 0 ≤ n → n ≤ 100 → In64 n := fun n h1 h2 => ⟨by omega, by omega⟩
  have C1 := hid (new_good (Kept.refl (fun _ => False) w) 2 10 ⟨by decide, by decide, by decide, by decide⟩)
  have C2 : Hid (∀ b W, SMine w W b 2 10 empA → _) := hid (fun b W h => SMine.set1 (w0 := w) (w := W) (b := b) (limit := 2) (calm := 10) h aB pB (by decide) (by decide) (by decide))
  have C3 : Hid (∀ b W, SMine w W b 2 10 (oneA (splitF aB) ⟨pB, 0, 0⟩) → _) := hid (fun b W h => SMine.pap1 (w0 := w) (w := W) (b := b) (limit := 2) (calm := 10) h (by decide) (by decide) (few 0 (by decide) (by decide)) qB (by decide) 0 (i64 0 (by decide) (by decide)) _ t1)
  have C4 : Hid (∀ b W, SMine w W b 2 10 (oneA (splitF aB) ⟨pB, 1, 0⟩) → _) := hid (fun b W h => SMine.pap1 (w0 := w) (w := W) (b := b) (limit := 2) (calm := 10) h (by decide) (by decide) (few 1 (by decide) (by decide)) qB (by decide) 0 (i64 0 (by decide) (by decide)) _ t2)
  have C5 : Hid (∀ b W, SMine w W b 2 10 (oneA (splitF aB) ⟨pB, 2, 0⟩) → _) := hid (fun b W h => SMine.pap1 (w0 := w) (w := W) (b := b) (limit := 2) (calm := 10) h (by decide) (by decide) (few 2 (by decide) (by decide)) pB (by decide) 9 (i64 9 (by decide) (by decide)) _ t3)
  have C6 : Hid (∀ b W, SMine w W b 2 10 (oneA (splitF aB) ⟨pB, 2, 0⟩) → _) := hid (fun b W h => SMine.pap1 (w0 := w) (w := W) (b := b) (limit := 2) (calm := 10) h (by decide) (by decide) (few 2 (by decide) (by decide)) pB (by decide) 10 (i64 10 (by decide) (by decide)) _ t4)
  have C7 := hid (fun W => split_any ⟨#[97, 64, 98, 64, 99]⟩ (by decide) W)
  rw [split_abc] at C7
  have hq : ∀ W, Sem.run Tryd.prog (Op.equalIn 10000 47 (.agg #[.string ⟨#[97, 64, 98]⟩, .string ⟨#[99]⟩]) (.agg #[.string ⟨#[97, 64, 98]⟩, .string ⟨#[99]⟩])) W = .ok true W := fun W => by
    rw [whoP_eq _ _ _ _ (by decide) (by decide) (by decide) (by decide) W]
    simp
  clear t1 t2 t3 t4 few i64
  unfold aB pB at C2 C3 C4 C5 C6
  unfold qB at C3 C4
  go_enter Tryd.func5, Tryd.ntmps5
  go_wp2_with fail
  refine C1.out.mono ?_
  rintro e w1 ⟨b, rfl, h1⟩
  have H1 := hid h1
  clear h1 C1
  go_wp2_with fail
  refine (C2.out _ _ H1.out).mono ?_
  rintro e w2 ⟨rfl, h2⟩
  have H2 := hid h2
  clear h2 C2 H1
  go_wp2_with fail
  refine (C3.out _ _ H2.out).mono ?_
  rintro e w3 ⟨rfl, h3⟩
  have H3 := hid h3
  clear h3 C3 H2
  go_wp2_with fail
  refine (C4.out _ _ H3.out).mono ?_
  rintro e w4 ⟨rfl, h4⟩
  have H4 := hid h4
  clear h4 C4 H3
  go_wp2_with fail
  refine (C5.out _ _ H4.out).mono ?_
  rintro e w5 ⟨rfl, h5⟩
  have H5 := hid h5
  clear h5 C5 H4
  go_wp2_with fail
  refine (C6.out _ _ H5.out).mono ?_
  rintro e w6 ⟨rfl, h6⟩
  have H6 := hid h6
  clear h6 C6 H5
  go_wp2_with fail
  refine (C7.out _).mono ?_
  rintro e w7 ⟨rfl, h7⟩
  have H7 := hid (H6.out.kept.trans h7)
  clear h7 C7 H6
  go_wp2
  go_ret
  exact ⟨rfl, H7.out⟩
end Go.Proofs.YtmbdjgfbhblifaaDoor
