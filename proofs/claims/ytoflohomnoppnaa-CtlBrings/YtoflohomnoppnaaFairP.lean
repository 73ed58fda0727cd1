/- Where little is lost, all is told: a round of two ends as plain data, and what stays true from round to round. -/
import Derived.Test.YtoflohomnoppnaaCnBits
namespace Go.Proofs.Ytoflohomnoppnaa
open Go.RowKit

/-- What comes to B, but for what is lost. -/
def eatN : List Ite → Int → Cn → List ByteArray → Int × Cn × List ByteArray
  | [], lam, B, g => (lam, B, g)
  | x :: r, lam, B, g => if 0 < lam then eatN r (lam - 1) B g else eatN r lam (takeN B x).1 (g ++ (takeN B x).2)
def drinkN : List Ite → Cn → Cn
  | [], A => A
  | y :: r, A => drinkN r (takeN A y).1
structure FS where
  lam : Int
  A : Cn
  B : Cn
  g : List ByteArray
def roundF (s : FS) : FS :=
  ⟨(eatN (outN s.A).2 s.lam s.B s.g).1, tickN (drinkN (outN (eatN (outN s.A).2 s.lam s.B s.g).2.1).2 (outN s.A).1), tickN (outN (eatN (outN s.A).2 s.lam s.B s.g).2.1).1, (eatN (outN s.A).2 s.lam s.B s.g).2.2⟩
/-- Messages as they go over the way, from the place j on. -/
def itsN (f c : Int) : Nat → List ByteArray → List Ite
  | _, [] => []
  | j, x :: r => ⟨wrapN (f + (j : Int)), c, x⟩ :: itsN f c (j + 1) r
theorem wrapN_one (f : Int) (j : Nat) : wrapN (wrapN (f + (j : Int)) + 1) = wrapN (f + ((j + 1 : Nat) : Int)) := by
  unfold wrapN
  push_cast
  omega
theorem flyN_all (f : Int) : ∀ (W : List ByteArray) (c : Cn) (j : Nat) (O : List Ite), c.waits = W → c.next = wrapN (f + (j : Int)) →
    ∃ q : Nat, q ≤ W.length ∧ (W ≠ [] → (c.flies.length : Int) < c.room → 0 < q) ∧ (¬ (c.flies.length : Int) < c.room → q = 0) ∧ flyN W.length c O = ({ c with waits := W.drop q, flies := c.flies ++ W.take q, next := wrapN (f + ((j + q : Nat) : Int)), ticks := if q = 0 then c.ticks else 0 }, O ++ itsN f c.come j (W.take q)) ∧ ((c.flies.length : Int) ≤ c.room → (c.flies.length : Int) + (q : Int) ≤ c.room)
  | [], c, j, O, hw, hn => ⟨0, Nat.le_refl _, fun h => absurd rfl h, fun _ => rfl, by
      obtain ⟨a1, a2, a3, a4, a5, a6, a7, a8, a9, a10, a11, a12, a13, a14, a15, a16⟩ := c
      dsimp only at hw hn
      subst hw hn
      simp [flyN, itsN], fun h => by simpa using h⟩
  | x :: r, c, j, O, hw, hn => by
    by_cases hf : (c.flies.length : Int) < c.room
    · obtain ⟨q, h1, h2, h3, h4, h5⟩ := flyN_all f r (launchN c x r) (j + 1) (O ++ [⟨c.next, c.come, x⟩]) rfl (by simp only [launchN]; rw [hn]; exact wrapN_one f j)
      refine ⟨q + 1, by simp; omega, fun _ _ => by omega, fun h => absurd hf h, ?_, fun _ => ?_⟩
      · have e : flyN (x :: r).length c O = flyN r.length (launchN c x r) (O ++ [⟨c.next, c.come, x⟩]) := by
          simp only [List.length_cons, flyN, hw, if_pos hf]
        rw [e, h4]
        obtain ⟨a1, a2, a3, a4, a5, a6, a7, a8, a9, a10, a11, a12, a13, a14, a15, a16⟩ := c
        dsimp only at hw hn
        subst hn
        simp only [launchN, itsN, List.take_succ_cons, List.drop_succ_cons, List.append_assoc, List.cons_append, List.nil_append]
        rw [show j + 1 + q = j + (q + 1) by omega]
        simp
      · have := h5 (by simp only [launchN, List.length_append, List.length_cons, List.length_nil]; push_cast; omega)
        simp only [launchN, List.length_append, List.length_cons, List.length_nil] at this
        push_cast at this ⊢
        omega
    · refine ⟨0, Nat.zero_le _, fun _ h => absurd h hf, fun _ => rfl, ?_, fun h => by simpa using h⟩
      obtain ⟨a1, a2, a3, a4, a5, a6, a7, a8, a9, a10, a11, a12, a13, a14, a15, a16⟩ := c
      dsimp only at hw hn hf
      subst hw hn
      simp [flyN, hf, itsN]
/-- The end that only hears. -/
def sB (win first : Int) (k : Nat) (q : Bool) : Cn := ⟨40, 5, 2, win, 1, win, 0, first, wrapN (first + (k : Int)), [], [], q, false, 0, 0, false⟩
theorem num_word {v : Int} (h : 0 ≤ v ∧ v ≤ 65535) : numN v = true := by unfold numN; rw [Bool.and_eq_true]; exact ⟨decide_eq_true h.1, decide_eq_true h.2⟩
theorem take_sB {win first : Int} (hf : 0 ≤ first ∧ first ≤ 65535) (k : Nat) (q : Bool) {x : ByteArray} (hx : ¬ x.size = 0) :
    takeN (sB win first k q) ⟨wrapN (first + (k : Int)), first, x⟩ = (sB win first (k + 1) true, [x]) := by
  have h1 := num_word (wrapN_in (first + (k : Int)))
  have h2 := num_word hf
  have ha : ackedN (sB win first k q) first = 0 := by
    unfold ackedN
    split
    · rfl
    · rfl
  unfold takeN
  dsimp only
  rw [h1, h2, ha, if_neg (by simp [sB]), if_neg hx]
  have hl : landN (sB win first k q) 0 = sB win first k q := rfl
  rw [hl, if_pos (show wrapN (first + (k : Int)) = (sB win first k q).come from rfl)]
  simp only [sB, wrapN_one]
theorem eat_sB {win first : Int} (hf : 0 ≤ first ∧ first ≤ 65535) : ∀ (l : List ByteArray) (k : Nat) (q : Bool) (g : List ByteArray), (∀ x ∈ l, ¬ x.size = 0) →
    eatN (itsN first first k l) 0 (sB win first k q) g = (0, sB win first (k + l.length) (if l = [] then q else true), g ++ l)
  | [], k, q, g, _ => by simp [itsN, eatN]
  | x :: r, k, q, g, h => by
    have hr := eat_sB (win := win) hf r (k + 1) true (g ++ [x]) (fun y hy => h y (List.mem_cons_of_mem _ hy))
    simp only [itsN, eatN]
    rw [if_neg (by omega), take_sB hf k q (h x List.mem_cons_self), hr]
    simp only [List.length_cons, List.append_assoc, List.cons_append, List.nil_append]
    rw [show k + 1 + r.length = k + (r.length + 1) by omega]
    simp
theorem out_sB_owed (win first : Int) (k : Nat) : outN (sB win first k true) = (sB win first k false, [⟨first, wrapN (first + (k : Int)), ⟨#[]⟩⟩]) := rfl
theorem out_sB (win first : Int) (k : Nat) : outN (sB win first k false) = (sB win first k false, []) := rfl
theorem tick_sB (win first : Int) (k : Nat) (q : Bool) : tickN (sB win first k q) = sB win first k q := by
  unfold tickN
  rw [if_pos (Or.inr (show (sB win first k q).flies = [] from rfl))]
/-- What A is between two rounds: nothing flies, the first k are told. -/
structure SA (M : List ByteArray) (win first : Int) (k : Nat) (A : Cn) : Prop where
  good : GoodN A
  win : A.win = win
  retry : A.retry = 5
  wait : A.wait = 2
  fl : A.flies = []
  wt : A.waits = M.drop k
  nx : A.next = wrapN (first + (k : Int))
  cm : A.come = first
  ow : A.owed = false
  ag : A.again = false
  dd : A.dead = false
  tk : A.ticks = 0
  tr : A.tries = 0
theorem goN_all {f nr : Int} : ∀ (k n : Nat), (∀ j, n ≤ j → j < n + k → beforeN (f + (j : Int)) nr = true) → goN f nr k n = n + k
  | 0, n, _ => rfl
  | k + 1, n, h => by
    unfold goN
    rw [if_pos (h n (Nat.le_refl _) (by omega)), goN_all k (n + 1) (fun j h1 h2 => h j (by omega) (by omega))]
    omega
/-- All that flies is acked. -/
theorem acked_all {c : Cn} {f : Int} {k q : Nat} (hn : c.next = wrapN (f + ((k + q : Nat) : Int))) (hq : c.flies.length = q) (h64 : q ≤ 64) : ackedN c (wrapN (f + ((k + q : Nat) : Int))) = q := by
  unfold ackedN
  rw [hn, if_neg (by rw [beforeN_iff]; omega), hq, goN_all q 0 (fun j _ hj => ?_), Nat.zero_add]
  unfold firstN
  rw [hn, hq, beforeN_iff]
  unfold wrapN
  push_cast
  omega
/-- What comes of A by an ack of all that flies. -/
theorem take_all {M : List ByteArray} {win first : Int} {k q : Nat} {c : Cn} (hf : 0 ≤ first ∧ first ≤ 65535) (hg : GoodN c) (hw : c.win = win) (h5 : c.retry = 5) (h2 : c.wait = 2) (hfl : c.flies.length = q) (hq : 0 < q) (hwt : c.waits = M.drop (k + q)) (hn : c.next = wrapN (first + ((k + q : Nat) : Int))) (hc : c.come = first) (ho : c.owed = false) (hd : c.dead = false) (x : Int) (hx : x = first) :
    SA M win first (k + q) (takeN c ⟨x, wrapN (first + ((k + q : Nat) : Int)), ⟨#[]⟩⟩).1 := by
  subst hx
  have h1 := num_word hf
  have h3 := num_word (wrapN_in (x + ((k + q : Nat) : Int)))
  have ha : ackedN c (wrapN (x + ((k + q : Nat) : Int))) = q := acked_all hn hfl (by have := hg.flies.1; omega)
  have e : (takeN c ⟨x, wrapN (x + ((k + q : Nat) : Int)), ⟨#[]⟩⟩).1 = growsN q { c with flies := c.flies.drop q, tries := 0, ticks := 0, again := false } := by
    unfold takeN
    dsimp only
    rw [h1, h3, ha, if_neg (by simp [hd]), if_pos (show (⟨#[]⟩ : ByteArray).size = 0 from rfl)]
    unfold landN
    rw [if_neg (by omega)]
  have hgl : GoodN (growsN q { c with flies := c.flies.drop q, tries := 0, ticks := 0, again := false }) := by
    have := good_landN hg q
    unfold landN at this
    rw [if_neg (by omega)] at this
    exact this
  obtain ⟨q1, q2, q3, q4, q5, q6, q7, q8, q9, q10, q11, q12, q13, q14⟩ := growsN_rest q { c with flies := c.flies.drop q, tries := 0, ticks := 0, again := false }
  rw [e]
  exact ⟨hgl, q4.trans hw, q2.trans h5, q3.trans h2, q9.trans (by dsimp only; rw [← hfl]; exact List.drop_length), q8.trans hwt, q6.trans hn, q7.trans hc, q10.trans ho, q11, q14.trans hd, q12, q13⟩
def wtF (t : Nat) : Nat := if t = 0 then 2 else if t = 1 then 4 else if t = 2 then 8 else 16
def atF (t k : Nat) : Nat := (if t = 0 then 0 else if t = 1 then 2 else if t = 2 then 6 else 14) + k
theorem wait_wtF {A : Cn} {t : Nat} (h2 : A.wait = 2) (ht : A.tries = (t : Int)) : waitN A = (wtF t : Int) := by
  unfold waitN wtF
  rw [h2, ht]
  split
  · rw [if_pos (by omega)]; rfl
  · split
    · rw [if_neg (by omega), if_pos (by omega)]; rfl
    · split
      · rw [if_neg (by omega), if_neg (by omega), if_pos (by omega)]; rfl
      · rw [if_neg (by omega), if_neg (by omega), if_neg (by omega)]; rfl
/-- What A is while its first message is lost: t times it waited in vain, k ticks since. -/
structure FA (m0 : ByteArray) (rest : List ByteArray) (win first : Int) (t k : Nat) (ag : Bool) (A : Cn) : Prop where
  good : GoodN A
  win : A.win = win
  retry : A.retry = 5
  wait : A.wait = 2
  fl : A.flies = [m0]
  wt : A.waits = rest
  nx : A.next = wrapN (first + 1)
  cm : A.come = first
  ow : A.owed = false
  ag : A.again = ag
  dd : A.dead = false
  tk : A.ticks = (k : Int)
  tr : A.tries = (t : Int)
  rm : A.room = 1
theorem tick_more {m0 : ByteArray} {rest : List ByteArray} {win first : Int} {t k : Nat} {ag : Bool} {A : Cn} (h : FA m0 rest win first t k ag A) (hk : k + 1 < wtF t) : FA m0 rest win first t (k + 1) ag (tickN A) := by
  have hg := good_tickN h.good
  unfold tickN at hg ⊢
  have e : ¬ (A.dead = true ∨ A.flies = []) := by rw [h.dd, h.fl]; simp
  have hw := wait_wtF h.wait h.tr
  rw [if_neg e, hw, h.tk, if_pos (by omega)] at hg ⊢
  exact ⟨hg, h.win, h.retry, h.wait, h.fl, h.wt, h.nx, h.cm, h.ow, h.ag, h.dd, by push_cast; rfl, h.tr, h.rm⟩
theorem tick_again {m0 : ByteArray} {rest : List ByteArray} {win first : Int} {t k : Nat} {ag : Bool} {A : Cn} (h : FA m0 rest win first t k ag A) (hk : k + 1 = wtF t) (ht : t ≤ 2) : FA m0 rest win first (t + 1) 0 true (tickN A) := by
  have hg := good_tickN h.good
  unfold tickN at hg ⊢
  have e : ¬ (A.dead = true ∨ A.flies = []) := by rw [h.dd, h.fl]; simp
  have hw := wait_wtF h.wait h.tr
  rw [if_neg e, hw, h.tk, if_neg (by omega), h.tr, h.retry, if_neg (by omega)] at hg ⊢
  exact ⟨hg, h.win, rfl, h.wait, h.fl, h.wt, h.nx, h.cm, h.ow, rfl, h.dd, rfl, by push_cast; rfl, rfl⟩
theorem first_FA {m0 : ByteArray} {rest : List ByteArray} {win first : Int} {t k : Nat} {ag : Bool} {A : Cn} (h : FA m0 rest win first t k ag A) (hf : 0 ≤ first ∧ first ≤ 65535) : firstN A = first := by
  unfold firstN
  rw [h.nx, h.fl]
  simp only [List.length_cons, List.length_nil]
  unfold wrapN
  omega
theorem out_FA {m0 : ByteArray} {rest : List ByteArray} {win first : Int} {t k : Nat} {ag : Bool} {A : Cn} (h : FA m0 rest win first t k ag A) (hf : 0 ≤ first ∧ first ≤ 65535) : outN A = (quiet A, if ag = true then [⟨first, first, m0⟩] else []) ∧ FA m0 rest win first t k false (quiet A) := by
  have hfl : flyN A.waits.length A (againN A) = (A, againN A) := by
    cases hw : A.waits with
    | nil => rfl
    | cons x r => simp only [List.length_cons, flyN, hw, h.fl, h.rm]; rfl
  have hag : againN A = if ag = true then [⟨first, first, m0⟩] else [] := by
    unfold againN
    rw [h.ag, h.fl, first_FA h hf, h.cm]
  constructor
  · unfold outN
    rw [h.dd, if_neg (by decide), hfl, hag]
    unfold ackOf
    dsimp only
    rw [h.ow]
    cases ag <;> simp
  · exact ⟨good_quiet h.good, h.win, h.retry, h.wait, h.fl, h.wt, h.nx, h.cm, rfl, rfl, h.dd, h.tk, h.tr, h.rm⟩
theorem out_SA {M : List ByteArray} {win first : Int} {k : Nat} {A : Cn} (h : SA M win first k A) : ∃ q A1, q ≤ (M.drop k).length ∧ (M.drop k ≠ [] → 0 < q) ∧ (q : Int) ≤ A.room ∧ outN A = (A1, itsN first first k ((M.drop k).take q)) ∧
    GoodN A1 ∧ A1.win = win ∧ A1.retry = 5 ∧ A1.wait = 2 ∧ A1.flies = (M.drop k).take q ∧ A1.waits = M.drop (k + q) ∧ A1.next = wrapN (first + ((k + q : Nat) : Int)) ∧ A1.come = first ∧ A1.owed = false ∧ A1.again = false ∧ A1.dead = false ∧ A1.ticks = 0 ∧ A1.tries = 0 ∧ A1.room = A.room := by
  obtain ⟨q, h1, h2, h3, h4, h5⟩ := flyN_all first (M.drop k) A k [] h.wt h.nx
  have hag : againN A = [] := by unfold againN; rw [h.ag]; rfl
  have hr := h.good.room
  have hfl0 : (A.flies.length : Int) = 0 := by rw [h.fl]; rfl
  have hgo := good_outN h.good
  refine ⟨q, _, h1, fun hne => h2 hne (by omega), by have := h5 (by omega); omega, ?_, hgo, ?_⟩
  · unfold outN
    rw [h.dd, if_neg (by decide), hag, h.wt, h4]
    unfold ackOf
    dsimp only
    rw [h.ow, h.cm, List.nil_append]
    simp
  · unfold outN
    rw [h.dd, if_neg (by decide), hag, h.wt, h4]
    refine ⟨h.win, h.retry, h.wait, by simp [quiet, h.fl], by simp [quiet], rfl, h.cm, rfl, rfl, h.dd, ?_, h.tr, rfl⟩
    show (if q = 0 then A.ticks else 0) = 0
    rw [h.tk]
    split <;> rfl
theorem tick_still {A : Cn} (h : A.flies = []) : tickN A = A := by
  unfold tickN
  rw [if_pos (Or.inr h)]
/-- What stays true from round to round. -/
def InvF (M : List ByteArray) (win first : Int) (i : Nat) (s : FS) : Prop :=
  (∃ k, k ≤ M.length ∧ SA M win first k s.A ∧ s.B = sB win first k false ∧ s.g = M.take k ∧ 0 ≤ s.lam ∧ s.lam ≤ 3 ∧ (s.lam = 0 ∨ k = M.length ∨ (i = 0 ∧ k = 0 ∧ s.A.room = 1)) ∧ (k = M.length ∨ M.length - k + i ≤ 55)) ∨
  (∃ t k m0 rest ag, M = m0 :: rest ∧ FA m0 rest win first t k ag s.A ∧ s.B = sB win first 0 false ∧ s.g = [] ∧ 0 ≤ s.lam ∧ i = atF t k ∧ ((ag = false ∧ 1 ≤ k ∧ k < wtF t ∧ s.lam + (t : Int) + 1 ≤ 3) ∨ (ag = true ∧ k = 0 ∧ 1 ≤ t ∧ s.lam + (t : Int) ≤ 3)))
theorem InvF.step {M : List ByteArray} {win first : Int} (hf : 0 ≤ first ∧ first ≤ 65535) (hM : M.length ≤ 40) (hb : ∀ x ∈ M, ¬ x.size = 0) {i : Nat} {s : FS} (h : InvF M win first i s) : InvF M win first (i + 1) (roundF s) := by
  obtain ⟨lam, A, B, g⟩ := s
  rcases h with ⟨k, hk, hA, hB, hg, h0, h3, hl, hp⟩ | ⟨t, k, m0, rest, ag, hMe, hA, hB, hg, h0, hi, hc⟩
  · dsimp only at hA hB hg h0 h3 hl
    subst hB hg
    obtain ⟨q, A1, hq, hq1, hqr, ho, a1, a2, a3, a4, a5, a6, a7, a8, a9, a10, a11, a12, a13, a14⟩ := out_SA hA
    by_cases hq0 : q = 0
    · subst hq0
      have hkl : k = M.length := by
        by_cases hd : M.drop k = []
        · have := List.drop_eq_nil_iff.1 hd
          omega
        · have := hq1 hd
          omega
      have hS : SA M win first k A1 := ⟨a1, a2, a3, a4, by simpa using a5, by simpa using a6, by simpa using a7, a8, a9, a10, a11, a12, a13⟩
      have e : roundF ⟨lam, A, sB win first k false, M.take k⟩ = ⟨lam, A1, sB win first k false, M.take k⟩ := by
        unfold roundF
        simp only [ho, List.take_zero, itsN, eatN, out_sB, drinkN, tick_sB]
        rw [tick_still hS.fl]
      rw [e]
      exact Or.inl ⟨k, hk, hS, rfl, rfl, h0, h3, Or.inr (Or.inl hkl), Or.inl hkl⟩
    · have hlq : ((M.drop k).take q).length = q := by rw [List.length_take]; omega
      have hkq : k + q ≤ M.length := by rw [List.length_drop] at hq; omega
      by_cases hlam : lam = 0
      · subst hlam
        have hbl : ∀ x ∈ (M.drop k).take q, ¬ x.size = 0 := fun x hx => hb x (List.mem_of_mem_drop (List.mem_of_mem_take hx))
        have hne : ¬ (M.drop k).take q = [] := fun e => hq0 (by rw [e] at hlq; simpa using hlq.symm)
        have hT := take_all (M := M) (k := k) (q := q) hf a1 a2 a3 a4 (by rw [a5, hlq]) (by omega) a6 a7 a8 a9 a11 first rfl
        have e : roundF ⟨0, A, sB win first k false, M.take k⟩ = ⟨0, (takeN A1 ⟨first, wrapN (first + ((k + q : Nat) : Int)), ⟨#[]⟩⟩).1, sB win first (k + q) false, M.take k ++ (M.drop k).take q⟩ := by
          unfold roundF
          simp only [ho, eat_sB hf _ _ _ _ hbl, if_neg hne, hlq, out_sB_owed, drinkN, tick_sB]
          rw [tick_still hT.fl]
        rw [e]
        refine Or.inl ⟨k + q, hkq, hT, rfl, ?_, Int.le_refl _, by show (0 : Int) ≤ 3; decide, Or.inl rfl, Or.inr ?_⟩
        · dsimp only
          rw [List.take_add]
        · rcases hp with hp | hp <;> omega
      · have hi0 : i = 0 ∧ k = 0 ∧ A.room = 1 := by
          rcases hl with hl | hl | hl
          · exact absurd hl hlam
          · omega
          · exact hl
        obtain ⟨rfl, rfl, hr1⟩ := hi0
        have hq1' : q = 1 := by omega
        subst hq1'
        obtain ⟨m0, rest, rfl⟩ : ∃ m0 rest, M = m0 :: rest := by
          cases M with
          | nil => simp at hkq
          | cons x r => exact ⟨x, r, rfl⟩
        have e : roundF ⟨lam, A, sB win first 0 false, List.take 0 (m0 :: rest)⟩ = ⟨lam - 1, tickN A1, sB win first 0 false, []⟩ := by
          unfold roundF
          simp only [ho, List.drop_zero, List.take_succ_cons, List.take_zero, itsN, eatN, if_pos (show 0 < lam by omega), out_sB, drinkN, tick_sB]
        rw [e]
        have hF : FA m0 rest win first 0 0 false A1 := ⟨a1, a2, a3, a4, by simpa using a5, by simpa using a6, by simpa using a7, a8, a9, a10, a11, a12, a13, a14.trans hr1⟩
        exact Or.inr ⟨0, 1, m0, rest, false, rfl, tick_more hF (by decide), rfl, rfl, by dsimp only; omega, rfl, Or.inl ⟨rfl, Nat.le_refl _, by decide, by dsimp only; omega⟩⟩
  · dsimp only at hA hB hg h0 hc
    subst hB hg
    obtain ⟨ho, hQ⟩ := out_FA hA hf
    rcases hc with ⟨rfl, hk1, hkw, hl⟩ | ⟨rfl, rfl, ht1, hl⟩
    · have e : roundF ⟨lam, A, sB win first 0 false, []⟩ = ⟨lam, tickN (quiet A), sB win first 0 false, []⟩ := by
        unfold roundF
        simp only [ho]
        rfl
      rw [e]
      have ht2 : t ≤ 2 := by omega
      by_cases hk2 : k + 1 < wtF t
      · exact Or.inr ⟨t, k + 1, m0, rest, false, hMe, tick_more hQ hk2, rfl, rfl, h0, by unfold atF at hi ⊢; omega, Or.inl ⟨rfl, by omega, hk2, hl⟩⟩
      · have hk3 : k + 1 = wtF t := by omega
        refine Or.inr ⟨t + 1, 0, m0, rest, true, hMe, tick_again hQ hk3 ht2, rfl, rfl, h0, ?_, Or.inr ⟨rfl, rfl, by omega, by push_cast; omega⟩⟩
        unfold atF wtF at *
        rcases (by omega : t = 0 ∨ t = 1 ∨ t = 2) with rfl | rfl | rfl <;> simp at * <;> omega
    · have hi14 : i ≤ 14 := by
        rw [hi]
        unfold atF
        split
        · omega
        · split
          · omega
          · split <;> omega
      by_cases hlam : 0 < lam
      · have e : roundF ⟨lam, A, sB win first 0 false, []⟩ = ⟨lam - 1, tickN (quiet A), sB win first 0 false, []⟩ := by
          unfold roundF
          simp only [ho, if_true, eatN, if_pos hlam, out_sB, drinkN, tick_sB]
        rw [e]
        have h1 : 0 + 1 < wtF t := by
          unfold wtF
          split
          · omega
          · split
            · omega
            · split <;> omega
        exact Or.inr ⟨t, 1, m0, rest, false, hMe, tick_more hQ h1, rfl, rfl, by dsimp only; omega, by rw [hi]; unfold atF; omega, Or.inl ⟨rfl, Nat.le_refl _, h1, by dsimp only; omega⟩⟩
      · have hl0 : lam = 0 := by omega
        subst hl0
        have hm0 : ¬ m0.size = 0 := hb m0 (by rw [hMe]; exact List.mem_cons_self)
        have he := eat_sB (win := win) hf [m0] 0 false [] (fun y hy => by simp at hy; subst hy; exact hm0)
        have hit : itsN first first 0 [m0] = [⟨first, first, m0⟩] := by
          simp only [itsN]
          rw [show wrapN (first + ((0 : Nat) : Int)) = first by unfold wrapN; omega]
        rw [hit] at he
        have hnx : (quiet A).next = wrapN (first + ((0 + 1 : Nat) : Int)) := hQ.nx
        have hT := take_all (M := M) (k := 0) (q := 1) hf hQ.good hQ.win hQ.retry hQ.wait (by rw [hQ.fl]; rfl) (by omega) (by rw [hQ.wt, hMe]; rfl) hnx hQ.cm hQ.ow hQ.dd first rfl
        have e : roundF ⟨0, A, sB win first 0 false, []⟩ = ⟨0, (takeN (quiet A) ⟨first, wrapN (first + ((0 + 1 : Nat) : Int)), ⟨#[]⟩⟩).1, sB win first 1 false, [m0]⟩ := by
          unfold roundF
          simp only [ho, if_true, he, List.length_cons, List.length_nil, if_neg (List.cons_ne_nil m0 []), out_sB_owed, drinkN, tick_sB, List.nil_append]
          rw [tick_still hT.fl]
        rw [e]
        exact Or.inl ⟨1, by rw [hMe]; simp, hT, rfl, by dsimp only; rw [hMe]; rfl, Int.le_refl _, by show (0 : Int) ≤ 3; decide, Or.inl rfl, Or.inr (by omega)⟩
theorem InvF.done {M : List ByteArray} {win first : Int} {s : FS} (h : InvF M win first 400 s) : s.g = M ∧ s.A.waits = [] ∧ s.A.flies = [] ∧ s.A.dead = false ∧ s.B.dead = false := by
  rcases h with ⟨k, hk, hA, hB, hg, h0, h3, hl, hp⟩ | ⟨t, k, m0, rest, ag, hMe, hA, hB, hg, h0, hi, hc⟩
  · have hkl : k = M.length := by
      rcases hp with hp | hp <;> omega
    subst hkl
    exact ⟨by rw [hg, List.take_length], by rw [hA.wt, List.drop_length], hA.fl, hA.dd, by rw [hB]; rfl⟩
  · exfalso
    have h1 : k < 16 := by
      rcases hc with ⟨_, _, h, _⟩ | ⟨_, h, _⟩
      · unfold wtF at h
        split at h
        · omega
        · split at h
          · omega
          · split at h <;> omega
      · omega
    unfold atF at hi
    split at hi
    · omega
    · split at hi
      · omega
      · split at hi <;> omega
end Go.Proofs.Ytoflohomnoppnaa
