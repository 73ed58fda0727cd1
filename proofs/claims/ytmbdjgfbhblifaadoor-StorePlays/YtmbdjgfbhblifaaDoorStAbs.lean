/- A store as what is known of each name and how many there are, whatever lies where: the document's list of names comes to it, and so does whatever else keeps names. -/
import Derived.Test.YtmbdjgfbhblifaaDoorStPlain
namespace Go.Proofs.YtmbdjgfbhblifaaDoor
open Go.RowKit

/-- What is known of a name: its secret, how often it was wrong, and when last. -/
structure En where
  secret : ByteArray
  wrong : Int
  last : Int
/-- A store. -/
structure Ab where
  look : ByteArray × ByteArray → Option En
  n : Nat
def keyK (k : Kn) : ByteArray × ByteArray := (k.name, k.realm)
def enK (k : Kn) : En := ⟨k.secret, k.wrong, k.last⟩
def updA (f : ByteArray × ByteArray → Option En) (p : ByteArray × ByteArray) (e : Option En) : ByteArray × ByteArray → Option En := fun q => if q = p then e else f q
def setA (A : Ab) (full secret : ByteArray) : Int × Ab :=
  if 60 < full.size ∨ 60 < secret.size then (2, A)
  else match A.look (splitF full) with
    | none => if 100 ≤ A.n then (10, A) else if secret.size = 0 then (0, A) else (0, ⟨updA A.look (splitF full) (some ⟨secret, 0, 0⟩), A.n + 1⟩)
    | some e => if secret.size = 0 then (0, ⟨updA A.look (splitF full) none, A.n - 1⟩) else (0, ⟨updA A.look (splitF full) (some { e with secret := secret }), A.n⟩)
def shutE (limit calm : Int) (e : En) (time : Int) : Bool := decide (limit ≠ 0 ∧ limit ≤ e.wrong ∧ time - e.last < calm)
def tryA (limit calm : Int) (A : Ab) (full : ByteArray) (good : ByteArray → Bool) (time : Int) : Int × Ab :=
  match A.look (splitF full) with
  | none => (30, A)
  | some e => if shutE limit calm e time = true then (20, A) else if good e.secret = true then (0, ⟨updA A.look (splitF full) (some { e with wrong := 0 }), A.n⟩) else (30, ⟨updA A.look (splitF full) (some { e with wrong := e.wrong + 1, last := time }), A.n⟩)
def wrongA (A : Ab) (full : ByteArray) : Int := match A.look (splitF full) with | none => 0 | some e => e.wrong

/-- A list of names, each once. -/
def UniqK (l : List Kn) : Prop := ∀ (i j : Nat) (a b : Kn), l[i]? = some a → l[j]? = some b → keyK a = keyK b → i = j
/-- The list is the store. -/
structure IsAb (l : List Kn) (A : Ab) : Prop where
  uniq : UniqK l
  n : A.n = l.length
  look : ∀ q e, A.look q = some e ↔ ∃ (i : Nat) (k : Kn), l[i]? = some k ∧ keyK k = q ∧ enK k = e

section
variable {l : List Kn} {A : Ab}
theorem hitK_iff (p : ByteArray × ByteArray) (k : Kn) : hitK p k = true ↔ keyK k = p := by
  unfold hitK keyK
  rw [decide_eq_true_iff, Prod.ext_iff]
theorem IsAb.found (h : IsAb l A) {p : ByteArray × ByteArray} {i : Nat} (hf : findK l p = some i) : ∃ k, l[i]? = some k ∧ keyK k = p ∧ A.look p = some (enK k) := by
  obtain ⟨k, hk, h1, h2⟩ := findK_some hf
  exact ⟨k, hk, Prod.ext h1 h2, (h.look _ _).2 ⟨i, k, hk, Prod.ext h1 h2, rfl⟩⟩
theorem IsAb.lost (h : IsAb l A) {p : ByteArray × ByteArray} (hf : findK l p = none) : A.look p = none := by
  cases ha : A.look p with
  | none => rfl
  | some e =>
    obtain ⟨i, k, hk, h1, _⟩ := (h.look _ _).1 ha
    unfold findK at hf
    rw [List.findIdx?_eq_none_iff] at hf
    have := hf k (List.mem_of_getElem? hk)
    rw [(hitK_iff p k).2 h1] at this
    cases this
theorem isAb_nil : IsAb [] ⟨fun _ => none, 0⟩ := ⟨fun i j a b h => by simp at h, rfl, fun q e => ⟨(fun h => by cases h), (fun ⟨i, k, h, _⟩ => by simp at h)⟩⟩
/-- One of them is another one, of the same name. -/
theorem IsAb.set (h : IsAb l A) {i : Nat} {k k' : Kn} (hk : l[i]? = some k) (he : keyK k' = keyK k) : IsAb (l.set i k') ⟨updA A.look (keyK k) (some (enK k')), A.n⟩ := by
  have hlt := (List.getElem?_eq_some_iff.1 hk).1
  have hg : ∀ (j : Nat) (a : Kn), (l.set i k')[j]? = some a → (j = i ∧ a = k') ∨ (j ≠ i ∧ l[j]? = some a) := fun j a ha => by
    rw [List.getElem?_set] at ha
    by_cases e : i = j
    · subst e
      simp [hlt] at ha
      exact Or.inl ⟨rfl, ha.symm⟩
    · rw [if_neg e] at ha
      exact Or.inr ⟨fun h => e h.symm, ha⟩
  refine ⟨fun a b x y hx hy hxy => ?_, by rw [List.length_set]; exact h.n, fun q e => ?_⟩
  · rcases hg a x hx with ⟨rfl, rfl⟩ | ⟨h1, h2⟩
    · rcases hg b y hy with ⟨rfl, rfl⟩ | ⟨h3, h4⟩
      · rfl
      · exact h.uniq _ _ _ _ hk h4 (he.symm.trans hxy)
    · rcases hg b y hy with ⟨rfl, rfl⟩ | ⟨h3, h4⟩
      · exact h.uniq _ _ _ _ h2 hk (hxy.trans he)
      · exact h.uniq _ _ _ _ h2 h4 hxy
  · show updA A.look (keyK k) (some (enK k')) q = some e ↔ _
    unfold updA
    by_cases hq : q = keyK k
    · rw [if_pos hq]
      constructor
      · intro h1
        exact ⟨i, k', by simp [hlt], he.trans hq.symm, Option.some.inj h1⟩
      · rintro ⟨j, y, hy, h1, h2⟩
        rcases hg j y hy with ⟨rfl, rfl⟩ | ⟨h3, h4⟩
        · rw [h2]
        · exact absurd (h.uniq _ _ _ _ h4 hk (h1.trans hq)) h3
    · rw [if_neg hq, h.look]
      constructor
      · rintro ⟨j, y, hy, h1, h2⟩
        have hji : j ≠ i := fun e' => hq (by subst e'; rw [← h1, Option.some.inj (hy.symm.trans hk)])
        exact ⟨j, y, by rw [List.getElem?_set, if_neg (fun e' => hji e'.symm)]; exact hy, h1, h2⟩
      · rintro ⟨j, y, hy, h1, h2⟩
        rcases hg j y hy with ⟨rfl, rfl⟩ | ⟨h3, h4⟩
        · exact absurd (h1.symm.trans he) hq
        · exact ⟨j, y, h4, h1, h2⟩
/-- A new name. -/
theorem IsAb.push (h : IsAb l A) {k : Kn} (hn : A.look (keyK k) = none) : IsAb (l ++ [k]) ⟨updA A.look (keyK k) (some (enK k)), A.n + 1⟩ := by
  have hg : ∀ (j : Nat) (a : Kn), (l ++ [k])[j]? = some a → (j = l.length ∧ a = k) ∨ l[j]? = some a := fun j a ha => by
    rcases Nat.lt_trichotomy j l.length with hj | hj | hj
    · rw [List.getElem?_append_left hj] at ha
      exact Or.inr ha
    · subst hj
      simp at ha
      exact Or.inl ⟨rfl, ha.symm⟩
    · rw [List.getElem?_append_right (by omega)] at ha
      obtain ⟨m, hm⟩ : ∃ m, j - l.length = m + 1 := ⟨j - l.length - 1, by omega⟩
      rw [hm] at ha
      simp at ha
  have hno : ∀ (j : Nat) (y : Kn), l[j]? = some y → keyK y ≠ keyK k := fun j y hy e => by
    have := (h.look (keyK k) (enK y)).2 ⟨j, y, hy, e, rfl⟩
    rw [hn] at this
    cases this
  refine ⟨fun a b x y hx hy hxy => ?_, by rw [List.length_append, h.n]; rfl, fun q e => ?_⟩
  · rcases hg a x hx with ⟨rfl, rfl⟩ | h1
    · rcases hg b y hy with ⟨rfl, rfl⟩ | h2
      · rfl
      · exact absurd hxy.symm (hno _ _ h2)
    · rcases hg b y hy with ⟨rfl, rfl⟩ | h2
      · exact absurd hxy (hno _ _ h1)
      · exact h.uniq _ _ _ _ h1 h2 hxy
  · show updA A.look (keyK k) (some (enK k)) q = some e ↔ _
    unfold updA
    by_cases hq : q = keyK k
    · rw [if_pos hq]
      constructor
      · intro h1
        exact ⟨l.length, k, by simp, hq.symm, Option.some.inj h1⟩
      · rintro ⟨j, y, hy, h1, h2⟩
        rcases hg j y hy with ⟨rfl, rfl⟩ | h3
        · rw [h2]
        · exact absurd (h1.trans hq) (hno _ _ h3)
    · rw [if_neg hq, h.look]
      constructor
      · rintro ⟨j, y, hy, h1, h2⟩
        exact ⟨j, y, by rw [List.getElem?_append_left (List.getElem?_eq_some_iff.1 hy).1]; exact hy, h1, h2⟩
      · rintro ⟨j, y, hy, h1, h2⟩
        rcases hg j y hy with ⟨rfl, rfl⟩ | h3
        · exact absurd h1.symm hq
        · exact ⟨j, y, h3, h1, h2⟩
/-- A name is taken away. -/
theorem IsAb.gone (h : IsAb l A) {i : Nat} {k : Kn} (hk : l[i]? = some k) : IsAb (l.take i ++ l.drop (i + 1)) ⟨updA A.look (keyK k) none, A.n - 1⟩ := by
  have hlt := (List.getElem?_eq_some_iff.1 hk).1
  rw [← List.eraseIdx_eq_take_drop_succ]
  have hg : ∀ (j : Nat) (a : Kn), (l.eraseIdx i)[j]? = some a → ∃ m, m ≠ i ∧ l[m]? = some a ∧ (j < i ∧ m = j ∨ i ≤ j ∧ m = j + 1) := fun j a ha => by
    rw [List.getElem?_eraseIdx] at ha
    by_cases hj : j < i
    · rw [if_pos hj] at ha
      exact ⟨j, by omega, ha, Or.inl ⟨hj, rfl⟩⟩
    · rw [if_neg hj] at ha
      exact ⟨j + 1, by omega, ha, Or.inr ⟨by omega, rfl⟩⟩
  refine ⟨fun a b x y hx hy hxy => ?_, by rw [List.length_eraseIdx_of_lt hlt, h.n], fun q e => ?_⟩
  · obtain ⟨m1, _, h1, h2⟩ := hg a x hx
    obtain ⟨m2, _, h3, h4⟩ := hg b y hy
    have := h.uniq _ _ _ _ h1 h3 hxy
    omega
  · show updA A.look (keyK k) none q = some e ↔ _
    unfold updA
    by_cases hq : q = keyK k
    · rw [if_pos hq]
      constructor
      · intro h1
        cases h1
      · rintro ⟨j, y, hy, h1, h2⟩
        obtain ⟨m, hm, h3, _⟩ := hg j y hy
        exact absurd (h.uniq _ _ _ _ h3 hk (h1.trans hq)) hm
    · rw [if_neg hq, h.look]
      constructor
      · rintro ⟨j, y, hy, h1, h2⟩
        have hji : j ≠ i := fun e' => hq (by subst e'; rw [← h1, Option.some.inj (hy.symm.trans hk)])
        by_cases hj : j < i
        · exact ⟨j, y, by rw [List.getElem?_eraseIdx, if_pos hj]; exact hy, h1, h2⟩
        · obtain ⟨m, rfl⟩ : ∃ m, j = m + 1 := ⟨j - 1, by omega⟩
          exact ⟨m, y, by rw [List.getElem?_eraseIdx, if_neg (by omega)]; exact hy, h1, h2⟩
      · rintro ⟨j, y, hy, h1, h2⟩
        obtain ⟨m, hm, h3, _⟩ := hg j y hy
        exact ⟨m, y, h3, h1, h2⟩

/-! The list's functions are the store's. -/
theorem IsAb.setK (h : IsAb l A) (full secret : ByteArray) : (setK l full secret).1 = (setA A full secret).1 ∧ IsAb (setK l full secret).2 (setA A full secret).2 := by
  unfold Go.Proofs.YtmbdjgfbhblifaaDoor.setK setA
  by_cases q : 60 < full.size ∨ 60 < secret.size
  · rw [if_pos q, if_pos q]
    exact ⟨rfl, h⟩
  · rw [if_neg q, if_neg q]
    cases hf : findK l (splitF full) with
    | none =>
      have hn := h.lost hf
      rw [hn]
      simp only
      rw [h.n]
      by_cases q2 : 100 ≤ l.length
      · rw [if_pos q2, if_pos q2]
        exact ⟨rfl, h⟩
      · rw [if_neg q2, if_neg q2]
        by_cases q3 : secret.size = 0
        · rw [if_pos q3, if_pos q3]
          exact ⟨rfl, h⟩
        · rw [if_neg q3, if_neg q3]
          refine ⟨rfl, ?_⟩
          have hp := h.push (k := ⟨(splitF full).1, (splitF full).2, secret, 0, 0⟩) hn
          rw [h.n] at hp
          exact hp
    | some i =>
      obtain ⟨k, hk, h1, h2⟩ := h.found hf
      rw [h2]
      simp only
      by_cases q3 : secret.size = 0
      · rw [if_pos q3, if_pos q3]
        have hp := h.gone hk
        rw [h1] at hp
        exact ⟨rfl, hp⟩
      · rw [if_neg q3, if_neg q3]
        have hp := h.set (k' := { k with secret := secret }) hk rfl
        rw [h1] at hp
        refine ⟨rfl, ?_⟩
        have e : l.modify i (fun k => { k with secret := secret }) = l.set i { k with secret := secret } := by
          apply List.ext_getElem?
          intro j
          rw [List.getElem?_modify, List.getElem?_set]
          by_cases e : i = j
          · subst e
            obtain ⟨hlt, he⟩ := List.getElem?_eq_some_iff.1 hk
            simp [hlt, he]
          · simp [e]
        rw [e]
        exact hp
theorem IsAb.tryK (h : IsAb l A) (limit calm : Int) (full : ByteArray) (good : ByteArray → Bool) (time : Int) : (tryK limit calm l full good time).1 = (tryA limit calm A full good time).1 ∧ IsAb (tryK limit calm l full good time).2 (tryA limit calm A full good time).2 := by
  unfold Go.Proofs.YtmbdjgfbhblifaaDoor.tryK tryA
  cases hf : findK l (splitF full) with
  | none =>
    rw [h.lost hf]
    exact ⟨rfl, h⟩
  | some i =>
    obtain ⟨k, hk, h1, h2⟩ := h.found hf
    rw [h2]
    simp only [hk]
    unfold judgeK
    rw [show shutE limit calm (enK k) time = shutK limit calm k time from rfl]
    by_cases q : shutK limit calm k time = true
    · rw [if_pos q, if_pos q]
      exact ⟨rfl, h⟩
    · rw [if_neg q, if_neg q, show (enK k).secret = k.secret from rfl]
      by_cases q2 : good k.secret = true
      · rw [if_pos q2, if_pos q2]
        have hp := h.set (k' := { k with wrong := 0 }) hk rfl
        rw [h1] at hp
        exact ⟨rfl, hp⟩
      · rw [if_neg q2, if_neg q2]
        have hp := h.set (k' := { k with wrong := k.wrong + 1, last := time }) hk rfl
        rw [h1] at hp
        exact ⟨rfl, hp⟩
theorem IsAb.wrongK (h : IsAb l A) (full : ByteArray) : wrongK l full = wrongA A full := by
  unfold Go.Proofs.YtmbdjgfbhblifaaDoor.wrongK wrongA
  cases hf : findK l (splitF full) with
  | none => rw [h.lost hf]
  | some i =>
    obtain ⟨k, hk, h1, h2⟩ := h.found hf
    rw [h2]
    simp only [hk]
    rfl
/-- Two lists that are the same store are of the same length. -/
theorem IsAb.length {m : List Kn} (h : IsAb l A) (h' : IsAb m A) : l.length = m.length := h.n.symm.trans h'.n
end
end Go.Proofs.YtmbdjgfbhblifaaDoor
