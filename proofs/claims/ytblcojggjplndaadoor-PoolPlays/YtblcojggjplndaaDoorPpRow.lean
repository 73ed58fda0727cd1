/- A pool's places as the rows of its two maps, with no Go in them: who is lent what, in the places' order; what a place's change makes of them. -/
import Derived.Test.YtblcojggjplndaaDoorPlPlain
namespace Go.Proofs.YtblcojggjplndaaDoor

/-- Of each place that is lent, f of its number and of it. -/
def rowP {α : Type} (f : Nat → Lt → α) : Nat → List Lt → List α
  | _, [] => []
  | k, e :: l => if e.is then f k e :: rowP f (k + 1) l else rowP f (k + 1) l

section
variable {α : Type} {f : Nat → Lt → α}
theorem rowP_mem {p : α} : ∀ {k : Nat} {l : List Lt}, p ∈ rowP f k l ↔ ∃ i e, l[i]? = some e ∧ e.is = true ∧ p = f (k + i) e := by
  intro k l
  induction l generalizing k with
  | nil => simp [rowP]
  | cons a l ih =>
    unfold rowP
    constructor
    · intro h
      by_cases ha : a.is = true
      · rw [if_pos ha] at h
        rcases List.mem_cons.1 h with h | h
        · exact ⟨0, a, rfl, ha, h⟩
        · obtain ⟨i, e, h1, h2, h3⟩ := ih.1 h
          exact ⟨i + 1, e, h1, h2, by rw [h3]; congr 1; omega⟩
      · rw [if_neg ha] at h
        obtain ⟨i, e, h1, h2, h3⟩ := ih.1 h
        exact ⟨i + 1, e, h1, h2, by rw [h3]; congr 1; omega⟩
    · rintro ⟨i, e, h1, h2, h3⟩
      cases i with
      | zero =>
        obtain rfl : a = e := by simpa using h1
        rw [if_pos h2]
        exact List.mem_cons.2 (Or.inl h3)
      | succ i =>
        have h4 : p ∈ rowP f (k + 1) l := ih.2 ⟨i, e, h1, h2, by rw [h3]; congr 1; omega⟩
        split
        · exact List.mem_cons_of_mem _ h4
        · exact h4
/-- A place is lent. -/
theorem rowP_on {k i : Nat} {l : List Lt} {e y : Lt} (h : l[i]? = some e) (he : e.is = false) (hy : y.is = true) : (rowP f k (l.set i y)).Perm (f (k + i) y :: rowP f k l) := by
  induction l generalizing k i with
  | nil => simp at h
  | cons a l ih =>
    cases i with
    | zero =>
      obtain rfl : a = e := by simpa using h
      simp [rowP, he, hy]
    | succ i =>
      have h1 := ih (k := k + 1) (i := i) (by simpa using h)
      rw [show k + 1 + i = k + (i + 1) by omega] at h1
      simp only [List.set_cons_succ, rowP]
      split
      · exact (h1.cons _).trans (List.Perm.swap _ _ _)
      · exact h1
/-- A place is given back. -/
theorem rowP_off {k i : Nat} {l : List Lt} {e y : Lt} (h : l[i]? = some e) (he : e.is = true) (hy : y.is = false) : (rowP f k l).Perm (f (k + i) e :: rowP f k (l.set i y)) := by
  induction l generalizing k i with
  | nil => simp at h
  | cons a l ih =>
    cases i with
    | zero =>
      obtain rfl : a = e := by simpa using h
      simp [rowP, he, hy]
    | succ i =>
      have h1 := ih (k := k + 1) (i := i) (by simpa using h)
      rw [show k + 1 + i = k + (i + 1) by omega] at h1
      simp only [List.set_cons_succ, rowP]
      split
      · exact (h1.cons _).trans (List.Perm.swap _ _ _)
      · exact h1
theorem rowP_length {k : Nat} {l : List Lt} : (rowP f k l).length + nFree l = l.length := by
  induction l generalizing k with
  | nil => rfl
  | cons a l ih =>
    have h1 := ih (k := k + 1)
    unfold nFree at h1 ⊢
    unfold rowP
    cases ha : a.is <;> simp [ha] <;> omega
theorem rowP_none {k n : Nat} : rowP f k (List.replicate n lt0) = [] := by
  induction n generalizing k with
  | zero => rfl
  | succ n ih => simpa [List.replicate_succ, rowP, lt0] using ih (k := k + 1)
end

/-- No key has two places. -/
def Once (l : List Lt) : Prop := ∀ (i j : Nat) (e f : Lt), l[i]? = some e → l[j]? = some f → e.is = true → f.is = true → e.t = f.t → e.s = f.s → i = j
theorem Once.nobody (n : Nat) : Once (List.replicate n lt0) := fun i j e f h _ he => by
  rw [List.getElem?_replicate] at h
  split at h
  · cases h; cases he
  · cases h
theorem findL_hit {l : List Lt} {t s : Int} {i : Nat} (h : findL l t s = some i) : ∃ e, l[i]? = some e ∧ e.is = true ∧ e.t = t ∧ e.s = s := by
  unfold findL at h
  rw [List.findIdx?_eq_some_iff_getElem] at h
  obtain ⟨h1, h2, _⟩ := h
  have h3 : hitL t s l[i] = true := h2
  unfold hitL at h3
  simp only [Bool.and_eq_true, beq_iff_eq] at h3
  exact ⟨l[i], by simp [h1], h3.1, h3.2.1, h3.2.2⟩
theorem findL_miss {l : List Lt} {t s : Int} (h : findL l t s = none) {i : Nat} {e : Lt} (hi : l[i]? = some e) (he : e.is = true) : ¬ (e.t = t ∧ e.s = s) := fun hk => by
  unfold findL at h
  rw [List.findIdx?_eq_none_iff] at h
  have := h e (List.mem_of_getElem? hi)
  unfold hitL at this
  simp [he, hk.1, hk.2] at this
theorem Once.find {l : List Lt} (h : Once l) {i : Nat} {e : Lt} (hi : l[i]? = some e) (he : e.is = true) : findL l e.t e.s = some i := by
  cases hf : findL l e.t e.s with
  | none => exact absurd ⟨rfl, rfl⟩ (findL_miss hf hi he)
  | some j =>
    obtain ⟨e', h1, h2, h3, h4⟩ := findL_hit hf
    rw [h j i e' e h1 hi h2 he h3 h4]
theorem Once.on {l : List Lt} (h : Once l) {t s : Int} (hf : findL l t s = none) (i : Nat) : Once (l.set i ⟨true, t, s⟩) := fun a b e f ha hb he hf' ht hs => by
  have key : ∀ {a : Nat} {e : Lt}, (l.set i ⟨true, t, s⟩)[a]? = some e → (a = i ∧ e = ⟨true, t, s⟩) ∨ (a ≠ i ∧ l[a]? = some e) := fun {a e} h => by
    rw [List.getElem?_set] at h
    by_cases hi : i = a
    · rw [if_pos hi] at h
      split at h
      · exact Or.inl ⟨hi.symm, (Option.some.inj h).symm⟩
      · cases h
    · rw [if_neg hi] at h
      exact Or.inr ⟨fun e => hi e.symm, h⟩
  rcases key ha with ⟨h1, rfl⟩ | ⟨h1, h2⟩
  · rcases key hb with ⟨h3, rfl⟩ | ⟨h3, h4⟩
    · omega
    · exact absurd ⟨ht.symm, hs.symm⟩ (findL_miss hf h4 hf')
  · rcases key hb with ⟨h3, rfl⟩ | ⟨h3, h4⟩
    · exact absurd ⟨ht, hs⟩ (findL_miss hf h2 he)
    · exact h a b e f h2 h4 he hf' ht hs
theorem Once.off {l : List Lt} (h : Once l) (i : Nat) : Once (l.set i lt0) := fun a b e f ha hb he hf' ht hs => by
  have key : ∀ {a : Nat} {e : Lt}, (l.set i lt0)[a]? = some e → e.is = true → l[a]? = some e := fun {a e} h he => by
    rw [List.getElem?_set] at h
    split at h
    · split at h
      · cases h; cases he
      · cases h
    · exact h
  exact h a b e f (key ha he) (key hb hf') he hf' ht hs

theorem addAd_num {x : Ad} {n : Nat} (hx : numAd x + (n : Int) ≤ 4294967296) {i : Nat} (hi : i < n) : numAd (addAd x (i : Int)) = numAd x + (i : Int) := by
  have := numAd_range x
  unfold addAd
  rw [addrOf_num]
  omega
theorem addAd_inj {x : Ad} {n : Nat} (hx : numAd x + (n : Int) ≤ 4294967296) {i j : Nat} (hi : i < n) (hj : j < n) (h : addAd x (i : Int) = addAd x (j : Int)) : i = j := by
  have h1 := addAd_num hx hi
  have h2 := addAd_num hx hj
  rw [h] at h1
  omega
/-- The place of an address. -/
theorem atL_at {x : Ad} {l : List Lt} (hx : numAd x + (l.length : Int) ≤ 4294967296) {i : Nat} {e : Lt} (hi : l[i]? = some e) (he : e.is = true) : atL x (addAd x (i : Int)) l = some i := by
  have hlt := (List.getElem?_eq_some_iff.1 hi).1
  unfold atL
  rw [List.find?_range_eq_some]
  refine ⟨by rw [hi]; simp [he], List.mem_range.2 hlt, fun j hj => ?_⟩
  have h1 := addAd_num hx hlt
  have h2 := addAd_num hx (show j < l.length by omega)
  rw [h1, h2]
  have : decide (numAd x + (j : Int) = numAd x + (i : Int)) = false := decide_eq_false (by omega)
  rw [this]
  simp
theorem atL_hit {x y : Ad} {l : List Lt} {i : Nat} (h : atL x y l = some i) : ∃ e, l[i]? = some e ∧ e.is = true ∧ y = addAd x (i : Int) := by
  unfold atL at h
  rw [List.find?_range_eq_some] at h
  obtain ⟨h1, h2, _⟩ := h
  simp only [Bool.and_eq_true, decide_eq_true_eq] at h1
  cases hl : l[i]? with
  | none => rw [hl] at h1; cases h1.1
  | some e => rw [hl] at h1; exact ⟨e, rfl, h1.1, (numAd_inj h1.2).symm⟩
theorem atL_miss {x y : Ad} {l : List Lt} (h : atL x y l = none) {i : Nat} {e : Lt} (hi : l[i]? = some e) (he : e.is = true) : addAd x (i : Int) ≠ y := fun hk => by
  have hlt := (List.getElem?_eq_some_iff.1 hi).1
  unfold atL at h
  rw [List.find?_range_eq_none] at h
  have := h i hlt
  rw [hi, hk] at this
  simp [he] at this
end Go.Proofs.YtblcojggjplndaaDoor
