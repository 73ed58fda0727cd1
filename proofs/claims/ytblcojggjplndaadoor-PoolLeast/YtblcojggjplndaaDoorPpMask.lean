/- A pool whose place i is lent to the key (1, i) or to nobody, as a plain list; what Take and Give make of it. -/
import Derived.Test.YtblcojggjplndaaDoorPpRow
namespace Go.Proofs.YtblcojggjplndaaDoor

def maskL (g : Nat → Bool) (n : Nat) : List Lt := (List.range n).map fun i => if g i then ⟨true, 1, (i : Int)⟩ else lt0
def updB (g : Nat → Bool) (k : Nat) (q : Bool) (i : Nat) : Bool := if i = k then q else g i
section
variable {g : Nat → Bool} {n : Nat}
theorem maskL_len : (maskL g n).length = n := by simp [maskL]
theorem maskL_at {i : Nat} (h : i < n) : (maskL g n)[i]? = some (if g i then ⟨true, 1, (i : Int)⟩ else lt0) := by simp [maskL, h]
theorem maskL_none : List.replicate n lt0 = maskL (fun _ => false) n := by
  apply List.ext_getElem?
  intro i
  by_cases h : i < n
  · rw [maskL_at h]; simp [h]
  · rw [List.getElem?_eq_none (by simpa using h), List.getElem?_eq_none (by rw [maskL_len]; omega)]
theorem maskL_congr {g' : Nat → Bool} (h : ∀ i, i < n → g i = g' i) : maskL g n = maskL g' n := by
  apply List.ext_getElem?
  intro i
  by_cases hi : i < n
  · rw [maskL_at hi, maskL_at hi, h i hi]
  · rw [List.getElem?_eq_none (by rw [maskL_len]; omega), List.getElem?_eq_none (by rw [maskL_len]; omega)]
theorem maskL_on {k : Nat} : (maskL g n).set k ⟨true, 1, (k : Int)⟩ = maskL (updB g k true) n := by
  apply List.ext_getElem?
  intro i
  rw [List.getElem?_set, maskL_len]
  by_cases hi : i < n
  · rw [maskL_at hi, maskL_at hi]
    unfold updB
    by_cases hk : k = i
    · subst hk; simp [hi]
    · rw [if_neg hk, if_neg (show ¬ i = k from fun e => hk e.symm)]
  · rw [List.getElem?_eq_none (l := maskL (updB g k true) n) (by rw [maskL_len]; omega), List.getElem?_eq_none (l := maskL g n) (by rw [maskL_len]; omega)]
    split
    · rw [if_neg (by omega)]
    · rfl
theorem maskL_off {k : Nat} : (maskL g n).set k lt0 = maskL (updB g k false) n := by
  apply List.ext_getElem?
  intro i
  rw [List.getElem?_set, maskL_len]
  by_cases hi : i < n
  · rw [maskL_at hi, maskL_at hi]
    unfold updB
    by_cases hk : k = i
    · subst hk; simp [hi]
    · rw [if_neg hk, if_neg (show ¬ i = k from fun e => hk e.symm)]
  · rw [List.getElem?_eq_none (l := maskL (updB g k false) n) (by rw [maskL_len]; omega), List.getElem?_eq_none (l := maskL g n) (by rw [maskL_len]; omega)]
    split
    · rw [if_neg (by omega)]
    · rfl
theorem mask_hit {i : Nat} {e : Lt} (h : (maskL g n)[i]? = some e) (he : e.is = true) : i < n ∧ g i = true ∧ e.t = 1 ∧ e.s = (i : Int) := by
  have hi : i < n := by
    have := (List.getElem?_eq_some_iff.1 h).1
    rw [maskL_len] at this
    exact this
  rw [maskL_at hi] at h
  cases hg : g i with
  | true =>
    rw [hg] at h
    obtain rfl := Option.some.inj h
    exact ⟨hi, rfl, rfl, rfl⟩
  | false =>
    rw [hg] at h
    obtain rfl := Option.some.inj h
    cases he
theorem mask_find {t s : Int} {k : Nat} (h : findL (maskL g n) t s = some k) : k < n ∧ g k = true ∧ t = 1 ∧ s = (k : Int) := by
  obtain ⟨e, h1, h2, rfl, rfl⟩ := findL_hit h
  exact mask_hit h1 h2
/-- Up to q all are lent; q is not. -/
def LeastB (g : Nat → Bool) (n q : Nat) : Prop := q ≤ n ∧ (∀ i, i < q → g i = true) ∧ (q < n → g q = false)
theorem mask_free {q : Nat} (h : LeastB g n q) : freeL (maskL g n) = if q < n then some q else none := by
  obtain ⟨h1, h2, h3⟩ := h
  unfold freeL
  by_cases hq : q < n
  · rw [if_pos hq, List.findIdx?_eq_some_iff_getElem]
    refine ⟨by rw [maskL_len]; exact hq, ?_, fun i hi => ?_⟩
    · have := maskL_at (g := g) hq
      rw [List.getElem?_eq_some_iff] at this
      obtain ⟨_, e⟩ := this
      rw [e, h3 hq]
      rfl
    · have := maskL_at (g := g) (show i < n by omega)
      rw [List.getElem?_eq_some_iff] at this
      obtain ⟨_, e⟩ := this
      rw [e, h2 i hi]
      simp
  · rw [if_neg hq, List.findIdx?_eq_none_iff]
    intro e he
    obtain ⟨i, hi, rfl⟩ := List.getElem_of_mem he
    rw [maskL_len] at hi
    have := maskL_at (g := g) hi
    rw [List.getElem?_eq_some_iff] at this
    obtain ⟨_, e1⟩ := this
    rw [e1, h2 i (by omega)]
    rfl
theorem LeastB.up (j : Nat) (h : j ≤ n) : LeastB (fun i => decide (i < j)) n j := ⟨h, fun i hi => by simpa using hi, fun _ => by simp⟩
theorem updB_up (j : Nat) : updB (fun i => decide (i < j)) j true = fun i => decide (i < j + 1) := by
  funext i
  unfold updB
  by_cases h : i = j
  · rw [if_pos h]; simp [h]
  · rw [if_neg h]
    show decide (i < j) = decide (i < j + 1)
    rw [Bool.eq_iff_iff, decide_eq_true_iff, decide_eq_true_iff]
    omega
theorem take_up (x : Ad) (j : Nat) (hj : j < n) : takeL x (maskL (fun i => decide (i < j)) n) 1 (j : Int) = (addAd x (j : Int), 0, maskL (fun i => decide (i < j + 1)) n) := by
  have h1 : findL (maskL (fun i => decide (i < j)) n) 1 (j : Int) = none := by
    cases hf : findL (maskL (fun i => decide (i < j)) n) 1 (j : Int) with
    | none => rfl
    | some k =>
      obtain ⟨h1, h2, _, h4⟩ := mask_find hf
      simp at h2
      omega
  have h2 := mask_free (LeastB.up (n := n) j (by omega))
  rw [if_pos hj] at h2
  unfold takeL
  rw [h1, h2]
  simp only
  rw [maskL_on, updB_up]
theorem LeastB.off {q : Nat} (h : LeastB g n q) {k : Nat} (hk : k < n) : LeastB (updB g k false) n (min q k) := by
  obtain ⟨h1, h2, h3⟩ := h
  refine ⟨by omega, fun i hi => ?_, fun hq => ?_⟩
  · unfold updB
    rw [if_neg (by omega)]
    exact h2 i (by omega)
  · unfold updB
    by_cases e : min q k = k
    · rw [if_pos e]
    · rw [if_neg e]
      have : min q k = q := by omega
      rw [this]
      exact h3 (by omega)
theorem take_two (x : Ad) {q : Nat} (h : LeastB g n q) : takeL x (maskL g n) 2 1 = if q < n then (addAd x (q : Int), 0, (maskL g n).set q ⟨true, 2, 1⟩) else (ad0, 10, maskL g n) := by
  have h1 : findL (maskL g n) 2 1 = none := by
    cases hf : findL (maskL g n) 2 1 with
    | none => rfl
    | some k =>
      obtain ⟨_, _, h3, _⟩ := mask_find hf
      cases h3
  unfold takeL
  rw [h1, mask_free h]
  by_cases hq : q < n
  · rw [if_pos hq, if_pos hq]
  · rw [if_neg hq, if_neg hq]
end
end Go.Proofs.YtblcojggjplndaaDoor
