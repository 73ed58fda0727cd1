/- What Take, Give, Has and Who tell of one another, as plain data. -/
import Derived.Test.YtblcojggjplndaaDoorPpTake
namespace Go.Proofs.YtblcojggjplndaaDoor

theorem findL_set {l : List Lt} {t s : Int} {i : Nat} {e : Lt} (h : Once (l.set i ⟨true, t, s⟩)) (hi : l[i]? = some e) : findL (l.set i ⟨true, t, s⟩) t s = some i := by
  have hlt := (List.getElem?_eq_some_iff.1 hi).1
  exact h.find (i := i) (e := ⟨true, t, s⟩) (by rw [List.getElem?_set, if_pos rfl, if_pos hlt]) rfl
theorem freeL_at {l : List Lt} {i : Nat} (h : freeL l = some i) : ∃ e, l[i]? = some e ∧ e.is = false := by
  unfold freeL at h
  rw [List.findIdx?_eq_some_iff_getElem] at h
  obtain ⟨h1, h2, _⟩ := h
  exact ⟨l[i], by simp [h1], by simpa using h2⟩
theorem freeL_none {l : List Lt} (h : freeL l = none) : nFree l = 0 := by
  unfold freeL at h
  rw [List.findIdx?_eq_none_iff] at h
  unfold nFree
  rw [List.countP_eq_zero]
  intro a ha
  rw [h a ha]
  decide
/-- What Take gives is what Has tells then; or there is none free. -/
theorem take_has {x : Ad} {l : List Lt} (hg : GoodL x l) {t s : Int} (ht : I64 t) (hs : I64 s) :
    (∃ y l', takeL x l t s = (y, 0, l') ∧ hasL x l' t s = (y, true) ∧ l'.length = l.length) ∨ (takeL x l t s = (ad0, 10, l) ∧ hasL x l t s = (ad0, false) ∧ nFree l = 0) := by
  cases hf : findL l t s with
  | some i => exact Or.inl ⟨addAd x (i : Int), l, by unfold takeL; rw [hf], by unfold hasL; rw [hf], rfl⟩
  | none =>
    cases hr : freeL l with
    | some i =>
      obtain ⟨e, h1, h2⟩ := freeL_at hr
      refine Or.inl ⟨addAd x (i : Int), l.set i ⟨true, t, s⟩, by unfold takeL; rw [hf, hr], ?_, List.length_set ..⟩
      unfold hasL
      rw [findL_set (hg.on ht hs hf i).once h1]
    | none => exact Or.inr ⟨by unfold takeL; rw [hf, hr], by unfold hasL; rw [hf], freeL_none hr⟩
theorem give_len (l : List Lt) (t s : Int) : (giveL l t s).2.length = l.length := by
  unfold giveL
  cases findL l t s with
  | none => rfl
  | some i => exact List.length_set ..
/-- How many of the first k are lent. -/
def lentN (l : List Lt) (k : Nat) : Nat := (l.take k).countP (fun e => e.is)
theorem lentN_next {l : List Lt} {k : Nat} {e : Lt} (h : l[k]? = some e) : lentN l (k + 1) = lentN l k + (if e.is = true then 1 else 0) := by
  unfold lentN
  rw [List.take_add_one, h, List.countP_append]
  cases he : e.is <;> simp [he]
theorem lentN_all (l : List Lt) : lentN l l.length + nFree l = l.length := by
  unfold lentN nFree
  rw [List.take_length]
  have := List.length_eq_countP_add_countP (fun e : Lt => e.is) (l := l)
  have e : (fun e : Lt => !e.is) = fun a => decide ¬ a.is = true := by
    funext a
    cases a.is <;> rfl
  rw [e]
  omega
theorem lentN_le (l : List Lt) (k : Nat) : lentN l k ≤ k := by
  unfold lentN
  exact Nat.le_trans List.countP_le_length (by rw [List.length_take]; omega)
theorem has_at {x : Ad} {l : List Lt} (hg : GoodL x l) {k : Nat} {e : Lt} (h : l[k]? = some e) (he : e.is = true) : hasL x l e.t e.s = (addAd x (k : Int), true) := by
  unfold hasL
  rw [hg.once.find h he]
theorem who_end {x : Ad} {l : List Lt} {n : Nat} (hn : l.length = n) (hx : numAd x + (n : Int) < 4294967296) : whoL x l (addAd x (n : Int)) = (0, 0, false) := by
  have : atL x (addAd x (n : Int)) l = none := by
    cases ha : atL x (addAd x (n : Int)) l with
    | none => rfl
    | some i =>
      obtain ⟨e, h1, h2, h3⟩ := atL_hit ha
      have hi := (List.getElem?_eq_some_iff.1 h1).1
      have := addAd_inj (n := n + 1) (by omega) (by omega) (by omega) h3
      omega
  unfold whoL
  rw [this]
end Go.Proofs.YtblcojggjplndaaDoor
