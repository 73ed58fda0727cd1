/- A region that draws its order: what holds at its beginning and is handed on by every operation, whichever comes up, holds at its end. (No function of the program is named.) -/
import Derived.Deep.RegionHeld
namespace Go.Proofs.YtkneogfeokckjaaGreatDoor
open Go

section
variable {P : Program} {ops : Array Oper} {Q : Exit → Act → World → Prop} {md : Region.Mode}

theorem getD_in {l : Array Bool} {i : Nat} (h : i < l.size) : l.getD i false = l.getD i true := by simp [h]

theorem all_listed {listed : Array Bool} (hn : listed.size = ops.size) (hord : ∀ (i : Nat) (o : Oper), ops[i]? = some o → ∀ e ∈ o.after, e.on < i) (h : Region.ready md ops listed = []) : ∀ i, i < ops.size → listed.getD i true = true := by
  intro i
  induction i using Nat.strongRecOn with
  | _ i ih =>
    intro hi
    cases hl : listed.getD i true with
    | true => rfl
    | false =>
      exfalso
      have hm : i ∈ Region.ready md ops listed := by
        refine mem_ready.2 ⟨hl, ops[i], by simp [hi], fun e he _ => ?_⟩
        have h1 := hord i ops[i] (by simp [hi]) e he
        rw [getD_in (by omega)]
        exact ih e.on h1 (by omega)
      rw [h] at hm
      cases hm

theorem listed_of_count {listed : Array Bool} (hc : listed.toList.countP (fun b => !b) = 0) (i : Nat) : listed.getD i true = true := by
  by_cases hi : i < listed.size
  · have h1 := List.countP_eq_zero.1 hc listed[i] (by simp)
    simpa [hi] using h1
  · simp [hi]

/-- The operations come up in whatever order; I n L: what holds while n are still to come and those of L have come up. -/
theorem wpAny_inv (I : Nat → (Nat → Bool) → Act → World → Prop)
    (hord : ∀ (i : Nat) (o : Oper), ops[i]? = some o → ∀ e ∈ o.after, e.on < i)
    (hstep : ∀ (n : Nat) (L : Nat → Bool) (a : Act) (w : World) (i : Nat) (o : Oper), I (n + 1) L a w → ops[i]? = some o → L i = false → (∀ e ∈ o.after, Region.binds md e = true → L e.on = true) → wpOp P ops Q i (fun a' w' => I n (fun j => if j = i then true else L j) a' w') a w)
    (hend : ∀ (n : Nat) (L : Nat → Bool) (a : Act) (w : World), I n L a w → (∀ i, i < ops.size → L i = true) → Q .normal a w) :
    ∀ (fuel : Nat) (listed : Array Bool) (a : Act) (w : World), listed.size = ops.size → listed.toList.countP (fun b => !b) ≤ fuel → I fuel (fun i => listed.getD i true) a w → wpAny P md ops Q fuel listed a w
  | 0, listed, a, w, hn, hc, hI => by
    have hall := listed_of_count (listed := listed) (by omega)
    refine ⟨?_, hend 0 _ a w hI (fun i _ => hall i)⟩
    rw [List.eq_nil_iff_forall_not_mem]
    intro i hi
    have h1 := (mem_ready.1 hi).1
    rw [hall i] at h1
    cases h1
  | fuel + 1, listed, a, w, hn, hc, hI => by
    refine ⟨fun h => hend _ _ a w hI (all_listed hn hord h), fun i hi => ?_⟩
    obtain ⟨hl, o, ho, he⟩ := mem_ready.1 hi
    have hio : i < ops.size := (Array.getElem?_eq_some_iff.1 ho).1
    have hil : i < listed.size := by omega
    refine wpOp_mono (fun a' w' h' => wpAny_inv I hord hstep hend fuel _ a' w' (by simpa using hn) ?_ ?_) (hstep fuel _ a w i o hI ho hl (fun e hem hb => by
      have h1 := hord i o ho e hem
      rw [← getD_in (by omega)]
      exact he e hem hb))
    · have hli : listed[i] = false := by simpa [hil] using hl
      rw [Array.toList_setIfInBounds, List.countP_set (by simpa using hil)]
      have h1 : listed.toList[i]'(by simpa using hil) = false := by simpa using hli
      rw [h1]
      have hpos : 0 < listed.toList.countP (fun b => !b) := List.countP_pos_iff.2 ⟨false, by rw [← h1]; exact List.getElem_mem _, rfl⟩
      simp only [Bool.not_false, Bool.not_true, if_true, Bool.false_eq_true, if_false]
      omega
    · have e : (fun j => (listed.setIfInBounds i true).getD j true) = (fun j => if j = i then true else listed.getD j true) := by
        funext j
        by_cases hj : j = i
        · subst hj
          simp [hil]
        · rw [if_neg hj, getD_set_ne true (fun e => hj e.symm)]
      rw [e]
      exact h'

theorem wp_region_inv (I : Nat → (Nat → Bool) → Act → World → Prop) {id : Nat} {a : Act} {w : World} (hm : P.follows .mixedOrders = true)
    (hord : ∀ (i : Nat) (o : Oper), ops[i]? = some o → ∀ e ∈ o.after, e.on < i)
    (hstep : ∀ (n : Nat) (L : Nat → Bool) (a : Act) (w : World) (i : Nat) (o : Oper), I (n + 1) L a w → ops[i]? = some o → L i = false → (∀ e ∈ o.after, Region.binds .any e = true → L e.on = true) → wpOp P ops Q i (fun a' w' => I n (fun j => if j = i then true else L j) a' w') a w)
    (hend : ∀ (n : Nat) (L : Nat → Bool) (a : Act) (w : World), I n L a w → (∀ i, i < ops.size → L i = true) → Q .normal a w)
    (hI : ∀ L, (∀ i, i < ops.size → L i = false) → I ops.size L a w.drew) : (Code.region id ops true).wp P Q a w := by
  refine wp_region_any hm (wpAny_inv I hord hstep hend ops.size _ a _ (by simp) ?_ (hI _ (fun i hi => by simp [hi])))
  exact Nat.le_trans List.countP_le_length (by simp)
end
end Go.Proofs.YtkneogfeokckjaaGreatDoor
