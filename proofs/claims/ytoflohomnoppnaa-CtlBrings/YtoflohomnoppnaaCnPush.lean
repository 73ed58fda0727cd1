/- 'append' of one element, just made, onto a row of the call's own. -/
import Derived.Test.YtoflohomnoppnaaCnDel
namespace Go.Proofs.Ytoflohomnoppnaa
open Go.RowKit

theorem push_one {α : Type} {enc : α → List Value} {k : Nat} {e t : TypeId} {z : Value} {bytes base : Nat} {w : World} {v : Value} {l : List α} (T : TyG Try.prog t e k z bytes) (E : EncG enc k) (h : OwnG enc k e w base v l) (hb : base ≤ w.heap.size) (x : α) (hn : l.length ≤ 10000) :
    ∃ v' w', AppG Try.prog t (w.alloc (.cells (enc x).toArray e)) v (.slice (some ⟨w.heap.size, 0, none⟩) 1 1) v' w' ∧ OwnG enc k e w' base v' (l ++ [x]) ∧ Kept (fun i => v.ownBlock = some i) w w' ∧ ∀ i, v'.ownBlock = some i → v.ownBlock = some i ∨ w.heap.size ≤ i := by
  have ka := (Kept.refl (fun _ => False) w).alloc (.cells (enc x).toArray e)
  have hc : ∀ j u, (rowG enc [x])[j]? = some u → (w.alloc (.cells (enc x).toArray e)).cell? ((⟨w.heap.size, 0, none⟩ : Addr).add j) = some u := fun j u hu => by
    rw [addr_add]
    have hg := heap_alloc_new w (.cells (enc x).toArray e)
    have : rowG enc [x] = enc x := by simp [rowG]
    rw [this] at hu
    unfold World.cell?
    simp only [hg]
    simpa using hu
  obtain ⟨v', w', h1, h2, h3⟩ := (h.kept0 ka).append T E (by have := ka.size; omega) ⟨w.heap.size, 0, none⟩ 1 [x] (by simp) hc (by simp; omega)
  refine ⟨v', w', h1, h2, (ka.mono (fun _ _ f => f.elim)).andThen h3.kept (fun _ _ s => s), fun i hi => ?_⟩
  rcases h3 with ⟨g, cap, rfl, rfl, _⟩ | ⟨cap', rfl, _, _⟩
  · exact Or.inl (by rw [← hi]; rfl)
  · refine Or.inr ?_
    have : (w.alloc (.cells (enc x).toArray e)).heap.size = i := by simpa [Value.ownBlock] using hi
    have := ka.size
    omega
end Go.Proofs.Ytoflohomnoppnaa
