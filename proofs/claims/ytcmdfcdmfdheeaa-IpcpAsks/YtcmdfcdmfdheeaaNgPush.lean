/- 'append' of one option onto a list of the call's own: in place, or anew. -/
import Derived.Test.YtcmdfcdmfdheeaaNgClone
namespace Go.Proofs.Ytcmdfcdmfdheeaa
open Go.RowKit

theorem OwnO.cellsB {W : World} {base i : Nat} {v : Value} {l : List Tg} (h : OwnO W base v l) (hi : v.ownBlock = some i) : ∃ cur, W.heap[i]? = some (.cells cur 51 (0, 0)) := by
  rcases h.2 with ⟨rfl, _⟩ | ⟨g, cap, cur, rfl, hb, hg, _⟩
  · cases hi
  · have : g = i := by simpa [Value.ownBlock] using hi
    subst this
    exact ⟨cur, hg⟩
theorem OwnO.baseB {W : World} {base i : Nat} {v : Value} {l : List Tg} (h : OwnO W base v l) (hi : v.ownBlock = some i) : base ≤ i := by
  rcases h.2 with ⟨rfl, _⟩ | ⟨g, cap, cur, rfl, hb, hg, _⟩
  · cases hi
  · have : g = i := by simpa [Value.ownBlock] using hi
    subst this
    exact hb
theorem OwnO.keptS {S : Nat → Prop} {W W' : World} {base : Nat} {v : Value} {l : List Tg} (h : OwnO W base v l) (hk : Kept S W W') (hS : ∀ i, v.ownBlock = some i → ¬ S i) : OwnO W' base v l := by
  rcases h.2 with ⟨rfl, h0⟩ | ⟨g, cap, cur, rfl, hb, hg, h1, h2, h3, h4⟩
  · exact ⟨h.1, Or.inl ⟨rfl, h0⟩⟩
  · exact ⟨h.1, Or.inr ⟨g, cap, cur, rfl, hb, (hk.block g (Array.getElem?_eq_some_iff.1 hg).1 (hS g rfl)).trans hg, h1, h2, h3, h4⟩⟩

theorem pushO {w : World} {base : Nat} {v : Value} {a : List Tg} (x : Tg) (hb : base ≤ w.heap.size) (hown : OwnO w base v a) (hn : a.length ≤ 100000) :
    ∃ v' w', AppO (w.alloc (.cells #[.int .i64 x.type, .string x.value] 51)) v (.slice (some ⟨w.heap.size, 0, none⟩) 1 1) v' w' ∧ OwnO w' base v' (a ++ [x]) ∧ Kept (fun i => v.ownBlock = some i) w w' ∧ ∀ i, v'.ownBlock = some i → v.ownBlock = some i ∨ w.heap.size ≤ i := by
  obtain ⟨i0, hi0, hz0, hz1, hz2⟩ := info_parts infoOpt
  have hsz : (w.alloc (.cells #[.int .i64 x.type, .string x.value] 51)).heap.size = w.heap.size + 1 := by simp
  obtain ⟨v', w', h1, h2, h3⟩ := owned_append (P := Try.prog) Try.underlying22 hi0 hz0 hz1 hz2 rfl (by decide) (World.ownsRow.alloc hown (.cells #[.int .i64 x.type, .string x.value] 51)) (by omega) ⟨w.heap.size, 0, none⟩ 1 1 [.int .i64 x.type, .string x.value] (by decide) rfl (cells_two_new _ _ _ _) (by intro u hu; simp at hu; rcases hu with rfl | rfl <;> rfl) (by omega) (by decide)
  refine ⟨v', w', h1, ?_, ?_⟩
  · unfold OwnO
    rw [rowT_append, rowT_one, List.length_append]
    exact h2
  · have hk0 := (Kept.refl (fun i => v.ownBlock = some i) w).alloc (.cells #[.int .i64 x.type, .string x.value] 51)
    rcases h3 with ⟨g', cap', rfl, rfl, hk⟩ | ⟨cap', rfl, hk, _⟩
    · refine ⟨hk0.andThen hk (fun i _ e => by rw [e]; rfl), fun i hi => Or.inl ?_⟩
      simpa [Value.ownBlock] using hi
    · refine ⟨hk0.andThen hk (fun i _ e => e.elim), fun i hi => Or.inr ?_⟩
      have : (w.alloc (.cells #[.int .i64 x.type, .string x.value] 51)).heap.size = i := by simpa [Value.ownBlock] using hi
      omega
end Go.Proofs.Ytcmdfcdmfdheeaa
