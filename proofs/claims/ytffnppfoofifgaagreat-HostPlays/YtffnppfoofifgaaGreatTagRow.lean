/- Tags as rows of memory: two cells each. Lists that are read, and lists of a call's own. -/
import Derived.Test.YtffnppfoofifgaaGreatTagGet
namespace Go.Proofs.YtffnppfoofifgaaGreat
open Go.RowKit

theorem infoTag : (Tryz.prog.info? 97).map (fun i => (i.zero, i.size, i.bytes)) = some (some (.agg #[.int .i64 0, .string ⟨#[]⟩]), 2, 24) := by kernel_rfl

/-- The slice v holds the tags of l, in a row that lies at base or behind. -/
def OwnT (w : World) (base : Nat) (v : Value) (l : List Tg) : Prop := w.ownsRow base 97 2 v l.length (rowT l)

theorem OwnT.nil (w : World) (base : Nat) : OwnT w base (.slice none 0 0) [] := World.ownsRow_nil _ _ _ _

theorem OwnT.tags {w : World} {base : Nat} {v : Value} {l : List Tg} (h : OwnT w base v l) : TagsAt w v l := by
  rcases h.2 with ⟨rfl, h0⟩ | ⟨g, cap, cur, rfl, hb, hg, h1, h2, h3, h4⟩
  · exact Or.inl ⟨List.eq_nil_of_length_eq_zero h0, none, 0, rfl⟩
  · refine Or.inr ⟨g, 0, cap, rfl, h1, h2, fun j x hj => ?_⟩
    have hlt := (List.getElem?_eq_some_iff.1 hj).1
    have hc : ∀ i, i < l.length * 2 → w.cell? ⟨g, i, none⟩ = (rowT l)[i]? := fun i hi => by
      rw [← h4, List.getElem?_take_of_lt hi]
      simp [World.cell?, hg]
    rw [Nat.zero_add, show j * 2 = j * 2 + 0 from rfl, hc _ (by omega), hc _ (by omega), rowT_get hj 0 (by omega), Nat.add_zero, rowT_get hj 1 (by omega)]
    exact ⟨rfl, rfl⟩

theorem OwnT.kept {w w' : World} {base : Nat} {v : Value} {l : List Tg} (h : OwnT w base v l) (hk : Kept (fun _ => False) w w') : OwnT w' base v l := by
  rcases h.2 with ⟨rfl, h0⟩ | ⟨g, cap, cur, rfl, hb, hg, h1, h2, h3, h4⟩
  · exact ⟨h.1, Or.inl ⟨rfl, h0⟩⟩
  · exact ⟨h.1, Or.inr ⟨g, cap, cur, rfl, hb, (hk.block g (Array.getElem?_eq_some_iff.1 hg).1 id).trans hg, h1, h2, h3, h4⟩⟩

theorem OwnT.mono {w : World} {base base' : Nat} {v : Value} {l : List Tg} (h : OwnT w base v l) (hb : base' ≤ base) : OwnT w base' v l := by
  rcases h.2 with ⟨rfl, h0⟩ | ⟨g, cap, cur, rfl, hb', hg, h1, h2, h3, h4⟩
  · exact ⟨h.1, Or.inl ⟨rfl, h0⟩⟩
  · exact ⟨h.1, Or.inr ⟨g, cap, cur, rfl, Nat.le_trans hb hb', hg, h1, h2, h3, h4⟩⟩

/-- A boxed tag. -/
def BoxT (w : World) (b : Nat) (x : Tg) : Prop := w.heap[b]? = some (.cells #[.int .i64 x.type, .string x.value] 97 (0, 0))
theorem BoxT.new (w : World) (x : Tg) : BoxT (w.alloc (.cells #[.int .i64 x.type, .string x.value] 97)) w.heap.size x := heap_alloc_new w _
theorem BoxT.c0 {w : World} {b : Nat} {x : Tg} (h : BoxT w b x) : w.cell? ⟨b, 0, none⟩ = some (.int .i64 x.type) := by simp [World.cell?, show w.heap[b]? = _ from h]
theorem BoxT.c1 {w : World} {b : Nat} {x : Tg} (h : BoxT w b x) : w.cell? ⟨b, 1, none⟩ = some (.string x.value) := by simp [World.cell?, show w.heap[b]? = _ from h]
theorem BoxT.lt {w : World} {b : Nat} {x : Tg} (h : BoxT w b x) : b < w.heap.size := (Array.getElem?_eq_some_iff.1 h).1

/-- What a row of bytes grows by is no box of a tag. -/
theorem BoxT.beside {w w' : World} {b base n : Nat} {x : Tg} {v : Value} {xs : List Value} (h : BoxT w b x) (hown : w.ownsRow base 5 1 v n xs) (hk : Kept (fun i => v.ownBlock = some i) w w') : BoxT w' b x := by
  refine (hk.block b h.lt ?_).trans h
  intro e
  rcases hown.2 with ⟨rfl, _⟩ | ⟨g, cap, cur, rfl, hb, hg, _⟩
  · cases e
  · have : g = b := by simpa [Value.ownBlock] using e
    subst this
    rw [show w.heap[g]? = _ from h] at hg
    simp at hg
end Go.Proofs.YtffnppfoofifgaaGreat
