/- Packets without options, as plain data and in rows of their own. -/
import Derived.Test.YtndpfcanfcbldaaDoorOpPk
import Derived.Lib.SmallJoins
namespace Go.Proofs.YtndpfcanfcbldaaDoor
open Go.RowKit

/-- A packet without options. -/
structure Pq where
  code : Int
  id : Int
  data : ByteArray

/-! Rows of packets without options. -/
theorem infoPq : (Tryd.prog.info? 40).map (fun i => (i.zero, i.size, i.bytes)) = some (some (.agg #[.int .i64 0, .int .i64 0, .slice none 0 0, .string ⟨#[]⟩]), 4, 56) := by kernel_rfl
def pqCells (q : Pq) : List Value := [.int .i64 q.code, .int .i64 q.id, .slice none 0 0, .string q.data]
def pqV (q : Pq) : Value := .agg #[.int .i64 q.code, .int .i64 q.id, .slice none 0 0, .string q.data]
def rowQ (l : List Pq) : List Value := l.flatMap pqCells
/-- The slice v holds the packets of l, in a row that lies at base or behind. -/
def OwnQ (w : World) (base : Nat) (v : Value) (l : List Pq) : Prop := w.ownsRow base 40 4 v l.length (rowQ l)
theorem OwnQ.nil (w : World) (base : Nat) : OwnQ w base (.slice none 0 0) [] := World.ownsRow_nil _ _ _ _
theorem OwnQ.new (w : World) (q : Pq) : OwnQ (w.alloc (.cells #[.int .i64 q.code, .int .i64 q.id, .slice none 0 0, .string q.data] 40)) w.heap.size (.slice (some ⟨w.heap.size, 0, none⟩) 1 1) [q] :=
  ⟨rfl, Or.inr ⟨w.heap.size, 1, #[.int .i64 q.code, .int .i64 q.id, .slice none 0 0, .string q.data], rfl, Nat.le_refl _, heap_alloc_new w _, Nat.le_refl _, by unfold maxLen; omega, rfl, rfl⟩⟩
theorem OwnQ.mono {w : World} {base base' : Nat} {v : Value} {l : List Pq} (h : OwnQ w base v l) (hb : base' ≤ base) : OwnQ w base' v l := by
  rcases h.2 with ⟨rfl, h0⟩ | ⟨g, cap, cur, rfl, hb', hg, h1, h2, h3, h4⟩
  · exact ⟨h.1, Or.inl ⟨rfl, h0⟩⟩
  · exact ⟨h.1, Or.inr ⟨g, cap, cur, rfl, Nat.le_trans hb hb', hg, h1, h2, h3, h4⟩⟩
theorem OwnQ.block {w : World} {base i : Nat} {v : Value} {l : List Pq} (h : OwnQ w base v l) (hi : v.ownBlock = some i) : (∃ cur, w.heap[i]? = some (.cells cur 40 (0, 0))) ∧ base ≤ i := by
  rcases h.2 with ⟨rfl, _⟩ | ⟨g, cap, cur, rfl, hb, hg, _⟩
  · cases hi
  · have : g = i := by simpa [Value.ownBlock] using hi
    subst this
    exact ⟨⟨cur, hg⟩, hb⟩
theorem OwnQ.keptS {S : Nat → Prop} {w w' : World} {base : Nat} {v : Value} {l : List Pq} (h : OwnQ w base v l) (hk : Kept S w w') (hS : ∀ i, v.ownBlock = some i → ¬ S i) : OwnQ w' base v l := by
  rcases h.2 with ⟨rfl, h0⟩ | ⟨g, cap, cur, rfl, hb, hg, r⟩
  · exact ⟨h.1, Or.inl ⟨rfl, h0⟩⟩
  · exact ⟨h.1, Or.inr ⟨g, cap, cur, rfl, hb, (hk.block g (Array.getElem?_eq_some_iff.1 hg).1 (hS g rfl)).trans hg, r⟩⟩
theorem OwnQ.kept {w w' : World} {base : Nat} {v : Value} {l : List Pq} (h : OwnQ w base v l) (hk : Kept (fun _ => False) w w') : OwnQ w' base v l := h.keptS hk (fun _ _ => id)
theorem OwnQ.kept0 {w w' : World} {base : Nat} {v : Value} {l : List Pq} (h : OwnQ w base v l) (hk : Kept (fun _ => False) w w') : OwnQ w' base v l := h.keptS hk (fun _ _ => id)
/-- The one packet of a list. -/
theorem OwnQ.one {w : World} {base : Nat} {v : Value} {q : Pq} (h : OwnQ w base v [q]) : ∃ g cap, v = .slice (some ⟨g, 0, none⟩) 1 cap ∧ 1 ≤ cap ∧ cap ≤ maxLen ∧ base ≤ g ∧ Box4 w g (.int .i64 q.code) (.int .i64 q.id) (.slice none 0 0) (.string q.data) := by
  rcases h.2 with ⟨_, h0⟩ | ⟨g, cap, cur, rfl, hb, hg, h1, h2, h3, h4⟩
  · simp at h0
  · refine ⟨g, cap, rfl, h1, h2, hb, ?_⟩
    have hc : ∀ i, i < 4 → w.cell? ⟨g, i, none⟩ = (rowQ [q])[i]? := fun i hi => by
      rw [← h4, List.getElem?_take_of_lt (by simpa using hi)]
      simp [World.cell?, hg]
    exact ⟨hc 0 (by omega), hc 1 (by omega), hc 2 (by omega), hc 3 (by omega)⟩
end Go.Proofs.YtndpfcanfcbldaaDoor
