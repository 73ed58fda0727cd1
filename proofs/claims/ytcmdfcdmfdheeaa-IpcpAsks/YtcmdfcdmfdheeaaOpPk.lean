/- Packets of negotiation in memory: as values, in boxes, in blocks of a call's own. -/
import Derived.Test.YtcmdfcdmfdheeaaOpRow
import Derived.Laws.Tables
namespace Go.Proofs.Ytcmdfcdmfdheeaa
open Go.RowKit

/-- A packet as it is handed over. -/
def pkV (c i : Int) (v : Value) (s : ByteArray) : Value := .agg #[.int .i64 c, .int .i64 i, v, .string s]

/-- The four cells of a boxed packet. -/
def Box4 (w : World) (b : Nat) (x y z u : Value) : Prop := w.cell? ⟨b, 0, none⟩ = some x ∧ w.cell? ⟨b, 1, none⟩ = some y ∧ w.cell? ⟨b, 2, none⟩ = some z ∧ w.cell? ⟨b, 3, none⟩ = some u
theorem box4_new (w : World) (t : TypeId) (x y z u : Value) : Box4 (w.alloc (.cells #[x, y, z, u] t)) w.heap.size x y z u := by
  refine ⟨?_, ?_, ?_, ?_⟩ <;> rw [World.cell?_alloc_new] <;> rfl
theorem Box4.kept {S : Nat → Prop} {w w1 : World} {b : Nat} {x y z u : Value} (h : Box4 w b x y z u) (hk : Kept S w w1) (hS : ¬ S b) : Box4 w1 b x y z u := by
  have hlt : b < w.heap.size := lt_of_cell h.1
  exact ⟨(hk.cell (p := ⟨b, 0, none⟩) hlt hS).trans h.1, (hk.cell (p := ⟨b, 1, none⟩) hlt hS).trans h.2.1, (hk.cell (p := ⟨b, 2, none⟩) hlt hS).trans h.2.2.1, (hk.cell (p := ⟨b, 3, none⟩) hlt hS).trans h.2.2.2⟩

theorem byteB_nat {c : Int} (h : byteB c = true) : ∃ a : Nat, c = (a : Int) ∧ a ≤ 255 := by
  have hr : 0 ≤ c ∧ c ≤ 255 := by simpa [byteB] using h
  exact ⟨c.toNat, by omega, by omega⟩

theorem confB_nat {c : Int} (h : confB c = true) : ∃ a : Nat, c = (a : Int) ∧ a ≤ 255 := by
  have hr : 1 ≤ c ∧ c ≤ 4 := by simpa [confB] using h
  exact ⟨c.toNat, by omega, by omega⟩

/-- The four cells of a result of the call's own, none of them frozen. -/
def Own4 (w : World) (b : Nat) (x y z u : Value) : Prop := Box4 w b x y z u ∧ ∀ j, w.frozen? ⟨b, j, none⟩ = false
theorem own4_new (w : World) (t : TypeId) (x y z u : Value) : Own4 (w.alloc (.cells #[x, y, z, u] t)) w.heap.size x y z u :=
  ⟨box4_new w t x y z u, fun j => frozen_of_row _ w.heap.size j #[x, y, z, u] t (heap_alloc_new w _)⟩
theorem Own4.kept {w w1 : World} {b : Nat} {x y z u : Value} (h : Own4 w b x y z u) (hk : Kept (fun _ => False) w w1) : Own4 w1 b x y z u := by
  have hlt : b < w.heap.size := lt_of_cell h.1.1
  exact ⟨h.1.kept hk id, fun j => (hk.frozen (p := ⟨b, j, none⟩) hlt id).trans (h.2 j)⟩

/-- The packet that is none. -/
def pkZ : Value := pkV 0 0 (.slice none 0 0) ⟨#[]⟩

theorem take_numK (s : ByteArray) (k : Nat) : numOf (s.extract k (k + 2)).data.toList = numOf ((s.data.toList.drop k).take 2) := by
  rw [Lib.extract_data, show k + 2 - k = 2 by omega]

/-- A packet without options, as a value. -/
def pkD (p : Pk) : Value := pkV (p.code : Int) (p.id : Int) (.slice none 0 0) ⟨p.data.toArray⟩

theorem getDataF_data (l : List UInt8) : (getDataF l).1.data.length ≤ 1488 ∧ (getDataF l).1.opts = [] := by
  unfold getDataF
  split
  · simp
  · split
    · simp
    · split
      · simp
      · split
        · simp
        · simp only [List.length_take, and_true]
          omega

/-- A store of a whole struct into a block of its own, the world behind it by what lies in it. -/
theorem wpList_store_as {P : Program} {ops : Array Oper} {rest : List Oper} {o : Oper} {a : Act} {w : World} {Q : Exit → Act → World → Prop} (hgd : o.guard = none) (ty : TypeId) (x y : Operand) (ho : o.op = .store ty x y)
    (g : Nat) (cells : Array Value) (hx : a.eval x = .pointer (some ⟨g, 0, none⟩)) (hy : a.eval y = .agg cells)
    (t : TypeId) (old : Array Value) (hg : w.heap[g]? = some (.cells old t (0, 0))) (hi : (P.info? ty).map (·.size) = some cells.size)
    (hold : old.size = cells.size) (h1 : cells.all (·.oneCell') = true)
    (h : ∀ w', w'.heap[g]? = some (.cells cells t (0, 0)) → Kept (fun i => i = g) w w' → wpList P ops Q rest (a.put o.dst undef) w') : wpList P ops Q (o :: rest) a w :=
  wpList_store_row hgd ty x y ho g cells hx hy t old hg hi hold h1 (h _ (setRow_heap w g old cells t (0, 0) hg) ⟨rfl, rfl, rfl, by simp, fun k _ hn => setRow_other w g k cells hn⟩)

theorem OwnO.beside {w w' : World} {base g : Nat} {v : Value} {l : List Tg} (h : OwnO w base v l) (hk : Kept (fun i => i = g) w w') (hg : g < base) : OwnO w' base v l := by
  rcases h.2 with ⟨rfl, h0⟩ | ⟨g', cap, cur, rfl, hb, hgg, h1, h2, h3, h4⟩
  · exact ⟨h.1, Or.inl ⟨rfl, h0⟩⟩
  · exact ⟨h.1, Or.inr ⟨g', cap, cur, rfl, hb, (hk.block g' (Array.getElem?_eq_some_iff.1 hgg).1 (by omega)).trans hgg, h1, h2, h3, h4⟩⟩

/-- A packet in a block of its own. -/
def PkAt (w : World) (b : Nat) (c i : Int) (v : Value) (s : ByteArray) : Prop := w.heap[b]? = some (.cells #[.int .i64 c, .int .i64 i, v, .string s] 40 (0, 0))
theorem PkAt.lt {w : World} {b : Nat} {c i : Int} {v : Value} {s : ByteArray} (h : PkAt w b c i v s) : b < w.heap.size := (Array.getElem?_eq_some_iff.1 h).1
theorem PkAt.new (w : World) (c i : Int) (v : Value) (s : ByteArray) : PkAt (w.alloc (.cells #[.int .i64 c, .int .i64 i, v, .string s] 40)) w.heap.size c i v s := heap_alloc_new w _
theorem PkAt.kept {S : Nat → Prop} {w w' : World} {b : Nat} {c i : Int} {v : Value} {s : ByteArray} (h : PkAt w b c i v s) (hk : Kept S w w') (hS : ¬ S b) : PkAt w' b c i v s := (hk.block b h.lt hS).trans h
theorem PkAt.cells {w : World} {b : Nat} {c i : Int} {v : Value} {s : ByteArray} (h : PkAt w b c i v s) : Box4 w b (.int .i64 c) (.int .i64 i) v (.string s) := by
  have h' : w.heap[b]? = _ := h
  refine ⟨?_, ?_, ?_, ?_⟩ <;> simp [World.cell?, h']
theorem PkAt.own {w : World} {b : Nat} {c i : Int} {v : Value} {s : ByteArray} (h : PkAt w b c i v s) : Own4 w b (.int .i64 c) (.int .i64 i) v (.string s) := ⟨h.cells, fun j => frozen_of_row _ b j _ _ h⟩

/-- A packet that was got, as a value: its options lie at base or behind. -/
def GotP (w : World) (base : Nat) (v : Value) (p : Pk) : Prop := ∃ u, v = pkV (p.code : Int) (p.id : Int) u ⟨p.data.toArray⟩ ∧ OwnO w base u p.opts
end Go.Proofs.Ytcmdfcdmfdheeaa
