/- Frames in memory: cells of a frame, boxes of cards, rows of frames; and a struct that is stored whole. -/
import Derived.Test.YtffnppfoofifgaaGreatEtPlain
import Derived.Test.YtffnppfoofifgaaGreatTagFind
import Derived.Deep.RegionHeld3
import Derived.Deep.RegionHeldLaw
import Derived.BigRegion
namespace Go.Proofs.YtffnppfoofifgaaGreat
open Go.RowKit

theorem six_cells {m : List UInt8} (h : m.length = 6) : ∃ x0 x1 x2 x3 x4 x5 : Int, Lib.byteCells m = [.int .u8 x0, .int .u8 x1, .int .u8 x2, .int .u8 x3, .int .u8 x4, .int .u8 x5] := by
  match m, h with
  | [a0, a1, a2, a3, a4, a5], _ => exact ⟨_, _, _, _, _, _, rfl⟩


def frList (f : Fr) : List Value := Lib.byteCells f.dst ++ Lib.byteCells f.src ++ [.int .i64 f.type, .string f.data]
def frV (f : Fr) : Value := .agg (frList f).toArray

/-- 'append', in a region that draws, by what it leaves. -/
theorem step_append_run {P : Program} {ops : Array Oper} {o : Oper} {a : Act} {w : World} {K : Act → World → Prop} {Q : Exit → Act → World → Prop} {E : Prop} (hg : o.guard = none) (d x : Operand) (t : TypeId) (hop : o.op = Op.call { callee := Callee.builtin Builtin.append, args := #[d, x], argTypes := #[t, t] })
    (v u : Value) (hd : a.eval d = v) (hx : a.eval x = u) {v' : Value} {w' : World} (hr : (Builtin.append_ #[t, t] o.type #[v, u]).run P w = .ok v' w') (hK : K (a.put o.dst v') w') :
    if Region.wanted o (yielded ops a.tmps) = true then Oper.wp P o a w K Q else E := by
  rw [if_pos (by simp [Region.wanted, hg])]
  unfold Oper.wp execOp
  simp only [hop, resolve, invoke, builtin, Sem.run_bind, Sem.run_pure, Result.andThen_ok, List.map_toArray, List.map_cons, List.map_nil, hd, hx, hr]
  exact hK

/-- 'store' of a whole struct into a block of the call's own, in a region that draws. -/
theorem step_store_row {P : Program} {ops : Array Oper} {o : Oper} {a : Act} {w : World} {K : Act → World → Prop} {Q : Exit → Act → World → Prop} {E : Prop} (hg : o.guard = none) (p x : Operand) (t : TypeId) (hop : o.op = Op.store t p x)
    (g : Nat) (c c' : Array Value) (hd : a.eval p = .pointer (some ⟨g, 0, none⟩)) (hx : a.eval x = .agg c') (hb : w.heap[g]? = some (.cells c t (0, 0))) (hi : (P.info? t).map (·.size) = some c'.size) (ho : c.size = c'.size) (h1 : c'.all (·.oneCell') = true) (hK : K (a.put o.dst undef) (w.setRow g c')) :
    if Region.wanted o (yielded ops a.tmps) = true then Oper.wp P o a w K Q else E := by
  rw [if_pos (by simp [Region.wanted, hg])]
  have hr : (Instr.storeAt t (.pointer (some ⟨g, 0, none⟩)) (.agg c')).run P w = .ok () (w.setRow g c') := by
    simp only [Instr.storeAt, Instr.sureAddr, Sem.run_bind, Sem.run_pure, Result.andThen]
    exact run_storeVar_row w g t t c c' hb hi ho h1
  unfold Oper.wp execOp
  simp only [hop, hd, hx, hr, Sem.run_bind, Sem.run_pure, Result.andThen_ok, Oper.upon]
  exact hK
theorem Kept.setRow {S : Nat → Prop} {a w : World} (h : Kept S a w) {g : Nat} (hp : a.heap.size ≤ g ∨ S g) (cs : Array Value) : Kept S a (w.setRow g cs) :=
  h.andThen (T := fun i => i = g) ⟨rfl, rfl, rfl, by simp [World.setRow], fun k _ hn => by simp [World.setRow, Array.getElem?_modify, Ne.symm hn]⟩ (fun i hi t => by
    subst t
    rcases hp with hp | hp
    · omega
    · exact hp)
theorem load_row {P : Program} {w : World} {g : Nat} {t : TypeId} {cs : Array Value} (hb : w.heap[g]? = some (.cells cs t (0, 0))) (n : Nat) (hn : cs.size = n) : (loadCellsFrom ⟨g, 0, none⟩ 0 n #[]).run P w = .ok cs w := by
  subst hn
  have := run_loadCells_list (P := P) w ⟨g, 0, none⟩ cs.toList (fun j v hv => by
    rw [addr_add, cell_of_row _ _ j cs t (0, 0) hb]
    simpa using hv)
  simpa [loadCells] using this
/-- The six cells of a card's box. -/
structure Box6 (W : World) (b : Nat) (x0 x1 x2 x3 x4 x5 : Value) : Prop where
  c0 : W.cell? ⟨b, 0, none⟩ = some x0
  c1 : W.cell? ⟨b, 1, none⟩ = some x1
  c2 : W.cell? ⟨b, 2, none⟩ = some x2
  c3 : W.cell? ⟨b, 3, none⟩ = some x3
  c4 : W.cell? ⟨b, 4, none⟩ = some x4
  c5 : W.cell? ⟨b, 5, none⟩ = some x5
theorem box6_new (w : World) (t : TypeId) (x0 x1 x2 x3 x4 x5 : Value) : Box6 (w.alloc (.cells #[x0, x1, x2, x3, x4, x5] t)) w.heap.size x0 x1 x2 x3 x4 x5 := by
  refine ⟨?_, ?_, ?_, ?_, ?_, ?_⟩ <;> rw [World.cell?_alloc_new] <;> rfl
theorem Box6.kept {W W' : World} {b : Nat} {x0 x1 x2 x3 x4 x5 : Value} (h : Box6 W b x0 x1 x2 x3 x4 x5) (hk : Kept (fun _ => False) W W') : Box6 W' b x0 x1 x2 x3 x4 x5 := by
  have hlt : b < W.heap.size := lt_of_cell h.c0
  exact ⟨(hk.cell (p := ⟨b, 0, none⟩) hlt id).trans h.c0, (hk.cell (p := ⟨b, 1, none⟩) hlt id).trans h.c1, (hk.cell (p := ⟨b, 2, none⟩) hlt id).trans h.c2, (hk.cell (p := ⟨b, 3, none⟩) hlt id).trans h.c3, (hk.cell (p := ⟨b, 4, none⟩) hlt id).trans h.c4, (hk.cell (p := ⟨b, 5, none⟩) hlt id).trans h.c5⟩

abbrev Z14 : Array Value := #[.int .u8 0, .int .u8 0, .int .u8 0, .int .u8 0, .int .u8 0, .int .u8 0, .int .u8 0, .int .u8 0, .int .u8 0, .int .u8 0, .int .u8 0, .int .u8 0, .int .i64 0, .string ⟨#[]⟩]

/-- The fourteen cells of a frame of the call's own. -/
def Own14 (W : World) (b : Nat) (cs : Array Value) : Prop := W.heap[b]? = some (.cells cs 55 (0, 0))
theorem own14_new (w : World) (cs : Array Value) : Own14 (w.alloc (.cells cs 55)) w.heap.size cs := heap_alloc_new w _
theorem Own14.kept {W W' : World} {b : Nat} {cs : Array Value} (h : Own14 W b cs) (hk : Kept (fun _ => False) W W') : Own14 W' b cs := (hk.block b (Array.getElem?_eq_some_iff.1 h).1 id).trans h


def rowE (l : List Fr) : List Value := l.flatMap frList
def OwnE (w : World) (base : Nat) (v : Value) (l : List Fr) : Prop := w.ownsRow base 55 14 v l.length (rowE l)
theorem OwnE.nil (w : World) (base : Nat) : OwnE w base (.slice none 0 0) [] := World.ownsRow_nil _ _ _ _
theorem OwnE.kept {w w' : World} {base : Nat} {v : Value} {l : List Fr} (h : OwnE w base v l) (hk : Kept (fun _ => False) w w') : OwnE w' base v l := by
  rcases h.2 with ⟨rfl, h0⟩ | ⟨g, cap, cur, rfl, hb, hg, h1, h2, h3, h4⟩
  · exact ⟨h.1, Or.inl ⟨rfl, h0⟩⟩
  · exact ⟨h.1, Or.inr ⟨g, cap, cur, rfl, hb, (hk.block g (Array.getElem?_eq_some_iff.1 hg).1 id).trans hg, h1, h2, h3, h4⟩⟩
theorem OwnE.mono {w : World} {base base' : Nat} {v : Value} {l : List Fr} (h : OwnE w base v l) (hb : base' ≤ base) : OwnE w base' v l := by
  rcases h.2 with ⟨rfl, h0⟩ | ⟨g, cap, cur, rfl, hb', hg, h1, h2, h3, h4⟩
  · exact ⟨h.1, Or.inl ⟨rfl, h0⟩⟩
  · exact ⟨h.1, Or.inr ⟨g, cap, cur, rfl, Nat.le_trans hb hb', hg, h1, h2, h3, h4⟩⟩
theorem own_frame (w : World) (base : Nat) (hb : base ≤ w.heap.size) (f : Fr) (hf : (frList f).length = 14) : OwnE (w.alloc (.cells (frList f).toArray 55)) base (.slice (some ⟨w.heap.size, 0, none⟩) 1 1) [f] := by
  have e : rowE [f] = frList f := by simp [rowE]
  refine ⟨by rw [e, hf]; rfl, Or.inr ⟨w.heap.size, 1, (frList f).toArray, rfl, hb, heap_alloc_new w _, Nat.le_refl _, by unfold maxLen; omega, by simp [hf], ?_⟩⟩
  rw [e]
  show (frList f).take (1 * 14) = frList f
  rw [List.take_of_length_le (by omega)]


theorem frV_zero : frV frNone = .agg Z14 := rfl
end Go.Proofs.YtffnppfoofifgaaGreat
