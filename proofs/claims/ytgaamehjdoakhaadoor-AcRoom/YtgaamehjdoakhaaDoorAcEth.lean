/- Contracts of calls, several texts in one: no condition but what each theorem says. -/
import Derived.Test.YtgaamehjdoakhaaDoorAcBas
import Derived.Deep.Upon
import Derived.Lib.AppendZeros
import Derived.Maps.AppendAt
import Derived.Deep.RegionHeld3
import Derived.Deep.RegionHeldLaw
import Derived.BigRegion
namespace Go.Proofs.YtgaamehjdoakhaaDoor
open Go.RowKit

/-- A list's cells, one behind the other. -/
theorem TagsAt.row {W : World} {v : Value} {l : List Tg} (h : TagsAt W v l) (hne : l ≠ []) : ∃ g o cap, v = .slice (some ⟨g, o, none⟩) l.length cap ∧ ∀ (j : Nat) (u : Value), (rowT l)[j]? = some u → W.cell? ((⟨g, o, none⟩ : Addr).add j) = some u := by
  rcases h with ⟨rfl, _⟩ | ⟨g, o, cap, rfl, h1, h2, hc⟩
  · exact absurd rfl hne
  · refine ⟨g, o, cap, rfl, fun j u hj => ?_⟩
    have hlt := (List.getElem?_eq_some_iff.1 hj).1
    rw [rowT_length] at hlt
    have hd : j / 2 < l.length := by omega
    obtain ⟨c0, c1⟩ := hc (j / 2) l[j / 2] (by simp)
    have hg := rowT_get (l := l) (k := j / 2) (x := l[j / 2]) (by simp) (j % 2) (by omega)
    rw [show j / 2 * 2 + j % 2 = j by omega, hj] at hg
    rw [add_none]
    rcases (show j % 2 = 0 ∨ j % 2 = 1 by omega) with e | e
    · rw [e] at hg
      simp [tgCells] at hg
      rw [hg, ← c0]
      congr 2
      omega
    · rw [e] at hg
      simp [tgCells] at hg
      rw [hg, ← c1]
      congr 2
      omega

/-- What 'append' makes of two lists of tags. -/
def AppT (w : World) (v u v' : Value) (w' : World) : Prop := ∀ ty, (Builtin.append_ #[77, 77] ty #[v, u]).run Tryd.prog w = .ok v' w'

/-- 'append' of a list that is read onto one of the call's own. -/
theorem append_run {w0 w : World} {v u : Value} {a b : List Tg} (hk : Kept (fun _ => False) w0 w) (hown : OwnT w w0.heap.size v a) (hu : TagsAt w u b) (hn : a.length + b.length ≤ 1000000) :
    ∃ v' w', AppT w v u v' w' ∧ OwnT w' w0.heap.size v' (a ++ b) ∧ Kept (fun _ => False) w0 w' := by
  obtain ⟨i0, hi0, hz0, hz1, hz2⟩ := info_parts infoTag
  by_cases hb : b = []
  · subst hb
    rcases hu with ⟨_, p, cap, rfl⟩ | ⟨g, o, cap, rfl, _⟩
    all_goals
      have hsrc : ∀ (q : Option Addr) (c : Nat), Src Tryd.prog i0.size 77 (.slice q 0 c) 0 [] w := fun q c => by
        cases q with
        | none => exact Src.ofNil w Tryd.underlying77 c
        | some a => exact Src.ofSlice w Tryd.underlying77 a 0 c [] (by simp) (fun j u hj => by simp at hj) (fun u hu => by simp at hu)
      refine ⟨v, w, fun ty => ?_, by rw [List.append_nil]; exact hown, hk⟩
      rcases hown.2 with ⟨rfl, _⟩ | ⟨g', cap', cur, rfl, _, _, h1, _⟩
      · exact run_append_nothing w _ _ _ _ i0 Tryd.underlying77 hi0 none 0 0 (Nat.le_refl _) _ (hsrc _ _)
      · exact run_append_nothing w _ _ _ _ i0 Tryd.underlying77 hi0 _ _ _ h1 _ (hsrc _ _)
  · obtain ⟨g, o, cap, rfl, hc⟩ := hu.row hb
    obtain ⟨v', w', h1, h2, h3, _, h5⟩ := run_append_own_at (P := Tryd.prog) w w0.heap.size 77 0 53 i0 (.agg #[.int .i64 0, .string ⟨#[]⟩]) 2 24 Tryd.underlying77 hi0 hz0 hz1 hz2 rfl (by decide) v a.length (rowT a) hown ⟨g, o, none⟩ b.length cap (rowT b) (rowT_length b) hc (rowT_oneCell b) (by unfold maxLen; omega) (by omega) hk.size
    refine ⟨v', w', fun ty => h1, ?_, hk.grown h3 (fun j hj => Or.inl (World.ownsRow.lt hown j hj).1)⟩
    unfold OwnT
    rw [rowT_append, List.length_append]
    exact h2

end Go.Proofs.YtgaamehjdoakhaaDoor

/- Frames of discovery and of sessions as plain data, with no Go in them. -/
namespace Go.Proofs.YtgaamehjdoakhaaDoor

/-- A frame. -/
structure Fr where
  dst : List UInt8
  src : List UInt8
  type : Int
  data : ByteArray

def sameB (a b : ByteArray) : Bool := a.data.toList == b.data.toList
theorem sameB_iff {a b : ByteArray} : sameB a b = true ↔ a = b := by
  unfold sameB
  rw [beq_iff_eq]
  exact ⟨bytes_ext, fun h => by rw [h]⟩
theorem sameB_self (a : ByteArray) : sameB a a = true := sameB_iff.2 rfl

def frNone : Fr := ⟨[0, 0, 0, 0, 0, 0], [0, 0, 0, 0, 0, 0], 0, ⟨#[]⟩⟩
def etFrame (to src : List UInt8) (kind code session : Int) (data : List UInt8) : Fr × Int :=
  if (putDiscF code session data).2 = 0 then (⟨to, src, kind, ⟨(putDiscF code session data).1.toArray⟩⟩, 0) else (frNone, (putDiscF code session data).2)
def etDisc (to src : List UInt8) (code session : Int) (tags : List Tg) : List Fr :=
  if (putTagsF tags).2 = 0 then (if (etFrame to src 34915 code session (putTagsF tags).1).2 = 0 then [(etFrame to src 34915 code session (putTagsF tags).1).1] else []) else []
def everyF : List UInt8 := [255, 255, 255, 255, 255, 255]
theorem etDisc_len (to src : List UInt8) (code session : Int) (tags : List Tg) : (etDisc to src code session tags).length ≤ 1 := by
  unfold etDisc
  split
  · split <;> simp
  · simp
end Go.Proofs.YtgaamehjdoakhaaDoor

/- Frames in memory: cells of a frame, boxes of cards, rows of frames; and a struct that is stored whole. -/
namespace Go.Proofs.YtgaamehjdoakhaaDoor
open Go.RowKit

theorem six_cells {m : List UInt8} (h : m.length = 6) : ∃ x0 x1 x2 x3 x4 x5 : Int, Lib.byteCells m = [.int .u8 x0, .int .u8 x1, .int .u8 x2, .int .u8 x3, .int .u8 x4, .int .u8 x5] := by
  match m, h with
  | [a0, a1, a2, a3, a4, a5], _ => exact ⟨_, _, _, _, _, _, rfl⟩


def frList (f : Fr) : List Value := Lib.byteCells f.dst ++ Lib.byteCells f.src ++ [.int .i64 f.type, .string f.data]
def frV (f : Fr) : Value := .agg (frList f).toArray

/-- 'append', in a region that draws, by what it leaves. -/
theorem step_append_run {P : Program} {ops : Array Oper} {o : Oper} {a : Act} {w : World} {K : Act → World → Prop} {Q : Exit → Act → World → Prop} {E : Prop} (hg : o.guard = none) (d x : Operand) (t : TypeId) (hop : o.op = Op.call { callee := Callee.builtin Builtin.append, args := #[d, x], argTypes := #[t, t] })
    (v u : Value) (hd : a.eval d = v) (hx : a.eval x = u) {v' : Value} {w' : World} (hr : (Builtin.append_ #[t, t] o.type #[v, u]).run P w = .ok v' w') (hK : K (a.put o.dst v') w') :
    if Region.wanted o (yielded ops a.tmps) = true then Oper.wp P o a w K Q else E := by
  rw [if_pos (by simp [Region.wanted, hg])]
  unfold Oper.wp execOp
  simp only [hop, resolve, invoke, builtin, Sem.run_bind, Sem.run_pure, Result.andThen_ok, List.map_toArray, List.map_cons, List.map_nil, hd, hx, hr]
  exact hK

/-- 'store' of a whole struct into a block of the call's own, in a region that draws. -/
theorem step_store_row {P : Program} {ops : Array Oper} {o : Oper} {a : Act} {w : World} {K : Act → World → Prop} {Q : Exit → Act → World → Prop} {E : Prop} (hg : o.guard = none) (p x : Operand) (t : TypeId) (hop : o.op = Op.store t p x)
    (g : Nat) (c c' : Array Value) (hd : a.eval p = .pointer (some ⟨g, 0, none⟩)) (hx : a.eval x = .agg c') (hb : w.heap[g]? = some (.cells c t (0, 0))) (hi : (P.info? t).map (·.size) = some c'.size) (ho : c.size = c'.size) (h1 : c'.all (·.oneCell') = true) (hK : K (a.put o.dst undef) (w.setRow g c')) :
    if Region.wanted o (yielded ops a.tmps) = true then Oper.wp P o a w K Q else E := by
  rw [if_pos (by simp [Region.wanted, hg])]
  have hr : (Instr.storeAt t (.pointer (some ⟨g, 0, none⟩)) (.agg c')).run P w = .ok () (w.setRow g c') := by
    simp only [Instr.storeAt, Instr.sureAddr, Sem.run_bind, Sem.run_pure, Result.andThen]
    exact run_storeVar_row w g t t c c' hb hi ho h1
  unfold Oper.wp execOp
  simp only [hop, hd, hx, hr, Sem.run_bind, Sem.run_pure, Result.andThen_ok, Oper.upon]
  exact hK
theorem Kept.setRow {S : Nat → Prop} {a w : World} (h : Kept S a w) {g : Nat} (hp : a.heap.size ≤ g ∨ S g) (cs : Array Value) : Kept S a (w.setRow g cs) :=
  h.andThen (T := fun i => i = g) ⟨rfl, rfl, rfl, by simp [World.setRow], fun k _ hn => by simp [World.setRow, Array.getElem?_modify, Ne.symm hn]⟩ (fun i hi t => by
    subst t
    rcases hp with hp | hp
    · omega
    · exact hp)
theorem load_row {P : Program} {w : World} {g : Nat} {t : TypeId} {cs : Array Value} (hb : w.heap[g]? = some (.cells cs t (0, 0))) (n : Nat) (hn : cs.size = n) : (loadCellsFrom ⟨g, 0, none⟩ 0 n #[]).run P w = .ok cs w := by
  subst hn
  have := run_loadCells_list (P := P) w ⟨g, 0, none⟩ cs.toList (fun j v hv => by
    rw [addr_add, cell_of_row _ _ j cs t (0, 0) hb]
    simpa using hv)
  simpa [loadCells] using this
/-- The six cells of a card's box. -/
structure Box6 (W : World) (b : Nat) (x0 x1 x2 x3 x4 x5 : Value) : Prop where
  c0 : W.cell? ⟨b, 0, none⟩ = some x0
  c1 : W.cell? ⟨b, 1, none⟩ = some x1
  c2 : W.cell? ⟨b, 2, none⟩ = some x2
  c3 : W.cell? ⟨b, 3, none⟩ = some x3
  c4 : W.cell? ⟨b, 4, none⟩ = some x4
  c5 : W.cell? ⟨b, 5, none⟩ = some x5
theorem box6_new (w : World) (t : TypeId) (x0 x1 x2 x3 x4 x5 : Value) : Box6 (w.alloc (.cells #[x0, x1, x2, x3, x4, x5] t)) w.heap.size x0 x1 x2 x3 x4 x5 := by
  refine ⟨?_, ?_, ?_, ?_, ?_, ?_⟩ <;> rw [World.cell?_alloc_new] <;> rfl
theorem Box6.kept {W W' : World} {b : Nat} {x0 x1 x2 x3 x4 x5 : Value} (h : Box6 W b x0 x1 x2 x3 x4 x5) (hk : Kept (fun _ => False) W W') : Box6 W' b x0 x1 x2 x3 x4 x5 := by
  have hlt : b < W.heap.size := lt_of_cell h.c0
  exact ⟨(hk.cell (p := ⟨b, 0, none⟩) hlt id).trans h.c0, (hk.cell (p := ⟨b, 1, none⟩) hlt id).trans h.c1, (hk.cell (p := ⟨b, 2, none⟩) hlt id).trans h.c2, (hk.cell (p := ⟨b, 3, none⟩) hlt id).trans h.c3, (hk.cell (p := ⟨b, 4, none⟩) hlt id).trans h.c4, (hk.cell (p := ⟨b, 5, none⟩) hlt id).trans h.c5⟩

abbrev Z14 : Array Value := #[.int .u8 0, .int .u8 0, .int .u8 0, .int .u8 0, .int .u8 0, .int .u8 0, .int .u8 0, .int .u8 0, .int .u8 0, .int .u8 0, .int .u8 0, .int .u8 0, .int .i64 0, .string ⟨#[]⟩]

/-- The fourteen cells of a frame of the call's own. -/
def Own14 (W : World) (b : Nat) (cs : Array Value) : Prop := W.heap[b]? = some (.cells cs 25 (0, 0))
theorem own14_new (w : World) (cs : Array Value) : Own14 (w.alloc (.cells cs 25)) w.heap.size cs := heap_alloc_new w _
theorem Own14.kept {W W' : World} {b : Nat} {cs : Array Value} (h : Own14 W b cs) (hk : Kept (fun _ => False) W W') : Own14 W' b cs := (hk.block b (Array.getElem?_eq_some_iff.1 h).1 id).trans h


def rowE (l : List Fr) : List Value := l.flatMap frList
def OwnE (w : World) (base : Nat) (v : Value) (l : List Fr) : Prop := w.ownsRow base 25 14 v l.length (rowE l)
theorem OwnE.nil (w : World) (base : Nat) : OwnE w base (.slice none 0 0) [] := World.ownsRow_nil _ _ _ _
theorem OwnE.kept {w w' : World} {base : Nat} {v : Value} {l : List Fr} (h : OwnE w base v l) (hk : Kept (fun _ => False) w w') : OwnE w' base v l := by
  rcases h.2 with ⟨rfl, h0⟩ | ⟨g, cap, cur, rfl, hb, hg, h1, h2, h3, h4⟩
  · exact ⟨h.1, Or.inl ⟨rfl, h0⟩⟩
  · exact ⟨h.1, Or.inr ⟨g, cap, cur, rfl, hb, (hk.block g (Array.getElem?_eq_some_iff.1 hg).1 id).trans hg, h1, h2, h3, h4⟩⟩
theorem OwnE.mono {w : World} {base base' : Nat} {v : Value} {l : List Fr} (h : OwnE w base v l) (hb : base' ≤ base) : OwnE w base' v l := by
  rcases h.2 with ⟨rfl, h0⟩ | ⟨g, cap, cur, rfl, hb', hg, h1, h2, h3, h4⟩
  · exact ⟨h.1, Or.inl ⟨rfl, h0⟩⟩
  · exact ⟨h.1, Or.inr ⟨g, cap, cur, rfl, Nat.le_trans hb hb', hg, h1, h2, h3, h4⟩⟩
theorem own_frame (w : World) (base : Nat) (hb : base ≤ w.heap.size) (f : Fr) (hf : (frList f).length = 14) : OwnE (w.alloc (.cells (frList f).toArray 25)) base (.slice (some ⟨w.heap.size, 0, none⟩) 1 1) [f] := by
  have e : rowE [f] = frList f := by simp [rowE]
  refine ⟨by rw [e, hf]; rfl, Or.inr ⟨w.heap.size, 1, (frList f).toArray, rfl, hb, heap_alloc_new w _, Nat.le_refl _, by unfold maxLen; omega, by simp [hf], ?_⟩⟩
  rw [e]
  show (frList f).take (1 * 14) = frList f
  rw [List.take_of_length_le (by omega)]


theorem frV_zero : frV frNone = .agg Z14 := rfl
end Go.Proofs.YtgaamehjdoakhaaDoor

/- The contract of ether's inner frame: the frame of a packet, or the error. -/
namespace Go.Proofs.YtgaamehjdoakhaaDoor
open Go.RowKit

set_option maxHeartbeats 1000000 in
set_option maxRecDepth 100000 in
theorem frame_no (to src : List UInt8) (hto : to.length = 6) (hsrc : src.length = 6) (kind code session : Int) (data : ByteArray) (hd : data.size ≤ 140737488351232) (he : (putDiscF code session data.data.toList).2 ≠ 0) (w : World) :
    Calls Tryd.prog 45 #[.agg (Lib.byteCells to).toArray, .agg (Lib.byteCells src).toArray, .int .i64 kind, .agg #[.int .i64 code, .int .i64 session, .string data]] w
      fun e w' => e = .returned (.tuple #[.agg Z14, .int .i64 (putDiscF code session data.data.toList).2]) ∧ Kept (fun _ => False) w w' := by
  obtain ⟨y0, y1, y2, y3, y4, y5, hy⟩ := six_cells hto
  obtain ⟨x0, x1, x2, x3, x4, x5, hx⟩ := six_cells hsrc
  have HP := hid (fun W => putDisc_any code session data hd W)
  rw [hy, hx]
  have hne : ((putDiscF code session data.data.toList).2 != 0) = true := by simpa using he
  generalize (putDiscF code session data.data.toList).2 = E at *
  generalize (putDiscF code session data.data.toList).1 = D at *
  clear he hd
  have O0 := hid (own14_new (((w.alloc (.cells #[.int .u8 y0, .int .u8 y1, .int .u8 y2, .int .u8 y3, .int .u8 y4, .int .u8 y5] 23)).alloc (.cells #[.int .u8 x0, .int .u8 x1, .int .u8 x2, .int .u8 x3, .int .u8 x4, .int .u8 x5] 23)).alloc (.cells #[.int .i64 code, .int .i64 session, .string data] 67)) Z14)
  have K0 := hid (((((Kept.refl (fun _ => False) w).alloc (.cells #[.int .u8 y0, .int .u8 y1, .int .u8 y2, .int .u8 y3, .int .u8 y4, .int .u8 y5] 23)).alloc (.cells #[.int .u8 x0, .int .u8 x1, .int .u8 x2, .int .u8 x3, .int .u8 x4, .int .u8 x5] 23)).alloc (.cells #[.int .i64 code, .int .i64 session, .string data] 67)).alloc (.cells Z14 25))
  go_enter Tryd.func45, Tryd.ntmps45
  go_wp2_with fail
  refine (HP.out _).mono ?_
  rintro e w1 ⟨rfl, hb1⟩
  have O1 := O0.out.kept (kept_of hb1)
  have hc := fun j => cell_of_row w1 (w.heap.size + 1 + 1 + 1) j _ _ _ (by simpa [Own14] using O1)
  have hf := fun j => frozen_of_row w1 (w.heap.size + 1 + 1 + 1) j _ _ (by simpa [Own14] using O1)
  have K1 := hid (K0.out.trans (kept_of hb1))
  have c0 := hc 0
  have c1 := hc 1
  have c2 := hc 2
  have c3 := hc 3
  have c4 := hc 4
  have c5 := hc 5
  have c6 := hc 6
  have c7 := hc 7
  have c8 := hc 8
  have c9 := hc 9
  have c10 := hc 10
  have c11 := hc 11
  have c12 := hc 12
  have c13 := hc 13
  clear hb1 O1 O0 K0 hc
  simp only [List.getElem?_toArray, List.getElem?_cons_zero, List.getElem?_cons_succ] at c0 c1 c2 c3 c4 c5 c6 c7 c8 c9 c10 c11 c12 c13
  go_wp2
  refine bodyPost_ret (v := .tuple #[.agg Z14, .int .i64 E]) (by simp [results, Tryd.results45, go_sem, c0, c1, c2, c3, c4, c5, c6, c7, c8, c9, c10, c11, c12, c13]) rfl ⟨rfl, ?_⟩
  repeat (refine Kept.setCell ?_ (Or.inl (by simp only []; omega)) _)
  exact K1.out

set_option maxHeartbeats 4000000 in
set_option maxRecDepth 100000 in
theorem frame_yes (to src : List UInt8) (hto : to.length = 6) (hsrc : src.length = 6) (kind code session : Int) (data : ByteArray) (hd : data.size ≤ 140737488351232) (he : (putDiscF code session data.data.toList).2 = 0) (w : World) :
    Calls Tryd.prog 45 #[.agg (Lib.byteCells to).toArray, .agg (Lib.byteCells src).toArray, .int .i64 kind, .agg #[.int .i64 code, .int .i64 session, .string data]] w
      fun e w' => e = .returned (.tuple #[frV ⟨to, src, kind, ⟨(putDiscF code session data.data.toList).1.toArray⟩⟩, .int .i64 0]) ∧ Kept (fun _ => False) w w' := by
  obtain ⟨y0, y1, y2, y3, y4, y5, hy⟩ := six_cells hto
  obtain ⟨x0, x1, x2, x3, x4, x5, hx⟩ := six_cells hsrc
  have HP := hid (fun W => putDisc_any code session data hd W)
  unfold frV frList
  simp only []
  rw [hx, hy]
  rw [he] at HP
  generalize (putDiscF code session data.data.toList).1 = D at *
  clear he hd
  have O0 := hid (own14_new (((w.alloc (.cells #[.int .u8 y0, .int .u8 y1, .int .u8 y2, .int .u8 y3, .int .u8 y4, .int .u8 y5] 23)).alloc (.cells #[.int .u8 x0, .int .u8 x1, .int .u8 x2, .int .u8 x3, .int .u8 x4, .int .u8 x5] 23)).alloc (.cells #[.int .i64 code, .int .i64 session, .string data] 67)) Z14)
  have B0 := hid (((box6_new w 23 (.int .u8 y0) (.int .u8 y1) (.int .u8 y2) (.int .u8 y3) (.int .u8 y4) (.int .u8 y5)).kept (((Kept.refl (fun _ => False) _).alloc (.cells #[.int .u8 x0, .int .u8 x1, .int .u8 x2, .int .u8 x3, .int .u8 x4, .int .u8 x5] 23)).alloc (.cells #[.int .i64 code, .int .i64 session, .string data] 67))).kept ((Kept.refl (fun _ => False) _).alloc (.cells Z14 25)))
  have B1 := hid (((box6_new (w.alloc (.cells #[.int .u8 y0, .int .u8 y1, .int .u8 y2, .int .u8 y3, .int .u8 y4, .int .u8 y5] 23)) 23 (.int .u8 x0) (.int .u8 x1) (.int .u8 x2) (.int .u8 x3) (.int .u8 x4) (.int .u8 x5)).kept ((Kept.refl (fun _ => False) _).alloc (.cells #[.int .i64 code, .int .i64 session, .string data] 67))).kept ((Kept.refl (fun _ => False) _).alloc (.cells Z14 25)))
  have K0 := hid (((((Kept.refl (fun _ => False) w).alloc (.cells #[.int .u8 y0, .int .u8 y1, .int .u8 y2, .int .u8 y3, .int .u8 y4, .int .u8 y5] 23)).alloc (.cells #[.int .u8 x0, .int .u8 x1, .int .u8 x2, .int .u8 x3, .int .u8 x4, .int .u8 x5] 23)).alloc (.cells #[.int .i64 code, .int .i64 session, .string data] 67)).alloc (.cells Z14 25))
  rw [show (w.alloc (.cells #[.int .u8 y0, .int .u8 y1, .int .u8 y2, .int .u8 y3, .int .u8 y4, .int .u8 y5] 23)).heap.size = w.heap.size + 1 from by simp] at B1
  go_enter Tryd.func45, Tryd.ntmps45
  go_wp2_with fail
  refine (HP.out _).mono ?_
  rintro e w1 ⟨rfl, hb1⟩
  have O1 := O0.out.kept (kept_of hb1)
  have K1 := hid (K0.out.trans (kept_of hb1))
  obtain ⟨d0, d1, d2, d3, d4, d5⟩ := B0.out.kept (kept_of hb1)
  obtain ⟨e0, e1, e2, e3, e4, e5⟩ := B1.out.kept (kept_of hb1)
  have hc := fun j => cell_of_row w1 (w.heap.size + 1 + 1 + 1) j _ _ _ (by simpa [Own14] using O1)
  have hf := fun j => frozen_of_row w1 (w.heap.size + 1 + 1 + 1) j _ _ (by simpa [Own14] using O1)
  have c0 := hc 0
  have c1 := hc 1
  have c2 := hc 2
  have c3 := hc 3
  have c4 := hc 4
  have c5 := hc 5
  have c6 := hc 6
  have c7 := hc 7
  have c8 := hc 8
  have c9 := hc 9
  have c10 := hc 10
  have c11 := hc 11
  have c12 := hc 12
  have c13 := hc 13
  clear hb1 O1 O0 K0 B0 B1 HP hc
  simp only [List.getElem?_toArray, List.getElem?_cons_zero, List.getElem?_cons_succ] at c0 c1 c2 c3 c4 c5 c6 c7 c8 c9 c10 c11 c12 c13
  go_wp2
  refine bodyPost_ret (v := .tuple #[.agg #[.int .u8 y0, .int .u8 y1, .int .u8 y2, .int .u8 y3, .int .u8 y4, .int .u8 y5, .int .u8 x0, .int .u8 x1, .int .u8 x2, .int .u8 x3, .int .u8 x4, .int .u8 x5, .int .i64 kind, .string ⟨D.toArray⟩], .int .i64 0]) (by simp [results, Tryd.results45, go_sem, c0, c1, c2, c3, c4, c5, c6, c7, c8, c9, c10, c11, c12, c13]) rfl ⟨rfl, ?_⟩
  repeat (refine Kept.setCell ?_ (Or.inl (by simp only []; omega)) _)
  exact K1.out

/-- 'frame(to, from, kind, d)'. -/
theorem frame_any (to src : List UInt8) (hto : to.length = 6) (hsrc : src.length = 6) (kind code session : Int) (data : ByteArray) (hd : data.size ≤ 140737488351232) (w : World) :
    Calls Tryd.prog 45 #[.agg (Lib.byteCells to).toArray, .agg (Lib.byteCells src).toArray, .int .i64 kind, .agg #[.int .i64 code, .int .i64 session, .string data]] w
      fun e w' => e = .returned (.tuple #[frV (etFrame to src kind code session data.data.toList).1, .int .i64 (etFrame to src kind code session data.data.toList).2]) ∧ Kept (fun _ => False) w w' := by
  unfold etFrame
  by_cases he : (putDiscF code session data.data.toList).2 = 0
  · rw [if_pos he]
    exact frame_yes to src hto hsrc kind code session data hd he w
  · rw [if_neg he, frV_zero]
    exact frame_no to src hto hsrc kind code session data hd he w
end Go.Proofs.YtgaamehjdoakhaaDoor

/- The contract of ether.Disc: a frame of discovery, or none. -/
namespace Go.Proofs.YtgaamehjdoakhaaDoor
open Go.RowKit

set_option maxHeartbeats 2000000 in
set_option maxRecDepth 100000 in
theorem disc_any (to src : List UInt8) (hto : to.length = 6) (hsrc : src.length = 6) (code session : Int) (v : Value) (l : List Tg) (w : World) (hv : TagsAt w v l) (hsz : ∀ x ∈ l, x.value.size ≤ 140737488351232) :
    Calls Tryd.prog 28 #[.agg (Lib.byteCells to).toArray, .agg (Lib.byteCells src).toArray, .int .i64 code, .int .i64 session, v] w
      fun e w' => ∃ u, e = .returned u ∧ OwnE w' w.heap.size u (etDisc to src code session l) ∧ Kept (fun _ => False) w w' := by
  have HP := hid (fun W (hk : Kept (fun _ => False) w W) => putTags_any v l W (hv.kept0 hk) hsz)
  have hpl : (putTagsF l).1.length ≤ 140737488351232 := by
    unfold putTagsF
    split
    · simp
    · split
      · simp
      · split
        · simp
        · rw [bytesT_length]; omega
  have HF := hid (fun W => frame_any to src hto hsrc 34915 code session ⟨(putTagsF l).1.toArray⟩ (by rw [Lib.size_eq]; exact hpl) W)
  unfold etDisc
  have HFF : Hid (etFrame to src 34915 code session (putTagsF l).1 = etFrame to src 34915 code session (putTagsF l).1) := rfl
  have hfr := hid (fun (he : (etFrame to src 34915 code session (putTagsF l).1).2 = 0) => show (frList (etFrame to src 34915 code session (putTagsF l).1).1).length = 14 from by
    unfold etFrame
    split
    · simp [frList, Lib.byteCells_length, hto, hsrc]
    · simp [frList, frNone, Lib.byteCells])
  obtain ⟨f, hf⟩ : ∃ f, f = etFrame to src 34915 code session (putTagsF l).1 := ⟨_, rfl⟩
  simp only [] at HF
  rw [← hf] at HF hfr ⊢
  have Hform := hid (show ∃ y0 y1 y2 y3 y4 y5 x0 x1 x2 x3 x4 x5 : Int, ∃ k : Int, ∃ d : ByteArray, frList f.1 = [.int .u8 y0, .int .u8 y1, .int .u8 y2, .int .u8 y3, .int .u8 y4, .int .u8 y5, .int .u8 x0, .int .u8 x1, .int .u8 x2, .int .u8 x3, .int .u8 x4, .int .u8 x5, .int .i64 k, .string d] from by
    rw [hf]
    unfold etFrame
    split
    · obtain ⟨y0, y1, y2, y3, y4, y5, hy⟩ := six_cells hto
      obtain ⟨x0, x1, x2, x3, x4, x5, hx⟩ := six_cells hsrc
      exact ⟨y0, y1, y2, y3, y4, y5, x0, x1, x2, x3, x4, x5, _, _, by simp only [frList]; rw [hx, hy]; rfl⟩
    · exact ⟨0, 0, 0, 0, 0, 0, 0, 0, 0, 0, 0, 0, _, _, rfl⟩)
  obtain ⟨z0, z1, z2, z3, z4, z5, hz⟩ := six_cells hto
  obtain ⟨t0, t1, t2, t3, t4, t5, ht⟩ := six_cells hsrc
  rw [hz, ht] at HF ⊢
  generalize (putTagsF l).2 = E at *
  generalize (putTagsF l).1 = D at *
  generalize f.2 = E2 at *
  obtain ⟨y0, y1, y2, y3, y4, y5, x0, x1, x2, x3, x4, x5, k, d, hform⟩ := Hform.out
  have hfv : frV f.1 = .agg #[.int .u8 y0, .int .u8 y1, .int .u8 y2, .int .u8 y3, .int .u8 y4, .int .u8 y5, .int .u8 x0, .int .u8 x1, .int .u8 x2, .int .u8 x3, .int .u8 x4, .int .u8 x5, .int .i64 k, .string d] := by unfold frV; rw [hform]
  rw [hfv] at HF
  have HO := hid (fun W (hb : w.heap.size ≤ W.heap.size) (he : E2 = 0) => own_frame W w.heap.size hb f.1 (hfr.out he))
  rw [hform] at HO
  clear hfr hfv hform Hform hf hpl HFF hv hsz hto hsrc hz ht
  have K0 := hid (((Kept.refl (fun _ => False) w).alloc (.cells #[.int .u8 z0, .int .u8 z1, .int .u8 z2, .int .u8 z3, .int .u8 z4, .int .u8 z5] 23)).alloc (.cells #[.int .u8 t0, .int .u8 t1, .int .u8 t2, .int .u8 t3, .int .u8 t4, .int .u8 t5] 23))
  have B0 := hid ((box6_new w 23 (.int .u8 z0) (.int .u8 z1) (.int .u8 z2) (.int .u8 z3) (.int .u8 z4) (.int .u8 z5)).kept ((Kept.refl (fun _ => False) _).alloc (.cells #[.int .u8 t0, .int .u8 t1, .int .u8 t2, .int .u8 t3, .int .u8 t4, .int .u8 t5] 23)))
  have B1 := hid (box6_new (w.alloc (.cells #[.int .u8 z0, .int .u8 z1, .int .u8 z2, .int .u8 z3, .int .u8 z4, .int .u8 z5] 23)) 23 (.int .u8 t0) (.int .u8 t1) (.int .u8 t2) (.int .u8 t3) (.int .u8 t4) (.int .u8 t5))
  rw [show (w.alloc (.cells #[.int .u8 z0, .int .u8 z1, .int .u8 z2, .int .u8 z3, .int .u8 z4, .int .u8 z5] 23)).heap.size = w.heap.size + 1 from by simp] at B1
  by_cases hE : E = 0
  · subst hE
    rw [if_pos rfl]
    by_cases hE2 : E2 = 0
    · subst hE2
      rw [if_pos rfl]
      go_enter Tryd.func28, Tryd.ntmps28
      go_wp2_with fail
      refine (HP.out _ K0.out).mono ?_
      rintro e w1 ⟨rfl, hk1⟩
      obtain ⟨b0, b1, b2, b3, b4, b5⟩ := B0.out.kept hk1
      obtain ⟨f0, f1, f2, f3, f4, f5⟩ := B1.out.kept hk1
      have K1 := hid (K0.out.trans hk1)
      clear hk1 K0 B0 B1
      go_wp2_with fail
      refine (HF.out _).mono ?_
      rintro e w2 ⟨rfl, hk2⟩
      have K2 := hid (K1.out.trans hk2)
      clear hk2 K1 b0 b1 b2 b3 b4 b5 f0 f1 f2 f3 f4 f5
      go_wp2
      go_ret
      have h := HO.out (w2.alloc (.cells #[.int .u8 y0, .int .u8 y1, .int .u8 y2, .int .u8 y3, .int .u8 y4, .int .u8 y5, .int .u8 x0, .int .u8 x1, .int .u8 x2, .int .u8 x3, .int .u8 x4, .int .u8 x5, .int .i64 k, .string d] 25)) (by simp; exact Nat.le_succ_of_le K2.out.size) (by trivial)
      rw [show (w2.alloc (.cells #[.int .u8 y0, .int .u8 y1, .int .u8 y2, .int .u8 y3, .int .u8 y4, .int .u8 y5, .int .u8 x0, .int .u8 x1, .int .u8 x2, .int .u8 x3, .int .u8 x4, .int .u8 x5, .int .i64 k, .string d] 25)).heap.size = w2.heap.size + 1 from by simp] at h
      exact ⟨_, rfl, h, (K2.out.alloc _).alloc _⟩
    · rw [if_neg hE2]
      have hne : (E2 != 0) = true := by simpa using hE2
      go_enter Tryd.func28, Tryd.ntmps28
      go_wp2_with fail
      refine (HP.out _ K0.out).mono ?_
      rintro e w1 ⟨rfl, hk1⟩
      obtain ⟨b0, b1, b2, b3, b4, b5⟩ := B0.out.kept hk1
      obtain ⟨f0, f1, f2, f3, f4, f5⟩ := B1.out.kept hk1
      have K1 := hid (K0.out.trans hk1)
      clear hk1 K0 B0 B1
      go_wp2_with fail
      refine (HF.out _).mono ?_
      rintro e w2 ⟨rfl, hk2⟩
      have K2 := hid (K1.out.trans hk2)
      clear hk2 K1 b0 b1 b2 b3 b4 b5 f0 f1 f2 f3 f4 f5
      go_wp2
      go_ret
      exact ⟨_, rfl, OwnE.nil _ _, K2.out.alloc _⟩
  · rw [if_neg hE]
    have hne : (E != 0) = true := by simpa using hE
    go_enter Tryd.func28, Tryd.ntmps28
    go_wp2_with fail
    refine (HP.out _ K0.out).mono ?_
    rintro e w1 ⟨rfl, hk1⟩
    have K1 := hid (K0.out.trans hk1)
    clear hk1 K0 B0 B1
    go_wp2
    go_ret
    exact ⟨_, rfl, OwnE.nil _ _, K1.out⟩
end Go.Proofs.YtgaamehjdoakhaaDoor

/- ether.Everyone. -/
namespace Go.Proofs.YtgaamehjdoakhaaDoor
open Go.RowKit

set_option maxRecDepth 100000 in
theorem everyone_any (w : World) : Calls Tryd.prog 30 #[] w fun e w' => e = .returned (.agg #[.int .u8 255, .int .u8 255, .int .u8 255, .int .u8 255, .int .u8 255, .int .u8 255]) ∧ Kept (fun _ => False) w w' := by
  go_enter Tryd.func30, Tryd.ntmps30
  go_wp2
  refine bodyPost_ret (v := .agg #[.int .u8 255, .int .u8 255, .int .u8 255, .int .u8 255, .int .u8 255, .int .u8 255]) (by simp [results, Tryd.results30, go_sem]) rfl ⟨rfl, ?_⟩
  repeat (refine Kept.setCell ?_ (Or.inl (by simp)) _)
  exact (Kept.refl _ w).alloc _
end Go.Proofs.YtgaamehjdoakhaaDoor

/- The contracts of ether.GetDisc and ether.GetSession: what is read of a frame, whatever it is. -/
namespace Go.Proofs.YtgaamehjdoakhaaDoor
open Go.RowKit

/-- What GetDisc tells. -/
def getE (f : Fr) : Dc × List Tg × Bool :=
  if f.type ≠ 34915 then (⟨0, 0, []⟩, [], false) else if (getDiscF f.data.data.toList).2 ≠ 0 then (⟨0, 0, []⟩, [], false) else if (tagsOn (getDiscF f.data.data.toList).1.data []).2 ≠ 0 then (⟨0, 0, []⟩, [], false) else ((getDiscF f.data.data.toList).1, (tagsOn (getDiscF f.data.data.toList).1.data []).1, true)
/-- What GetSession tells. -/
def getS (f : Fr) : Int × ByteArray × Bool :=
  if f.type ≠ 34916 then (0, ⟨#[]⟩, false) else if (getDiscF f.data.data.toList).2 ≠ 0 ∨ (getDiscF f.data.data.toList).1.code ≠ 0 then (0, ⟨#[]⟩, false) else (((getDiscF f.data.data.toList).1.session : Int), ⟨(getDiscF f.data.data.toList).1.data.toArray⟩, true)

theorem OwnT.keptAt {S : Nat → Prop} {w w' : World} {base : Nat} {v : Value} {l : List Tg} (h : OwnT w base v l) (hk : Kept S w w') (hS : ∀ i, base ≤ i → ¬ S i) : OwnT w' base v l := by
  rcases h.2 with ⟨rfl, h0⟩ | ⟨g, cap, cur, rfl, hb, hg, h1, h2, h3, h4⟩
  · exact ⟨h.1, Or.inl ⟨rfl, h0⟩⟩
  · exact ⟨h.1, Or.inr ⟨g, cap, cur, rfl, hb, (hk.block g (Array.getElem?_eq_some_iff.1 hg).1 (hS g hb)).trans hg, h1, h2, h3, h4⟩⟩

theorem getDisc_size (l : List UInt8) : (getDiscF l).1.data.length ≤ l.length := by
  unfold getDiscF
  split
  · simp
  · split
    · simp
    · split
      · simp
      · split
        · simp
        · show ((l.drop 6).take _).length ≤ _
          rw [List.length_take, List.length_drop]
          omega

set_option maxHeartbeats 4000000 in
set_option maxRecDepth 100000 in
theorem getE_any (f : Fr) (hdst : f.dst.length = 6) (hsrc : f.src.length = 6) (hsz : f.data.size ≤ 1000000) (w : World) :
    Calls Tryd.prog 29 #[frV f] w fun e w' => ∃ p cap, e = .returned (.tuple #[discV (getE f).1, .slice p (getE f).2.1.length cap, .bool (getE f).2.2]) ∧ OwnT w' w.heap.size (.slice p (getE f).2.1.length cap) (getE f).2.1 ∧ Kept (fun _ => False) w w' := by
  obtain ⟨dst, src, ty, x⟩ := f
  simp only [] at hdst hsrc hsz
  obtain ⟨d0, d1, d2, d3, d4, d5, hd⟩ := six_cells hdst
  obtain ⟨s0, s1, s2, s3, s4, s5, hs⟩ := six_cells hsrc
  have hfv : frV ⟨dst, src, ty, x⟩ = .agg #[.int .u8 d0, .int .u8 d1, .int .u8 d2, .int .u8 d3, .int .u8 d4, .int .u8 d5, .int .u8 s0, .int .u8 s1, .int .u8 s2, .int .u8 s3, .int .u8 s4, .int .u8 s5, .int .i64 ty, .string x] := by unfold frV frList; simp only []; rw [hd, hs]; rfl
  rw [hfv]
  have hl := getDisc_size x.data.toList
  rw [← Lib.size_eq] at hl
  have HG := hid (fun W => getDisc_any x (by omega) W)
  have HT := hid (fun W => getTags_any ⟨(getDiscF x.data.toList).1.data.toArray⟩ (by rw [Lib.size_eq]; show (getDiscF x.data.toList).1.data.length ≤ _; omega) W)
  change Hid (∀ W, Calls Tryd.prog 46 #[.string ⟨(getDiscF x.data.toList).1.data.toArray⟩] W fun e w' => ∃ v, e = .returned (.tuple #[v, .int .i64 (tagsOn (getDiscF x.data.toList).1.data []).2]) ∧ OwnT w' W.heap.size v (tagsOn (getDiscF x.data.toList).1.data []).1 ∧ Kept (fun _ => False) W w') at HT
  unfold getE
  simp only []
  generalize (tagsOn (getDiscF x.data.toList).1.data []).1 = l at *
  generalize (tagsOn (getDiscF x.data.toList).1.data []).2 = E2 at *
  generalize (getDiscF x.data.toList).1 = d at *
  generalize (getDiscF x.data.toList).2 = E1 at *
  unfold discV at HG
  obtain ⟨w1, hw1⟩ : ∃ w1, w1 = (w.alloc (.cells #[.int .u8 d0, .int .u8 d1, .int .u8 d2, .int .u8 d3, .int .u8 d4, .int .u8 d5, .int .u8 s0, .int .u8 s1, .int .u8 s2, .int .u8 s3, .int .u8 s4, .int .u8 s5, .int .i64 ty, .string x] 25)).alloc (.cells #[.int .i64 0, .int .i64 0, .string ⟨#[]⟩] 67) := ⟨_, rfl⟩
  have Hw1 := hid hw1
  have k1 : Kept (fun _ => False) w w1 := by rw [hw1]; exact ((Kept.refl _ w).alloc _).alloc _
  have hB1 : w1.heap[w.heap.size]? = some (.cells #[.int .u8 d0, .int .u8 d1, .int .u8 d2, .int .u8 d3, .int .u8 d4, .int .u8 d5, .int .u8 s0, .int .u8 s1, .int .u8 s2, .int .u8 s3, .int .u8 s4, .int .u8 s5, .int .i64 ty, .string x] 25 (0, 0)) := by rw [hw1]; exact (((Kept.refl (fun _ => False) (w.alloc (.cells #[.int .u8 d0, .int .u8 d1, .int .u8 d2, .int .u8 d3, .int .u8 d4, .int .u8 d5, .int .u8 s0, .int .u8 s1, .int .u8 s2, .int .u8 s3, .int .u8 s4, .int .u8 s5, .int .i64 ty, .string x] 25))).alloc (.cells #[.int .i64 0, .int .i64 0, .string ⟨#[]⟩] 67)).block w.heap.size (by simp) id).trans (heap_alloc_new w _)
  have hO1 : Own3 w1 (w.heap.size + 1) (.int .i64 0) (.int .i64 0) (.string ⟨#[]⟩) := by
    have h := own3_new (w.alloc (.cells #[.int .u8 d0, .int .u8 d1, .int .u8 d2, .int .u8 d3, .int .u8 d4, .int .u8 d5, .int .u8 s0, .int .u8 s1, .int .u8 s2, .int .u8 s3, .int .u8 s4, .int .u8 s5, .int .i64 ty, .string x] 25)) 67 (.int .i64 0) (.int .i64 0) (.string ⟨#[]⟩)
    rw [show (w.alloc (.cells #[.int .u8 d0, .int .u8 d1, .int .u8 d2, .int .u8 d3, .int .u8 d4, .int .u8 d5, .int .u8 s0, .int .u8 s1, .int .u8 s2, .int .u8 s3, .int .u8 s4, .int .u8 s5, .int .i64 ty, .string x] 25)).heap.size = w.heap.size + 1 from by simp] at h
    rw [hw1]
    exact h
  have HW1s : Hid (w.heap.size + 1 < w1.heap.size) := lt_of_cell hO1.1.1
  have K1 := hid k1
  have O1 := hid hO1
  have p12 : w1.cell? ⟨w.heap.size, 12, none⟩ = some (.int .i64 ty) := cell_of_row w1 _ 12 _ _ _ hB1
  have p13 : w1.cell? ⟨w.heap.size, 13, none⟩ = some (.string x) := cell_of_row w1 _ 13 _ _ _ hB1
  rw [hw1] at p12 p13
  clear hw1 k1 hB1 hfv hd hs hl
  by_cases hty : ty = 34915
  · subst hty
    rw [if_neg (by simp)]
    by_cases h1 : E1 = 0
    · subst h1
      rw [if_neg (by simp)]
      clear hO1
      by_cases h2 : E2 = 0
      · subst h2
        rw [if_neg (by simp)]
        go_enter Tryd.func29, Tryd.ntmps29
        go_wp2_with fail
        rw [← Hw1.out]
        refine (HG.out _).mono ?_
        rintro e w2 ⟨rfl, hk2⟩
        obtain ⟨w3, hw3⟩ : ∃ w3, w3 = w2.alloc (.cells #[.int .i64 (d.code : Int), .int .i64 (d.session : Int), .string ⟨d.data.toArray⟩] 67) := ⟨_, rfl⟩
        have Hw3 := hid hw3
        have k13 : Kept (fun _ => False) w1 w3 := by rw [hw3]; exact hk2.alloc _
        have HW13 := hid k13.size
        have b3 : Box3 w3 w2.heap.size (.int .i64 (d.code : Int)) (.int .i64 (d.session : Int)) (.string ⟨d.data.toArray⟩) := by rw [hw3]; exact box3_new w2 _ _ _ _
        have HW3s : Hid (w2.heap.size < w3.heap.size) := by rw [hw3]; show _ < _; simp
        have HW2s := hid (Nat.le_trans K1.out.size hk2.size)
        clear hw3 hk2 p12 p13
        have e2 := b3.2.2
        rw [Hw3.out] at e2
        go_wp2_with fail
        rw [← Hw3.out]
        refine (HT.out _).mono ?_
        rintro e w4 ⟨v4, rfl, ho4, hk4⟩
        have k14 : Kept (fun _ => False) w1 w4 := k13.trans hk4
        clear e2
        obtain ⟨p4, cp4, rfl⟩ := slice_of ho4
        obtain ⟨⟨c0, c1, c2⟩, f0⟩ := O1.out.kept k14
        obtain ⟨z0, z1, z2⟩ : Box3 w4 w2.heap.size (.int .i64 (d.code : Int)) (.int .i64 (d.session : Int)) (.string ⟨d.data.toArray⟩) := b3.carry (below_of hk4) HW3s.out
        have HO4 := hid ho4
        have K4 := hid (K1.out.trans k14)
        have hws : w1.heap.size ≤ w3.heap.size := HW13.out
        clear ho4 hk4 k14 b3 k13
        go_wp2
        refine bodyPost_ret (v := .tuple #[.agg #[.int .i64 (d.code : Int), .int .i64 (d.session : Int), .string ⟨d.data.toArray⟩], .slice p4 l.length cp4, .bool true]) (by simp [results, Tryd.results29, go_sem, c0, c1, c2]) rfl ⟨p4, cp4, rfl, ?_, ?_⟩
        · refine OwnT.mono (HO4.out.keptAt ((((Kept.refl (fun i => i = w.heap.size + 1) w4).setCell (p := ⟨w.heap.size + 1, 0, none⟩) (Or.inr (by rfl)) _).setCell (p := ⟨w.heap.size + 1, 1, none⟩) (Or.inr (by rfl)) _).setCell (p := ⟨w.heap.size + 1, 2, none⟩) (Or.inr (by rfl)) _) (fun i hi e => by have h9 := HW1s.out; omega)) (Nat.le_trans K1.out.size hws)
        · repeat (refine Kept.setCell ?_ (Or.inl (by simp only []; omega)) _)
          exact K4.out
      · rw [if_pos h2]
        have n2 : (E2 != 0) = true := by simpa using h2
        go_enter Tryd.func29, Tryd.ntmps29
        go_wp2_with fail
        rw [← Hw1.out]
        refine (HG.out _).mono ?_
        rintro e w2 ⟨rfl, hk2⟩
        obtain ⟨w3, hw3⟩ : ∃ w3, w3 = w2.alloc (.cells #[.int .i64 (d.code : Int), .int .i64 (d.session : Int), .string ⟨d.data.toArray⟩] 67) := ⟨_, rfl⟩
        have Hw3 := hid hw3
        have k13 : Kept (fun _ => False) w1 w3 := by rw [hw3]; exact hk2.alloc _
        have HW13 := hid k13.size
        have b3 : Box3 w3 w2.heap.size (.int .i64 (d.code : Int)) (.int .i64 (d.session : Int)) (.string ⟨d.data.toArray⟩) := by rw [hw3]; exact box3_new w2 _ _ _ _
        have HW3s : Hid (w2.heap.size < w3.heap.size) := by rw [hw3]; show _ < _; simp
        have HW2s := hid (Nat.le_trans K1.out.size hk2.size)
        clear hw3 hk2 p12 p13
        have e2 := b3.2.2
        rw [Hw3.out] at e2
        go_wp2_with fail
        rw [← Hw3.out]
        refine (HT.out _).mono ?_
        rintro e w4 ⟨v4, rfl, ho4, hk4⟩
        have k14 : Kept (fun _ => False) w1 w4 := k13.trans hk4
        clear e2
        obtain ⟨p4, cp4, rfl⟩ := slice_of ho4
        obtain ⟨⟨c0, c1, c2⟩, f0⟩ := O1.out.kept k14
        have K4 := hid (K1.out.trans k14)
        clear ho4 hk4 k14 b3 k13
        go_wp2
        refine bodyPost_ret (v := .tuple #[.agg #[.int .i64 0, .int .i64 0, .string ⟨#[]⟩], .slice none 0 0, .bool false]) (by simp [results, Tryd.results29, go_sem, c0, c1, c2]) rfl ⟨none, 0, rfl, OwnT.nil _ _, ?_⟩
        repeat (refine Kept.setCell ?_ (Or.inl (by simp only []; omega)) _)
        exact K4.out
    · rw [if_pos h1]
      have n1 : (E1 != 0) = true := by simpa using h1
      clear hO1
      go_enter Tryd.func29, Tryd.ntmps29
      go_wp2_with fail
      rw [← Hw1.out]
      refine (HG.out _).mono ?_
      rintro e w2 ⟨rfl, hk2⟩
      obtain ⟨w3, hw3⟩ : ∃ w3, w3 = w2.alloc (.cells #[.int .i64 (d.code : Int), .int .i64 (d.session : Int), .string ⟨d.data.toArray⟩] 67) := ⟨_, rfl⟩
      have Hw3 := hid hw3
      have k13 : Kept (fun _ => False) w1 w3 := by rw [hw3]; exact hk2.alloc _
      have HW13 := hid k13.size
      have b3 : Box3 w3 w2.heap.size (.int .i64 (d.code : Int)) (.int .i64 (d.session : Int)) (.string ⟨d.data.toArray⟩) := by rw [hw3]; exact box3_new w2 _ _ _ _
      have HW3s : Hid (w2.heap.size < w3.heap.size) := by rw [hw3]; show _ < _; simp
      have HW2s := hid (Nat.le_trans K1.out.size hk2.size)
      clear hw3 hk2 p12 p13
      obtain ⟨⟨c0, c1, c2⟩, f0⟩ := O1.out.kept k13
      have K3 := hid (K1.out.trans k13)
      rw [Hw3.out] at c0 c1 c2 f0
      clear b3 k13
      go_wp2
      refine bodyPost_ret (v := .tuple #[.agg #[.int .i64 0, .int .i64 0, .string ⟨#[]⟩], .slice none 0 0, .bool false]) (by simp [results, Tryd.results29, go_sem, c0, c1, c2]) rfl ⟨none, 0, rfl, OwnT.nil _ _, ?_⟩
      repeat (refine Kept.setCell ?_ (Or.inl (by simp only []; omega)) _)
      have h9 := K3.out
      rw [Hw3.out] at h9
      exact h9
  · rw [if_pos hty]
    have nt : (ty != 34915) = true := by simpa using hty
    obtain ⟨⟨c0, c1, c2⟩, f0⟩ := hO1
    rw [Hw1.out] at c0 c1 c2 f0
    go_enter Tryd.func29, Tryd.ntmps29
    go_wp2
    refine bodyPost_ret (v := .tuple #[.agg #[.int .i64 0, .int .i64 0, .string ⟨#[]⟩], .slice none 0 0, .bool false]) (by simp [results, Tryd.results29, go_sem, c0, c1, c2]) rfl ⟨none, 0, rfl, OwnT.nil _ _, ?_⟩
    exact ((Kept.refl _ w).alloc _).alloc _
end Go.Proofs.YtgaamehjdoakhaaDoor
