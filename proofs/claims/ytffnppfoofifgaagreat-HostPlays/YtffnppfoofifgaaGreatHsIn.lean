/- ether.Everyone. · slices.Clone of frames. · A host in memory: its twenty-one cells and the row of what it asked; and words for one that is under way. · The contracts of the host's small calls: New, isNone, wanted, mark, State. · The contracts of the host's inner ask and padi, and of Start. · The contract of the host's inner padi. · The contracts of the host's Start and Stop. -/
import Derived.Test.YtffnppfoofifgaaGreatEtDisc
import Derived.Deep.Upon
import Derived.Maps.AppendAt
import Derived.Test.YtffnppfoofifgaaGreatHsPlain
import Derived.Lib.SmallJoins
import Derived.Test.YtffnppfoofifgaaGreatTk
import Derived.Test.YtffnppfoofifgaaGreatAcApp
namespace Go.Proofs.YtffnppfoofifgaaGreat
open Go.RowKit

set_option maxRecDepth 100000 in
theorem everyone_any (w : World) : Calls Tryz.prog 114 #[] w fun e w' => e = .returned (.agg #[.int .u8 255, .int .u8 255, .int .u8 255, .int .u8 255, .int .u8 255, .int .u8 255]) ∧ Kept (fun _ => False) w w' := by
  go_enter Tryz.func114, Tryz.ntmps114
  go_wp2
  refine bodyPost_ret (v := .agg #[.int .u8 255, .int .u8 255, .int .u8 255, .int .u8 255, .int .u8 255, .int .u8 255]) (by simp [results, Tryz.results114, go_sem]) rfl ⟨rfl, ?_⟩
  repeat (refine Kept.setCell ?_ (Or.inl (by simp)) _)
  exact (Kept.refl _ w).alloc _
end Go.Proofs.YtffnppfoofifgaaGreat

namespace Go.Proofs.YtffnppfoofifgaaGreat
open Go.RowKit

theorem infoEth : (Tryz.prog.info? 55).map (fun i => (i.zero, i.size, i.bytes)) = some (some (.agg Z14), 14, 40) := by kernel_rfl

theorem info_parts_at {e : TypeId} {z : Value} {k b : Nat} (h : (Tryz.prog.info? e).map (fun i => (i.zero, i.size, i.bytes)) = some (some z, k, b)) : ∃ i, Tryz.prog.info? e = some i ∧ i.zero = some z ∧ i.size = k ∧ i.bytes = b := by
  cases hi : Tryz.prog.info? e with
  | none => rw [hi] at h; cases h
  | some i =>
    rw [hi] at h
    simp only [Option.map_some, Option.some.injEq, Prod.mk.injEq] at h
    exact ⟨i, rfl, h.1, h.2.1, h.2.2⟩

/-- A frame whose cards have six bytes. -/
def Fr6 (f : Fr) : Prop := f.dst.length = 6 ∧ f.src.length = 6
theorem Fr6.len {f : Fr} (h : Fr6 f) : (frList f).length = 14 := by simp [frList, Lib.byteCells_length, h.1, h.2]
theorem frList_one (f : Fr) : ∀ u ∈ frList f, u.oneCell' = true := by
  intro u hu
  simp only [frList, List.mem_append, List.mem_cons, List.not_mem_nil, or_false] at hu
  rcases hu with (hu | hu) | rfl | rfl
  · simp only [Lib.byteCells, List.mem_map] at hu
    obtain ⟨x, _, rfl⟩ := hu
    rfl
  · simp only [Lib.byteCells, List.mem_map] at hu
    obtain ⟨x, _, rfl⟩ := hu
    rfl
  · rfl
  · rfl
theorem rowE_one (l : List Fr) : ∀ u ∈ rowE l, u.oneCell' = true := by
  intro u hu
  simp only [rowE, List.mem_flatMap] at hu
  obtain ⟨f, _, h⟩ := hu
  exact frList_one f u h
theorem etFrame_six {to src : List UInt8} (hto : to.length = 6) (hsrc : src.length = 6) (kind code session : Int) (data : List UInt8) : Fr6 (etFrame to src kind code session data).1 := by
  unfold etFrame
  split
  · exact ⟨hto, hsrc⟩
  · exact ⟨rfl, rfl⟩
theorem etDisc_six {to src : List UInt8} (hto : to.length = 6) (hsrc : src.length = 6) (code session : Int) (tags : List Tg) : ∀ f ∈ etDisc to src code session tags, Fr6 f := by
  intro f hf
  unfold etDisc at hf
  split at hf
  · split at hf
    · simp only [List.mem_cons, List.not_mem_nil, or_false] at hf
      subst hf
      exact etFrame_six hto hsrc _ _ _ _
    · simp at hf
  · simp at hf
theorem rowE_length {l : List Fr} (h : ∀ f ∈ l, Fr6 f) : (rowE l).length = l.length * 14 := by
  induction l with
  | nil => rfl
  | cons f l ih =>
    have e : rowE (f :: l) = frList f ++ rowE l := by simp [rowE]
    rw [e, List.length_append, (h f (by simp)).len, ih (fun g hg => h g (by simp [hg])), List.length_cons]
    omega

/-- The cells of a row of frames. -/
theorem OwnE.cells {w : World} {base g n cap : Nat} {l : List Fr} (h : OwnE w base (.slice (some ⟨g, 0, none⟩) n cap) l) : ∀ j u, (rowE l)[j]? = some u → w.cell? ((⟨g, 0, none⟩ : Addr).add j) = some u := by
  intro j u hj
  rcases h.2 with ⟨h', _⟩ | ⟨g', cap', cur, h', hb, hg, h1, h2, h3, h4⟩
  · simp at h'
  · simp only [Value.slice.injEq, Option.some.injEq, Addr.mk.injEq, and_true] at h'
    obtain ⟨rfl, rfl, rfl⟩ := h'
    rw [← h4] at hj
    rw [addr_add, cell_of_row _ _ j cur _ _ hg]
    rw [List.getElem?_take] at hj
    split at hj
    · simpa using hj
    · cases hj

set_option maxHeartbeats 1000000 in
set_option maxRecDepth 100000 in
theorem cloneE_any (v : Value) (l : List Fr) (base : Nat) (w : World) (h : OwnE w base v l) (hl : l.length ≤ 1000) :
    Calls Tryz.prog 30 #[v] w fun e w' => ∃ u, e = .returned u ∧ OwnE w' w.heap.size u l ∧ Kept (fun _ => False) w w' := by
  rcases id h.2 with ⟨rfl, h0⟩ | ⟨g, cap, cur, rfl, hb, hg, h1, h2, h3, h4⟩
  · have hE : ∀ W : World, Sem.run Tryz.prog (binOp .eql 58 (.slice none 0 0) (.slice none 0 0)) W = .ok (.bool true) W := fun W => by kernel_rfl
    have hnil : l = [] := List.length_eq_zero_iff.1 h0
    subst hnil
    go_enter Tryz.func30, Tryz.ntmps30
    go_wp2
    go_ret
    exact ⟨_, rfl, OwnE.nil _ _, Kept.refl _ _⟩
  · obtain ⟨i0, hi0, hz0, hz1, hz2⟩ := info_parts_at infoEth
    have hE : ∀ W : World, Sem.run Tryz.prog (binOp .eql 58 (.slice (some ⟨g, 0, none⟩) l.length cap) (.slice none 0 0)) W = .ok (.bool false) W := fun W => by kernel_rfl
    have hlen : (rowE l).length = l.length * 14 := h.1
    have h' : OwnE (w.alloc (.cells #[] 55)) base (.slice (some ⟨g, 0, none⟩) l.length cap) l := h.kept ((Kept.refl _ w).alloc _)
    have ho : (w.alloc (.cells #[] 55)).ownsRow w.heap.size 55 14 (.slice (some ⟨w.heap.size, 0, none⟩) 0 0) 0 [] :=
      ⟨rfl, Or.inr ⟨w.heap.size, 0, #[], rfl, Nat.le_refl _, heap_alloc_new w _, Nat.le_refl _, Nat.zero_le _, rfl, rfl⟩⟩
    have Hc := hid h'.cells
    have Ho := hid ho
    clear ho h' h hg h4
    go_enter Tryz.func30, Tryz.ntmps30
    go_wp2_with (at_builtin; refine wpList_append_own _ rfl _ _ 58 rfl w.heap.size 55 i0 (.agg Z14) 14 40 Tryz.underlying58 hi0 hz0 hz1 hz2 rfl (by decide) _ 0 [] rfl Ho.out ⟨g, 0, none⟩ l.length cap (rowE l) rfl hlen ?c1 ?c2 ?c3 ?c4 ?c5 ?_)
    case c1 => exact Hc.out
    case c2 => exact rowE_one l
    case c3 => unfold maxLen; omega
    case c4 => omega
    case c5 => simp
    intro v' w' ho' hgr _
    have K := hid (((Kept.refl (fun _ => False) w).alloc (.cells #[] 55)).grown hgr (fun j hj => by
      simp only [Value.ownBlock, Option.some.injEq] at hj
      left
      omega))
    have HO := hid ho'
    clear ho' hgr
    go_wp2
    go_ret
    exact ⟨_, rfl, HO.out, K.out⟩

end Go.Proofs.YtffnppfoofifgaaGreat

namespace Go.Proofs.YtffnppfoofifgaaGreat
open Go.RowKit

def hostList (h : Hs) (av : Value) : List Value := Lib.byteCells h.mac ++ [.string h.service, .string h.uniq, .int .i64 (h.retry : Int), .int .i64 (h.wait : Int), .int .i64 h.state] ++ Lib.byteCells h.conc ++ [.int .i64 h.session, av, .int .i64 (h.again : Int), .int .i64 (h.ticks : Int)]

structure HostIn (w : World) (b : Nat) (av : Value) (h : Hs) : Prop where
  blk : w.heap[b]? = some (.cells (hostList h av).toArray 73 (0, 0))
  own : OwnE w 0 av h.asked

/-- The blocks of a host. -/
def ofHost (b : Nat) (av : Value) (i : Nat) : Prop := i = b ∨ av.ownBlock = some i

section
variable {w w' : World} {b : Nat} {av : Value} {h' : Hs}
theorem OwnE.same {l : List Fr} {base : Nat} (h : OwnE w base av l) (hb : ∀ i, av.ownBlock = some i → w'.heap[i]? = w.heap[i]?) : OwnE w' base av l := by
  rcases h.2 with ⟨rfl, h0⟩ | ⟨g, cap, cur, rfl, hb', hg, h1, h2, h3, h4⟩
  · exact ⟨h.1, Or.inl ⟨rfl, h0⟩⟩
  · exact ⟨h.1, Or.inr ⟨g, cap, cur, rfl, hb', (hb g rfl).trans hg, h1, h2, h3, h4⟩⟩
theorem OwnE.block {l : List Fr} {base i : Nat} (h : OwnE w base av l) (hi : av.ownBlock = some i) : (∃ cur, w.heap[i]? = some (.cells cur 55 (0, 0))) ∧ base ≤ i := by
  rcases h.2 with ⟨rfl, h0⟩ | ⟨g, cap, cur, rfl, hb', hg, h1, h2, h3, h4⟩
  · cases hi
  · have : g = i := by simpa [Value.ownBlock] using hi
    subst this
    exact ⟨⟨cur, hg⟩, hb'⟩
theorem HostIn.ng (h : HostIn w b av h') : av.ownBlock ≠ some b := fun e => by
  obtain ⟨⟨cur, h1⟩, _⟩ := h.own.block e
  rw [h.blk] at h1
  simp at h1
theorem HostIn.lt (h : HostIn w b av h') {i : Nat} (hi : ofHost b av i) : i < w.heap.size := by
  rcases hi with rfl | hi
  · exact (Array.getElem?_eq_some_iff.1 h.blk).1
  · obtain ⟨⟨cur, h1⟩, _⟩ := h.own.block hi
    exact (Array.getElem?_eq_some_iff.1 h1).1
theorem HostIn.same (h : HostIn w b av h') (hb : ∀ i, ofHost b av i → w'.heap[i]? = w.heap[i]?) : HostIn w' b av h' :=
  ⟨(hb b (Or.inl rfl)).trans h.blk, h.own.same (fun i hi => hb i (Or.inr hi))⟩
theorem HostIn.kept {S : Nat → Prop} (h : HostIn w b av h') (hk : Kept S w w') (hS : ∀ i, ofHost b av i → ¬ S i) : HostIn w' b av h' := h.same (fun i hi => hk.block i (h.lt hi) (hS i hi))
theorem HostIn.kept0 (h : HostIn w b av h') (hk : Kept (fun _ => False) w w') : HostIn w' b av h' := h.kept hk (fun _ _ => id)

/-- The cells, where the cards are written out. -/
structure Cells21 (W : World) (b : Nat) (x0 x1 x2 x3 x4 x5 : Value) (service uniq : ByteArray) (retry wait state : Int) (y0 y1 y2 y3 y4 y5 : Value) (session : Int) (av : Value) (again ticks : Int) : Prop where
  c0 : W.cell? ⟨b, 0, none⟩ = some x0
  c1 : W.cell? ⟨b, 1, none⟩ = some x1
  c2 : W.cell? ⟨b, 2, none⟩ = some x2
  c3 : W.cell? ⟨b, 3, none⟩ = some x3
  c4 : W.cell? ⟨b, 4, none⟩ = some x4
  c5 : W.cell? ⟨b, 5, none⟩ = some x5
  c6 : W.cell? ⟨b, 6, none⟩ = some (.string service)
  c7 : W.cell? ⟨b, 7, none⟩ = some (.string uniq)
  c8 : W.cell? ⟨b, 8, none⟩ = some (.int .i64 retry)
  c9 : W.cell? ⟨b, 9, none⟩ = some (.int .i64 wait)
  c10 : W.cell? ⟨b, 10, none⟩ = some (.int .i64 state)
  c11 : W.cell? ⟨b, 11, none⟩ = some y0
  c12 : W.cell? ⟨b, 12, none⟩ = some y1
  c13 : W.cell? ⟨b, 13, none⟩ = some y2
  c14 : W.cell? ⟨b, 14, none⟩ = some y3
  c15 : W.cell? ⟨b, 15, none⟩ = some y4
  c16 : W.cell? ⟨b, 16, none⟩ = some y5
  c17 : W.cell? ⟨b, 17, none⟩ = some (.int .i64 session)
  c18 : W.cell? ⟨b, 18, none⟩ = some av
  c19 : W.cell? ⟨b, 19, none⟩ = some (.int .i64 again)
  c20 : W.cell? ⟨b, 20, none⟩ = some (.int .i64 ticks)
  f : ∀ i, W.frozen? ⟨b, i, none⟩ = false

theorem HostIn.flat (h : HostIn w b av h') {x0 x1 x2 x3 x4 x5 y0 y1 y2 y3 y4 y5 : Value} (hx : Lib.byteCells h'.mac = [x0, x1, x2, x3, x4, x5]) (hy : Lib.byteCells h'.conc = [y0, y1, y2, y3, y4, y5]) :
    w.heap[b]? = some (.cells #[x0, x1, x2, x3, x4, x5, .string h'.service, .string h'.uniq, .int .i64 (h'.retry : Int), .int .i64 (h'.wait : Int), .int .i64 h'.state, y0, y1, y2, y3, y4, y5, .int .i64 h'.session, av, .int .i64 (h'.again : Int), .int .i64 (h'.ticks : Int)] 73 (0, 0)) := by
  have hb := h.blk
  unfold hostList at hb
  rw [hx, hy] at hb
  exact hb
theorem HostIn.cells (h : HostIn w b av h') {x0 x1 x2 x3 x4 x5 y0 y1 y2 y3 y4 y5 : Value} (hx : Lib.byteCells h'.mac = [x0, x1, x2, x3, x4, x5]) (hy : Lib.byteCells h'.conc = [y0, y1, y2, y3, y4, y5]) :
    Cells21 w b x0 x1 x2 x3 x4 x5 h'.service h'.uniq (h'.retry : Int) (h'.wait : Int) h'.state y0 y1 y2 y3 y4 y5 h'.session av (h'.again : Int) (h'.ticks : Int) := by
  have hb := h.flat hx hy
  have hc : ∀ j, w.cell? ⟨b, j, none⟩ = _ := fun j => cell_of_row w b j _ _ _ hb
  exact ⟨hc 0, hc 1, hc 2, hc 3, hc 4, hc 5, hc 6, hc 7, hc 8, hc 9, hc 10, hc 11, hc 12, hc 13, hc 14, hc 15, hc 16, hc 17, hc 18, hc 19, hc 20, fun i => frozen_of_row w b i _ _ hb⟩

/-- The eleven cells of what hangs on the state, written one behind the other. -/
def setPhase (w : World) (b : Nat) (p0 p1 p2 p3 p4 p5 p6 p7 p8 p9 p10 : Value) : World :=
  ((((((((((w.setCell ⟨b, 10, none⟩ p0).setCell ⟨b, 11, none⟩ p1).setCell ⟨b, 12, none⟩ p2).setCell ⟨b, 13, none⟩ p3).setCell ⟨b, 14, none⟩ p4).setCell ⟨b, 15, none⟩ p5).setCell ⟨b, 16, none⟩ p6).setCell ⟨b, 17, none⟩ p7).setCell ⟨b, 18, none⟩ p8).setCell ⟨b, 19, none⟩ p9).setCell ⟨b, 20, none⟩ p10
theorem setPhase_block {p0 p1 p2 p3 p4 p5 p6 p7 p8 p9 p10 : Value} {x0 x1 x2 x3 x4 x5 x6 x7 x8 x9 o0 o1 o2 o3 o4 o5 o6 o7 o8 o9 o10 : Value} {t : TypeId}
    (hb : w.heap[b]? = some (.cells #[x0, x1, x2, x3, x4, x5, x6, x7, x8, x9, o0, o1, o2, o3, o4, o5, o6, o7, o8, o9, o10] t (0, 0))) :
    (setPhase w b p0 p1 p2 p3 p4 p5 p6 p7 p8 p9 p10).heap[b]? = some (.cells #[x0, x1, x2, x3, x4, x5, x6, x7, x8, x9, p0, p1, p2, p3, p4, p5, p6, p7, p8, p9, p10] t (0, 0)) := by
  have h0 := Joins.block_setCell hb (i := 10) p0
  simp only [List.setIfInBounds_toArray, List.set_cons_succ, List.set_cons_zero] at h0
  have h1 := Joins.block_setCell h0 (i := 11) p1
  simp only [List.setIfInBounds_toArray, List.set_cons_succ, List.set_cons_zero] at h1
  have h2 := Joins.block_setCell h1 (i := 12) p2
  simp only [List.setIfInBounds_toArray, List.set_cons_succ, List.set_cons_zero] at h2
  have h3 := Joins.block_setCell h2 (i := 13) p3
  simp only [List.setIfInBounds_toArray, List.set_cons_succ, List.set_cons_zero] at h3
  have h4 := Joins.block_setCell h3 (i := 14) p4
  simp only [List.setIfInBounds_toArray, List.set_cons_succ, List.set_cons_zero] at h4
  have h5 := Joins.block_setCell h4 (i := 15) p5
  simp only [List.setIfInBounds_toArray, List.set_cons_succ, List.set_cons_zero] at h5
  have h6 := Joins.block_setCell h5 (i := 16) p6
  simp only [List.setIfInBounds_toArray, List.set_cons_succ, List.set_cons_zero] at h6
  have h7 := Joins.block_setCell h6 (i := 17) p7
  simp only [List.setIfInBounds_toArray, List.set_cons_succ, List.set_cons_zero] at h7
  have h8 := Joins.block_setCell h7 (i := 18) p8
  simp only [List.setIfInBounds_toArray, List.set_cons_succ, List.set_cons_zero] at h8
  have h9 := Joins.block_setCell h8 (i := 19) p9
  simp only [List.setIfInBounds_toArray, List.set_cons_succ, List.set_cons_zero] at h9
  have h10 := Joins.block_setCell h9 (i := 20) p10
  simp only [List.setIfInBounds_toArray, List.set_cons_succ, List.set_cons_zero] at h10
  exact h10
theorem setPhase_kept {S : Nat → Prop} {a : World} (h : Kept S a w) (hp : a.heap.size ≤ b ∨ S b) (p0 p1 p2 p3 p4 p5 p6 p7 p8 p9 p10 : Value) : Kept S a (setPhase w b p0 p1 p2 p3 p4 p5 p6 p7 p8 p9 p10) := by
  unfold setPhase
  exact ((((((((((h.setCell (p := ⟨b, 10, none⟩) hp p0).setCell (p := ⟨b, 11, none⟩) hp p1).setCell (p := ⟨b, 12, none⟩) hp p2).setCell (p := ⟨b, 13, none⟩) hp p3).setCell (p := ⟨b, 14, none⟩) hp p4).setCell (p := ⟨b, 15, none⟩) hp p5).setCell (p := ⟨b, 16, none⟩) hp p6).setCell (p := ⟨b, 17, none⟩) hp p7).setCell (p := ⟨b, 18, none⟩) hp p8).setCell (p := ⟨b, 19, none⟩) hp p9).setCell (p := ⟨b, 20, none⟩) hp p10
end

/-- A host at block b, whose blocks are those of S. -/
def HAt (S : Nat → Prop) (w : World) (b : Nat) (h : Hs) : Prop := ∃ av, HostIn w b av h ∧ ∀ i, S i ↔ ofHost b av i

/-- From w to w' the host at b, whose blocks were those of S, came to h; nothing else has turned. -/
def HNext (S : Nat → Prop) (w w' : World) (b : Nat) (h : Hs) : Prop := ∃ S', HAt S' w' b h ∧ (∀ i, S' i → S i ∨ w.heap.size ≤ i) ∧ Kept S w w'

section
variable {S T : Nat → Prop} {w w' w'' : World} {b : Nat} {c c' : Hs}
theorem HAt.lt (h : HAt S w b c) {i : Nat} (hi : S i) : i < w.heap.size := by
  obtain ⟨av, h1, h2⟩ := h
  exact h1.lt ((h2 i).1 hi)
theorem HAt.self (h : HAt S w b c) : S b := by
  obtain ⟨av, h1, h2⟩ := h
  exact (h2 b).2 (Or.inl rfl)
theorem HAt.kept (h : HAt S w b c) (hk : Kept T w w') (hT : ∀ i, S i → ¬ T i) : HAt S w' b c := by
  obtain ⟨av, h1, h2⟩ := h
  exact ⟨av, h1.kept hk (fun i hi => hT i ((h2 i).2 hi)), h2⟩
theorem HAt.kept0 (h : HAt S w b c) (hk : Kept (fun _ => False) w w') : HAt S w' b c := h.kept hk (fun _ _ => id)
theorem HAt.next (h : HAt S w b c) : HNext S w w b c := ⟨S, h, fun _ hi => Or.inl hi, Kept.refl _ _⟩
theorem HNext.step (hn : HNext S w w' b c) (h : ∀ S', HAt S' w' b c → HNext S' w' w'' b c') : HNext S w w'' b c' := by
  obtain ⟨S1, h1, h2, h3⟩ := hn
  obtain ⟨S2, h4, h5, h6⟩ := h S1 h1
  refine ⟨S2, h4, fun i hi => ?_, h3.andThen h6 (fun i hi t => ?_)⟩
  · rcases h5 i hi with h | h
    · exact h2 i h
    · exact Or.inr (Nat.le_trans h3.size h)
  · rcases h2 i t with h | h
    · exact h
    · omega
theorem HNext.still (hn : HNext S w w' b c) (hk : Kept (fun _ => False) w' w'') : HNext S w w'' b c := by
  obtain ⟨S1, h1, h2, h3⟩ := hn
  exact ⟨S1, h1.kept0 hk, h2, h3.andThen hk (fun i hi t => t.elim)⟩
/-- The start is drawn back. -/
theorem HNext.back (hn : HNext S w' w'' b c) (hk : Kept (fun _ => False) w w') : HNext S w w'' b c := by
  obtain ⟨S1, h1, h2, h3⟩ := hn
  exact ⟨S1, h1, fun i hi => (h2 i hi).imp id (fun h => Nat.le_trans hk.size h), (hk.mono (T := S) (fun _ _ h => h.elim)).trans h3⟩
theorem HNext.kept (hn : HNext S w w' b c) : Kept S w w' := by
  obtain ⟨S1, h1, h2, h3⟩ := hn
  exact h3
theorem HAt.iff {S' : Nat → Prop} {c1 c2 : Hs} (h : HAt S w b c1) (h' : HAt S' w b c2) (hc1 : c1.mac.length = 6) (hc2 : c2.mac.length = 6) (hd1 : c1.conc.length = 6) (hd2 : c2.conc.length = 6) : ∀ i, S' i ↔ S i := fun i => by
  obtain ⟨av, q1, q2⟩ := h
  obtain ⟨av', r1, r2⟩ := h'
  obtain ⟨x0, x1, x2, x3, x4, x5, hx⟩ := six_cells hc1
  obtain ⟨y0, y1, y2, y3, y4, y5, hy⟩ := six_cells hd1
  obtain ⟨s0, s1, s2, s3, s4, s5, hs⟩ := six_cells hc2
  obtain ⟨t0, t1, t2, t3, t4, t5, ht⟩ := six_cells hd2
  have e := (q1.cells hx hy).c18.symm.trans (r1.cells hs ht).c18
  obtain rfl : av = av' := Option.some.inj e
  exact (r2 i).trans (q2 i).symm

/-- What a call leaves that answers frames: the host came to c, the frames lie beside it. -/
def HOut (S : Nat → Prop) (w w' : World) (b : Nat) (c : Hs) (v : Value) (l : List Fr) : Prop :=
  OwnE w' w.heap.size v l ∧ ∃ S', HAt S' w' b c ∧ (∀ i, S' i → S i ∨ w.heap.size ≤ i) ∧ Kept S w w' ∧ ∀ i, v.ownBlock = some i → ¬ S' i
theorem HOut.of {v : Value} {l : List Fr} (h : HNext S w w' b c) (hk : Kept (fun _ => False) w' w'') (hv : OwnE w'' w'.heap.size v l) : HOut S w w'' b c v l := by
  obtain ⟨S1, h1, h2, h3⟩ := h
  refine ⟨hv.mono h3.size, S1, h1.kept0 hk, h2, h3.andThen hk (fun i hi t => t.elim), fun i hi hs => ?_⟩
  have q1 := (hv.block hi).2
  have q2 := h1.lt hs
  omega
theorem HOut.nil (h : HNext S w w' b c) : HOut S w w' b c (.slice none 0 0) [] := by
  obtain ⟨S1, h1, h2, h3⟩ := h
  exact ⟨OwnE.nil _ _, S1, h1, h2, h3, fun i hi => by cases hi⟩
theorem HOut.next {v : Value} {l : List Fr} (h : HOut S w w' b c v l) : HNext S w w' b c := by
  obtain ⟨_, S1, h1, h2, h3, _⟩ := h
  exact ⟨S1, h1, h2, h3⟩

/-- A law's own host, made behind w, and the lists of frames that lie beside it; nothing of w has turned. -/
def HSt (w W : World) (b : Nat) (c : Hs) (vs : List (Value × List Fr)) : Prop :=
  ∃ S, HAt S W b c ∧ (∀ i, S i → w.heap.size ≤ i) ∧ Kept (fun _ => False) w W ∧ ∀ p ∈ vs, OwnE W 0 p.1 p.2 ∧ ∀ i, p.1.ownBlock = some i → ¬ S i
theorem HSt.kept {vs : List (Value × List Fr)} (h : HSt w w' b c vs) : Kept (fun _ => False) w w' := by
  obtain ⟨S, h1, h2, h3, h4⟩ := h
  exact h3
theorem HSt.still {vs : List (Value × List Fr)} (h : HSt w w' b c vs) (hk : Kept (fun _ => False) w' w'') : HSt w w'' b c vs := by
  obtain ⟨S, h1, h2, h3, h4⟩ := h
  exact ⟨S, h1.kept0 hk, h2, h3.trans hk, fun p hp => ⟨(h4 p hp).1.kept hk, (h4 p hp).2⟩⟩
theorem HSt.sub {vs us : List (Value × List Fr)} (h : HSt w w' b c vs) (hs : ∀ p ∈ us, p ∈ vs) : HSt w w' b c us := by
  obtain ⟨S, h1, h2, h3, h4⟩ := h
  exact ⟨S, h1, h2, h3, fun p hp => h4 p (hs p hp)⟩
theorem HSt.own {vs : List (Value × List Fr)} (h : HSt w w' b c vs) {v : Value} {l : List Fr} (hp : (v, l) ∈ vs) : OwnE w' 0 v l := by
  obtain ⟨S, h1, h2, h3, h4⟩ := h
  exact (h4 _ hp).1
theorem HSt.from {vs : List (Value × List Fr)} {w0 : World} (h : HSt w w' b c vs) (hk : Kept (fun _ => False) w0 w) : HSt w0 w' b c vs := by
  obtain ⟨S, h1, h2, h3, h4⟩ := h
  exact ⟨S, h1, fun i hi => Nat.le_trans hk.size (h2 i hi), hk.trans h3, h4⟩
/-- A call that answers frames. -/
theorem HSt.call {vs : List (Value × List Fr)} {f : FuncId} {args : Array Value} {l : List Fr} (h : HSt w w' b c vs) (hc : ∀ S, HAt S w' b c → Calls Tryz.prog f args w' fun e w'' => ∃ v, e = .returned v ∧ HOut S w' w'' b c' v l) :
    Calls Tryz.prog f args w' fun e w'' => ∃ p cap, e = .returned (.slice p l.length cap) ∧ HSt w w'' b c' ((.slice p l.length cap, l) :: vs) := by
  obtain ⟨S, h1, h2, h3, h4⟩ := h
  refine (hc S h1).mono ?_
  rintro e w2 ⟨v, rfl, hv, S2, k1, k2, k3, k4⟩
  obtain ⟨p, cap, rfl⟩ := slice_of hv
  refine ⟨p, cap, rfl, S2, k1, fun i hi => ?_, h3.andThen k3 (fun i hi t => absurd (h2 i t) (by omega)), fun q hq => ?_⟩
  · rcases k2 i hi with h | h
    · exact h2 i h
    · exact Nat.le_trans h3.size h
  · rcases List.mem_cons.1 hq with rfl | hq
    · exact ⟨hv.mono (Nat.zero_le _), k4⟩
    · obtain ⟨q1, q2⟩ := h4 q hq
      have hlt : ∀ i, q.1.ownBlock = some i → i < w'.heap.size := fun i hi => by
        obtain ⟨⟨cur, e⟩, _⟩ := q1.block hi
        exact (Array.getElem?_eq_some_iff.1 e).1
      refine ⟨q1.same (fun i hi => k3.block i (hlt i hi) (q2 i hi)), fun i hi hs => ?_⟩
      rcases k2 i hs with h | h
      · exact q2 i hi h
      · have := hlt i hi
        omega
/-- A call that only reads. -/
theorem HSt.read {vs : List (Value × List Fr)} {f : FuncId} {args : Array Value} {r : Ending} (h : HSt w w' b c vs) (hc : ∀ av, HostIn w' b av c → Calls Tryz.prog f args w' fun e w'' => e = r ∧ Kept (fun _ => False) w' w'') :
    Calls Tryz.prog f args w' fun e w'' => e = r ∧ HSt w w'' b c vs := by
  obtain ⟨S, ⟨av, hH, hS⟩, h2, h3, h4⟩ := id h
  refine (hc av hH).mono ?_
  rintro e w2 ⟨rfl, hk⟩
  exact ⟨rfl, h.still hk⟩
end
end Go.Proofs.YtffnppfoofifgaaGreat

namespace Go.Proofs.YtffnppfoofifgaaGreat
open Go.RowKit

set_option maxRecDepth 100000 in
theorem isNone_nil (w : World) : Calls Tryz.prog 24 #[.pointer none] w fun e w' => e = .returned (.bool true) ∧ w' = w := by
  go_enter Tryz.func24, Tryz.ntmps24
  go_wp2
  go_ret
  exact ⟨rfl, rfl⟩

set_option maxRecDepth 100000 in
theorem isNone_some (b : Nat) (n : Int) (hn : n ≠ 0) (w : World) (h : w.cell? ⟨b, 9, none⟩ = some (.int .i64 n)) : Calls Tryz.prog 24 #[.pointer (some ⟨b, 0, none⟩)] w fun e w' => e = .returned (.bool false) ∧ w' = w := by
  have hz : (n == 0) = false := by simpa using hn
  go_enter Tryz.func24, Tryz.ntmps24
  go_wp2
  go_ret
  exact ⟨rfl, rfl⟩

theorem HostIn.notNone {w : World} {b : Nat} {av : Value} {h : Hs} (hH : HostIn w b av h) (hg : GoodH h) : Calls Tryz.prog 24 #[.pointer (some ⟨b, 0, none⟩)] w fun e w' => e = .returned (.bool false) ∧ w' = w := by
  obtain ⟨x0, x1, x2, x3, x4, x5, hx⟩ := six_cells hg.mac
  obtain ⟨y0, y1, y2, y3, y4, y5, hy⟩ := six_cells hg.conc
  exact isNone_some b (h.wait : Int) (by have := hg.wait1; omega) w (hH.cells hx hy).c9

theorem own_one (w : World) (base : Nat) (hb : base ≤ w.heap.size) (t : Int) (v : ByteArray) : OwnT (w.alloc (.cells #[.int .i64 t, .string v] 97)) base (.slice (some ⟨w.heap.size, 0, none⟩) 1 1) [⟨t, v⟩] :=
  ⟨rfl, Or.inr ⟨w.heap.size, 1, #[.int .i64 t, .string v], rfl, hb, heap_alloc_new w _, Nat.le_refl _, by unfold maxLen; omega, rfl, rfl⟩⟩

set_option maxRecDepth 100000 in
theorem wanted_any (b : Nat) (s : ByteArray) (w : World) (h : w.cell? ⟨b, 6, none⟩ = some (.string s)) : Calls Tryz.prog 115 #[.pointer (some ⟨b, 0, none⟩)] w fun e w' => e = .returned (.agg #[.int .i64 257, .string s]) ∧ Kept (fun _ => False) w w' := by
  have hlt := lt_of_cell h
  simp only [] at hlt
  go_enter Tryz.func115, Tryz.ntmps115
  go_wp2
  refine bodyPost_ret (v := .agg #[.int .i64 257, .string s]) (by simp [results, Tryz.results115, go_sem]) rfl ⟨rfl, ?_⟩
  repeat (refine Kept.setCell ?_ (Or.inl (by simp)) _)
  exact (Kept.refl _ w).alloc _

def markT (u : ByteArray) : List Tg := if u.toList.isEmpty then [] else [⟨259, u⟩]
theorem markF_eq (h : Hs) : markF h = markT h.uniq := rfl
set_option maxRecDepth 100000 in
theorem mark_any (b : Nat) (u : ByteArray) (w : World) (h : w.cell? ⟨b, 7, none⟩ = some (.string u)) : Calls Tryz.prog 116 #[.pointer (some ⟨b, 0, none⟩)] w fun e w' => ∃ v, e = .returned v ∧ OwnT w' w.heap.size v (markT u) ∧ Kept (fun _ => False) w w' := by
  unfold markT
  by_cases hu : u.toList = []
  · rw [hu]
    simp only [List.isEmpty_nil, if_true]
    go_enter Tryz.func116, Tryz.ntmps116
    go_wp2
    go_ret
    exact ⟨_, rfl, OwnT.nil _ _, Kept.refl _ _⟩
  · rw [if_neg (by simpa using hu)]
    have hne : u.toList.isEmpty = false := by simpa using hu
    clear hu
    go_enter Tryz.func116, Tryz.ntmps116
    go_wp2
    go_ret
    exact ⟨_, rfl, own_one w w.heap.size (Nat.le_refl _) 259 u, (Kept.refl _ w).alloc _⟩

set_option maxHeartbeats 1000000 in
set_option maxRecDepth 100000 in
theorem newH_ok (m : List UInt8) (hm : m.length = 6) (s u : ByteArray) (hs : s.size ≤ 40) (hu : u.size ≤ 40) (r t : Nat) (hr : r ≤ 10) (h1 : 1 ≤ t) (h2 : t ≤ 100) (w : World) :
    Calls Tryz.prog 5 #[.agg (Lib.byteCells m).toArray, .string s, .string u, .int .i64 (r : Int), .int .i64 (t : Int)] w fun e w' => e = .returned (.tuple #[.pointer (some ⟨w.heap.size + 1, 0, none⟩), .int .i64 0]) ∧ HSt w w' (w.heap.size + 1) (newH m s u r t) [] := by
  obtain ⟨x0, x1, x2, x3, x4, x5, hx⟩ := six_cells hm
  have Hfin : Hid (HSt w ((w.alloc (.cells #[.int .u8 x0, .int .u8 x1, .int .u8 x2, .int .u8 x3, .int .u8 x4, .int .u8 x5] 23)).alloc (.cells #[.int .u8 x0, .int .u8 x1, .int .u8 x2, .int .u8 x3, .int .u8 x4, .int .u8 x5, .string s, .string u, .int .i64 (r : Int), .int .i64 (t : Int), .int .i64 0, .int .u8 0, .int .u8 0, .int .u8 0, .int .u8 0, .int .u8 0, .int .u8 0, .int .i64 0, .slice none 0 0, .int .i64 0, .int .i64 0] 73)) (w.heap.size + 1) (newH m s u r t) []) := by
    refine ⟨ofHost (w.heap.size + 1) (.slice none 0 0), ⟨.slice none 0 0, ⟨?_, OwnE.nil _ _⟩, fun i => Iff.rfl⟩, fun i hi => ?_, ((Kept.refl _ w).alloc _).alloc _, fun p hp => by simp at hp⟩
    · have h := heap_alloc_new (w.alloc (.cells #[.int .u8 x0, .int .u8 x1, .int .u8 x2, .int .u8 x3, .int .u8 x4, .int .u8 x5] 23)) (.cells #[.int .u8 x0, .int .u8 x1, .int .u8 x2, .int .u8 x3, .int .u8 x4, .int .u8 x5, .string s, .string u, .int .i64 (r : Int), .int .i64 (t : Int), .int .i64 0, .int .u8 0, .int .u8 0, .int .u8 0, .int .u8 0, .int .u8 0, .int .u8 0, .int .i64 0, .slice none 0 0, .int .i64 0, .int .i64 0] 73)
      rw [show (w.alloc (.cells #[.int .u8 x0, .int .u8 x1, .int .u8 x2, .int .u8 x3, .int .u8 x4, .int .u8 x5] 23)).heap.size = w.heap.size + 1 from by simp] at h
      unfold hostList newH
      simp only []
      rw [hx]
      exact h
    · rcases hi with hi | hi
      · omega
      · cases hi
  rw [hx]
  have q1 : ¬ (s.size > 40) := by omega
  have q2 : ¬ (u.size > 40) := by omega
  clear hx
  go_enter Tryz.func5, Tryz.ntmps5
  go_wp2
  go_ret2
  exact ⟨rfl, Hfin.out⟩

/-- What State tells. -/
def stateV (h : Hs) : Value := .tuple #[.int .i64 h.state, .agg (Lib.byteCells h.conc).toArray, .int .i64 h.session]
set_option maxHeartbeats 1000000 in
set_option maxRecDepth 100000 in
theorem state_any (b : Nat) (av : Value) (h : Hs) (hg : GoodH h) (w : World) (hH : HostIn w b av h) :
    Calls Tryz.prog 20 #[.pointer (some ⟨b, 0, none⟩)] w fun e w' => e = .returned (stateV h) ∧ Kept (fun _ => False) w w' := by
  obtain ⟨x0, x1, x2, x3, x4, x5, hx⟩ := six_cells hg.mac
  obtain ⟨y0, y1, y2, y3, y4, y5, hy⟩ := six_cells hg.conc
  have hlt : b < w.heap.size := hH.lt (Or.inl rfl)
  have HN := hid (fun W (hk : Kept (fun _ => False) w W) => (hH.kept0 hk).notNone hg)
  have HC := hid (fun W (hk : Kept (fun _ => False) w W) => (hH.kept0 hk).cells hx hy)
  obtain ⟨w1, hw1⟩ : ∃ w1, w1 = w.alloc (.cells #[.int .u8 0, .int .u8 0, .int .u8 0, .int .u8 0, .int .u8 0, .int .u8 0] 23) := ⟨_, rfl⟩
  have Hw1 := hid hw1
  have K1 : Hid (Kept (fun _ => False) w w1) := by rw [hw1]; exact (Kept.refl _ w).alloc _
  have O1 : Hid (w1.heap[w.heap.size]? = some (.cells #[.int .u8 0, .int .u8 0, .int .u8 0, .int .u8 0, .int .u8 0, .int .u8 0] 23 (0, 0))) := by rw [hw1]; exact heap_alloc_new w _
  have HN1 := hid (HN.out w1 K1.out)
  rw [hw1] at HN1
  unfold stateV
  rw [hy]
  clear hH hg hx hy hw1 HN
  go_enter Tryz.func20, Tryz.ntmps20
  go_wp2_with (go_at_call 24; refine HN1.out.mono ?_; rintro e w' ⟨rfl, rfl⟩)
  rw [← Hw1.out]
  have KK : ∀ {W : World}, Kept (fun i => i = w.heap.size) w1 W → Kept (fun _ => False) w W := fun h => K1.out.andThen h (fun i hi e => absurd e (by omega))
  have r10 := fun W (hW : Kept (fun i => i = w.heap.size) w1 W) => (HC.out W (KK hW)).c10
  have r11 := fun W (hW : Kept (fun i => i = w.heap.size) w1 W) => (HC.out W (KK hW)).c11
  have r12 := fun W (hW : Kept (fun i => i = w.heap.size) w1 W) => (HC.out W (KK hW)).c12
  have r13 := fun W (hW : Kept (fun i => i = w.heap.size) w1 W) => (HC.out W (KK hW)).c13
  have r14 := fun W (hW : Kept (fun i => i = w.heap.size) w1 W) => (HC.out W (KK hW)).c14
  have r15 := fun W (hW : Kept (fun i => i = w.heap.size) w1 W) => (HC.out W (KK hW)).c15
  have r16 := fun W (hW : Kept (fun i => i = w.heap.size) w1 W) => (HC.out W (KK hW)).c16
  have r17 := fun W (hW : Kept (fun i => i = w.heap.size) w1 W) => (HC.out W (KK hW)).c17
  clear HN1 HC
  refine wp_region_held_drew (S := Kept (fun i => i = w.heap.size) w1) (by kernel_rfl) ((Kept.refl _ w1).drew) (fun hSd => ?_)
  refine Tks.out (l := [(0, some none), (1, some none), (2, some none), (3, some none), (4, some none), (5, some none), (6, some none), (7, some none), (8, some none), (9, some none), (10, some none), (11, some none), (12, some none), (13, some none), (14, some none), (15, some none)]) ?_
  iterate 16
   refine tkT (v := ?_) rfl (by kernel_rfl) (by kernel_rfl) (by kernel_rfl) (fun _ _ _ h => h) (Or.inl ⟨by kernel_rfl, fun W hSW => by go_simp; try with_reducible rfl⟩) (by assumption) ?_
   try simp only [List.getElem_toArray, List.getElem_cons_succ, List.getElem_cons_zero]
   try go_frame
  refine tkE ?_
  refine wpAnyH_ready (rs := [16]) (by kernel_rfl) (by simp) ?_
  refine AllReadyH.cons rfl (fun K hK => ?_) AllReadyH.nil
  refine step_store_row rfl _ _ _ rfl w.heap.size #[.int .u8 0, .int .u8 0, .int .u8 0, .int .u8 0, .int .u8 0, .int .u8 0] #[.int .u8 y0, .int .u8 y1, .int .u8 y2, .int .u8 y3, .int .u8 y4, .int .u8 y5] rfl rfl O1.out (by kernel_rfl) rfl (by simp [Value.oneCell']) ?_
  refine hK.out _ _ (hSd.setRow (Or.inr (by rfl)) _) (fun _ => ?_)
  clear hK K
  try simp only [List.getElem_toArray, List.getElem_cons_succ, List.getElem_cons_zero]
  try go_frame
  refine wpAnyH_take (i := 17) (v := ?_) rfl (by kernel_rfl) (by kernel_rfl) (by kernel_rfl) (fun _ _ _ h => h) (Or.inl ⟨by kernel_rfl, fun W hSW => by go_simp; try with_reducible rfl⟩) (by assumption) ?_
  try simp only [List.getElem_toArray, List.getElem_cons_succ, List.getElem_cons_zero]
  try go_frame
  refine wpAnyH_done (by kernel_rfl) ?_ _
  have hs := setRow_heap w1.drew w.heap.size #[.int .u8 0, .int .u8 0, .int .u8 0, .int .u8 0, .int .u8 0, .int .u8 0] #[.int .u8 y0, .int .u8 y1, .int .u8 y2, .int .u8 y3, .int .u8 y4, .int .u8 y5] 23 (0, 0) O1.out
  have K2 := hid ((K1.out.drew).setRow (g := w.heap.size) (Or.inl (Nat.le_refl _)) #[.int .u8 y0, .int .u8 y1, .int .u8 y2, .int .u8 y3, .int .u8 y4, .int .u8 y5])
  generalize w1.drew.setRow w.heap.size #[.int .u8 y0, .int .u8 y1, .int .u8 y2, .int .u8 y3, .int .u8 y4, .int .u8 y5] = w2 at *
  have hg2 := fun j => cell_of_row w2 w.heap.size j _ _ _ hs
  have g0 := hg2 0
  have g1 := hg2 1
  have g2 := hg2 2
  have g3 := hg2 3
  have g4 := hg2 4
  have g5 := hg2 5
  simp only [List.getElem?_toArray, List.getElem?_cons_zero, List.getElem?_cons_succ] at g0 g1 g2 g3 g4 g5
  clear hg2 hs
  go_wp2
  refine bodyPost_ret (v := .tuple #[.int .i64 h.state, .agg #[.int .u8 y0, .int .u8 y1, .int .u8 y2, .int .u8 y3, .int .u8 y4, .int .u8 y5], .int .i64 h.session]) (by simp [results, Tryz.results20, go_sem, g0, g1, g2, g3, g4, g5]) rfl ⟨rfl, ?_⟩
  exact K2.out
end Go.Proofs.YtffnppfoofifgaaGreat

namespace Go.Proofs.YtffnppfoofifgaaGreat
open Go.RowKit

def phaseV (s : Int) (c : List UInt8) (n : Int) (av : Value) : Value := .agg (([.int .i64 s] ++ Lib.byteCells c ++ [.int .i64 n, av, .int .i64 0, .int .i64 0] : List Value).toArray)

set_option maxHeartbeats 2000000 in
set_option maxRecDepth 100000 in
/-- 'ask(p)', where p begins. -/
theorem ask_any {S : Nat → Prop} (b : Nat) (h : Hs) (hg : GoodH h) (s : Int) (c : List UInt8) (hc : c.length = 6) (n : Int) (u : Value) (l : List Fr) (hl : l.length ≤ 1) (w0 w : World) (hk0 : Kept (fun _ => False) w0 w) (hA : HAt S w0 b h) (hu : OwnE w w0.heap.size u l) :
    Calls Tryz.prog 25 #[.pointer (some ⟨b, 0, none⟩), phaseV s c n u] w fun e w' => ∃ v, e = .returned v ∧ HOut S w0 w' b (h.at s c n l) v l := by
  obtain ⟨x0, x1, x2, x3, x4, x5, hx⟩ := six_cells hg.mac
  obtain ⟨y0, y1, y2, y3, y4, y5, hy⟩ := six_cells hg.conc
  obtain ⟨z0, z1, z2, z3, z4, z5, hz⟩ := six_cells hc
  obtain ⟨av, hH, hS⟩ := id hA
  have hb0 : b < w0.heap.size := hH.lt (Or.inl rfl)
  have hsz := hk0.size
  have hSb : S b := (hS b).2 (Or.inl rfl)
  have hub : u.ownBlock ≠ some b := fun e => by
    have := (hu.block e).2
    omega
  have hflat := (hH.kept0 hk0).flat hx hy
  obtain ⟨pu, cu, rfl⟩ := slice_of hu
  unfold phaseV
  rw [hz]
  obtain ⟨w1, hw1⟩ : ∃ w1, w1 = w.alloc (.cells #[.int .i64 s, .int .u8 z0, .int .u8 z1, .int .u8 z2, .int .u8 z3, .int .u8 z4, .int .u8 z5, .int .i64 n, .slice pu l.length cu, .int .i64 0, .int .i64 0] 71) := ⟨_, rfl⟩
  have Hw1 := hid hw1
  have k01 : Kept (fun _ => False) w w1 := by rw [hw1]; exact (Kept.refl _ w).alloc _
  have hf1 : w1.heap[b]? = some _ := (k01.block b (by omega) id).trans hflat
  have hp1 : w1.heap[w.heap.size]? = some (.cells #[.int .i64 s, .int .u8 z0, .int .u8 z1, .int .u8 z2, .int .u8 z3, .int .u8 z4, .int .u8 z5, .int .i64 n, .slice pu l.length cu, .int .i64 0, .int .i64 0] 71 (0, 0)) := by rw [hw1]; exact heap_alloc_new w _
  have hcl := fun j => cell_of_row w1 b j _ _ _ hf1
  have hfz := fun j => frozen_of_row w1 b j _ _ hf1
  have d10 := hcl 10
  have d11 := hcl 11
  have d12 := hcl 12
  have d13 := hcl 13
  have d14 := hcl 14
  have d15 := hcl 15
  have d16 := hcl 16
  have d17 := hcl 17
  have d18 := hcl 18
  have d19 := hcl 19
  have d20 := hcl 20
  simp only [List.getElem?_toArray, List.getElem?_cons_zero, List.getElem?_cons_succ] at d10 d11 d12 d13 d14 d15 d16 d17 d18 d19 d20
  rw [hw1] at d10 d11 d12 d13 d14 d15 d16 d17 d18 d19 d20
  have hfz' : ∀ j, (w.alloc (.cells #[.int .i64 s, .int .u8 z0, .int .u8 z1, .int .u8 z2, .int .u8 z3, .int .u8 z4, .int .u8 z5, .int .i64 n, .slice pu l.length cu, .int .i64 0, .int .i64 0] 71)).frozen? ⟨b, j, none⟩ = false := fun j => by rw [← hw1]; exact hfz j
  -- behind the store
  obtain ⟨w2, hw2⟩ : ∃ w2, w2 = setPhase w1 b (.int .i64 s) (.int .u8 z0) (.int .u8 z1) (.int .u8 z2) (.int .u8 z3) (.int .u8 z4) (.int .u8 z5) (.int .i64 n) (.slice pu l.length cu) (.int .i64 0) (.int .i64 0) := ⟨_, rfl⟩
  have Hw2 := hid hw2
  have hf2 := setPhase_block (p0 := .int .i64 s) (p1 := .int .u8 z0) (p2 := .int .u8 z1) (p3 := .int .u8 z2) (p4 := .int .u8 z3) (p5 := .int .u8 z4) (p6 := .int .u8 z5) (p7 := .int .i64 n) (p8 := .slice pu l.length cu) (p9 := .int .i64 0) (p10 := .int .i64 0) hf1
  rw [← hw2] at hf2
  have k12 : Kept (fun i => i = b) w1 w2 := by rw [hw2]; exact setPhase_kept (S := fun i => i = b) (Kept.refl _ _) (Or.inr (by rfl)) _ _ _ _ _ _ _ _ _ _ _
  have hu1 : OwnE w1 w0.heap.size (.slice pu l.length cu) l := hu.kept k01
  have hu2 : OwnE w2 w0.heap.size (.slice pu l.length cu) l := hu1.same (fun i hi => k12.block i (by obtain ⟨⟨cur, q⟩, _⟩ := hu1.block hi; exact (Array.getElem?_eq_some_iff.1 q).1) (fun e => hub (by rw [hi, e])))
  have hp2 : w2.heap[w.heap.size]? = some (.cells #[.int .i64 s, .int .u8 z0, .int .u8 z1, .int .u8 z2, .int .u8 z3, .int .u8 z4, .int .u8 z5, .int .i64 n, .slice pu l.length cu, .int .i64 0, .int .i64 0] 71 (0, 0)) := (k12.block _ (Array.getElem?_eq_some_iff.1 hp1).1 (by omega)).trans hp1
  have e8 : w2.cell? ⟨w.heap.size, 8, none⟩ = some (.slice pu l.length cu) := cell_of_row w2 _ 8 _ _ _ hp2
  have k02 : Kept S w0 w2 := ((hk0.mono (T := S) (fun _ _ h => h.elim)).trans (k01.mono (T := S) (fun _ _ h => h.elim))).andThen k12 (fun i _ e => by rw [e]; exact hSb)
  have HN : Hid (HNext S w0 w2 b (h.at s c n l)) := by
    refine ⟨ofHost b (.slice pu l.length cu), ⟨.slice pu l.length cu, ⟨?_, ⟨hu2.1, hu2.2.imp id (fun ⟨g, cap, cur, q1, _, q3⟩ => ⟨g, cap, cur, q1, Nat.zero_le _, q3⟩)⟩⟩, fun i => Iff.rfl⟩, fun i hi => ?_, k02⟩
    · unfold hostList Hs.at
      simp only []
      rw [hx, hz]
      exact hf2
    · rcases hi with rfl | hi
      · exact Or.inl hSb
      · exact Or.inr (hu2.block hi).2
  have HC := hid (cloneE_any (.slice pu l.length cu) l w0.heap.size w2 hu2 (by omega))
  clear hx hy hz hA hH hS hflat hf1 hp1 hcl hfz hw1 hw2 hf2 k12 hu1 hu2 hp2 k02 k01 hu hub hk0
  go_enter Tryz.func25, Tryz.ntmps25
  go_wp2_with fail
  rw [← Hw1.out]
  change Calls _ _ _ (setPhase w1 b (.int .i64 s) (.int .u8 z0) (.int .u8 z1) (.int .u8 z2) (.int .u8 z3) (.int .u8 z4) (.int .u8 z5) (.int .i64 n) (.slice pu l.length cu) (.int .i64 0) (.int .i64 0)) _
  rw [← Hw2.out]
  refine HC.out.mono ?_
  rintro e w3 ⟨v3, rfl, hv3, hk3⟩
  go_wp2
  go_ret
  exact ⟨_, rfl, HOut.of HN.out hk3 hv3⟩

end Go.Proofs.YtffnppfoofifgaaGreat

namespace Go.Proofs.YtffnppfoofifgaaGreat
open Go.RowKit

theorem every_cells : Lib.byteCells everyF = [.int .u8 255, .int .u8 255, .int .u8 255, .int .u8 255, .int .u8 255, .int .u8 255] := rfl
theorem markT_few (u : ByteArray) (hu : u.size ≤ 40) : (markT u).length ≤ 1 ∧ ∀ x ∈ markT u, x.value.size ≤ 40 := by
  unfold markT
  split
  · simp
  · simp; exact hu

set_option maxHeartbeats 4000000 in
set_option maxRecDepth 100000 in
theorem padi_any (b : Nat) (av : Value) (h : Hs) (hg : GoodH h) (w : World) (hH : HostIn w b av h) :
    Calls Tryz.prog 26 #[.pointer (some ⟨b, 0, none⟩)] w fun e w' => ∃ u, e = .returned u ∧ OwnE w' w.heap.size u (padiF h) ∧ Kept (fun _ => False) w w' := by
  obtain ⟨x0, x1, x2, x3, x4, x5, hx⟩ := six_cells hg.mac
  obtain ⟨y0, y1, y2, y3, y4, y5, hy⟩ := six_cells hg.conc
  have HC := hid (fun W (hk : Kept (fun _ => False) w W) => (hH.kept0 hk).cells hx hy)
  have HSD := hid (fun (v8 : Value) W (hv8 : TagsAt W v8 ([wantedF h] ++ markF h)) => disc_any everyF h.mac rfl hg.mac 9 0 v8 _ W hv8 (fun x hx => by
    simp only [List.mem_append, List.mem_cons, List.not_mem_nil, or_false] at hx
    rcases hx with rfl | hx
    · have := hg.service
      show h.service.size ≤ _
      omega
    · exact Nat.le_trans ((markT_few h.uniq hg.uniq).2 x hx) (by decide)))
  have hml := (markT_few h.uniq hg.uniq).1
  have HLN : Hid (([wantedF h] : List Tg).length + (markT h.uniq).length ≤ 1000000) := by show 1 + _ ≤ _; omega
  have HWA := hid (fun W (hk : Kept (fun _ => False) w W) => wanted_any b h.service W (HC.out W hk).c6)
  have HMA := hid (fun W (hk : Kept (fun _ => False) w W) => mark_any b h.uniq W (HC.out W hk).c7)
  change Hid (∀ (v8 : Value) W, TagsAt W v8 ([wantedF h] ++ markF h) → Calls Tryz.prog 28 _ W fun e w' => ∃ u, e = .returned u ∧ OwnE w' W.heap.size u (padiF h) ∧ Kept (fun _ => False) W w') at HSD
  rw [every_cells, hx] at HSD
  rw [markF_eq] at HSD
  have r0 := fun W (hW : Kept (fun _ => False) w W) => (HC.out W hW).c0
  have r1 := fun W (hW : Kept (fun _ => False) w W) => (HC.out W hW).c1
  have r2 := fun W (hW : Kept (fun _ => False) w W) => (HC.out W hW).c2
  have r3 := fun W (hW : Kept (fun _ => False) w W) => (HC.out W hW).c3
  have r4 := fun W (hW : Kept (fun _ => False) w W) => (HC.out W hW).c4
  have r5 := fun W (hW : Kept (fun _ => False) w W) => (HC.out W hW).c5
  clear hH hy hml hx hg
  generalize padiF h = PD at *
  go_enter Tryz.func26, Tryz.ntmps26
  go_wp2_with fail
  refine wp_region_held_drew (S := Kept (fun _ => False) w) (by kernel_rfl) ((Kept.refl _ w).drew) (fun hSd => ?_)
  refine Tks.out (l := [(1, some none), (2, some none), (3, some none), (4, some none), (5, some none), (8, some none)]) ?_
  iterate 6
   refine tkT (v := ?_) rfl (by kernel_rfl) (by kernel_rfl) (by kernel_rfl) (fun _ _ _ h => h) (Or.inl ⟨by kernel_rfl, fun W hSW => by go_simp; try with_reducible rfl⟩) (by assumption) ?_
   try simp only [List.getElem_toArray, List.getElem_cons_succ, List.getElem_cons_zero]
   try go_frame
  refine tkE ?_
  refine wpAnyH_ready (rs := [0]) (by kernel_rfl) (by simp) ?_
  refine AllReadyH.cons rfl (fun K hK => ?_) AllReadyH.nil
  go_simp
  refine (everyone_any _).mono ?_
  rintro e w1 ⟨rfl, hk1⟩
  have K1 : Kept (fun _ => False) w w1 := (Kept.refl (fun _ => False) w).drew.trans hk1
  refine hK.out _ _ (K1) (fun _ => ?_)
  clear hK K
  try simp only [List.getElem_toArray, List.getElem_cons_zero]
  try go_frame
  refine wpAnyH_ready (rs := [6]) (by kernel_rfl) (by simp) ?_
  refine AllReadyH.cons rfl (fun K hK => ?_) AllReadyH.nil
  go_simp
  refine (HWA.out _ K1).mono ?_
  rintro e w2 ⟨rfl, hk2⟩
  have K2 : Kept (fun _ => False) w w2 := K1.trans hk2
  refine hK.out _ _ (K2) (fun _ => ?_)
  clear hK K
  try simp only [List.getElem_toArray, List.getElem_cons_succ, List.getElem_cons_zero]
  try go_frame
  refine wpAnyH_ready (rs := [7, 9]) (by kernel_rfl) (by simp) ?_
  refine AllReadyH.cons rfl (fun K hK => ?_) (AllReadyH.cons rfl (fun K hK => ?_) AllReadyH.nil)
  · go_simp
    refine hK.out _ _ (K2.alloc _) (fun _ => ?_)
    clear hK K
    try dsimp only
    try simp only [List.getElem_toArray, List.getElem_cons_succ, List.getElem_cons_zero]
    try go_frame
    refine wpAnyH_ready (rs := [9]) (by kernel_rfl) (by simp) ?_
    refine AllReadyH.cons rfl (fun K hK => ?_) AllReadyH.nil
    go_simp
    refine (HMA.out _ (K2.alloc _)).mono ?_
    rintro e w3 ⟨u3, rfl, hu3, hk3⟩
    have KB : Kept (fun _ => False) w w3 := (K2.alloc (.cells #[.int .i64 257, .string h.service] 97)).trans hk3
    have OB : OwnT w3 w.heap.size (.slice (some ⟨w2.heap.size, 0, none⟩) 1 1) [wantedF h] := (own_one w2 w.heap.size K2.size 257 h.service).kept hk3
    have UB := hu3
    obtain ⟨p3, c3, rfl⟩ := slice_of hu3
    refine hK.out _ _ (KB) (fun _ => ?_)
    clear hK K
    try simp only [List.getElem_toArray, List.getElem_cons_succ, List.getElem_cons_zero]
    try go_frame
    obtain ⟨v4, w4, hrun4, hown4, hk4⟩ := append_run KB OB UB.tags HLN.out
    obtain ⟨p4, c4, rfl⟩ := slice_of hown4
    refine wpAnyH_ready (rs := [10]) (by kernel_rfl) (by simp) ?_
    refine AllReadyH.cons rfl (fun K hK => ?_) AllReadyH.nil
    refine step_append_run rfl (.tmp 10) (.tmp 12) 88 rfl _ _ rfl rfl (hrun4 _) ?_
    refine hK.out _ _ (hk4) (fun _ => ?_)
    clear hK K
    try simp only [List.getElem_toArray, List.getElem_cons_succ, List.getElem_cons_zero]
    try go_frame
    refine wpAnyH_ready (rs := [11]) (by kernel_rfl) (by simp) ?_
    refine AllReadyH.cons rfl (fun K hK => ?_) AllReadyH.nil
    go_simp
    refine (HSD.out _ _ hown4.tags).mono ?_
    rintro e w5 ⟨u5, rfl, hu5, hk5⟩
    have K5 : Kept (fun _ => False) w w5 := hk4.trans hk5
    refine hK.out _ _ (K5) (fun _ => ?_)
    clear hK K
    try simp only [List.getElem_toArray, List.getElem_cons_succ, List.getElem_cons_zero]
    try go_frame
    refine wpAnyH_take (i := 12) (v := ?_) rfl (by kernel_rfl) (by kernel_rfl) (by kernel_rfl) (fun _ _ _ h => h) (Or.inl ⟨by kernel_rfl, fun W hSW => by go_simp; try with_reducible rfl⟩) (by assumption) ?_
    try simp only [List.getElem_toArray, List.getElem_cons_succ, List.getElem_cons_zero]
    try go_frame
    refine wpAnyH_done (by kernel_rfl) ?_ _
    go_wp2
    go_ret
    exact ⟨u5, rfl, hu5.mono hk4.size, K5⟩
  · go_simp
    refine (HMA.out _ K2).mono ?_
    rintro e w3 ⟨u3, rfl, hu3, hk3⟩
    have K3 : Kept (fun _ => False) w w3 := K2.trans hk3
    obtain ⟨p3, c3, rfl⟩ := slice_of hu3
    refine hK.out _ _ (K3) (fun _ => ?_)
    clear hK K
    try simp only [List.getElem_toArray, List.getElem_cons_succ, List.getElem_cons_zero]
    try go_frame
    refine wpAnyH_ready (rs := [7]) (by kernel_rfl) (by simp) ?_
    refine AllReadyH.cons rfl (fun K hK => ?_) AllReadyH.nil
    go_simp
    have KB : Kept (fun _ => False) w (w3.alloc (.cells #[.int .i64 257, .string h.service] 97)) := K3.alloc _
    have OB : OwnT (w3.alloc (.cells #[.int .i64 257, .string h.service] 97)) w.heap.size (.slice (some ⟨w3.heap.size, 0, none⟩) 1 1) [wantedF h] := own_one w3 w.heap.size K3.size 257 h.service
    have UB := hu3.kept ((Kept.refl (fun _ => False) w3).alloc (.cells #[.int .i64 257, .string h.service] 97))
    refine hK.out _ _ (KB) (fun _ => ?_)
    clear hK K
    try dsimp only
    try simp only [List.getElem_toArray, List.getElem_cons_succ, List.getElem_cons_zero]
    try go_frame
    obtain ⟨v4, w4, hrun4, hown4, hk4⟩ := append_run KB OB UB.tags HLN.out
    obtain ⟨p4, c4, rfl⟩ := slice_of hown4
    refine wpAnyH_ready (rs := [10]) (by kernel_rfl) (by simp) ?_
    refine AllReadyH.cons rfl (fun K hK => ?_) AllReadyH.nil
    refine step_append_run rfl (.tmp 10) (.tmp 12) 88 rfl _ _ rfl rfl (hrun4 _) ?_
    refine hK.out _ _ (hk4) (fun _ => ?_)
    clear hK K
    try simp only [List.getElem_toArray, List.getElem_cons_succ, List.getElem_cons_zero]
    try go_frame
    refine wpAnyH_ready (rs := [11]) (by kernel_rfl) (by simp) ?_
    refine AllReadyH.cons rfl (fun K hK => ?_) AllReadyH.nil
    go_simp
    refine (HSD.out _ _ hown4.tags).mono ?_
    rintro e w5 ⟨u5, rfl, hu5, hk5⟩
    have K5 : Kept (fun _ => False) w w5 := hk4.trans hk5
    refine hK.out _ _ (K5) (fun _ => ?_)
    clear hK K
    try simp only [List.getElem_toArray, List.getElem_cons_succ, List.getElem_cons_zero]
    try go_frame
    refine wpAnyH_take (i := 12) (v := ?_) rfl (by kernel_rfl) (by kernel_rfl) (by kernel_rfl) (fun _ _ _ h => h) (Or.inl ⟨by kernel_rfl, fun W hSW => by go_simp; try with_reducible rfl⟩) (by assumption) ?_
    try simp only [List.getElem_toArray, List.getElem_cons_succ, List.getElem_cons_zero]
    try go_frame
    refine wpAnyH_done (by kernel_rfl) ?_ _
    go_wp2
    go_ret
    exact ⟨u5, rfl, hu5.mono hk4.size, K5⟩
end Go.Proofs.YtffnppfoofifgaaGreat

namespace Go.Proofs.YtffnppfoofifgaaGreat
open Go.RowKit

/-- The cells of a block, whatever else is there. -/
def HB (b : Nat) (cs : Array Value) (W : World) : Prop := W.heap[b]? = some (.cells cs 73 (0, 0))
theorem HB.cell {b : Nat} {cs : Array Value} {W : World} (h : HB b cs W) (j : Nat) : W.cell? ⟨b, j, none⟩ = cs[j]? := cell_of_row W b j _ _ _ h

theorem next_same {S : Nat → Prop} {w w' : World} {b : Nat} {av : Value} {h h' : Hs} (hH : HostIn w b av h) (hS : ∀ i, S i ↔ ofHost b av i) (hk : Kept (fun i => i = b) w w') (hb : w'.heap[b]? = some (.cells (hostList h' av).toArray 73 (0, 0))) (ha : h'.asked = h.asked) : HNext S w w' b h' := by
  refine ⟨S, ⟨av, ⟨hb, ?_⟩, hS⟩, fun i hi => Or.inl hi, hk.mono (fun i _ e => by rw [e]; exact (hS b).2 (Or.inl rfl))⟩
  rw [ha]
  exact hH.own.same (fun i hi => hk.block i (hH.lt (Or.inr hi)) (fun e => hH.ng (by rw [hi, e])))
theorem next_nil {S : Nat → Prop} {w w' : World} {b : Nat} {av : Value} {h h' : Hs} (hH : HostIn w b av h) (hS : ∀ i, S i ↔ ofHost b av i) (hk : Kept (fun i => i = b) w w') (hb : w'.heap[b]? = some (.cells (hostList h' (.slice none 0 0)).toArray 73 (0, 0))) (ha : h'.asked = []) : HNext S w w' b h' := by
  refine ⟨ofHost b (.slice none 0 0), ⟨.slice none 0 0, ⟨hb, ?_⟩, fun i => Iff.rfl⟩, fun i hi => Or.inl ?_, hk.mono (fun i _ e => by rw [e]; exact (hS b).2 (Or.inl rfl))⟩
  · rw [ha]
    exact OwnE.nil _ _
  · rcases hi with rfl | hi
    · exact (hS _).2 (Or.inl rfl)
    · cases hi

set_option maxHeartbeats 2000000 in
set_option maxRecDepth 100000 in
theorem start_any {S : Nat → Prop} (b : Nat) (h : Hs) (hg : GoodH h) (w : World) (hA : HAt S w b h) :
    Calls Tryz.prog 7 #[.pointer (some ⟨b, 0, none⟩)] w fun e w' => ∃ v, e = .returned v ∧ HOut S w w' b (startF h).2 v (startF h).1 := by
  obtain ⟨x0, x1, x2, x3, x4, x5, hx⟩ := six_cells hg.mac
  obtain ⟨y0, y1, y2, y3, y4, y5, hy⟩ := six_cells hg.conc
  obtain ⟨av, hH, hS⟩ := id hA
  have HN := hid (hH.notNone hg)
  have c10 := (hH.cells hx hy).c10
  have HP := hid (padi_any b av h hg w hH)
  have HA := hid (fun (p : Option Addr) (c : Nat) (w1 : World) (hk : Kept (fun _ => False) w w1) (hu : OwnE w1 w.heap.size (.slice p (padiF h).length c) (padiF h)) => ask_any b h hg 1 mac0 rfl 0 (.slice p (padiF h).length c) (padiF h) (etDisc_len _ _ _ _ _) w w1 hk hA hu)
  have HNX := hid hA.next
  unfold startF
  clear hH hS hg hx hy hA
  by_cases h0 : h.state = 0 ∨ h.state = 4
  · rw [if_pos h0]
    rcases h0 with h0 | h0
    all_goals
      rw [h0] at c10
      clear h0
      go_enter Tryz.func7, Tryz.ntmps7
      go_wp2_with fail
      refine HN.out.mono ?_
      rintro e w' ⟨rfl, rfl⟩
      go_wp2_with fail
      refine HP.out.mono ?_
      rintro e w1 ⟨u1, rfl, hu1, hk1⟩
      obtain ⟨p1, c1, rfl⟩ := slice_of hu1
      go_wp2_with fail
      refine (HA.out p1 c1 w1 hk1 hu1).mono ?_
      rintro e w2 ⟨v2, rfl, hn2⟩
      go_wp2
      go_ret
      exact ⟨v2, rfl, hn2⟩
  · rw [if_neg h0]
    have n0 : (h.state != 0) = true := by simp; omega
    have n4 : (h.state != 4) = true := by simp; omega
    clear h0
    go_enter Tryz.func7, Tryz.ntmps7
    go_wp2_with fail
    refine HN.out.mono ?_
    rintro e w' ⟨rfl, rfl⟩
    go_wp2
    go_ret
    exact ⟨_, rfl, HOut.nil HNX.out⟩

set_option maxHeartbeats 2000000 in
set_option maxRecDepth 100000 in
theorem stop_any {S : Nat → Prop} (b : Nat) (h : Hs) (hg : GoodH h) (w : World) (hA : HAt S w b h) :
    Calls Tryz.prog 9 #[.pointer (some ⟨b, 0, none⟩)] w fun e w' => ∃ v, e = .returned v ∧ HOut S w w' b (stopF h).2 v (stopF h).1 := by
  obtain ⟨x0, x1, x2, x3, x4, x5, hx⟩ := six_cells hg.mac
  obtain ⟨y0, y1, y2, y3, y4, y5, hy⟩ := six_cells hg.conc
  obtain ⟨av, hH, hS⟩ := id hA
  obtain ⟨pa, ca, rfl⟩ := slice_of hH.own
  have HN := hid (hH.notNone hg)
  have hflat := hH.flat hx hy
  have hb0 : b < w.heap.size := hH.lt (Or.inl rfl)
  have hcl := fun j => cell_of_row w b j _ _ _ hflat
  have hfz := fun j => frozen_of_row w b j _ _ hflat
  have d10 := hcl 10
  have d11 := hcl 11
  have d12 := hcl 12
  have d13 := hcl 13
  have d14 := hcl 14
  have d15 := hcl 15
  have d16 := hcl 16
  have d17 := hcl 17
  have d18 := hcl 18
  have d19 := hcl 19
  have d20 := hcl 20
  simp only [List.getElem?_toArray, List.getElem?_cons_zero, List.getElem?_cons_succ] at d10 d11 d12 d13 d14 d15 d16 d17 d18 d19 d20
  obtain ⟨w1, hw1⟩ : ∃ w1, w1 = setPhase w b (.int .i64 0) (.int .u8 0) (.int .u8 0) (.int .u8 0) (.int .u8 0) (.int .u8 0) (.int .u8 0) (.int .i64 0) (.slice none 0 0) (.int .i64 0) (.int .i64 0) := ⟨_, rfl⟩
  have Hw1 := hid hw1
  have hf1 := setPhase_block (p0 := .int .i64 0) (p1 := .int .u8 0) (p2 := .int .u8 0) (p3 := .int .u8 0) (p4 := .int .u8 0) (p5 := .int .u8 0) (p6 := .int .u8 0) (p7 := .int .i64 0) (p8 := .slice none 0 0) (p9 := .int .i64 0) (p10 := .int .i64 0) hflat
  rw [← hw1] at hf1
  have k01 : Kept (fun i => i = b) w w1 := by rw [hw1]; exact setPhase_kept (S := fun i => i = b) (Kept.refl _ _) (Or.inr (by rfl)) _ _ _ _ _ _ _ _ _ _ _
  have hs1 : w1.heap.size = w.heap.size := by rw [hw1]; simp [setPhase]
  obtain ⟨w2, hw2⟩ : ∃ w2, w2 = w1.alloc (.cells #[.int .i64 h.state, .int .u8 y0, .int .u8 y1, .int .u8 y2, .int .u8 y3, .int .u8 y4, .int .u8 y5, .int .i64 h.session, .slice pa h.asked.length ca, .int .i64 (h.again : Int), .int .i64 (h.ticks : Int)] 71) := ⟨_, rfl⟩
  have Hw2 := hid hw2
  have hp2 : w2.heap[w.heap.size]? = some (.cells #[.int .i64 h.state, .int .u8 y0, .int .u8 y1, .int .u8 y2, .int .u8 y3, .int .u8 y4, .int .u8 y5, .int .i64 h.session, .slice pa h.asked.length ca, .int .i64 (h.again : Int), .int .i64 (h.ticks : Int)] 71 (0, 0)) := by rw [hw2, ← hs1]; exact heap_alloc_new w1 _
  have k12 : Kept (fun _ => False) w1 w2 := by rw [hw2]; exact (Kept.refl _ w1).alloc _
  have hf2 : w2.heap[b]? = some _ := (k12.block b (by omega) id).trans hf1
  have k02 : Kept (fun i => i = b) w w2 := k01.trans (k12.mono (T := fun i => i = b) (fun _ _ h => h.elim))
  have HX : Hid (HNext S w w2 b (stopF h).2) := next_nil hH hS k02 (by
    unfold hostList stopF Hs.at
    simp only []
    rw [hx]
    exact hf2) rfl
  have hpc := fun W (hW : W.heap[w.heap.size]? = _) j => cell_of_row W w.heap.size j _ _ _ (hW.trans hp2)
  have hxc := fun W (hW : W.heap[b]? = _) j => cell_of_row W b j _ _ _ (hW.trans hf2)
  have HSD := hid (fun W => disc_any h.conc h.mac hg.conc hg.mac 167 h.session (.slice none 0 0) [] W (Or.inl ⟨rfl, none, 0, rfl⟩) (by simp))
  rw [hx, hy] at HSD
  have hsz2 : w.heap.size ≤ w2.heap.size := k02.size
  have hblt : b < w2.heap.size := Nat.lt_of_lt_of_le hb0 hsz2
  have hplt : w.heap.size < w2.heap.size := (Array.getElem?_eq_some_iff.1 hp2).1
  have q1 : ∀ W, Kept (fun _ => False) w2 W → W.cell? ⟨w.heap.size, 1, none⟩ = some (.int .u8 y0) := fun W hW => hpc W (hW.block _ hplt id) 1
  have q2 : ∀ W, Kept (fun _ => False) w2 W → W.cell? ⟨w.heap.size, 2, none⟩ = some (.int .u8 y1) := fun W hW => hpc W (hW.block _ hplt id) 2
  have q3 : ∀ W, Kept (fun _ => False) w2 W → W.cell? ⟨w.heap.size, 3, none⟩ = some (.int .u8 y2) := fun W hW => hpc W (hW.block _ hplt id) 3
  have q4 : ∀ W, Kept (fun _ => False) w2 W → W.cell? ⟨w.heap.size, 4, none⟩ = some (.int .u8 y3) := fun W hW => hpc W (hW.block _ hplt id) 4
  have q5 : ∀ W, Kept (fun _ => False) w2 W → W.cell? ⟨w.heap.size, 5, none⟩ = some (.int .u8 y4) := fun W hW => hpc W (hW.block _ hplt id) 5
  have q6 : ∀ W, Kept (fun _ => False) w2 W → W.cell? ⟨w.heap.size, 6, none⟩ = some (.int .u8 y5) := fun W hW => hpc W (hW.block _ hplt id) 6
  have q7 : ∀ W, Kept (fun _ => False) w2 W → W.cell? ⟨w.heap.size, 7, none⟩ = some (.int .i64 h.session) := fun W hW => hpc W (hW.block _ hplt id) 7
  have r0 : ∀ W, Kept (fun _ => False) w2 W → W.cell? ⟨b, 0, none⟩ = some (.int .u8 x0) := fun W hW => hxc W (hW.block _ hblt id) 0
  have r1 : ∀ W, Kept (fun _ => False) w2 W → W.cell? ⟨b, 1, none⟩ = some (.int .u8 x1) := fun W hW => hxc W (hW.block _ hblt id) 1
  have r2 : ∀ W, Kept (fun _ => False) w2 W → W.cell? ⟨b, 2, none⟩ = some (.int .u8 x2) := fun W hW => hxc W (hW.block _ hblt id) 2
  have r3 : ∀ W, Kept (fun _ => False) w2 W → W.cell? ⟨b, 3, none⟩ = some (.int .u8 x3) := fun W hW => hxc W (hW.block _ hblt id) 3
  have r4 : ∀ W, Kept (fun _ => False) w2 W → W.cell? ⟨b, 4, none⟩ = some (.int .u8 x4) := fun W hW => hxc W (hW.block _ hblt id) 4
  have r5 : ∀ W, Kept (fun _ => False) w2 W → W.cell? ⟨b, 5, none⟩ = some (.int .u8 x5) := fun W hW => hxc W (hW.block _ hblt id) 5
  clear hcl hf1 hp2 hf2 k12 k02 k01 hpc hxc hw1 hw2 hA hH hS hflat hx hy hg hplt hblt hs1
  unfold stopF
  unfold stopF at HX
  simp only [] at HX ⊢
  by_cases h3 : h.state = 3
  · rw [if_pos h3]
    have n3 : (h.state != 3) = false := by simpa using h3
    clear h3
    go_enter Tryz.func9, Tryz.ntmps9
    go_wp2_with fail
    refine HN.out.mono ?_
    rintro e w' ⟨rfl, hw'⟩
    rw [hw']
    clear hw' w'
    go_wp2_with fail
    change Code.wp _ _ _ _ ((setPhase w b (.int .i64 0) (.int .u8 0) (.int .u8 0) (.int .u8 0) (.int .u8 0) (.int .u8 0) (.int .u8 0) (.int .i64 0) (.slice none 0 0) (.int .i64 0) (.int .i64 0)).alloc (.cells #[.int .i64 h.state, .int .u8 y0, .int .u8 y1, .int .u8 y2, .int .u8 y3, .int .u8 y4, .int .u8 y5, .int .i64 h.session, .slice pa h.asked.length ca, .int .i64 (h.again : Int), .int .i64 (h.ticks : Int)] 71))
    rw [← Hw1.out, ← Hw2.out]
    refine wp_region_held_drew (S := Kept (fun _ => False) w2) (by kernel_rfl) ((Kept.refl _ w2).drew) (fun hSd => ?_)
    refine Tks.out (l := [(0, some none), (1, some none), (2, some none), (3, some none), (4, some none), (5, some none), (6, some none), (7, some none)]) ?_
    iterate 8
     refine tkT (v := ?_) rfl (by kernel_rfl) (by kernel_rfl) (by kernel_rfl) (fun _ _ _ h => h) (Or.inl ⟨by kernel_rfl, fun W hSW => by go_simp; try with_reducible rfl⟩) (by assumption) ?_
     try simp only [List.getElem_toArray, List.getElem_cons_succ, List.getElem_cons_zero]
     try go_frame
    refine tkE ?_
    refine wpAnyH_ready (rs := [8]) (by kernel_rfl) (by simp) ?_
    refine AllReadyH.cons rfl (fun K hK => ?_) AllReadyH.nil
    go_simp
    refine (HSD.out _).mono ?_
    rintro e w3 ⟨u3, rfl, hu3, hk3⟩
    have k3 : Kept (fun _ => False) w2 w3 := (Kept.refl (fun _ => False) w2).drew.trans hk3
    refine hK.out _ _ (k3) (fun _ => ?_)
    clear hK K
    try simp only [List.getElem_toArray, List.getElem_cons_succ, List.getElem_cons_zero]
    try go_frame
    refine wpAnyH_take (i := 9) (v := ?_) rfl (by kernel_rfl) (by kernel_rfl) (by kernel_rfl) (fun _ _ _ h => h) (Or.inl ⟨by kernel_rfl, fun W hSW => by go_simp; try with_reducible rfl⟩) (by assumption) ?_
    try simp only [List.getElem_toArray, List.getElem_cons_succ, List.getElem_cons_zero]
    try go_frame
    refine wpAnyH_done (by kernel_rfl) ?_ _
    go_wp2
    go_ret
    exact ⟨u3, rfl, HOut.of HX.out k3 hu3⟩
  · rw [if_neg h3]
    have n3 : (h.state != 3) = true := by simpa using h3
    clear h3
    go_enter Tryz.func9, Tryz.ntmps9
    go_wp2_with fail
    refine HN.out.mono ?_
    rintro e w' ⟨rfl, hw'⟩
    rw [hw']
    clear hw' w'
    go_wp2
    go_ret
    refine ⟨_, rfl, HOut.nil ?_⟩
    have := HX.out
    rw [Hw2.out, Hw1.out] at this
    exact this
end Go.Proofs.YtffnppfoofifgaaGreat
