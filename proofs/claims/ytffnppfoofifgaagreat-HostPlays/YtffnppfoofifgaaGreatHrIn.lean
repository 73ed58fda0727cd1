/- The contract of the document's own send (tollgateref5): a frame of discovery, or none. · The document's own host (tollgateref5) as plain data, and in memory: its twenty-two cells. · The contracts of the document's host: all, ask, Start, Stop, Shows. · The contracts of the document's host: NewHost, Start, Stop, Shows. -/
import Derived.Test.YtffnppfoofifgaaGreatTagRefPutTags
import Derived.Test.YtffnppfoofifgaaGreatTagRefPut
import Derived.Test.YtffnppfoofifgaaGreatEtKit
import Derived.Test.YtffnppfoofifgaaGreatHsPlain
import Derived.Test.YtffnppfoofifgaaGreatAcApp
import Derived.Lib.SmallJoins
import Derived.BigQuiet
import Derived.Test.YtffnppfoofifgaaGreatTk
import Derived.Deep.RegionHeld3
import Derived.Deep.DeepCutAuto
namespace Go.Proofs.YtffnppfoofifgaaGreat
open Go.RowKit

theorem etDisc_of (too src : List UInt8) (code session : Int) (l : List Tg) : etDisc too src code session l = if (putTagsF l).2 = 0 then (if (putDiscF code session (putTagsF l).1).2 = 0 then [⟨too, src, 34915, ⟨(putDiscF code session (putTagsF l).1).1.toArray⟩⟩] else []) else [] := by
  unfold etDisc etFrame
  by_cases h1 : (putTagsF l).2 = 0
  · rw [if_pos h1, if_pos h1]
    by_cases h2 : (putDiscF code session (putTagsF l).1).2 = 0
    · rw [if_pos h2, if_pos h2]
      simp
    · rw [if_neg h2, if_neg h2]
      exact (if_neg h2).symm
  · rw [if_neg h1, if_neg h1]

set_option maxHeartbeats 4000000 in
set_option maxRecDepth 100000 in
theorem refSend_any (src dst : List UInt8) (hsrc : src.length = 6) (hdst : dst.length = 6) (code session : Int) (v : Value) (l : List Tg) (w : World) (hv : TagsAt w v l) (hsz : ∀ x ∈ l, x.value.size ≤ 140737488351232) :
    Calls Tryz.prog 29 #[.agg (Lib.byteCells src).toArray, .agg (Lib.byteCells dst).toArray, .int .i64 code, .int .i64 session, v] w
      fun e w' => ∃ u, e = .returned u ∧ OwnE w' w.heap.size u (etDisc dst src code session l) ∧ Kept (fun _ => False) w w' := by
  obtain ⟨p, cap, rfl⟩ := hv.slice
  have HP := hid (fun W (hk : Kept (fun _ => False) w W) => refPutTags_any (.slice p l.length cap) l W (hv.kept0 hk) hsz)
  have hpl : (putTagsF l).1.length ≤ 140737488351232 := by
    unfold putTagsF
    split
    · simp
    · split
      · simp
      · split
        · simp
        · rw [bytesT_length]; omega
  have HD := hid (fun W => refPut_any code session ⟨(putTagsF l).1.toArray⟩ (by rw [Lib.size_eq]; exact hpl) W)
  change Hid (∀ W, Calls Tryz.prog 34 #[.agg #[.int .i64 code, .int .i64 session, .string ⟨(putTagsF l).1.toArray⟩]] W fun e w' => e = .returned (.tuple #[.string ⟨(putDiscF code session (putTagsF l).1).1.toArray⟩, .int .i64 (putDiscF code session (putTagsF l).1).2]) ∧ Kept (fun _ => False) W w') at HD
  rw [etDisc_of]
  obtain ⟨z0, z1, z2, z3, z4, z5, hz⟩ := six_cells hsrc
  obtain ⟨t0, t1, t2, t3, t4, t5, ht⟩ := six_cells hdst
  have HO := hid (fun W (hb : w.heap.size ≤ W.heap.size) => own_frame W w.heap.size hb ⟨dst, src, 34915, ⟨(putDiscF code session (putTagsF l).1).1.toArray⟩⟩ (by simp [frList, Lib.byteCells_length, hsrc, hdst]))
  have hfl : frList ⟨dst, src, 34915, ⟨(putDiscF code session (putTagsF l).1).1.toArray⟩⟩ = [.int .u8 t0, .int .u8 t1, .int .u8 t2, .int .u8 t3, .int .u8 t4, .int .u8 t5, .int .u8 z0, .int .u8 z1, .int .u8 z2, .int .u8 z3, .int .u8 z4, .int .u8 z5, .int .i64 34915, .string ⟨(putDiscF code session (putTagsF l).1).1.toArray⟩] := by unfold frList; simp only []; rw [hz, ht]; rfl
  rw [hfl] at HO
  rw [hz, ht]
  generalize (putDiscF code session (putTagsF l).1).2 = E2 at *
  generalize (putDiscF code session (putTagsF l).1).1 = D2 at *
  generalize (putTagsF l).2 = E at *
  generalize (putTagsF l).1 = D at *
  clear hfl hpl hv hsz hsrc hdst hz ht
  have K0 := hid (((Kept.refl (fun _ => False) w).alloc (.cells #[.int .u8 z0, .int .u8 z1, .int .u8 z2, .int .u8 z3, .int .u8 z4, .int .u8 z5] 23)).alloc (.cells #[.int .u8 t0, .int .u8 t1, .int .u8 t2, .int .u8 t3, .int .u8 t4, .int .u8 t5] 23))
  have B0 := hid ((box6_new w 23 (.int .u8 z0) (.int .u8 z1) (.int .u8 z2) (.int .u8 z3) (.int .u8 z4) (.int .u8 z5)).kept ((Kept.refl (fun _ => False) _).alloc (.cells #[.int .u8 t0, .int .u8 t1, .int .u8 t2, .int .u8 t3, .int .u8 t4, .int .u8 t5] 23)))
  have B1 := hid (box6_new (w.alloc (.cells #[.int .u8 z0, .int .u8 z1, .int .u8 z2, .int .u8 z3, .int .u8 z4, .int .u8 z5] 23)) 23 (.int .u8 t0) (.int .u8 t1) (.int .u8 t2) (.int .u8 t3) (.int .u8 t4) (.int .u8 t5))
  rw [show (w.alloc (.cells #[.int .u8 z0, .int .u8 z1, .int .u8 z2, .int .u8 z3, .int .u8 z4, .int .u8 z5] 23)).heap.size = w.heap.size + 1 from by simp] at B1
  by_cases hE : E = 0
  · subst hE
    rw [if_pos rfl]
    by_cases hE2 : E2 = 0
    · subst hE2
      rw [if_pos rfl]
      go_enter Tryz.func29, Tryz.ntmps29
      go_wp2_with fail
      refine (HP.out _ K0.out).mono ?_
      rintro e w1 ⟨rfl, hk1⟩
      go_wp2_with fail
      refine (HD.out _).mono ?_
      rintro e w2 ⟨rfl, hk2⟩
      obtain ⟨b0, b1, b2, b3, b4, b5⟩ := B0.out.kept (hk1.trans hk2)
      obtain ⟨f0, f1, f2, f3, f4, f5⟩ := B1.out.kept (hk1.trans hk2)
      have K2 := hid ((K0.out.trans hk1).trans hk2)
      clear hk1 hk2 K0 B0 B1
      go_wp2
      go_ret
      exact ⟨_, rfl, HO.out w2 K2.out.size, K2.out.alloc _⟩
    · rw [if_neg hE2]
      have hne : (E2 != 0) = true := by simpa using hE2
      clear B0 B1 HO
      go_enter Tryz.func29, Tryz.ntmps29
      go_wp2_with fail
      refine (HP.out _ K0.out).mono ?_
      rintro e w1 ⟨rfl, hk1⟩
      go_wp2_with fail
      refine (HD.out _).mono ?_
      rintro e w2 ⟨rfl, hk2⟩
      go_wp2
      go_ret
      exact ⟨_, rfl, OwnE.nil _ _, (K0.out.trans hk1).trans hk2⟩
  · rw [if_neg hE]
    have hne : (E != 0) = true := by simpa using hE
    clear B0 B1 HO
    go_enter Tryz.func29, Tryz.ntmps29
    go_wp2_with fail
    refine (HP.out _ K0.out).mono ?_
    rintro e w1 ⟨rfl, hk1⟩
    go_wp2
    go_ret
    exact ⟨_, rfl, OwnE.nil _ _, K0.out.trans hk1⟩
end Go.Proofs.YtffnppfoofifgaaGreat

namespace Go.Proofs.YtffnppfoofifgaaGreat
open Go.RowKit

/-- The document's host. -/
structure Hd where
  mac : List UInt8
  service : ByteArray
  uniq : ByteArray
  retry : Int
  wait : Int
  state : Int
  session : Int
  ac : List UInt8
  cookie : ByteArray
  has : Bool
  ticks : Int
  tries : Int
def hdList (h : Hd) : List Value := Lib.byteCells h.mac ++ [.string h.service, .string h.uniq, .int .i64 h.retry, .int .i64 h.wait, .int .i64 h.state, .int .i64 h.session] ++ Lib.byteCells h.ac ++ [.string h.cookie, .bool h.has, .int .i64 h.ticks, .int .i64 h.tries]
structure GoodD (h : Hd) : Prop where
  mac : h.mac.length = 6
  ac : h.ac.length = 6
  service : h.service.size ≤ 40
  uniq : h.uniq.size ≤ 40
  retry : 0 ≤ h.retry ∧ h.retry ≤ 10
  wait : 1 ≤ h.wait ∧ h.wait ≤ 100
  cookie : h.cookie.size ≤ 1000000
  ticks : 0 ≤ h.ticks ∧ h.ticks ≤ 1000000000
  tries : 0 ≤ h.tries ∧ h.tries ≤ h.retry
def HdIn (w : World) (b : Nat) (h : Hd) : Prop := w.heap[b]? = some (.cells (hdList h).toArray 75 (0, 0))

section
variable {w w' : World} {b : Nat} {h : Hd}
theorem HdIn.lt (H : HdIn w b h) : b < w.heap.size := (Array.getElem?_eq_some_iff.1 H).1
theorem HdIn.kept {S : Nat → Prop} (H : HdIn w b h) (hk : Kept S w w') (hS : ¬ S b) : HdIn w' b h := (hk.block b H.lt hS).trans H
theorem HdIn.cell (H : HdIn w b h) (j : Nat) : w.cell? ⟨b, j, none⟩ = (hdList h)[j]? := by
  have := cell_of_row w b j _ _ _ (show w.heap[b]? = _ from H)
  simpa using this
theorem HdIn.fz (H : HdIn w b h) (j : Nat) : w.frozen? ⟨b, j, none⟩ = false := by simp [World.frozen?, show w.heap[b]? = _ from H]
theorem HdIn.set (H : HdIn w b h) {h' : Hd} (j : Nat) (u : Value) (e : (hdList h).set j u = hdList h') : HdIn (w.setCell ⟨b, j, none⟩ u) b h' := by
  have := Joins.block_setCell (g := b) (i := j) (show w.heap[b]? = _ from H) u
  unfold HdIn
  rw [this, ← e]
  simp
/-- The cells, where the cards are written out. -/
structure Cells22 (W : World) (b : Nat) (x0 x1 x2 x3 x4 x5 : Value) (service uniq : ByteArray) (retry wait state session : Int) (y0 y1 y2 y3 y4 y5 : Value) (cookie : ByteArray) (has : Bool) (ticks tries : Int) : Prop where
  c0 : W.cell? ⟨b, 0, none⟩ = some x0
  c1 : W.cell? ⟨b, 1, none⟩ = some x1
  c2 : W.cell? ⟨b, 2, none⟩ = some x2
  c3 : W.cell? ⟨b, 3, none⟩ = some x3
  c4 : W.cell? ⟨b, 4, none⟩ = some x4
  c5 : W.cell? ⟨b, 5, none⟩ = some x5
  c6 : W.cell? ⟨b, 6, none⟩ = some (.string service)
  c7 : W.cell? ⟨b, 7, none⟩ = some (.string uniq)
  c8 : W.cell? ⟨b, 8, none⟩ = some (.int .i64 retry)
  c9 : W.cell? ⟨b, 9, none⟩ = some (.int .i64 wait)
  c10 : W.cell? ⟨b, 10, none⟩ = some (.int .i64 state)
  c11 : W.cell? ⟨b, 11, none⟩ = some (.int .i64 session)
  c12 : W.cell? ⟨b, 12, none⟩ = some y0
  c13 : W.cell? ⟨b, 13, none⟩ = some y1
  c14 : W.cell? ⟨b, 14, none⟩ = some y2
  c15 : W.cell? ⟨b, 15, none⟩ = some y3
  c16 : W.cell? ⟨b, 16, none⟩ = some y4
  c17 : W.cell? ⟨b, 17, none⟩ = some y5
  c18 : W.cell? ⟨b, 18, none⟩ = some (.string cookie)
  c19 : W.cell? ⟨b, 19, none⟩ = some (.bool has)
  c20 : W.cell? ⟨b, 20, none⟩ = some (.int .i64 ticks)
  c21 : W.cell? ⟨b, 21, none⟩ = some (.int .i64 tries)
theorem HdIn.cells (H : HdIn w b h) {x0 x1 x2 x3 x4 x5 y0 y1 y2 y3 y4 y5 : Value} (hx : Lib.byteCells h.mac = [x0, x1, x2, x3, x4, x5]) (hy : Lib.byteCells h.ac = [y0, y1, y2, y3, y4, y5]) : Cells22 w b x0 x1 x2 x3 x4 x5 h.service h.uniq h.retry h.wait h.state h.session y0 y1 y2 y3 y4 y5 h.cookie h.has h.ticks h.tries := by
  have e : hdList h = [x0, x1, x2, x3, x4, x5, .string h.service, .string h.uniq, .int .i64 h.retry, .int .i64 h.wait, .int .i64 h.state, .int .i64 h.session, y0, y1, y2, y3, y4, y5, .string h.cookie, .bool h.has, .int .i64 h.ticks, .int .i64 h.tries] := by
    unfold hdList
    rw [hx, hy]
    rfl
  constructor <;> (rw [H.cell, e]; rfl)
theorem hd_ticks (hm : h.mac.length = 6) (ha : h.ac.length = 6) (n : Int) : (hdList h).set 20 (.int .i64 n) = hdList { h with ticks := n } := by
  obtain ⟨x0, x1, x2, x3, x4, x5, hx⟩ := six_cells hm
  obtain ⟨y0, y1, y2, y3, y4, y5, hy⟩ := six_cells ha
  simp [hdList, hx, hy]
theorem hd_tries (hm : h.mac.length = 6) (ha : h.ac.length = 6) (n : Int) : (hdList h).set 21 (.int .i64 n) = hdList { h with tries := n } := by
  obtain ⟨x0, x1, x2, x3, x4, x5, hx⟩ := six_cells hm
  obtain ⟨y0, y1, y2, y3, y4, y5, hy⟩ := six_cells ha
  simp [hdList, hx, hy]
theorem hd_state (hm : h.mac.length = 6) (n : Int) : (hdList h).set 10 (.int .i64 n) = hdList { h with state := n } := by
  obtain ⟨x0, x1, x2, x3, x4, x5, hx⟩ := six_cells hm
  simp [hdList, hx]
theorem hd_session (hm : h.mac.length = 6) (n : Int) : (hdList h).set 11 (.int .i64 n) = hdList { h with session := n } := by
  obtain ⟨x0, x1, x2, x3, x4, x5, hx⟩ := six_cells hm
  simp [hdList, hx]
end

/-! What its calls answer and leave. -/
def markD (h : Hd) : List Tg := if h.uniq.toList.isEmpty then [] else [⟨259, h.uniq⟩]
def askTags (h : Hd) : List Tg := [⟨257, h.service⟩] ++ (if h.state = 2 ∧ h.has = true then [⟨260, h.cookie⟩] else []) ++ markD h
def askD (h : Hd) : List Fr := if h.state = 2 then etDisc h.ac h.mac 25 0 (askTags h) else etDisc everyF h.mac 9 0 (askTags h)
def startD (h : Hd) : List Fr × Hd := if h.state = 0 ∨ h.state = 4 then (askD { h with state := 1, tries := 0 }, { h with state := 1, tries := 0, ticks := 0 }) else ([], h)
def stopD (h : Hd) : List Fr × Hd := (if h.state = 3 then etDisc h.ac h.mac 167 h.session [] else [], { h with state := 0 })
def showsD (h : Hd) : Int × List UInt8 × Int := if h.state = 2 then (2, h.ac, 0) else if h.state = 3 then (3, h.ac, h.session) else (h.state, mac0, 0)
def tickD (h : Hd) : List Fr × Hd :=
  if h.state = 1 ∨ h.state = 2 then
    if h.ticks + 1 < h.wait * 2 ^ h.tries.toNat then ([], { h with ticks := h.ticks + 1 })
    else if h.retry ≤ h.tries then ([], { h with ticks := h.ticks + 1, state := 4 })
    else (askD { h with tries := h.tries + 1 }, { h with ticks := 0, tries := h.tries + 1 })
  else ([], h)
def newD (m : List UInt8) (service uniq : ByteArray) (retry wait : Int) : Hd := ⟨m, service, uniq, retry, wait, 0, 0, mac0, ⟨#[]⟩, false, 0, 0⟩
end Go.Proofs.YtffnppfoofifgaaGreat

namespace Go.Proofs.YtffnppfoofifgaaGreat
open Go.RowKit

set_option maxHeartbeats 1000000 in
set_option maxRecDepth 100000 in
theorem rAll_any (w : World) : Calls Tryz.prog 117 #[] w fun e w' => e = .returned (.agg (Lib.byteCells everyF).toArray) ∧ Kept (fun _ => False) w w' := by
  have K := hid ((Kept.refl (fun _ => False) w).alloc (.cells #[.int .u8 255, .int .u8 255, .int .u8 255, .int .u8 255, .int .u8 255, .int .u8 255] 23))
  go_enter Tryz.func117, Tryz.ntmps117
  go_wp2
  refine bodyPost_ret (v := .agg #[.int .u8 255, .int .u8 255, .int .u8 255, .int .u8 255, .int .u8 255, .int .u8 255]) (by simp [results, Tryz.results117, go_sem]) rfl ⟨rfl, ?_⟩
  exact K.out

/-- A tag's slice of one. -/
theorem own_tag (w : World) (base : Nat) (hb : base ≤ w.heap.size) (t : Int) (v : ByteArray) : OwnT (w.alloc (.cells #[.int .i64 t, .string v] 97)) base (.slice (some ⟨w.heap.size, 0, none⟩) 1 1) [⟨t, v⟩] :=
  ⟨rfl, Or.inr ⟨w.heap.size, 1, #[.int .i64 t, .string v], rfl, hb, heap_alloc_new w _, Nat.le_refl _, by unfold maxLen; omega, rfl, rfl⟩⟩

set_option maxHeartbeats 4000000 in
set_option maxRecDepth 100000 in
theorem rAsk_any (b : Nat) (h : Hd) (hg : GoodD h) (w : World) (H : HdIn w b h) :
    Calls Tryz.prog 27 #[.pointer (some ⟨b, 0, none⟩)] w fun e w' => ∃ u, e = .returned u ∧ OwnE w' w.heap.size u (askD h) ∧ HdIn w' b { h with ticks := 0 } ∧ Kept (fun i => i = b) w w' := by
  obtain ⟨x0, x1, x2, x3, x4, x5, hx⟩ := six_cells hg.mac
  obtain ⟨y0, y1, y2, y3, y4, y5, hy⟩ := six_cells hg.ac
  have H0 : Hid (HdIn (w.setCell ⟨b, 20, none⟩ (.int .i64 0)) b { h with ticks := 0 }) := H.set 20 _ (hd_ticks hg.mac hg.ac 0)
  have K0 : Hid (Kept (fun i => i = b) w (w.setCell ⟨b, 20, none⟩ (.int .i64 0))) := (Kept.refl (fun i => i = b) w).setCell (p := ⟨b, 20, none⟩) (Or.inr rfl) _
  have c20 := (H.cells hx hy).c20
  have f20 := H.fz 20
  have S0 : Hid (w.heap.size ≤ (w.setCell ⟨b, 20, none⟩ (.int .i64 0)).heap.size) := K0.out.size
  go_enter Tryz.func27, Tryz.ntmps27
  go_upto_region 2 with fail
  generalize w.setCell ⟨b, 20, none⟩ (.int .i64 0) = W0 at *
  have c6 := (H0.out.cells hx hy).c6
  simp only at c6
  go_upto_region 3 with fail
  have K1 : Kept (fun _ => False) W0 (W0.alloc (.cells #[.int .i64 257, .string h.service] 97)) := (Kept.refl _ W0).alloc _
  have O1 := own_tag W0 W0.heap.size (Nat.le_refl _) 257 h.service
  generalize W0.alloc (.cells #[.int .i64 257, .string h.service] 97) = W1 at *
  obtain ⟨g1, hg1⟩ : ∃ g1, g1 = W0.heap.size := ⟨_, rfl⟩
  have O1' : OwnT W1 W0.heap.size (.slice (some ⟨g1, 0, none⟩) 1 1) [⟨257, h.service⟩] := by rw [hg1]; exact O1
  rw [← hg1]
  clear O1 hg1 c6 c20 f20
  have O1 := O1'
  clear O1'
  have e10 := ((H0.out.kept K1 (fun h => h)).cells hx hy).c10
  have e19 := ((H0.out.kept K1 (fun h => h)).cells hx hy).c19
  simp only at e10 e19
  by_cases hs2 : h.state = 2
  · have hs2b : (h.state == 2) = true := by simp [hs2]
    by_cases hh : h.has = true
    · rw [hh] at e19
      have e18 := ((H0.out.kept K1 (fun h => h)).cells hx hy).c18
      simp only at e18
      obtain ⟨v3, W3, hrun3, O3, K3⟩ := append_run (w0 := W0) (w := W1.alloc (.cells #[.int .i64 260, .string h.cookie] 97)) (K1.alloc _) (O1.kept ((Kept.refl (fun _ => False) W1).alloc _)) (own_tag W1 W0.heap.size K1.size 260 h.cookie).tags (by simp)
      obtain ⟨p3, c3, rfl⟩ := slice_of O3
      have d10 := ((H0.out.kept K3 (fun h => h)).cells hx hy).c10
      simp only at d10
      go_upto_region 5 with (at_builtin; refine Lib.wpList_append_run _ rfl _ _ 88 88 rfl _ _ rfl rfl _ _ (hrun3 _) ?_)
      clear d10 e10 e19 e18
      by_cases hu : h.uniq.toList.isEmpty = true
      · have hu1 : h.uniq.toList = [] := List.isEmpty_iff.1 hu
        have HAD : Hid (askD h = etDisc h.ac h.mac 25 0 ([⟨257, h.service⟩] ++ [⟨260, h.cookie⟩])) := by
          show askD h = _
          unfold askD askTags markD
          rw [if_pos hs2, if_pos ⟨hs2, hh⟩, if_pos hu]
          rfl
        have hsz : ∀ x ∈ ([⟨257, h.service⟩] ++ [⟨260, h.cookie⟩] : List Tg), x.value.size ≤ 140737488351232 := fun x hx => by
          have := hg.service
          have := hg.uniq
          have := hg.cookie
          simp at hx
          rcases hx with rfl | rfl <;> simp only <;> omega
        have d7 := ((H0.out.kept K3 (fun h => h)).cells hx hy).c7
        have d10 := ((H0.out.kept K3 (fun h => h)).cells hx hy).c10
        simp only at d7 d10
        have r0 : ∀ X, Kept (fun _ => False) W3 X → X.cell? ⟨b, 0, none⟩ = some (.int .u8 x0) := fun X hk => ((H0.out.kept (K3.trans hk) (fun h => h)).cells hx hy).c0
        have r1 : ∀ X, Kept (fun _ => False) W3 X → X.cell? ⟨b, 1, none⟩ = some (.int .u8 x1) := fun X hk => ((H0.out.kept (K3.trans hk) (fun h => h)).cells hx hy).c1
        have r2 : ∀ X, Kept (fun _ => False) W3 X → X.cell? ⟨b, 2, none⟩ = some (.int .u8 x2) := fun X hk => ((H0.out.kept (K3.trans hk) (fun h => h)).cells hx hy).c2
        have r3 : ∀ X, Kept (fun _ => False) W3 X → X.cell? ⟨b, 3, none⟩ = some (.int .u8 x3) := fun X hk => ((H0.out.kept (K3.trans hk) (fun h => h)).cells hx hy).c3
        have r4 : ∀ X, Kept (fun _ => False) W3 X → X.cell? ⟨b, 4, none⟩ = some (.int .u8 x4) := fun X hk => ((H0.out.kept (K3.trans hk) (fun h => h)).cells hx hy).c4
        have r5 : ∀ X, Kept (fun _ => False) W3 X → X.cell? ⟨b, 5, none⟩ = some (.int .u8 x5) := fun X hk => ((H0.out.kept (K3.trans hk) (fun h => h)).cells hx hy).c5
        have q0 : ∀ X, Kept (fun _ => False) W3 X → X.cell? ⟨b, 12, none⟩ = some (.int .u8 y0) := fun X hk => ((H0.out.kept (K3.trans hk) (fun h => h)).cells hx hy).c12
        have q1 : ∀ X, Kept (fun _ => False) W3 X → X.cell? ⟨b, 13, none⟩ = some (.int .u8 y1) := fun X hk => ((H0.out.kept (K3.trans hk) (fun h => h)).cells hx hy).c13
        have q2 : ∀ X, Kept (fun _ => False) W3 X → X.cell? ⟨b, 14, none⟩ = some (.int .u8 y2) := fun X hk => ((H0.out.kept (K3.trans hk) (fun h => h)).cells hx hy).c14
        have q3 : ∀ X, Kept (fun _ => False) W3 X → X.cell? ⟨b, 15, none⟩ = some (.int .u8 y3) := fun X hk => ((H0.out.kept (K3.trans hk) (fun h => h)).cells hx hy).c15
        have q4 : ∀ X, Kept (fun _ => False) W3 X → X.cell? ⟨b, 16, none⟩ = some (.int .u8 y4) := fun X hk => ((H0.out.kept (K3.trans hk) (fun h => h)).cells hx hy).c16
        have q5 : ∀ X, Kept (fun _ => False) W3 X → X.cell? ⟨b, 17, none⟩ = some (.int .u8 y5) := fun X hk => ((H0.out.kept (K3.trans hk) (fun h => h)).cells hx hy).c17
        have HS := hid (fun X (hk : Kept (fun _ => False) W3 X) => refSend_any h.mac h.ac hg.mac hg.ac 25 0 _ _ X (O3.tags.kept0 hk) hsz)
        rw [hx, hy] at HS
        have HFN := hid (And.intro K3 H0.out)
        clear hx hy hsz
        go_upto_region 8 with fail
        refine wp_region_held_drew (S := Kept (fun _ => False) W3) (by kernel_rfl) ((Kept.refl _ W3).drew) (fun hSd => ?_)
        refine Tks.out (l := [(0, some none), (1, some none), (2, some none), (3, some none), (4, some none), (5, some none), (6, some none), (7, some none), (8, some none)]) ?_
        iterate 9
         refine tkT (v := ?_) rfl (by kernel_rfl) (by kernel_rfl) (by kernel_rfl) (fun _ _ _ h => h) (Or.inl ⟨by kernel_rfl, fun W hSW => by go_simp; try with_reducible rfl⟩) (by assumption) ?_
         try simp only [List.getElem_toArray, List.getElem_cons_succ, List.getElem_cons_zero]
         try go_frame
        refine tkE ?_
        refine wpAnyH_ready (rs := [9]) (by kernel_rfl) (by simp) ?_
        refine AllReadyH.cons rfl (fun K hK => ?_) AllReadyH.nil
        go_simp
        refine (HS.out _ (Kept.refl _ W3).drew).mono ?_
        rintro e w9 ⟨u9, rfl, hu9, hk9⟩
        have k9 : Kept (fun _ => False) W3 w9 := (Kept.refl (fun _ => False) W3).drew.trans hk9
        refine hK.out _ _ (k9) (fun _ => ?_)
        clear hK K
        try simp only [List.getElem_toArray, List.getElem_cons_succ, List.getElem_cons_zero]
        try go_frame
        refine wpAnyH_take (i := 10) (v := ?_) rfl (by kernel_rfl) (by kernel_rfl) (by kernel_rfl) (fun _ _ _ h => h) (Or.inl ⟨by kernel_rfl, fun W hSW => by go_simp; try with_reducible rfl⟩) (by assumption) ?_
        try simp only [List.getElem_toArray, List.getElem_cons_succ, List.getElem_cons_zero]
        try go_frame
        refine wpAnyH_done (by kernel_rfl) ?_ _
        have hfin := HFN.out.1.trans k9
        have hsz9 := Nat.le_trans S0.out HFN.out.1.size
        clear r0 r1 r2 r3 r4 r5
        go_wp2
        go_ret
        refine ⟨u9, rfl, ?_, (by have t := HFN.out.2.kept hfin (fun h => h); first | exact t | (simp only [hs2, hh] at t; exact t) | (simp only [hs2, hh0] at t; exact t)), K0.out.andThen hfin (fun i _ h => h.elim)⟩
        rw [HAD.out]
        exact hu9.mono (Nat.le_trans hsz9 (Nat.le_refl _))
      · have hu0 : h.uniq.toList.isEmpty = false := by simpa using hu
        have hu1 : ¬ h.uniq.toList = [] := fun e => hu (List.isEmpty_iff.2 e)
        obtain ⟨v5, W5, hrun5, O5, K5⟩ := append_run (w0 := W0) (w := W3.alloc (.cells #[.int .i64 259, .string h.uniq] 97)) (K3.alloc _) (O3.kept ((Kept.refl (fun _ => False) W3).alloc _)) (own_tag W3 W0.heap.size K3.size 259 h.uniq).tags (by simp)
        obtain ⟨p5, c5, rfl⟩ := slice_of O5
        have HAD : Hid (askD h = etDisc h.ac h.mac 25 0 ([⟨257, h.service⟩] ++ [⟨260, h.cookie⟩] ++ [⟨259, h.uniq⟩])) := by
          show askD h = _
          unfold askD askTags markD
          rw [if_pos hs2, if_pos ⟨hs2, hh⟩, if_neg hu]
        have hsz : ∀ x ∈ ([⟨257, h.service⟩] ++ [⟨260, h.cookie⟩] ++ [⟨259, h.uniq⟩] : List Tg), x.value.size ≤ 140737488351232 := fun x hx => by
          have := hg.service
          have := hg.uniq
          have := hg.cookie
          simp at hx
          rcases hx with rfl | rfl | rfl <;> simp only <;> omega
        have d7 := ((H0.out.kept K3 (fun h => h)).cells hx hy).c7
        have d7' := ((H0.out.kept (K3.alloc (.cells #[.int .i64 259, .string h.uniq] 97)) (fun h => h)).cells hx hy).c7
        have d10 := ((H0.out.kept K5 (fun h => h)).cells hx hy).c10
        simp only at d7 d7' d10
        go_upto_region 7 with (at_builtin; refine Lib.wpList_append_run _ rfl _ _ 88 88 rfl _ _ rfl rfl _ _ (hrun5 _) ?_)
        have r0 : ∀ X, Kept (fun _ => False) W5 X → X.cell? ⟨b, 0, none⟩ = some (.int .u8 x0) := fun X hk => ((H0.out.kept (K5.trans hk) (fun h => h)).cells hx hy).c0
        have r1 : ∀ X, Kept (fun _ => False) W5 X → X.cell? ⟨b, 1, none⟩ = some (.int .u8 x1) := fun X hk => ((H0.out.kept (K5.trans hk) (fun h => h)).cells hx hy).c1
        have r2 : ∀ X, Kept (fun _ => False) W5 X → X.cell? ⟨b, 2, none⟩ = some (.int .u8 x2) := fun X hk => ((H0.out.kept (K5.trans hk) (fun h => h)).cells hx hy).c2
        have r3 : ∀ X, Kept (fun _ => False) W5 X → X.cell? ⟨b, 3, none⟩ = some (.int .u8 x3) := fun X hk => ((H0.out.kept (K5.trans hk) (fun h => h)).cells hx hy).c3
        have r4 : ∀ X, Kept (fun _ => False) W5 X → X.cell? ⟨b, 4, none⟩ = some (.int .u8 x4) := fun X hk => ((H0.out.kept (K5.trans hk) (fun h => h)).cells hx hy).c4
        have r5 : ∀ X, Kept (fun _ => False) W5 X → X.cell? ⟨b, 5, none⟩ = some (.int .u8 x5) := fun X hk => ((H0.out.kept (K5.trans hk) (fun h => h)).cells hx hy).c5
        have q0 : ∀ X, Kept (fun _ => False) W5 X → X.cell? ⟨b, 12, none⟩ = some (.int .u8 y0) := fun X hk => ((H0.out.kept (K5.trans hk) (fun h => h)).cells hx hy).c12
        have q1 : ∀ X, Kept (fun _ => False) W5 X → X.cell? ⟨b, 13, none⟩ = some (.int .u8 y1) := fun X hk => ((H0.out.kept (K5.trans hk) (fun h => h)).cells hx hy).c13
        have q2 : ∀ X, Kept (fun _ => False) W5 X → X.cell? ⟨b, 14, none⟩ = some (.int .u8 y2) := fun X hk => ((H0.out.kept (K5.trans hk) (fun h => h)).cells hx hy).c14
        have q3 : ∀ X, Kept (fun _ => False) W5 X → X.cell? ⟨b, 15, none⟩ = some (.int .u8 y3) := fun X hk => ((H0.out.kept (K5.trans hk) (fun h => h)).cells hx hy).c15
        have q4 : ∀ X, Kept (fun _ => False) W5 X → X.cell? ⟨b, 16, none⟩ = some (.int .u8 y4) := fun X hk => ((H0.out.kept (K5.trans hk) (fun h => h)).cells hx hy).c16
        have q5 : ∀ X, Kept (fun _ => False) W5 X → X.cell? ⟨b, 17, none⟩ = some (.int .u8 y5) := fun X hk => ((H0.out.kept (K5.trans hk) (fun h => h)).cells hx hy).c17
        have HS := hid (fun X (hk : Kept (fun _ => False) W5 X) => refSend_any h.mac h.ac hg.mac hg.ac 25 0 _ _ X (O5.tags.kept0 hk) hsz)
        rw [hx, hy] at HS
        have HFN := hid (And.intro K5 H0.out)
        clear hx hy hsz
        go_upto_region 8 with fail
        refine wp_region_held_drew (S := Kept (fun _ => False) W5) (by kernel_rfl) ((Kept.refl _ W5).drew) (fun hSd => ?_)
        refine Tks.out (l := [(0, some none), (1, some none), (2, some none), (3, some none), (4, some none), (5, some none), (6, some none), (7, some none), (8, some none)]) ?_
        iterate 9
         refine tkT (v := ?_) rfl (by kernel_rfl) (by kernel_rfl) (by kernel_rfl) (fun _ _ _ h => h) (Or.inl ⟨by kernel_rfl, fun W hSW => by go_simp; try with_reducible rfl⟩) (by assumption) ?_
         try simp only [List.getElem_toArray, List.getElem_cons_succ, List.getElem_cons_zero]
         try go_frame
        refine tkE ?_
        refine wpAnyH_ready (rs := [9]) (by kernel_rfl) (by simp) ?_
        refine AllReadyH.cons rfl (fun K hK => ?_) AllReadyH.nil
        go_simp
        refine (HS.out _ (Kept.refl _ W5).drew).mono ?_
        rintro e w9 ⟨u9, rfl, hu9, hk9⟩
        have k9 : Kept (fun _ => False) W5 w9 := (Kept.refl (fun _ => False) W5).drew.trans hk9
        refine hK.out _ _ (k9) (fun _ => ?_)
        clear hK K
        try simp only [List.getElem_toArray, List.getElem_cons_succ, List.getElem_cons_zero]
        try go_frame
        refine wpAnyH_take (i := 10) (v := ?_) rfl (by kernel_rfl) (by kernel_rfl) (by kernel_rfl) (fun _ _ _ h => h) (Or.inl ⟨by kernel_rfl, fun W hSW => by go_simp; try with_reducible rfl⟩) (by assumption) ?_
        try simp only [List.getElem_toArray, List.getElem_cons_succ, List.getElem_cons_zero]
        try go_frame
        refine wpAnyH_done (by kernel_rfl) ?_ _
        have hfin := HFN.out.1.trans k9
        have hsz9 := Nat.le_trans S0.out HFN.out.1.size
        clear r0 r1 r2 r3 r4 r5
        go_wp2
        go_ret
        refine ⟨u9, rfl, ?_, (by have t := HFN.out.2.kept hfin (fun h => h); first | exact t | (simp only [hs2, hh] at t; exact t) | (simp only [hs2, hh0] at t; exact t)), K0.out.andThen hfin (fun i _ h => h.elim)⟩
        rw [HAD.out]
        exact hu9.mono (Nat.le_trans hsz9 (Nat.le_refl _))
    · have hh0 : h.has = false := by simpa using hh
      rw [hh0] at e19
      go_upto_region 5 with fail
      clear e10 e19
      by_cases hu : h.uniq.toList.isEmpty = true
      · have hu1 : h.uniq.toList = [] := List.isEmpty_iff.1 hu
        have HAD : Hid (askD h = etDisc h.ac h.mac 25 0 ([⟨257, h.service⟩])) := by
          show askD h = _
          unfold askD askTags markD
          rw [if_pos hs2, if_neg (fun h => hh h.2), if_pos hu]
          rfl
        have hsz : ∀ x ∈ ([⟨257, h.service⟩] : List Tg), x.value.size ≤ 140737488351232 := fun x hx => by
          have := hg.service
          have := hg.uniq
          have := hg.cookie
          simp at hx
          subst hx
          simp only
          omega
        have d7 := ((H0.out.kept K1 (fun h => h)).cells hx hy).c7
        have d10 := ((H0.out.kept K1 (fun h => h)).cells hx hy).c10
        simp only at d7 d10
        have r0 : ∀ X, Kept (fun _ => False) W1 X → X.cell? ⟨b, 0, none⟩ = some (.int .u8 x0) := fun X hk => ((H0.out.kept (K1.trans hk) (fun h => h)).cells hx hy).c0
        have r1 : ∀ X, Kept (fun _ => False) W1 X → X.cell? ⟨b, 1, none⟩ = some (.int .u8 x1) := fun X hk => ((H0.out.kept (K1.trans hk) (fun h => h)).cells hx hy).c1
        have r2 : ∀ X, Kept (fun _ => False) W1 X → X.cell? ⟨b, 2, none⟩ = some (.int .u8 x2) := fun X hk => ((H0.out.kept (K1.trans hk) (fun h => h)).cells hx hy).c2
        have r3 : ∀ X, Kept (fun _ => False) W1 X → X.cell? ⟨b, 3, none⟩ = some (.int .u8 x3) := fun X hk => ((H0.out.kept (K1.trans hk) (fun h => h)).cells hx hy).c3
        have r4 : ∀ X, Kept (fun _ => False) W1 X → X.cell? ⟨b, 4, none⟩ = some (.int .u8 x4) := fun X hk => ((H0.out.kept (K1.trans hk) (fun h => h)).cells hx hy).c4
        have r5 : ∀ X, Kept (fun _ => False) W1 X → X.cell? ⟨b, 5, none⟩ = some (.int .u8 x5) := fun X hk => ((H0.out.kept (K1.trans hk) (fun h => h)).cells hx hy).c5
        have q0 : ∀ X, Kept (fun _ => False) W1 X → X.cell? ⟨b, 12, none⟩ = some (.int .u8 y0) := fun X hk => ((H0.out.kept (K1.trans hk) (fun h => h)).cells hx hy).c12
        have q1 : ∀ X, Kept (fun _ => False) W1 X → X.cell? ⟨b, 13, none⟩ = some (.int .u8 y1) := fun X hk => ((H0.out.kept (K1.trans hk) (fun h => h)).cells hx hy).c13
        have q2 : ∀ X, Kept (fun _ => False) W1 X → X.cell? ⟨b, 14, none⟩ = some (.int .u8 y2) := fun X hk => ((H0.out.kept (K1.trans hk) (fun h => h)).cells hx hy).c14
        have q3 : ∀ X, Kept (fun _ => False) W1 X → X.cell? ⟨b, 15, none⟩ = some (.int .u8 y3) := fun X hk => ((H0.out.kept (K1.trans hk) (fun h => h)).cells hx hy).c15
        have q4 : ∀ X, Kept (fun _ => False) W1 X → X.cell? ⟨b, 16, none⟩ = some (.int .u8 y4) := fun X hk => ((H0.out.kept (K1.trans hk) (fun h => h)).cells hx hy).c16
        have q5 : ∀ X, Kept (fun _ => False) W1 X → X.cell? ⟨b, 17, none⟩ = some (.int .u8 y5) := fun X hk => ((H0.out.kept (K1.trans hk) (fun h => h)).cells hx hy).c17
        have HS := hid (fun X (hk : Kept (fun _ => False) W1 X) => refSend_any h.mac h.ac hg.mac hg.ac 25 0 _ _ X (O1.tags.kept0 hk) hsz)
        rw [hx, hy] at HS
        have HFN := hid (And.intro K1 H0.out)
        clear hx hy hsz
        go_upto_region 8 with fail
        refine wp_region_held_drew (S := Kept (fun _ => False) W1) (by kernel_rfl) ((Kept.refl _ W1).drew) (fun hSd => ?_)
        refine Tks.out (l := [(0, some none), (1, some none), (2, some none), (3, some none), (4, some none), (5, some none), (6, some none), (7, some none), (8, some none)]) ?_
        iterate 9
         refine tkT (v := ?_) rfl (by kernel_rfl) (by kernel_rfl) (by kernel_rfl) (fun _ _ _ h => h) (Or.inl ⟨by kernel_rfl, fun W hSW => by go_simp; try with_reducible rfl⟩) (by assumption) ?_
         try simp only [List.getElem_toArray, List.getElem_cons_succ, List.getElem_cons_zero]
         try go_frame
        refine tkE ?_
        refine wpAnyH_ready (rs := [9]) (by kernel_rfl) (by simp) ?_
        refine AllReadyH.cons rfl (fun K hK => ?_) AllReadyH.nil
        go_simp
        refine (HS.out _ (Kept.refl _ W1).drew).mono ?_
        rintro e w9 ⟨u9, rfl, hu9, hk9⟩
        have k9 : Kept (fun _ => False) W1 w9 := (Kept.refl (fun _ => False) W1).drew.trans hk9
        refine hK.out _ _ (k9) (fun _ => ?_)
        clear hK K
        try simp only [List.getElem_toArray, List.getElem_cons_succ, List.getElem_cons_zero]
        try go_frame
        refine wpAnyH_take (i := 10) (v := ?_) rfl (by kernel_rfl) (by kernel_rfl) (by kernel_rfl) (fun _ _ _ h => h) (Or.inl ⟨by kernel_rfl, fun W hSW => by go_simp; try with_reducible rfl⟩) (by assumption) ?_
        try simp only [List.getElem_toArray, List.getElem_cons_succ, List.getElem_cons_zero]
        try go_frame
        refine wpAnyH_done (by kernel_rfl) ?_ _
        have hfin := HFN.out.1.trans k9
        have hsz9 := Nat.le_trans S0.out HFN.out.1.size
        clear r0 r1 r2 r3 r4 r5
        go_wp2
        go_ret
        refine ⟨u9, rfl, ?_, (by have t := HFN.out.2.kept hfin (fun h => h); first | exact t | (simp only [hs2, hh] at t; exact t) | (simp only [hs2, hh0] at t; exact t)), K0.out.andThen hfin (fun i _ h => h.elim)⟩
        rw [HAD.out]
        exact hu9.mono (Nat.le_trans hsz9 (Nat.le_refl _))
      · have hu0 : h.uniq.toList.isEmpty = false := by simpa using hu
        have hu1 : ¬ h.uniq.toList = [] := fun e => hu (List.isEmpty_iff.2 e)
        obtain ⟨v5, W5, hrun5, O5, K5⟩ := append_run (w0 := W0) (w := W1.alloc (.cells #[.int .i64 259, .string h.uniq] 97)) (K1.alloc _) (O1.kept ((Kept.refl (fun _ => False) W1).alloc _)) (own_tag W1 W0.heap.size K1.size 259 h.uniq).tags (by simp)
        obtain ⟨p5, c5, rfl⟩ := slice_of O5
        have HAD : Hid (askD h = etDisc h.ac h.mac 25 0 ([⟨257, h.service⟩] ++ [⟨259, h.uniq⟩])) := by
          show askD h = _
          unfold askD askTags markD
          rw [if_pos hs2, if_neg (fun h => hh h.2), if_neg hu]
          rfl
        have hsz : ∀ x ∈ ([⟨257, h.service⟩] ++ [⟨259, h.uniq⟩] : List Tg), x.value.size ≤ 140737488351232 := fun x hx => by
          have := hg.service
          have := hg.uniq
          have := hg.cookie
          simp at hx
          rcases hx with rfl | rfl <;> simp only <;> omega
        have d7 := ((H0.out.kept K1 (fun h => h)).cells hx hy).c7
        have d7' := ((H0.out.kept (K1.alloc (.cells #[.int .i64 259, .string h.uniq] 97)) (fun h => h)).cells hx hy).c7
        have d10 := ((H0.out.kept K5 (fun h => h)).cells hx hy).c10
        simp only at d7 d7' d10
        go_upto_region 7 with (at_builtin; refine Lib.wpList_append_run _ rfl _ _ 88 88 rfl _ _ rfl rfl _ _ (hrun5 _) ?_)
        have r0 : ∀ X, Kept (fun _ => False) W5 X → X.cell? ⟨b, 0, none⟩ = some (.int .u8 x0) := fun X hk => ((H0.out.kept (K5.trans hk) (fun h => h)).cells hx hy).c0
        have r1 : ∀ X, Kept (fun _ => False) W5 X → X.cell? ⟨b, 1, none⟩ = some (.int .u8 x1) := fun X hk => ((H0.out.kept (K5.trans hk) (fun h => h)).cells hx hy).c1
        have r2 : ∀ X, Kept (fun _ => False) W5 X → X.cell? ⟨b, 2, none⟩ = some (.int .u8 x2) := fun X hk => ((H0.out.kept (K5.trans hk) (fun h => h)).cells hx hy).c2
        have r3 : ∀ X, Kept (fun _ => False) W5 X → X.cell? ⟨b, 3, none⟩ = some (.int .u8 x3) := fun X hk => ((H0.out.kept (K5.trans hk) (fun h => h)).cells hx hy).c3
        have r4 : ∀ X, Kept (fun _ => False) W5 X → X.cell? ⟨b, 4, none⟩ = some (.int .u8 x4) := fun X hk => ((H0.out.kept (K5.trans hk) (fun h => h)).cells hx hy).c4
        have r5 : ∀ X, Kept (fun _ => False) W5 X → X.cell? ⟨b, 5, none⟩ = some (.int .u8 x5) := fun X hk => ((H0.out.kept (K5.trans hk) (fun h => h)).cells hx hy).c5
        have q0 : ∀ X, Kept (fun _ => False) W5 X → X.cell? ⟨b, 12, none⟩ = some (.int .u8 y0) := fun X hk => ((H0.out.kept (K5.trans hk) (fun h => h)).cells hx hy).c12
        have q1 : ∀ X, Kept (fun _ => False) W5 X → X.cell? ⟨b, 13, none⟩ = some (.int .u8 y1) := fun X hk => ((H0.out.kept (K5.trans hk) (fun h => h)).cells hx hy).c13
        have q2 : ∀ X, Kept (fun _ => False) W5 X → X.cell? ⟨b, 14, none⟩ = some (.int .u8 y2) := fun X hk => ((H0.out.kept (K5.trans hk) (fun h => h)).cells hx hy).c14
        have q3 : ∀ X, Kept (fun _ => False) W5 X → X.cell? ⟨b, 15, none⟩ = some (.int .u8 y3) := fun X hk => ((H0.out.kept (K5.trans hk) (fun h => h)).cells hx hy).c15
        have q4 : ∀ X, Kept (fun _ => False) W5 X → X.cell? ⟨b, 16, none⟩ = some (.int .u8 y4) := fun X hk => ((H0.out.kept (K5.trans hk) (fun h => h)).cells hx hy).c16
        have q5 : ∀ X, Kept (fun _ => False) W5 X → X.cell? ⟨b, 17, none⟩ = some (.int .u8 y5) := fun X hk => ((H0.out.kept (K5.trans hk) (fun h => h)).cells hx hy).c17
        have HS := hid (fun X (hk : Kept (fun _ => False) W5 X) => refSend_any h.mac h.ac hg.mac hg.ac 25 0 _ _ X (O5.tags.kept0 hk) hsz)
        rw [hx, hy] at HS
        have HFN := hid (And.intro K5 H0.out)
        clear hx hy hsz
        go_upto_region 8 with fail
        refine wp_region_held_drew (S := Kept (fun _ => False) W5) (by kernel_rfl) ((Kept.refl _ W5).drew) (fun hSd => ?_)
        refine Tks.out (l := [(0, some none), (1, some none), (2, some none), (3, some none), (4, some none), (5, some none), (6, some none), (7, some none), (8, some none)]) ?_
        iterate 9
         refine tkT (v := ?_) rfl (by kernel_rfl) (by kernel_rfl) (by kernel_rfl) (fun _ _ _ h => h) (Or.inl ⟨by kernel_rfl, fun W hSW => by go_simp; try with_reducible rfl⟩) (by assumption) ?_
         try simp only [List.getElem_toArray, List.getElem_cons_succ, List.getElem_cons_zero]
         try go_frame
        refine tkE ?_
        refine wpAnyH_ready (rs := [9]) (by kernel_rfl) (by simp) ?_
        refine AllReadyH.cons rfl (fun K hK => ?_) AllReadyH.nil
        go_simp
        refine (HS.out _ (Kept.refl _ W5).drew).mono ?_
        rintro e w9 ⟨u9, rfl, hu9, hk9⟩
        have k9 : Kept (fun _ => False) W5 w9 := (Kept.refl (fun _ => False) W5).drew.trans hk9
        refine hK.out _ _ (k9) (fun _ => ?_)
        clear hK K
        try simp only [List.getElem_toArray, List.getElem_cons_succ, List.getElem_cons_zero]
        try go_frame
        refine wpAnyH_take (i := 10) (v := ?_) rfl (by kernel_rfl) (by kernel_rfl) (by kernel_rfl) (fun _ _ _ h => h) (Or.inl ⟨by kernel_rfl, fun W hSW => by go_simp; try with_reducible rfl⟩) (by assumption) ?_
        try simp only [List.getElem_toArray, List.getElem_cons_succ, List.getElem_cons_zero]
        try go_frame
        refine wpAnyH_done (by kernel_rfl) ?_ _
        have hfin := HFN.out.1.trans k9
        have hsz9 := Nat.le_trans S0.out HFN.out.1.size
        clear r0 r1 r2 r3 r4 r5
        go_wp2
        go_ret
        refine ⟨u9, rfl, ?_, (by have t := HFN.out.2.kept hfin (fun h => h); first | exact t | (simp only [hs2, hh] at t; exact t) | (simp only [hs2, hh0] at t; exact t)), K0.out.andThen hfin (fun i _ h => h.elim)⟩
        rw [HAD.out]
        exact hu9.mono (Nat.le_trans hsz9 (Nat.le_refl _))
  · have hs2b : (h.state == 2) = false := by simpa using hs2
    go_upto_region 5 with fail
    clear e10 e19
    by_cases hu : h.uniq.toList.isEmpty = true
    · have hu1 : h.uniq.toList = [] := List.isEmpty_iff.1 hu
      have HAD : Hid (askD h = etDisc everyF h.mac 9 0 ([⟨257, h.service⟩])) := by
        show askD h = _
        unfold askD askTags markD
        rw [if_neg hs2, if_neg (fun h => hs2 h.1), if_pos hu]
        rfl
      have hsz : ∀ x ∈ ([⟨257, h.service⟩] : List Tg), x.value.size ≤ 140737488351232 := fun x hx => by
        have := hg.service
        have := hg.uniq
        have := hg.cookie
        simp at hx
        subst hx
        simp only
        omega
      have d7 := ((H0.out.kept K1 (fun h => h)).cells hx hy).c7
      have d10 := ((H0.out.kept K1 (fun h => h)).cells hx hy).c10
      simp only at d7 d10
      have r0 : ∀ X, Kept (fun _ => False) W1 X → X.cell? ⟨b, 0, none⟩ = some (.int .u8 x0) := fun X hk => ((H0.out.kept (K1.trans hk) (fun h => h)).cells hx hy).c0
      have r1 : ∀ X, Kept (fun _ => False) W1 X → X.cell? ⟨b, 1, none⟩ = some (.int .u8 x1) := fun X hk => ((H0.out.kept (K1.trans hk) (fun h => h)).cells hx hy).c1
      have r2 : ∀ X, Kept (fun _ => False) W1 X → X.cell? ⟨b, 2, none⟩ = some (.int .u8 x2) := fun X hk => ((H0.out.kept (K1.trans hk) (fun h => h)).cells hx hy).c2
      have r3 : ∀ X, Kept (fun _ => False) W1 X → X.cell? ⟨b, 3, none⟩ = some (.int .u8 x3) := fun X hk => ((H0.out.kept (K1.trans hk) (fun h => h)).cells hx hy).c3
      have r4 : ∀ X, Kept (fun _ => False) W1 X → X.cell? ⟨b, 4, none⟩ = some (.int .u8 x4) := fun X hk => ((H0.out.kept (K1.trans hk) (fun h => h)).cells hx hy).c4
      have r5 : ∀ X, Kept (fun _ => False) W1 X → X.cell? ⟨b, 5, none⟩ = some (.int .u8 x5) := fun X hk => ((H0.out.kept (K1.trans hk) (fun h => h)).cells hx hy).c5
      have HS := hid (fun X (hk : Kept (fun _ => False) W1 X) => refSend_any h.mac everyF hg.mac rfl 9 0 _ _ X (O1.tags.kept0 hk) hsz)
      rw [hx] at HS
      have HAl := hid rAll_any
      rw [show (Lib.byteCells everyF).toArray = #[.int .u8 255, .int .u8 255, .int .u8 255, .int .u8 255, .int .u8 255, .int .u8 255] from rfl] at HS HAl
      have HFN := hid (And.intro K1 H0.out)
      clear hx hy hsz
      go_upto_region 9 with fail
      refine wp_region_held_drew (S := Kept (fun _ => False) W1) (by kernel_rfl) ((Kept.refl _ W1).drew) (fun hSd => ?_)
      refine Tks.out (l := [(0, some none), (1, some none), (2, some none), (3, some none), (5, some none)]) ?_
      iterate 5
       refine tkT (v := ?_) rfl (by kernel_rfl) (by kernel_rfl) (by kernel_rfl) (fun _ _ _ h => h) (Or.inl ⟨by kernel_rfl, fun W hSW => by go_simp; try with_reducible rfl⟩) (by assumption) ?_
       try simp only [List.getElem_toArray, List.getElem_cons_succ, List.getElem_cons_zero]
       try go_frame
      refine tkE ?_
      refine wpAnyH_ready (rs := [4]) (by kernel_rfl) (by simp) ?_
      refine AllReadyH.cons rfl (fun K hK => ?_) AllReadyH.nil
      go_simp
      refine (HAl.out _).mono ?_
      rintro e w8 ⟨rfl, hk8⟩
      have k8 : Kept (fun _ => False) W1 w8 := (Kept.refl (fun _ => False) W1).drew.trans hk8
      refine hK.out _ _ (k8) (fun _ => ?_)
      clear hK K
      try simp only [List.getElem_toArray, List.getElem_cons_succ, List.getElem_cons_zero]
      try go_frame
      refine wpAnyH_ready (rs := [6]) (by kernel_rfl) (by simp) ?_
      refine AllReadyH.cons rfl (fun K hK => ?_) AllReadyH.nil
      go_simp
      refine (HS.out _ k8).mono ?_
      rintro e w9 ⟨u9, rfl, hu9, hk9⟩
      have k9 : Kept (fun _ => False) W1 w9 := k8.trans hk9
      refine hK.out _ _ (k9) (fun _ => ?_)
      clear hK K
      try simp only [List.getElem_toArray, List.getElem_cons_succ, List.getElem_cons_zero]
      try go_frame
      refine wpAnyH_take (i := 7) (v := ?_) rfl (by kernel_rfl) (by kernel_rfl) (by kernel_rfl) (fun _ _ _ h => h) (Or.inl ⟨by kernel_rfl, fun W hSW => by go_simp; try with_reducible rfl⟩) (by assumption) ?_
      try simp only [List.getElem_toArray, List.getElem_cons_succ, List.getElem_cons_zero]
      try go_frame
      refine wpAnyH_done (by kernel_rfl) ?_ _
      have hfin := HFN.out.1.trans k9
      have hsz9 := Nat.le_trans S0.out HFN.out.1.size
      clear r0 r1 r2 r3 r4 r5
      go_wp2
      go_ret
      refine ⟨u9, rfl, ?_, (by have t := HFN.out.2.kept hfin (fun h => h); first | exact t | (simp only [hs2, hh] at t; exact t) | (simp only [hs2, hh0] at t; exact t)), K0.out.andThen hfin (fun i _ h => h.elim)⟩
      rw [HAD.out]
      exact hu9.mono (Nat.le_trans hsz9 (k8.size))
    · have hu0 : h.uniq.toList.isEmpty = false := by simpa using hu
      have hu1 : ¬ h.uniq.toList = [] := fun e => hu (List.isEmpty_iff.2 e)
      obtain ⟨v5, W5, hrun5, O5, K5⟩ := append_run (w0 := W0) (w := W1.alloc (.cells #[.int .i64 259, .string h.uniq] 97)) (K1.alloc _) (O1.kept ((Kept.refl (fun _ => False) W1).alloc _)) (own_tag W1 W0.heap.size K1.size 259 h.uniq).tags (by simp)
      obtain ⟨p5, c5, rfl⟩ := slice_of O5
      have HAD : Hid (askD h = etDisc everyF h.mac 9 0 ([⟨257, h.service⟩] ++ [⟨259, h.uniq⟩])) := by
        show askD h = _
        unfold askD askTags markD
        rw [if_neg hs2, if_neg (fun h => hs2 h.1), if_neg hu]
        rfl
      have hsz : ∀ x ∈ ([⟨257, h.service⟩] ++ [⟨259, h.uniq⟩] : List Tg), x.value.size ≤ 140737488351232 := fun x hx => by
        have := hg.service
        have := hg.uniq
        have := hg.cookie
        simp at hx
        rcases hx with rfl | rfl <;> simp only <;> omega
      have d7 := ((H0.out.kept K1 (fun h => h)).cells hx hy).c7
      have d7' := ((H0.out.kept (K1.alloc (.cells #[.int .i64 259, .string h.uniq] 97)) (fun h => h)).cells hx hy).c7
      have d10 := ((H0.out.kept K5 (fun h => h)).cells hx hy).c10
      simp only at d7 d7' d10
      go_upto_region 7 with (at_builtin; refine Lib.wpList_append_run _ rfl _ _ 88 88 rfl _ _ rfl rfl _ _ (hrun5 _) ?_)
      have r0 : ∀ X, Kept (fun _ => False) W5 X → X.cell? ⟨b, 0, none⟩ = some (.int .u8 x0) := fun X hk => ((H0.out.kept (K5.trans hk) (fun h => h)).cells hx hy).c0
      have r1 : ∀ X, Kept (fun _ => False) W5 X → X.cell? ⟨b, 1, none⟩ = some (.int .u8 x1) := fun X hk => ((H0.out.kept (K5.trans hk) (fun h => h)).cells hx hy).c1
      have r2 : ∀ X, Kept (fun _ => False) W5 X → X.cell? ⟨b, 2, none⟩ = some (.int .u8 x2) := fun X hk => ((H0.out.kept (K5.trans hk) (fun h => h)).cells hx hy).c2
      have r3 : ∀ X, Kept (fun _ => False) W5 X → X.cell? ⟨b, 3, none⟩ = some (.int .u8 x3) := fun X hk => ((H0.out.kept (K5.trans hk) (fun h => h)).cells hx hy).c3
      have r4 : ∀ X, Kept (fun _ => False) W5 X → X.cell? ⟨b, 4, none⟩ = some (.int .u8 x4) := fun X hk => ((H0.out.kept (K5.trans hk) (fun h => h)).cells hx hy).c4
      have r5 : ∀ X, Kept (fun _ => False) W5 X → X.cell? ⟨b, 5, none⟩ = some (.int .u8 x5) := fun X hk => ((H0.out.kept (K5.trans hk) (fun h => h)).cells hx hy).c5
      have HS := hid (fun X (hk : Kept (fun _ => False) W5 X) => refSend_any h.mac everyF hg.mac rfl 9 0 _ _ X (O5.tags.kept0 hk) hsz)
      rw [hx] at HS
      have HAl := hid rAll_any
      rw [show (Lib.byteCells everyF).toArray = #[.int .u8 255, .int .u8 255, .int .u8 255, .int .u8 255, .int .u8 255, .int .u8 255] from rfl] at HS HAl
      have HFN := hid (And.intro K5 H0.out)
      clear hx hy hsz
      go_upto_region 9 with fail
      refine wp_region_held_drew (S := Kept (fun _ => False) W5) (by kernel_rfl) ((Kept.refl _ W5).drew) (fun hSd => ?_)
      refine Tks.out (l := [(0, some none), (1, some none), (2, some none), (3, some none), (5, some none)]) ?_
      iterate 5
       refine tkT (v := ?_) rfl (by kernel_rfl) (by kernel_rfl) (by kernel_rfl) (fun _ _ _ h => h) (Or.inl ⟨by kernel_rfl, fun W hSW => by go_simp; try with_reducible rfl⟩) (by assumption) ?_
       try simp only [List.getElem_toArray, List.getElem_cons_succ, List.getElem_cons_zero]
       try go_frame
      refine tkE ?_
      refine wpAnyH_ready (rs := [4]) (by kernel_rfl) (by simp) ?_
      refine AllReadyH.cons rfl (fun K hK => ?_) AllReadyH.nil
      go_simp
      refine (HAl.out _).mono ?_
      rintro e w8 ⟨rfl, hk8⟩
      have k8 : Kept (fun _ => False) W5 w8 := (Kept.refl (fun _ => False) W5).drew.trans hk8
      refine hK.out _ _ (k8) (fun _ => ?_)
      clear hK K
      try simp only [List.getElem_toArray, List.getElem_cons_succ, List.getElem_cons_zero]
      try go_frame
      refine wpAnyH_ready (rs := [6]) (by kernel_rfl) (by simp) ?_
      refine AllReadyH.cons rfl (fun K hK => ?_) AllReadyH.nil
      go_simp
      refine (HS.out _ k8).mono ?_
      rintro e w9 ⟨u9, rfl, hu9, hk9⟩
      have k9 : Kept (fun _ => False) W5 w9 := k8.trans hk9
      refine hK.out _ _ (k9) (fun _ => ?_)
      clear hK K
      try simp only [List.getElem_toArray, List.getElem_cons_succ, List.getElem_cons_zero]
      try go_frame
      refine wpAnyH_take (i := 7) (v := ?_) rfl (by kernel_rfl) (by kernel_rfl) (by kernel_rfl) (fun _ _ _ h => h) (Or.inl ⟨by kernel_rfl, fun W hSW => by go_simp; try with_reducible rfl⟩) (by assumption) ?_
      try simp only [List.getElem_toArray, List.getElem_cons_succ, List.getElem_cons_zero]
      try go_frame
      refine wpAnyH_done (by kernel_rfl) ?_ _
      have hfin := HFN.out.1.trans k9
      have hsz9 := Nat.le_trans S0.out HFN.out.1.size
      clear r0 r1 r2 r3 r4 r5
      go_wp2
      go_ret
      refine ⟨u9, rfl, ?_, (by have t := HFN.out.2.kept hfin (fun h => h); first | exact t | (simp only [hs2, hh] at t; exact t) | (simp only [hs2, hh0] at t; exact t)), K0.out.andThen hfin (fun i _ h => h.elim)⟩
      rw [HAD.out]
      exact hu9.mono (Nat.le_trans hsz9 (k8.size))
end Go.Proofs.YtffnppfoofifgaaGreat

namespace Go.Proofs.YtffnppfoofifgaaGreat
open Go.RowKit

/-- What NewHost answers. -/
def DNew (m : List UInt8) (s u : ByteArray) (retry wait : Int) (w : World) (e : Ending) (w' : World) : Prop :=
  ((¬ (s.size ≤ 40 ∧ u.size ≤ 40 ∧ 0 ≤ retry ∧ retry ≤ 10 ∧ 1 ≤ wait ∧ wait ≤ 100) ∧ e = .returned (.tuple #[.pointer none, .int .i64 1])) ∨
   ((s.size ≤ 40 ∧ u.size ≤ 40 ∧ 0 ≤ retry ∧ retry ≤ 10 ∧ 1 ≤ wait ∧ wait ≤ 100) ∧ ∃ b, w.heap.size ≤ b ∧ e = .returned (.tuple #[.pointer (some ⟨b, 0, none⟩), .int .i64 0]) ∧ HdIn w' b (newD m s u retry wait))) ∧ Kept (fun _ => False) w w'
set_option maxHeartbeats 4000000 in
set_option maxRecDepth 100000 in
theorem rNewHost_any (m : List UInt8) (hm : m.length = 6) (s u : ByteArray) (retry wait : Int) (w : World) :
    Calls Tryz.prog 6 #[.agg (Lib.byteCells m).toArray, .string s, .string u, .int .i64 retry, .int .i64 wait] w (DNew m s u retry wait w) := by
  obtain ⟨x0, x1, x2, x3, x4, x5, hx⟩ := six_cells hm
  rw [hx]
  have K1 := hid ((Kept.refl (fun _ => False) w).alloc (.cells #[.int .u8 x0, .int .u8 x1, .int .u8 x2, .int .u8 x3, .int .u8 x4, .int .u8 x5] 23))
  have hl : hdList (newD m s u retry wait) = [.int .u8 x0, .int .u8 x1, .int .u8 x2, .int .u8 x3, .int .u8 x4, .int .u8 x5, .string s, .string u, .int .i64 retry, .int .i64 wait, .int .i64 0, .int .i64 0, .int .u8 0, .int .u8 0, .int .u8 0, .int .u8 0, .int .u8 0, .int .u8 0, .string ⟨#[]⟩, .bool false, .int .i64 0, .int .i64 0] := by
    unfold hdList newD
    simp only
    rw [hx]
    rfl
  by_cases q1 : (40 : Int) < (s.size : Int)
  · go_enter Tryz.func6, Tryz.ntmps6
    go_wp2
    go_ret2
    exact ⟨Or.inl ⟨by omega, rfl⟩, K1.out⟩
  · by_cases q2 : (40 : Int) < (u.size : Int)
    · go_enter Tryz.func6, Tryz.ntmps6
      go_wp2
      go_ret2
      exact ⟨Or.inl ⟨by omega, rfl⟩, K1.out⟩
    · by_cases q3 : retry < 0
      · go_enter Tryz.func6, Tryz.ntmps6
        go_wp2
        go_ret2
        exact ⟨Or.inl ⟨by omega, rfl⟩, K1.out⟩
      · by_cases q4 : 10 < retry
        · go_enter Tryz.func6, Tryz.ntmps6
          go_wp2
          go_ret2
          exact ⟨Or.inl ⟨by omega, rfl⟩, K1.out⟩
        · by_cases q5 : wait < 1
          · go_enter Tryz.func6, Tryz.ntmps6
            go_wp2
            go_ret2
            exact ⟨Or.inl ⟨by omega, rfl⟩, K1.out⟩
          · by_cases q6 : 100 < wait
            · go_enter Tryz.func6, Tryz.ntmps6
              go_wp2
              go_ret2
              exact ⟨Or.inl ⟨by omega, rfl⟩, K1.out⟩
            · have HF := hid (And.intro hl K1.out)
              clear hl hx
              go_enter Tryz.func6, Tryz.ntmps6
              go_wp2
              go_ret2
              refine ⟨Or.inr ⟨by omega, w.heap.size + 1, by omega, rfl, ?_⟩, HF.out.2.alloc _⟩
              have hn := heap_alloc_new (w.alloc (.cells #[.int .u8 x0, .int .u8 x1, .int .u8 x2, .int .u8 x3, .int .u8 x4, .int .u8 x5] 23)) (.cells (hdList (newD m s u retry wait)).toArray 75)
              rw [show (w.alloc (.cells #[.int .u8 x0, .int .u8 x1, .int .u8 x2, .int .u8 x3, .int .u8 x4, .int .u8 x5] 23)).heap.size = w.heap.size + 1 by simp] at hn
              unfold HdIn
              rw [HF.out.1] at hn ⊢
              exact hn

theorem GoodD.upd {h : Hd} (g : GoodD h) (st : Int) (tr tk : Int) (h1 : 0 ≤ tr ∧ tr ≤ h.retry) (h2 : 0 ≤ tk ∧ tk ≤ 1000000000) : GoodD { h with state := st, tries := tr, ticks := tk } :=
  ⟨g.mac, g.ac, g.service, g.uniq, g.retry, g.wait, g.cookie, h2, h1⟩
theorem GoodD.new {m : List UInt8} (hm : m.length = 6) {s u : ByteArray} {r t : Int} (h : s.size ≤ 40 ∧ u.size ≤ 40 ∧ 0 ≤ r ∧ r ≤ 10 ∧ 1 ≤ t ∧ t ≤ 100) : GoodD (newD m s u r t) :=
  ⟨hm, rfl, h.1, h.2.1, ⟨h.2.2.1, h.2.2.2.1⟩, ⟨h.2.2.2.2.1, h.2.2.2.2.2⟩, by show 0 ≤ 1000000; decide, ⟨by show (0 : Int) ≤ 0; decide, by show (0 : Int) ≤ 1000000000; decide⟩, ⟨by show (0 : Int) ≤ 0; decide, h.2.2.1⟩⟩

set_option maxHeartbeats 2000000 in
set_option maxRecDepth 100000 in
theorem rStart_any (b : Nat) (h : Hd) (hg : GoodD h) (w : World) (H : HdIn w b h) :
    Calls Tryz.prog 8 #[.pointer (some ⟨b, 0, none⟩)] w fun e w' => ∃ u, e = .returned u ∧ OwnE w' w.heap.size u (startD h).1 ∧ HdIn w' b (startD h).2 ∧ Kept (fun i => i = b) w w' := by
  obtain ⟨x0, x1, x2, x3, x4, x5, hx⟩ := six_cells hg.mac
  obtain ⟨y0, y1, y2, y3, y4, y5, hy⟩ := six_cells hg.ac
  have c10 := (H.cells hx hy).c10
  unfold startD
  by_cases hs : h.state = 0 ∨ h.state = 4
  · rw [if_pos hs]
    have H1 : HdIn (w.setCell ⟨b, 10, none⟩ (.int .i64 1)) b { h with state := 1 } := H.set 10 _ (hd_state hg.mac 1)
    have H2 : HdIn ((w.setCell ⟨b, 10, none⟩ (.int .i64 1)).setCell ⟨b, 21, none⟩ (.int .i64 0)) b { h with state := 1, tries := 0 } := H1.set 21 _ (hd_tries (h := { h with state := 1 }) hg.mac hg.ac 0)
    have K2 : Kept (fun i => i = b) w ((w.setCell ⟨b, 10, none⟩ (.int .i64 1)).setCell ⟨b, 21, none⟩ (.int .i64 0)) := ((Kept.refl (fun i => i = b) w).setCell (p := ⟨b, 10, none⟩) (Or.inr rfl) _).setCell (p := ⟨b, 21, none⟩) (Or.inr rfl) _
    have c21 := (H1.cells hx hy).c21
    have f10 := H.fz 10
    have f21 := H1.fz 21
    have c21' := (H.cells hx hy).c21
    have f21' := H.fz 21
    simp only at c21
    have HA := hid (rAsk_any b { h with state := 1, tries := 0 } (hg.upd 1 0 h.ticks ⟨by decide, hg.retry.1⟩ hg.ticks) _ H2)
    have HK := hid K2
    clear hx hy H H1 H2 K2
    rcases hs with hs | hs
    · have hs1 : (h.state != 0) = false := by simp [hs]
      go_enter Tryz.func8, Tryz.ntmps8
      go_upto_region 4 with fail
      generalize (w.setCell ⟨b, 10, none⟩ (.int .i64 1)).setCell ⟨b, 21, none⟩ (.int .i64 0) = W at *
      go_wp2_with fail
      refine HA.out.mono ?_
      rintro e w1 ⟨u, rfl, hu, hh, hk⟩
      have HF := hid (And.intro (hu.mono HK.out.size) (And.intro hh (HK.out.trans hk)))
      clear hu hh hk
      go_wp2
      go_ret
      exact ⟨u, rfl, HF.out⟩
    · have hs1 : (h.state != 0) = true := by simp [hs]
      have hs2 : (h.state != 4) = false := by simp [hs]
      go_enter Tryz.func8, Tryz.ntmps8
      go_upto_region 4 with fail
      generalize (w.setCell ⟨b, 10, none⟩ (.int .i64 1)).setCell ⟨b, 21, none⟩ (.int .i64 0) = W at *
      go_wp2_with fail
      refine HA.out.mono ?_
      rintro e w1 ⟨u, rfl, hu, hh, hk⟩
      have HF := hid (And.intro (hu.mono HK.out.size) (And.intro hh (HK.out.trans hk)))
      clear hu hh hk
      go_wp2
      go_ret
      exact ⟨u, rfl, HF.out⟩
  · rw [if_neg hs]
    have hs1 : (h.state != 0) = true := by simp; omega
    have hs2 : (h.state != 4) = true := by simp; omega
    have HF := hid H
    clear H hx hy hs
    go_enter Tryz.func8, Tryz.ntmps8
    go_wp2
    go_ret
    exact ⟨_, rfl, OwnE.nil _ _, HF.out, Kept.refl _ w⟩

set_option maxHeartbeats 2000000 in
set_option maxRecDepth 100000 in
theorem rStop_any (b : Nat) (h : Hd) (hg : GoodD h) (w : World) (H : HdIn w b h) :
    Calls Tryz.prog 10 #[.pointer (some ⟨b, 0, none⟩)] w fun e w' => ∃ u, e = .returned u ∧ OwnE w' w.heap.size u (stopD h).1 ∧ HdIn w' b (stopD h).2 ∧ Kept (fun i => i = b) w w' := by
  obtain ⟨x0, x1, x2, x3, x4, x5, hx⟩ := six_cells hg.mac
  obtain ⟨y0, y1, y2, y3, y4, y5, hy⟩ := six_cells hg.ac
  have HC := hid (fun X (hk : Kept (fun _ => False) w X) => (H.kept hk (fun h => h)).cells hx hy)
  have q10 : ∀ X, Kept (fun _ => False) w X → X.cell? ⟨b, 10, none⟩ = some (.int .i64 h.state) := fun X hk => (HC.out X hk).c10
  have q11 : ∀ X, Kept (fun _ => False) w X → X.cell? ⟨b, 11, none⟩ = some (.int .i64 h.session) := fun X hk => (HC.out X hk).c11
  have q12 : ∀ X, Kept (fun _ => False) w X → X.cell? ⟨b, 12, none⟩ = some (.int .u8 y0) := fun X hk => (HC.out X hk).c12
  have q13 : ∀ X, Kept (fun _ => False) w X → X.cell? ⟨b, 13, none⟩ = some (.int .u8 y1) := fun X hk => (HC.out X hk).c13
  have q14 : ∀ X, Kept (fun _ => False) w X → X.cell? ⟨b, 14, none⟩ = some (.int .u8 y2) := fun X hk => (HC.out X hk).c14
  have q15 : ∀ X, Kept (fun _ => False) w X → X.cell? ⟨b, 15, none⟩ = some (.int .u8 y3) := fun X hk => (HC.out X hk).c15
  have q16 : ∀ X, Kept (fun _ => False) w X → X.cell? ⟨b, 16, none⟩ = some (.int .u8 y4) := fun X hk => (HC.out X hk).c16
  have q17 : ∀ X, Kept (fun _ => False) w X → X.cell? ⟨b, 17, none⟩ = some (.int .u8 y5) := fun X hk => (HC.out X hk).c17
  generalize hR : stopD h = R
  have HR := hid hR
  have HH := hid H
  clear hR H
  go_enter Tryz.func10, Tryz.ntmps10
  go_upto_region 1 with fail
  refine wp_region_held_drew (S := Kept (fun _ => False) w) (by kernel_rfl) ((Kept.refl _ w).drew) (fun hSd => ?_)
  refine Tks.out (l := [(0, some none), (1, some none), (2, some none), (3, some none), (4, some none), (5, some none), (6, some none), (7, some none), (8, some none), (9, some none), (10, some none), (11, some none)]) ?_
  iterate 12
   refine tkT (v := ?_) rfl (by kernel_rfl) (by kernel_rfl) (by kernel_rfl) (fun _ _ _ h => h) (Or.inl ⟨by kernel_rfl, fun W hSW => by go_simp; try with_reducible rfl⟩) (by assumption) ?_
   try simp only [List.getElem_toArray, List.getElem_cons_succ, List.getElem_cons_zero]
   try go_frame
  refine tkE ?_
  refine wpAnyH_ready (rs := [12]) (by kernel_rfl) (by simp) ?_
  refine AllReadyH.cons rfl (fun K hK => ?_) AllReadyH.nil
  go_simp
  refine hK.out _ _ (((Kept.refl _ w).drew.alloc _)) (fun _ => ?_)
  clear hK K
  try simp only [List.getElem_toArray, List.getElem_cons_succ, List.getElem_cons_zero]
  try go_frame
  refine wpAnyH_take (i := 13) (v := ?_) rfl (by kernel_rfl) (by kernel_rfl) (by kernel_rfl) (fun _ _ _ h => h) (Or.inl ⟨by kernel_rfl, fun W hSW => by go_simp; try with_reducible rfl⟩) (by assumption) ?_
  try simp only [List.getElem_toArray, List.getElem_cons_succ, List.getElem_cons_zero]
  try go_frame
  refine wpAnyH_ready (rs := [14]) (by kernel_rfl) (by simp) ?_
  refine AllReadyH.cons rfl (fun K hK => ?_) AllReadyH.nil
  go_simp
  have K14 := hid (((Kept.refl (fun _ => False) w).alloc (.cells #[.int .u8 y0, .int .u8 y1, .int .u8 y2, .int .u8 y3, .int .u8 y4, .int .u8 y5] 23)).drew)
  have B14 : Hid ((w.alloc (.cells #[.int .u8 y0, .int .u8 y1, .int .u8 y2, .int .u8 y3, .int .u8 y4, .int .u8 y5] 23)).drew.heap[w.heap.size]? = some (.cells #[.int .u8 y0, .int .u8 y1, .int .u8 y2, .int .u8 y3, .int .u8 y4, .int .u8 y5] 23 (0, 0))) := heap_alloc_new w _
  refine hK.out _ _ (K14.out) (fun _ => ?_)
  clear hK K
  try simp only [List.getElem_toArray, List.getElem_cons_succ, List.getElem_cons_zero]
  try go_frame
  refine wpAnyH_take (i := 15) (v := ?_) rfl (by kernel_rfl) (by kernel_rfl) (by kernel_rfl) (fun _ _ _ h => h) (Or.inl ⟨by kernel_rfl, fun W hSW => by go_simp; try with_reducible rfl⟩) (by assumption) ?_
  try simp only [List.getElem_toArray, List.getElem_cons_succ, List.getElem_cons_zero]
  try go_frame
  refine wpAnyH_done (by kernel_rfl) ?_ _
  go_upto_region 2 with fail
  clear q10 q11 q12 q13 q14 q15 q16 q17
  generalize (w.alloc (.cells #[.int .u8 y0, .int .u8 y1, .int .u8 y2, .int .u8 y3, .int .u8 y4, .int .u8 y5] 23)).drew = W at *
  have hwb : w.heap.size ≠ b := fun e => by
    have := HH.out.lt
    omega
  generalize w.heap.size = wb at *
  have HW := hid (HH.out.kept K14.out (fun h => h))
  have c10 := (HW.out.cells hx hy).c10
  have f10 := HW.out.fz 10
  have HW2 : Hid (HdIn (W.setCell ⟨b, 10, none⟩ (.int .i64 0)) b { h with state := 0 }) := HW.out.set 10 _ (hd_state hg.mac 0)
  have KW2 : Hid (Kept (fun i => i = b) w (W.setCell ⟨b, 10, none⟩ (.int .i64 0))) := (K14.out.mono (T := fun i => i = b) (fun _ _ h => h.elim)).setCell (p := ⟨b, 10, none⟩) (Or.inr rfl) _
  have BW2 : Hid ((W.setCell ⟨b, 10, none⟩ (.int .i64 0)).heap[wb]? = some (.cells #[.int .u8 y0, .int .u8 y1, .int .u8 y2, .int .u8 y3, .int .u8 y4, .int .u8 y5] 23 (0, 0))) := (Below.heap_setCell W _ _ wb hwb).trans B14.out
  clear HW K14 B14 hwb
  go_upto_region 3 with fail
  clear c10 f10
  generalize W.setCell ⟨b, 10, none⟩ (.int .i64 0) = W2 at *
  by_cases hs : h.state = 3
  · have hs1 : (h.state != 3) = false := by simp [hs]
    have HRR : Hid ((etDisc h.ac h.mac 167 h.session [], { h with state := 0 }) = R) := by
      have := HR.out
      unfold stopD at this
      rw [if_pos hs] at this
      exact this
    have HS := hid (fun X => refSend_any h.mac h.ac hg.mac hg.ac 167 h.session (.slice none 0 0) [] X (Or.inl ⟨rfl, none, 0, rfl⟩) (fun x hx => by cases hx))
    rw [hx, hy] at HS
    have r0 : ∀ X, Kept (fun _ => False) W2 X → X.cell? ⟨b, 0, none⟩ = some (.int .u8 x0) := fun X hk => ((HW2.out.kept hk (fun h => h)).cells hx hy).c0
    have r1 : ∀ X, Kept (fun _ => False) W2 X → X.cell? ⟨b, 1, none⟩ = some (.int .u8 x1) := fun X hk => ((HW2.out.kept hk (fun h => h)).cells hx hy).c1
    have r2 : ∀ X, Kept (fun _ => False) W2 X → X.cell? ⟨b, 2, none⟩ = some (.int .u8 x2) := fun X hk => ((HW2.out.kept hk (fun h => h)).cells hx hy).c2
    have r3 : ∀ X, Kept (fun _ => False) W2 X → X.cell? ⟨b, 3, none⟩ = some (.int .u8 x3) := fun X hk => ((HW2.out.kept hk (fun h => h)).cells hx hy).c3
    have r4 : ∀ X, Kept (fun _ => False) W2 X → X.cell? ⟨b, 4, none⟩ = some (.int .u8 x4) := fun X hk => ((HW2.out.kept hk (fun h => h)).cells hx hy).c4
    have r5 : ∀ X, Kept (fun _ => False) W2 X → X.cell? ⟨b, 5, none⟩ = some (.int .u8 x5) := fun X hk => ((HW2.out.kept hk (fun h => h)).cells hx hy).c5
    have hwl := (Array.getElem?_eq_some_iff.1 BW2.out).1
    have s0 : ∀ X, Kept (fun _ => False) W2 X → X.cell? ⟨wb, 0, none⟩ = some (.int .u8 y0) := fun X hk => by simp [World.cell?, (hk.block wb hwl (fun h => h)).trans BW2.out]
    have s1 : ∀ X, Kept (fun _ => False) W2 X → X.cell? ⟨wb, 1, none⟩ = some (.int .u8 y1) := fun X hk => by simp [World.cell?, (hk.block wb hwl (fun h => h)).trans BW2.out]
    have s2 : ∀ X, Kept (fun _ => False) W2 X → X.cell? ⟨wb, 2, none⟩ = some (.int .u8 y2) := fun X hk => by simp [World.cell?, (hk.block wb hwl (fun h => h)).trans BW2.out]
    have s3 : ∀ X, Kept (fun _ => False) W2 X → X.cell? ⟨wb, 3, none⟩ = some (.int .u8 y3) := fun X hk => by simp [World.cell?, (hk.block wb hwl (fun h => h)).trans BW2.out]
    have s4 : ∀ X, Kept (fun _ => False) W2 X → X.cell? ⟨wb, 4, none⟩ = some (.int .u8 y4) := fun X hk => by simp [World.cell?, (hk.block wb hwl (fun h => h)).trans BW2.out]
    have s5 : ∀ X, Kept (fun _ => False) W2 X → X.cell? ⟨wb, 5, none⟩ = some (.int .u8 y5) := fun X hk => by simp [World.cell?, (hk.block wb hwl (fun h => h)).trans BW2.out]
    obtain rfl := HRR.out
    clear hs HRR HR hwl
    go_upto_region 5 with fail
    refine wp_region_held_drew (S := Kept (fun _ => False) W2) (by kernel_rfl) ((Kept.refl _ W2).drew) (fun hSd => ?_)
    refine Tks.out (l := [(0, some none), (1, some none), (2, some none), (3, some none), (4, some none), (5, some none)]) ?_
    iterate 6
     refine tkT (v := ?_) rfl (by kernel_rfl) (by kernel_rfl) (by kernel_rfl) (fun _ _ _ h => h) (Or.inl ⟨by kernel_rfl, fun W hSW => by go_simp; try with_reducible rfl⟩) (by assumption) ?_
     try simp only [List.getElem_toArray, List.getElem_cons_succ, List.getElem_cons_zero]
     try go_frame
    refine tkE ?_
    refine wpAnyH_ready (rs := [6]) (by kernel_rfl) (by simp) ?_
    refine AllReadyH.cons rfl (fun K hK => ?_) AllReadyH.nil
    go_simp
    refine (HS.out _).mono ?_
    rintro e w9 ⟨u9, rfl, hu9, hk9⟩
    have k9 : Kept (fun _ => False) W2 w9 := (Kept.refl (fun _ => False) W2).drew.trans hk9
    refine hK.out _ _ (k9) (fun _ => ?_)
    clear hK K
    try simp only [List.getElem_toArray, List.getElem_cons_succ, List.getElem_cons_zero]
    try go_frame
    refine wpAnyH_take (i := 7) (v := ?_) rfl (by kernel_rfl) (by kernel_rfl) (by kernel_rfl) (fun _ _ _ h => h) (Or.inl ⟨by kernel_rfl, fun W hSW => by go_simp; try with_reducible rfl⟩) (by assumption) ?_
    try simp only [List.getElem_toArray, List.getElem_cons_succ, List.getElem_cons_zero]
    try go_frame
    refine wpAnyH_done (by kernel_rfl) ?_ _
    clear r0 r1 r2 r3 r4 r5 s0 s1 s2 s3 s4 s5
    go_wp2
    go_ret
    exact ⟨u9, rfl, hu9.mono KW2.out.size, HW2.out.kept k9 (fun h => h), KW2.out.andThen k9 (fun i _ h => h.elim)⟩
  · have hs1 : (h.state != 3) = true := by simpa using hs
    have HRR : Hid ((([] : List Fr), { h with state := 0 }) = R) := by
      have := HR.out
      unfold stopD at this
      rw [if_neg hs] at this
      exact this
    obtain rfl := HRR.out
    clear hs HRR HR
    go_wp2
    go_ret
    exact ⟨_, rfl, OwnE.nil _ _, HW2.out, KW2.out⟩

set_option maxHeartbeats 2000000 in
set_option maxRecDepth 100000 in
theorem rShows_any (b : Nat) (h : Hd) (hg : GoodD h) (w : World) (H : HdIn w b h) :
    Calls Tryz.prog 21 #[.pointer (some ⟨b, 0, none⟩)] w fun e w' => e = .returned (.tuple #[.int .i64 (showsD h).1, .agg (Lib.byteCells (showsD h).2.1).toArray, .int .i64 (showsD h).2.2]) ∧ Kept (fun _ => False) w w' := by
  obtain ⟨x0, x1, x2, x3, x4, x5, hx⟩ := six_cells hg.mac
  obtain ⟨y0, y1, y2, y3, y4, y5, hy⟩ := six_cells hg.ac
  have HC := hid (fun X (hk : Kept (fun _ => False) w X) => (H.kept hk (fun h => h)).cells hx hy)
  have K1 := hid ((Kept.refl (fun _ => False) w).alloc (.cells #[.int .u8 0, .int .u8 0, .int .u8 0, .int .u8 0, .int .u8 0, .int .u8 0] 23))
  have B1 : Hid ((w.alloc (.cells #[.int .u8 0, .int .u8 0, .int .u8 0, .int .u8 0, .int .u8 0, .int .u8 0] 23)).heap[w.heap.size]? = some (.cells #[.int .u8 0, .int .u8 0, .int .u8 0, .int .u8 0, .int .u8 0, .int .u8 0] 23 (0, 0))) := heap_alloc_new w _
  have c10 : ∀ o, (w.alloc o).cell? ⟨b, 10, none⟩ = some (.int .i64 h.state) := fun o => (HC.out _ ((Kept.refl _ w).alloc o)).c10
  have c11 : ∀ o, (w.alloc o).cell? ⟨b, 11, none⟩ = some (.int .i64 h.session) := fun o => (HC.out _ ((Kept.refl _ w).alloc o)).c11
  have c12 : ∀ o, (w.alloc o).cell? ⟨b, 12, none⟩ = some (.int .u8 y0) := fun o => (HC.out _ ((Kept.refl _ w).alloc o)).c12
  have c13 : ∀ o, (w.alloc o).cell? ⟨b, 13, none⟩ = some (.int .u8 y1) := fun o => (HC.out _ ((Kept.refl _ w).alloc o)).c13
  have c14 : ∀ o, (w.alloc o).cell? ⟨b, 14, none⟩ = some (.int .u8 y2) := fun o => (HC.out _ ((Kept.refl _ w).alloc o)).c14
  have c15 : ∀ o, (w.alloc o).cell? ⟨b, 15, none⟩ = some (.int .u8 y3) := fun o => (HC.out _ ((Kept.refl _ w).alloc o)).c15
  have c16 : ∀ o, (w.alloc o).cell? ⟨b, 16, none⟩ = some (.int .u8 y4) := fun o => (HC.out _ ((Kept.refl _ w).alloc o)).c16
  have c17 : ∀ o, (w.alloc o).cell? ⟨b, 17, none⟩ = some (.int .u8 y5) := fun o => (HC.out _ ((Kept.refl _ w).alloc o)).c17
  have e0 : Lib.byteCells mac0 = [.int .u8 0, .int .u8 0, .int .u8 0, .int .u8 0, .int .u8 0, .int .u8 0] := rfl
  unfold showsD
  by_cases h2 : h.state = 2
  · rw [if_pos h2]
    simp only
    rw [hy]
    have h2b : (h.state == 2) = true := by simp [h2]
    clear h2 hx hy e0
    go_enter Tryz.func21, Tryz.ntmps21
    go_wp2
    go_region
    all_goals
      go_wp2
      refine bodyPost_ret (v := .tuple #[.int .i64 2, .agg #[.int .u8 y0, .int .u8 y1, .int .u8 y2, .int .u8 y3, .int .u8 y4, .int .u8 y5], .int .i64 0]) (by simp [results, Tryz.results21, go_sem]) rfl ⟨rfl, ((Kept.refl _ w).alloc _).drew⟩
  · rw [if_neg h2]
    have h2b : (h.state == 2) = false := by simpa using h2
    by_cases h3 : h.state = 3
    · rw [if_pos h3]
      simp only
      rw [hy]
      have h3b : (h.state == 3) = true := by simp [h3]
      clear h2 h3 hx hy e0
      go_enter Tryz.func21, Tryz.ntmps21
      go_wp2
      go_region
      all_goals
        go_wp2
        refine bodyPost_ret (v := .tuple #[.int .i64 3, .agg #[.int .u8 y0, .int .u8 y1, .int .u8 y2, .int .u8 y3, .int .u8 y4, .int .u8 y5], .int .i64 h.session]) (by simp [results, Tryz.results21, go_sem]) rfl ⟨rfl, ((Kept.refl _ w).alloc _).drew⟩
    · rw [if_neg h3]
      simp only
      rw [e0]
      have h3b : (h.state == 3) = false := by simpa using h3
      clear h2 h3 hx hy e0
      go_enter Tryz.func21, Tryz.ntmps21
      go_wp2
      refine bodyPost_ret (v := .tuple #[.int .i64 h.state, .agg #[.int .u8 0, .int .u8 0, .int .u8 0, .int .u8 0, .int .u8 0, .int .u8 0], .int .i64 0]) (by simp [results, Tryz.results21, go_sem]) rfl ⟨rfl, (Kept.refl _ w).alloc _⟩
end Go.Proofs.YtffnppfoofifgaaGreat
