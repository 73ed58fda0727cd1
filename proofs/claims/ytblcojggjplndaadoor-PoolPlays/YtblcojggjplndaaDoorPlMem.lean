/- The document's own pool (tollgateref13) in memory; a key is another one; how often none is lent. -/
import Derived.Test.YtblcojggjplndaaDoorPlRef
import Derived.Test.YtblcojggjplndaaDoorGRow
namespace Go.Proofs.YtblcojggjplndaaDoor
open Go.RowKit

def ltCells (k : Lt) : List Value := [.bool k.is, .int .i64 k.t, .int .i64 k.s]
theorem encL : EncG ltCells 3 := ⟨fun _ => rfl, fun x u hu => by simp [ltCells] at hu; rcases hu with rfl | rfl | rfl <;> rfl, by decide⟩
theorem tyL : TyG Tryd.prog 67 71 3 (.agg #[.bool false, .int .i64 0, .int .i64 0]) 24 := ⟨Tryd.underlying67, by kernel_rfl, rfl, by decide⟩

/-- The document's pool at block b: its base, and its places in a row at base or behind. -/
structure PoIn (w : World) (base b : Nat) (v : Value) (x : Ad) (l : List Lt) : Prop where
  blk : w.heap[b]? = some (.cells #[.int .u8 (x.a.toNat : Int), .int .u8 (x.b.toNat : Int), .int .u8 (x.c.toNat : Int), .int .u8 (x.d.toNat : Int), v] 69 (0, 0))
  own : OwnG ltCells 3 71 w base v l

section
variable {w w' : World} {base b : Nat} {v : Value} {x : Ad} {l : List Lt}
theorem PoIn.lt (h : PoIn w base b v x l) : b < w.heap.size := (Array.getElem?_eq_some_iff.1 h.blk).1
theorem PoIn.c0 (h : PoIn w base b v x l) : w.cell? ⟨b, 0, none⟩ = some (.int .u8 (x.a.toNat : Int)) := by simp [World.cell?, h.blk]
theorem PoIn.c1 (h : PoIn w base b v x l) : w.cell? ⟨b, 1, none⟩ = some (.int .u8 (x.b.toNat : Int)) := by simp [World.cell?, h.blk]
theorem PoIn.c2 (h : PoIn w base b v x l) : w.cell? ⟨b, 2, none⟩ = some (.int .u8 (x.c.toNat : Int)) := by simp [World.cell?, h.blk]
theorem PoIn.c3 (h : PoIn w base b v x l) : w.cell? ⟨b, 3, none⟩ = some (.int .u8 (x.d.toNat : Int)) := by simp [World.cell?, h.blk]
theorem PoIn.c4 (h : PoIn w base b v x l) : w.cell? ⟨b, 4, none⟩ = some v := by simp [World.cell?, h.blk]
theorem PoIn.kept0 (h : PoIn w base b v x l) (hk : Kept (fun _ => False) w w') : PoIn w' base b v x l := ⟨(hk.block b h.lt id).trans h.blk, h.own.kept0 hk⟩
/-- The row is no pool. -/
theorem PoIn.ne (h : PoIn w base b v x l) {i : Nat} (hi : v.ownBlock = some i) : i ≠ b := fun e => by
  obtain ⟨⟨cur, h1⟩, _⟩ := h.own.block hi
  subst e
  rw [h.blk] at h1
  simp at h1
/-- One cell of a place is written. -/
theorem PoIn.setRow {g n cap : Nat} (h : PoIn w base b (.slice (some ⟨g, 0, none⟩) n cap) x l) {j : Nat} {y z : Lt} (hj : l[j]? = some y) (i : Nat) (hi : i < 3) (u : Value) (hy : ltCells z = (ltCells y).set i u) :
    PoIn (w.setCell ⟨g, j * 3 + i, none⟩ u) base b (.slice (some ⟨g, 0, none⟩) n cap) x (l.set j z) :=
  ⟨(Below.heap_setCell w _ u b (fun e => h.ne (i := g) rfl e.symm)).trans h.blk, h.own.setAt encL hj i hi u hy⟩
/-- A place is written whole. -/
theorem PoIn.setAll {g n cap : Nat} (h : PoIn w base b (.slice (some ⟨g, 0, none⟩) n cap) x l) {j : Nat} {y : Lt} (hj : l[j]? = some y) (q : Bool) (t s : Int) :
    PoIn (((w.setCell ⟨g, j * 3, none⟩ (.bool q)).setCell ⟨g, j * 3 + 1, none⟩ (.int .i64 t)).setCell ⟨g, j * 3 + 2, none⟩ (.int .i64 s)) base b (.slice (some ⟨g, 0, none⟩) n cap) x (l.set j ⟨q, t, s⟩) := by
  have hlt := (List.getElem?_eq_some_iff.1 hj).1
  have h1 := h.setRow hj (z := ⟨q, y.t, y.s⟩) 0 (by decide) (.bool q) rfl
  have h2 := h1.setRow (j := j) (y := ⟨q, y.t, y.s⟩) (z := ⟨q, t, y.s⟩) (by rw [List.getElem?_set_self hlt]) 1 (by decide) (.int .i64 t) rfl
  rw [List.set_set] at h2
  have h3 := h2.setRow (j := j) (y := ⟨q, t, y.s⟩) (z := ⟨q, t, s⟩) (by rw [List.getElem?_set_self hlt]) 2 (by decide) (.int .i64 s) rfl
  rw [List.set_set] at h3
  exact h3
end
/-- The pool at b, wherever its row lies. -/
def PoAt (w : World) (base b : Nat) (x : Ad) (l : List Lt) : Prop := ∃ v, PoIn w base b v x l
/-- From w to w' nothing has turned but rows of places at base or behind. -/
def PoK (base : Nat) (w w' : World) : Prop := Kept (fun i => base ≤ i ∧ ∃ cur, w.heap[i]? = some (.cells cur 71 (0, 0))) w w'
theorem PoK.of {base : Nat} {w w' : World} (h : Kept (fun _ => False) w w') : PoK base w w' := h.mono (fun _ _ h => h.elim)
theorem PoK.trans {base : Nat} {a c w : World} (h : PoK base a w) (k : PoK base w c) : PoK base a c := by
  refine ⟨k.os.trans h.os, k.tape.trans h.tape, k.output.trans h.output, Nat.le_trans h.size k.size, fun i hi hn => ?_⟩
  have e := h.block i hi hn
  refine (k.block i (Nat.lt_of_lt_of_le hi h.size) (fun hh => hn ?_)).trans e
  obtain ⟨h1, cur, h2⟩ := hh
  exact ⟨h1, cur, by rw [← e]; exact h2⟩
theorem PoIn.drewN {w : World} {base b : Nat} {v : Value} {x : Ad} {l : List Lt} (h : PoIn w base b v x l) (n : Nat) : PoIn (w.drewN n) base b v x l := h.kept0 ((Kept.refl _ w).drewN n)
theorem PoIn.inS {w : World} {base b g n cap : Nat} {x : Ad} {l : List Lt} (h : PoIn w base b (.slice (some ⟨g, 0, none⟩) n cap) x l) : base ≤ g ∧ ∃ cur, w.heap[g]? = some (.cells cur 71 (0, 0)) :=
  ⟨(h.own.block rfl).2.1, (h.own.block rfl).1⟩

theorem PoIn.keptAll {base b g n cap : Nat} {x : Ad} {l : List Lt} {w w' : World} (h : PoIn w base b (.slice (some ⟨g, 0, none⟩) n cap) x l) (hk : PoK base w w') (i j k : Nat) (u v y : Value) : PoK base w (((w'.setCell ⟨g, i, none⟩ u).setCell ⟨g, j, none⟩ v).setCell ⟨g, k, none⟩ y) :=
  ((Kept.setCell hk (Or.inr h.inS) _).setCell (Or.inr h.inS) _).setCell (Or.inr h.inS) _

theorem cellsPKey : Tryd.prog.cellsOf 37 = 2 := by kernel_rfl
theorem cellsPInt : Tryd.prog.cellsOf 3 = 1 := by kernel_rfl
set_option maxRecDepth 100000 in
theorem pkey_eq {k i k' i' : Int} (hk : I64 k) (hi : I64 i) (hk' : I64 k') (hi' : I64 i') (W : World) : (Op.equalIn 10000 37 (.agg #[.int .i64 k, .int .i64 i]) (.agg #[.int .i64 k', .int .i64 i'])).run Tryd.prog W = .ok (k == k' && i == i') W := by
  have hkt : Tryd.prog.keyTypeAt 2 37 = true := by kernel_rfl
  have h : ∀ {k i : Int}, I64 k → I64 i → Tryd.prog.keyLits 2 37 [.int .i64 k, .int .i64 i] = some [.int .i64 k, .int .i64 i] := fun hk hi => by
    simp [Program.keyLits, Tryd.underlying37, cellsPKey, cellsPInt, Tryd.underlying3, WalkArith.wf_i64 hk, WalkArith.wf_i64 hi]
  have hf : ∀ k i : Int, (Value.agg #[.int .i64 k, .int .i64 i]).formed Tryd.prog 37 = true := fun k i => by simp [Value.formed, Tryd.underlying37, cellsPKey]
  obtain ⟨r, hr, hiff⟩ := run_equalIn_deep (P := Tryd.prog) 9998 2 37 hkt W 2 2 (.agg #[.int .i64 k, .int .i64 i]) (.agg #[.int .i64 k', .int .i64 i']) _ _ (hf _ _) (hf _ _) (h hk hi) (h hk' hi')
  have hr' : (Op.equalIn 10000 37 (.agg #[.int .i64 k, .int .i64 i]) (.agg #[.int .i64 k', .int .i64 i'])).run Tryd.prog W = .ok r W := hr
  rw [hr']
  congr 1
  rw [Bool.eq_iff_iff, hiff]
  simp

set_option maxHeartbeats 2000000 in
set_option maxRecDepth 100000 in
theorem rFree_any {w : World} {base b : Nat} {v : Value} {x : Ad} {l : List Lt} (h : PoIn w base b v x l) (hl : FewL l) :
    Calls Tryd.prog 20 #[.pointer (some ⟨b, 0, none⟩)] w fun e w' => e = .returned (.int .i64 (nFree l : Int)) ∧ Kept (fun _ => False) w w' := by
  obtain ⟨p, cap, rfl⟩ := slice_of h.own
  have HI := hid h
  have hlen := hl.1
  clear h hl
  go_enter Tryd.func20, Tryd.ntmps20
  go_wp2
  go_loopw [3, 4] (fun vn vi wr => ∃ j : Nat, j ≤ l.length ∧ vi = .int .i64 (j : Int) ∧ vn = .int .i64 (nFree (l.take j) : Int) ∧ Hid (Kept (fun _ => False) w wr)) (fun _ vi _ => l.length - (intOf vi).toNat)
  case atStart => exact ⟨0, Nat.zero_le _, rfl, rfl, Kept.refl _ _⟩
  case round =>
    obtain ⟨j, hj, rfl, rfl, HJ⟩ := hrel
    have c4 := (HI.out.kept0 HJ.out).c4
    by_cases hlt : j < l.length
    · have hltz : (j : Int) < (l.length : Int) := by omega
      obtain ⟨y, hy⟩ : ∃ y, l[j]? = some y := ⟨l[j], by simp [hlt]⟩
      obtain ⟨g, rfl, _, _, hcap, hcm, hcs, _⟩ := (HI.out.own.kept0 HJ.out).at encL hy
      have n0 := hcs 0 _ rfl
      rw [Nat.add_zero] at n0
      have hnn : nFree (l.take (j + 1)) = nFree (l.take j) + (if y.is then 0 else 1) := by
        unfold nFree
        rw [List.take_add_one, hy, List.countP_append]
        cases hq : y.is <;> simp [hq]
      have hle : nFree (l.take j) ≤ l.length := Nat.le_trans List.countP_le_length (by rw [List.length_take]; omega)
      have HNN := hid hnn
      generalize nFree (l.take j) = c at *
      clear hcs hy hnn
      generalize y.is = q at *
      cases q with
      | true =>
        go_wp2
        exact ⟨⟨j + 1, hlt, by go_num, by rw [HNN.out]; rfl, HJ.out⟩, by simp [intOf]; omega⟩
      | false =>
        have hw1 : IntKind.i64.wrap ((c : Int) + 1) = (c : Int) + 1 := by rw [IntKind.wrap_i64]; omega
        go_wp2
        exact ⟨⟨j + 1, hlt, by go_num, by rw [HNN.out]; go_num, HJ.out⟩, by simp [intOf]; omega⟩
    · obtain rfl : j = l.length := by omega
      have hltz : ¬ (l.length : Int) < (l.length : Int) := by omega
      rw [List.take_length]
      go_wp2
      go_ret
      exact ⟨rfl, HJ.out⟩
end Go.Proofs.YtblcojggjplndaaDoor
