/- The contracts of the book's SameAvps (of two lists that are alike), LentAvps, StaysAvps; rows of values as rows of the book's elements; the values that some bytes give are good ones. · What the walk of the law MsgTells leans on: a law's own book of lists of ints and of values; boxes and rows that the book's calls leave. · The contract of the document's own SameCtl, at two messages that are the same. · The contract of the document's own mask: hiding and showing, piece by piece. · What the document's Mask and Unmask come to, as AvRefPut and AvRefGet want it. · The contract of the document's own GetCtl (P1901). (Written by gen_mgget.py.) · The contract of the document's own Check (P1904), and of its Kind at every list. · The contract of the document's own Make (P1903). · The contract of the document's own Put (P1801). (Written by gen_avrefput.py.) · The walk of the law MsgTells. (Written by gen_msgtells.py.) · What the rows' lists give: the two tables' cells hold what the program's text lays; and a world for the witness. -/
import Derived.Test.YtkneogfeokckjaaGreatDoorBkAll
import Derived.Test.YtkneogfeokckjaaGreatDoorMsIn
import Derived.Test.YtkneogfeokckjaaGreatDoorAvRefS
import Derived.Test.YtkneogfeokckjaaGreatDoorAvPut
import Derived.Test.YtkneogfeokckjaaGreatDoorRefLow
import Derived.Test.YtkneogfeokckjaaGreatDoorRefMd5
import Derived.Deep.DeepCutAuto
import Derived.Deep.AppendLies
import Derived.Deep.WholeRow
import Derived.Test.YtkneogfeokckjaaGreatDoorAvRef1
import Derived.Test.YtkneogfeokckjaaGreatDoorAvRefGet
import Derived.Test.YtkneogfeokckjaaGreatDoorTlLo
import Derived.Deep.RegionHeld
import Derived.Deep.CutRange
import Derived.Deep.CutBlock
import Derived.Test.YtkneogfeokckjaaGreatDoorRows
import Derived.Test.YtkneogfeokckjaaGreatDoorStir
import Derived.Lib.LaidTab
import Derived.Stop.LaidErr
import Derived.ProofKit
namespace Go.Proofs.YtkneogfeokckjaaGreatDoor
open Go.RowKit

/-! Values that were got. -/
theorem cutF_good (b : ByteArray) : GoodA (cutF b).1 := by
  have h2 := numAt_lt b 2
  have h4 := numAt_lt b 4
  have hs := cutF_size b
  refine ⟨?_, ?_, by unfold maxLen; omega⟩
  · unfold cutF
    split
    · exact ⟨by show (-9223372036854775808 : Int) ≤ 0; decide, by show (0 : Int) ≤ 9223372036854775807; decide⟩
    split
    · exact ⟨by show (-9223372036854775808 : Int) ≤ 0; decide, by show (0 : Int) ≤ 9223372036854775807; decide⟩
    split
    · exact ⟨by show (-9223372036854775808 : Int) ≤ 0; decide, by show (0 : Int) ≤ 9223372036854775807; decide⟩
    split
    · exact ⟨by show (-9223372036854775808 : Int) ≤ 0; decide, by show (0 : Int) ≤ 9223372036854775807; decide⟩
    · show -9223372036854775808 ≤ (numAt b 2 : Int) ∧ (numAt b 2 : Int) ≤ 9223372036854775807
      omega
  · unfold cutF
    split
    · exact ⟨by show (-9223372036854775808 : Int) ≤ 0; decide, by show (0 : Int) ≤ 9223372036854775807; decide⟩
    split
    · exact ⟨by show (-9223372036854775808 : Int) ≤ 0; decide, by show (0 : Int) ≤ 9223372036854775807; decide⟩
    split
    · exact ⟨by show (-9223372036854775808 : Int) ≤ 0; decide, by show (0 : Int) ≤ 9223372036854775807; decide⟩
    split
    · exact ⟨by show (-9223372036854775808 : Int) ≤ 0; decide, by show (0 : Int) ≤ 9223372036854775807; decide⟩
    · show -9223372036854775808 ≤ (numAt b 4 : Int) ∧ (numAt b 4 : Int) ≤ 9223372036854775807
      omega
theorem toldF_good {c : Cov} {x : Av} (h : GoodA x) (hs : x.value.size ≤ 1002) : GoodA (toldF c x).1 := by
  have hv := toldF_size (c := c) hs
  refine ⟨?_, ?_, by unfold maxLen; omega⟩
  · unfold toldF
    split
    · exact h.vendor
    · exact h.vendor
  · unfold toldF
    split
    · exact h.type
    · exact h.type
theorem getN_good (n : Nat) (b : ByteArray) (acc : List Av) (c : Cov) (h : ∀ x ∈ acc, GoodA x) (hl : acc.length ≤ 40) : (∀ x ∈ (getN n b acc c).1, GoodA x) ∧ (getN n b acc c).1.length ≤ 40 := by
  induction n generalizing b acc c with
  | zero => exact ⟨fun x hx => by simp [getN] at hx, by simp [getN]⟩
  | succ n ih =>
    unfold getN
    split
    · exact ⟨h, hl⟩
    split
    · split
      · exact ⟨fun x hx => by simp at hx, by simp⟩
      · split
        · refine ih _ _ _ (fun x hx => ?_) (by rw [List.length_append, List.length_singleton]; omega)
          rcases List.mem_append.1 hx with hx | hx
          · exact h x hx
          · rw [List.mem_singleton.1 hx]
            exact toldF_good (cutF_good b) (cutF_size b)
        · exact ⟨fun x hx => by simp at hx, by simp⟩
    · exact ⟨fun x hx => by simp at hx, by simp⟩
theorem getAF_good (b s : ByteArray) : (∀ x ∈ (getAF b s).1, GoodA x) ∧ (getAF b s).1.length ≤ 40 := getN_good _ b [] (cov0 s) (fun x hx => by simp at hx) (by simp)

/-! Lists of values as lists of the book. -/
theorem toElA {l : List Av} (h : ∀ x ∈ l, GoodA x) : ∃ L : List BAvps.El, L.map (·.1) = l := by
  induction l with
  | nil => exact ⟨[], rfl⟩
  | cons f l ih =>
    obtain ⟨L, hL⟩ := ih (fun x hx => h x (List.mem_cons_of_mem _ hx))
    exact ⟨⟨f, h f (List.mem_cons_self ..)⟩ :: L, by simp [hL]⟩
theorem rowA_map (L : List BAvps.El) : rowG avCells (L.map (·.1)) = BAvps.rowB L := by
  induction L with
  | nil => rfl
  | cons a r ih =>
    rw [BAvps.rowB_cons, ← ih]
    simp [rowG, BAvps.elCells]
theorem own_elA {W : World} {base : Nat} {v : Value} {L : List BAvps.El} (h : OwnAv W base v (L.map (·.1))) : BAvps.OwnB W base v L := by
  unfold OwnAv OwnG at h
  rw [rowA_map, List.length_map] at h
  exact h

/-! Lists that are lent. -/
def lentA : Av := ⟨false, false, 0, -77, ⟨#[]⟩⟩
/-- A list with one more, hidden, behind it. -/
def LentAv (W : World) (base g cap : Nat) (l : List Av) : Prop := OwnAv W base (.slice (some ⟨g, 0, none⟩) (l.length + 1) cap) (l ++ [lentA])
theorem LentAv.at_ {W : World} {base g cap : Nat} {l : List Av} (h : LentAv W base g cap l) : AvsAt W (.slice (some ⟨g, 0, none⟩) l.length cap) l := by
  have h1 := AvsAt.take (k := l.length) (OwnAv.at h) (by simp)
  rw [List.take_left] at h1
  exact h1
theorem LentAv.kept {W W' : World} {base g cap : Nat} {l : List Av} (h : LentAv W base g cap l) (hk : Kept (fun _ => False) W W') : LentAv W' base g cap l := OwnG.kept0 h hk
theorem LentAv.last {W : World} {base g cap : Nat} {l : List Av} (h : LentAv W base g cap l) : l.length + 1 ≤ cap ∧ cap ≤ maxLen ∧ W.cell? ⟨g, l.length * 5 + 3, none⟩ = some (.int .i64 (-77)) := by
  obtain ⟨g', e, _, _, h1, h2, hc, _⟩ := OwnG.at h encAv (j := l.length) (x := lentA) (by simp)
  simp only [Option.some.injEq, Addr.mk.injEq, and_true] at e
  subst e
  rw [List.length_append, List.length_singleton] at h1
  exact ⟨h1, h2, hc 3 _ rfl⟩

def lentCells : Array Value := #[.bool false, .bool false, .int .i64 0, .int .i64 (-77), .string ⟨#[]⟩]
theorem lent_run (p : Option Addr) (cp : Nat) (l : List Av) (w : World) (hv : AvsAt w (.slice p l.length cp) l) (hl : l.length ≤ 10000) :
    ∃ q n c w1 g cap w2, AppG Tryz.prog 22 w (.slice none 0 0) (.slice p l.length cp) (.slice q n c) w1 ∧ AppG Tryz.prog 22 (w1.alloc (.cells lentCells 72)) (.slice q n c) (.slice (some ⟨w1.heap.size, 0, none⟩) 1 1) (.slice (some ⟨g, 0, none⟩) (l.length + 1) cap) w2 ∧ LentAv w2 w.heap.size g cap l ∧ Kept (fun _ => False) w w2 ∧ l.length + 1 ≤ cap ∧ cap ≤ maxLen := by
  obtain ⟨u, w1, r1, o1, k0⟩ := OwnG.appendList tyAv encAv (OwnG.nil w w.heap.size) (Nat.le_refl _) p cp l (fun hne => AvsAt.src hv hne) (by simp; omega)
  rw [List.nil_append] at o1
  obtain ⟨q, c, hu⟩ := slice_of o1
  subst hu
  have k1 : Kept (fun _ => False) w w1 := k0.mono (fun i _ h => by cases h)
  have hs1 := k1.size
  have hc0 := cells_new w1 (avCells lentA) 72
  obtain ⟨v2, w2, r2, o2, g2⟩ := OwnG.append tyAv encAv (OwnAv.alloc o1 (.cells (avCells lentA).toArray 72)) (by simp; omega) ⟨w1.heap.size, 0, none⟩ 1 [lentA] (by simp) (by simpa [rowG] using hc0) (by simp; omega)
  have hk2 : Kept (fun _ => False) w w2 := (k1.alloc (.cells (avCells lentA).toArray 72)).andThen g2.kept (fun i hi e => by have := (OwnG.block o1 e).2.1; omega)
  obtain ⟨g, cap, rfl, _, c1, c2, _, _⟩ := OwnG.lies o2 (by simp)
  have e2 : (l ++ [lentA]).length = l.length + 1 := by simp
  rw [e2] at o2 r2 c1
  exact ⟨q, _, c, w1, g, cap, w2, r1, r2, o2, hk2, c1, c2⟩

set_option maxHeartbeats 1000000 in
set_option maxRecDepth 100000 in
theorem lentAvps_any (v : Value) (l : List Av) (w : World) (hv : AvsAt w v l) (hl : l.length ≤ 10000) :
    Calls Tryz.prog 6 #[v] w fun e w' => ∃ g cap, e = .returned (.slice (some ⟨g, 0, none⟩) l.length cap) ∧ LentAv w' w.heap.size g cap l ∧ Kept (fun _ => False) w w' := by
  obtain ⟨p, cp, rfl⟩ := RowsAt.slice hv
  obtain ⟨q, n, c, w1, g, cap, w2, r1, r2, o2, hk2, c1, c2⟩ := lent_run p cp l w hv hl
  have HL := hid o2
  have HK := hid hk2
  unfold lentCells AppG at r2
  unfold AppG at r1
  unfold maxLen at c2
  have hc1 : (l.length : Int) + 1 ≤ (cap : Int) := by omega
  clear hv o2 hk2
  go_enter Tryz.func6, Tryz.ntmps6
  go_wp2_with (first
    | (at_builtin; refine Lib.wpList_append_run _ rfl _ _ _ _ rfl _ _ rfl rfl _ _ (r1 _) ?_; clear r1)
    | (at_builtin; refine Lib.wpList_append_run _ rfl _ _ _ _ rfl _ _ rfl rfl _ _ (r2 _) ?_; clear r2))
  go_ret
  exact ⟨_, _, rfl, HL.out, HK.out⟩

set_option maxHeartbeats 4000000 in
set_option maxRecDepth 100000 in
theorem sameBk_any (v u : Value) (l : List Av) (w : World) (hv : AvsAt w v l) (hu : AvsAt w u l) (hl : l.length ≤ 1000000) (gl : ∀ x ∈ l, GoodA x) :
    Calls Tryz.prog 20 #[v, u] w fun e w' => e = .returned (.bool true) ∧ Kept (fun _ => False) w w' := by
  obtain ⟨p, cap, rfl⟩ := RowsAt.slice hv
  obtain ⟨q, cbp, rfl⟩ := RowsAt.slice hu
  have HV := hid (fun W (hk : Kept (fun _ => False) w W) => RowsAt.kept0 hv hk)
  have HU := hid (fun W (hk : Kept (fun _ => False) w W) => RowsAt.kept0 hu hk)
  have GL := hid gl
  clear hv hu gl
  go_enter Tryz.func20, Tryz.ntmps20
  go_wp2
  go_loopw [5] (fun vi wr => ∃ j : Nat, j ≤ l.length ∧ vi = .int .i64 (j : Int) ∧ Hid (Kept (fun _ => False) w wr)) (fun vi _ => l.length - (intOf vi).toNat)
  case atStart => exact ⟨0, Nat.zero_le _, rfl, Kept.refl _ _⟩
  case round =>
    obtain ⟨j, hj, rfl, HI⟩ := hrel
    by_cases hlt : j < l.length
    · have hltz : (j : Int) < (l.length : Int) := by omega
      obtain ⟨x, hx⟩ : ∃ x, l[j]? = some x := ⟨l[j], by simp [hlt]⟩
      have hq : ∀ W, Sem.run Tryz.prog (Op.equalIn 10000 72 (avV x) (avV x)) W = .ok true W := BAvps.av_self (GL.out x (List.mem_of_getElem? hx))
      obtain ⟨g, o, rfl, hcap, _⟩ := AvsAt.at5 (HV.out _ HI.out) hx
      obtain ⟨g2, o2, rfl, hcbp, _⟩ := AvsAt.at5 (HU.out _ HI.out) hx
      have A1 := hid (fun W (hk : Kept (fun _ => False) wr W) => AvsAt.at5 (HV.out W (HI.out.trans hk)) hx)
      have A2 := hid (fun W (hk : Kept (fun _ => False) wr W) => AvsAt.at5 (HU.out W (HI.out.trans hk)) hx)
      have c0 : ∀ W, Kept (fun _ => False) wr W → W.cell? ⟨g, o + j * 5, none⟩ = some (.bool x.must) := fun W hk => by
        obtain ⟨g', o', e', _, q⟩ := A1.out W hk
        simp only [Option.some.injEq, Addr.mk.injEq, and_true] at e'
        obtain ⟨rfl, rfl⟩ := e'
        exact q.1
      have c1 : ∀ W, Kept (fun _ => False) wr W → W.cell? ⟨g, o + j * 5 + 1, none⟩ = some (.bool x.hidden) := fun W hk => by
        obtain ⟨g', o', e', _, q⟩ := A1.out W hk
        simp only [Option.some.injEq, Addr.mk.injEq, and_true] at e'
        obtain ⟨rfl, rfl⟩ := e'
        exact q.2.1
      have c2 : ∀ W, Kept (fun _ => False) wr W → W.cell? ⟨g, o + j * 5 + 2, none⟩ = some (.int .i64 x.vendor) := fun W hk => by
        obtain ⟨g', o', e', _, q⟩ := A1.out W hk
        simp only [Option.some.injEq, Addr.mk.injEq, and_true] at e'
        obtain ⟨rfl, rfl⟩ := e'
        exact q.2.2.1
      have c3 : ∀ W, Kept (fun _ => False) wr W → W.cell? ⟨g, o + j * 5 + 3, none⟩ = some (.int .i64 x.type) := fun W hk => by
        obtain ⟨g', o', e', _, q⟩ := A1.out W hk
        simp only [Option.some.injEq, Addr.mk.injEq, and_true] at e'
        obtain ⟨rfl, rfl⟩ := e'
        exact q.2.2.2.1
      have c4 : ∀ W, Kept (fun _ => False) wr W → W.cell? ⟨g, o + j * 5 + 4, none⟩ = some (.string x.value) := fun W hk => by
        obtain ⟨g', o', e', _, q⟩ := A1.out W hk
        simp only [Option.some.injEq, Addr.mk.injEq, and_true] at e'
        obtain ⟨rfl, rfl⟩ := e'
        exact q.2.2.2.2
      have d0 : ∀ W, Kept (fun _ => False) wr W → W.cell? ⟨g2, o2 + j * 5, none⟩ = some (.bool x.must) := fun W hk => by
        obtain ⟨g', o', e', _, q⟩ := A2.out W hk
        simp only [Option.some.injEq, Addr.mk.injEq, and_true] at e'
        obtain ⟨rfl, rfl⟩ := e'
        exact q.1
      have d1 : ∀ W, Kept (fun _ => False) wr W → W.cell? ⟨g2, o2 + j * 5 + 1, none⟩ = some (.bool x.hidden) := fun W hk => by
        obtain ⟨g', o', e', _, q⟩ := A2.out W hk
        simp only [Option.some.injEq, Addr.mk.injEq, and_true] at e'
        obtain ⟨rfl, rfl⟩ := e'
        exact q.2.1
      have d2 : ∀ W, Kept (fun _ => False) wr W → W.cell? ⟨g2, o2 + j * 5 + 2, none⟩ = some (.int .i64 x.vendor) := fun W hk => by
        obtain ⟨g', o', e', _, q⟩ := A2.out W hk
        simp only [Option.some.injEq, Addr.mk.injEq, and_true] at e'
        obtain ⟨rfl, rfl⟩ := e'
        exact q.2.2.1
      have d3 : ∀ W, Kept (fun _ => False) wr W → W.cell? ⟨g2, o2 + j * 5 + 3, none⟩ = some (.int .i64 x.type) := fun W hk => by
        obtain ⟨g', o', e', _, q⟩ := A2.out W hk
        simp only [Option.some.injEq, Addr.mk.injEq, and_true] at e'
        obtain ⟨rfl, rfl⟩ := e'
        exact q.2.2.2.1
      have d4 : ∀ W, Kept (fun _ => False) wr W → W.cell? ⟨g2, o2 + j * 5 + 4, none⟩ = some (.string x.value) := fun W hk => by
        obtain ⟨g', o', e', _, q⟩ := A2.out W hk
        simp only [Option.some.injEq, Addr.mk.injEq, and_true] at e'
        obtain ⟨rfl, rfl⟩ := e'
        exact q.2.2.2.2
      have HK := hid HI.out.drew
      clear HI A1 A2 hx
      unfold avV at hq
      go_upto_region 6 with fail
      refine wp_region_held_drew (S := Kept (fun _ => False) wr) (by kernel_rfl) ((Kept.refl _ wr).drew) (fun hSd => ?_)
      refine wpAnyH_take (i := 0) (v := ?_) rfl (by kernel_rfl) (by kernel_rfl) (by kernel_rfl) (fun _ _ _ h => h) (Or.inl ⟨by kernel_rfl, fun W hSW => by go_simp; try with_reducible rfl⟩) (by assumption) ?_
      try simp only [List.getElem_toArray]
      try simp only [List.getElem_cons_succ]
      try simp only [List.getElem_cons_zero]
      try simp only [Act.put]
      try simp only [List.setIfInBounds_toArray]
      try simp only [List.set_cons_succ]
      try simp only [List.set_cons_zero]
      refine wpAnyH_take (i := 1) (v := ?_) rfl (by kernel_rfl) (by kernel_rfl) (by kernel_rfl) (fun _ _ _ h => h) (Or.inl ⟨by kernel_rfl, fun W hSW => by go_simp; try with_reducible rfl⟩) (by assumption) ?_
      try simp only [List.getElem_toArray]
      try simp only [List.getElem_cons_succ]
      try simp only [List.getElem_cons_zero]
      try simp only [Act.put]
      try simp only [List.setIfInBounds_toArray]
      try simp only [List.set_cons_succ]
      try simp only [List.set_cons_zero]
      refine wpAnyH_take (i := 2) (v := ?_) rfl (by kernel_rfl) (by kernel_rfl) (by kernel_rfl) (fun _ _ _ h => h) (Or.inl ⟨by kernel_rfl, fun W hSW => by go_simp; try with_reducible rfl⟩) (by assumption) ?_
      try simp only [List.getElem_toArray]
      try simp only [List.getElem_cons_succ]
      try simp only [List.getElem_cons_zero]
      try simp only [Act.put]
      try simp only [List.setIfInBounds_toArray]
      try simp only [List.set_cons_succ]
      try simp only [List.set_cons_zero]
      refine wpAnyH_take (i := 3) (v := ?_) rfl (by kernel_rfl) (by kernel_rfl) (by kernel_rfl) (fun _ _ _ h => h) (Or.inl ⟨by kernel_rfl, fun W hSW => by go_simp; try with_reducible rfl⟩) (by assumption) ?_
      try simp only [List.getElem_toArray]
      try simp only [List.getElem_cons_succ]
      try simp only [List.getElem_cons_zero]
      try simp only [Act.put]
      try simp only [List.setIfInBounds_toArray]
      try simp only [List.set_cons_succ]
      try simp only [List.set_cons_zero]
      refine wpAnyH_take (i := 4) (v := ?_) rfl (by kernel_rfl) (by kernel_rfl) (by kernel_rfl) (fun _ _ _ h => h) (Or.inl ⟨by kernel_rfl, fun W hSW => by go_simp; try with_reducible rfl⟩) (by assumption) ?_
      try simp only [List.getElem_toArray]
      try simp only [List.getElem_cons_succ]
      try simp only [List.getElem_cons_zero]
      try simp only [Act.put]
      try simp only [List.setIfInBounds_toArray]
      try simp only [List.set_cons_succ]
      try simp only [List.set_cons_zero]
      refine wpAnyH_take (i := 5) (v := ?_) rfl (by kernel_rfl) (by kernel_rfl) (by kernel_rfl) (fun _ _ _ h => h) (Or.inl ⟨by kernel_rfl, fun W hSW => by go_simp; try with_reducible rfl⟩) (by assumption) ?_
      try simp only [List.getElem_toArray]
      try simp only [List.getElem_cons_succ]
      try simp only [List.getElem_cons_zero]
      try simp only [Act.put]
      try simp only [List.setIfInBounds_toArray]
      try simp only [List.set_cons_succ]
      try simp only [List.set_cons_zero]
      refine wpAnyH_take (i := 6) (v := ?_) rfl (by kernel_rfl) (by kernel_rfl) (by kernel_rfl) (fun _ _ _ h => h) (Or.inl ⟨by kernel_rfl, fun W hSW => by go_simp; try with_reducible rfl⟩) (by assumption) ?_
      try simp only [List.getElem_toArray]
      try simp only [List.getElem_cons_succ]
      try simp only [List.getElem_cons_zero]
      try simp only [Act.put]
      try simp only [List.setIfInBounds_toArray]
      try simp only [List.set_cons_succ]
      try simp only [List.set_cons_zero]
      refine wpAnyH_take (i := 7) (v := ?_) rfl (by kernel_rfl) (by kernel_rfl) (by kernel_rfl) (fun _ _ _ h => h) (Or.inl ⟨by kernel_rfl, fun W hSW => by go_simp; try with_reducible rfl⟩) (by assumption) ?_
      try simp only [List.getElem_toArray]
      try simp only [List.getElem_cons_succ]
      try simp only [List.getElem_cons_zero]
      try simp only [Act.put]
      try simp only [List.setIfInBounds_toArray]
      try simp only [List.set_cons_succ]
      try simp only [List.set_cons_zero]
      refine wpAnyH_take (i := 8) (v := .bool true) rfl (by kernel_rfl) (by kernel_rfl) (by kernel_rfl) (fun _ _ _ h => h) (Or.inl ⟨by kernel_rfl, fun W _ => avOp_eql Tryz.eqGuardType72 rfl rfl rfl (hq W)⟩) (by assumption) ?_
      try simp only [List.getElem_toArray]
      try simp only [List.getElem_cons_succ]
      try simp only [List.getElem_cons_zero]
      try simp only [Act.put]
      try simp only [List.setIfInBounds_toArray]
      try simp only [List.set_cons_succ]
      try simp only [List.set_cons_zero]
      refine wpAnyH_take (i := 9) (v := ?_) rfl (by kernel_rfl) (by kernel_rfl) (by kernel_rfl) (fun _ _ _ h => h) (Or.inl ⟨by kernel_rfl, fun W hSW => by go_simp; try with_reducible rfl⟩) (by assumption) ?_
      try simp only [List.getElem_toArray]
      try simp only [List.getElem_cons_succ]
      try simp only [List.getElem_cons_zero]
      try simp only [Act.put]
      try simp only [List.setIfInBounds_toArray]
      try simp only [List.set_cons_succ]
      try simp only [List.set_cons_zero]
      refine wpAnyH_done (by kernel_rfl) ?_ _
      go_wp2
      exact ⟨⟨j + 1, hlt, by go_num, HK.out⟩, by simp [intOf]; omega⟩
    · obtain rfl : j = l.length := by omega
      have hltz : ¬ (l.length : Int) < (l.length : Int) := by omega
      go_wp2
      go_ret
      exact ⟨rfl, HI.out⟩

set_option maxHeartbeats 1000000 in
set_option maxRecDepth 100000 in
theorem staysAvps_any (g cap base : Nat) (v : Value) (l : List Av) (w : World) (hn : LentAv w base g cap l) (hv : AvsAt w v l) (gl : ∀ x ∈ l, GoodA x) (hl : l.length ≤ 10000) :
    Calls Tryz.prog 22 #[.slice (some ⟨g, 0, none⟩) l.length cap, v] w fun e w' => e = .returned (.bool true) ∧ Kept (fun _ => False) w w' := by
  have HS := hid (sameBk_any (.slice (some ⟨g, 0, none⟩) l.length cap) v l w hn.at_ hv (by omega) gl)
  obtain ⟨hc1, hc2, _⟩ := hn.last
  unfold maxLen at hc2
  have HN := hid hn
  clear hn hv gl
  go_enter Tryz.func22, Tryz.ntmps22
  go_wp2_with fail
  refine HS.out.mono ?_
  rintro e w1 ⟨rfl, hk1⟩
  obtain ⟨_, _, q1⟩ := (HN.out.kept hk1).last
  have K1 := hid hk1
  have hl1 : (l.length : Int) + 1 ≤ (cap : Int) := by omega
  clear hk1 HN
  go_wp2
  go_ret
  exact ⟨rfl, K1.out⟩
end Go.Proofs.YtkneogfeokckjaaGreatDoor

namespace Go.Proofs.YtkneogfeokckjaaGreatDoor
open Go.RowKit

theorem own_ints {W : World} {base : Nat} {v : Value} {l : List Int} (h : OwnN W base v l) : BInts.OwnB W base v l := by
  unfold OwnN at h
  unfold BInts.OwnB
  rw [BInts.rowI_map]
  exact h
theorem book_build {ops : Array Oper} {rest : List Oper} {o : Oper} {a : Act} {w : World} {Q : Exit → Act → World → Prop} {BC : Array Value} (hBC : BInts.bookCells (restA (.slice none 0 0) (.slice none 0 0)) (.slice none 0 0) (.slice none 0 0) = BC) (hg : o.guard = none) (ho : o.op = .build 49 #[])
    (h : wpList Tryz.prog ops Q rest (a.put o.dst (.agg BC)) w) : wpList Tryz.prog ops Q (o :: rest) a w := by
  refine wpList_build hg 49 #[] ho (by kernel_rfl) ?_
  have e : (Tryz.prog.built 49 ((#[] : Array (Nat × Operand)).map fun (i, x) => (i, a.eval x)).toList).getD #[] = BInts.bookCells (restA (.slice none 0 0) (.slice none 0 0)) (.slice none 0 0) (.slice none 0 0) := by kernel_rfl
  rw [e, hBC]
  exact h

/-- A law's own book, made behind w, with nA lists of ints and nB lists of values; the blocks of these lists lie below KA and KB. -/
def TW (w : World) (bk nA nB KA KB : Nat) (W : World) : Prop :=
  Kept (fun _ => False) w W ∧ (w.heap.size ≤ KA ∧ w.heap.size ≤ KB) ∧ ∃ (As : List (List BInts.El)) (Bs : List (List BAvps.El)) (a6 a7 b6 b7 : Value) (xa au xb bu : List Value), (As.length = nA ∧ Bs.length = nB) ∧ ((∀ L ∈ As, L.length ≤ 1000) ∧ ∀ L ∈ Bs, L.length ≤ 1000) ∧ Two W bk w.heap.size a6 a7 b6 b7 xa au As xb bu Bs ∧
    (∀ (r : Nat) (u : Value) (i : Nat), xa[r]? = some u → u.ownBlock = some i → i < KA) ∧ ∀ (r : Nat) (u : Value) (i : Nat), xb[r]? = some u → u.ownBlock = some i → i < KB
section
variable {w W W' : World} {bk nA nB KA KB : Nat}
theorem TW.new (hk : Kept (fun _ => False) w W) : TW w W.heap.size 0 0 w.heap.size w.heap.size (W.alloc (.cells (BInts.bookCells (restA (.slice none 0 0) (.slice none 0 0)) (.slice none 0 0) (.slice none 0 0)) 49)) :=
  ⟨hk.alloc _, ⟨Nat.le_refl _, Nat.le_refl _⟩, [], [], _, _, _, _, [], [], [], [], ⟨rfl, rfl⟩, ⟨fun L h => by simp at h, fun L h => by simp at h⟩, two_new W w.heap.size hk.size, fun r u i h => by simp at h, fun r u i h => by simp at h⟩
theorem TW.kept (h : TW w bk nA nB KA KB W) (hk : Kept (fun _ => False) W W') : TW w bk nA nB KA KB W' := by
  obtain ⟨h1, hK, As, Bs, a6, a7, b6, b7, xa, au, xb, bu, hn, hL, hB, hA1, hB1⟩ := h
  exact ⟨h1.trans hk, hK, As, Bs, a6, a7, b6, b7, xa, au, xb, bu, hn, hL, hB.kept0 hk, hA1, hB1⟩
theorem TW.top (h : TW w bk nA nB KA KB W) : TW w bk nA nB W.heap.size W.heap.size W := by
  obtain ⟨h1, hK, As, Bs, a6, a7, b6, b7, xa, au, xb, bu, hn, hL, hB, hA1, hB1⟩ := h
  refine ⟨h1, ⟨h1.size, h1.size⟩, As, Bs, a6, a7, b6, b7, xa, au, xb, bu, hn, hL, hB, fun r u i hu hi => ?_, fun r u i hu hi => ?_⟩
  · obtain ⟨M, _, hM⟩ := hB.a.p.f6.at hu
    exact (BInts.own_lt hM hi).2
  · obtain ⟨M, _, hM⟩ := hB.b.p.f6.at hu
    exact (BAvps.own_lt hM hi).2
/-- The book keeps a list of values. -/
theorem TW.addB (h : TW w bk nA nB KA KB W) {v : Value} {L : List BAvps.El} (ho : BAvps.OwnB W KB v L) (hn : nB < 250) (hL : L.length ≤ 1000) (K' : Nat) (hK' : KB ≤ K') (hlt : ∀ i, v.ownBlock = some i → i < K') :
    Calls Tryz.prog 23 #[.pointer (some ⟨bk, 0, none⟩), v] W fun e w' => e = .returned (.tuple #[]) ∧ TW w bk nA (nB + 1) KA K' w' ∧ Kept (BkTy W) W w' := by
  obtain ⟨h1, hK, As, Bs, a6, a7, b6, b7, xa, au, xb, bu, hn', hL', hB, hA1, hB1⟩ := h
  have hlen : xb.length = nB := by rw [hB.b.p.f6.len]; exact hn'.2
  refine (hB.addB h1.size (by omega) (ho.mono hK.2) (fun r u hu hs => ?_) hL).mono ?_
  · obtain ⟨g, g1, g2⟩ := hs
    have a1 := hB1 r u g hu g1
    have a2 := (BAvps.own_lt ho g2).1
    omega
  · rintro e w' ⟨rfl, b6', b7', u, hB', hk, hbel⟩
    refine ⟨rfl, ⟨kept_of ((h1.below (Nat.le_refl _) (fun _ h => h.elim)).trans hbel), ⟨hK.1, Nat.le_trans hK.2 hK'⟩, As, Bs ++ [L], a6, a7, b6', b7', xa, au, xb ++ [v], bu ++ [u], ⟨hn'.1, by rw [List.length_append, hn'.2]; rfl⟩, ⟨hL'.1, fun M hM => ?_⟩, hB', hA1, fun r x i hx hi => ?_⟩, hk⟩
    · rcases List.mem_append.1 hM with hM | hM
      · exact hL'.2 M hM
      · rw [List.mem_singleton.1 hM]
        exact hL
    · by_cases hr : r < xb.length
      · rw [List.getElem?_append_left hr] at hx
        exact Nat.lt_of_lt_of_le (hB1 r x i hx hi) hK'
      · rw [List.getElem?_append_right (by omega)] at hx
        have h0 := (List.getElem?_eq_some_iff.1 hx).1
        simp at h0
        have e : r - xb.length = 0 := by omega
        rw [e] at hx
        simp at hx
        subst hx
        exact hlt i hi
/-- The book keeps a list of ints. -/
theorem TW.addA (h : TW w bk nA nB KA KB W) {v : Value} {L : List BInts.El} (ho : BInts.OwnB W KA v L) (hn : nA < 250) (hL : L.length ≤ 1000) (K' : Nat) (hK' : KA ≤ K') (hlt : ∀ i, v.ownBlock = some i → i < K') :
    Calls Tryz.prog 24 #[.pointer (some ⟨bk, 0, none⟩), v] W fun e w' => e = .returned (.tuple #[]) ∧ TW w bk (nA + 1) nB K' KB w' ∧ Kept (BkTy W) W w' := by
  obtain ⟨h1, hK, As, Bs, a6, a7, b6, b7, xa, au, xb, bu, hn', hL', hB, hA1, hB1⟩ := h
  have hlen : xa.length = nA := by rw [hB.a.p.f6.len]; exact hn'.1
  refine (hB.addA h1.size (by omega) (ho.mono hK.1) (fun r u hu hs => ?_) hL).mono ?_
  · obtain ⟨g, g1, g2⟩ := hs
    have a1 := hA1 r u g hu g1
    have a2 := (BInts.own_lt ho g2).1
    omega
  · rintro e w' ⟨rfl, a6', a7', u, hB', hk, hbel⟩
    refine ⟨rfl, ⟨kept_of ((h1.below (Nat.le_refl _) (fun _ h => h.elim)).trans hbel), ⟨Nat.le_trans hK.1 hK', hK.2⟩, As ++ [L], Bs, a6', a7', b6, b7, xa ++ [v], au ++ [u], xb, bu, ⟨by rw [List.length_append, hn'.1]; rfl, hn'.2⟩, ⟨fun M hM => ?_, hL'.2⟩, hB', fun r x i hx hi => ?_, hB1⟩, hk⟩
    · rcases List.mem_append.1 hM with hM | hM
      · exact hL'.1 M hM
      · rw [List.mem_singleton.1 hM]
        exact hL
    · by_cases hr : r < xa.length
      · rw [List.getElem?_append_left hr] at hx
        exact Nat.lt_of_lt_of_le (hA1 r x i hx hi) hK'
      · rw [List.getElem?_append_right (by omega)] at hx
        have h0 := (List.getElem?_eq_some_iff.1 hx).1
        simp at h0
        have e : r - xa.length = 0 := by omega
        rw [e] at hx
        simp at hx
        subst hx
        exact hlt i hi
theorem TW.apart (h : TW w bk nA nB KA KB W) (hA : nA ≤ 250) (hB : nB ≤ 250) :
    Calls Tryz.prog 29 #[.pointer (some ⟨bk, 0, none⟩)] W fun e w' => e = .returned (.bool true) ∧ Kept (fun _ => False) w w' ∧ ∀ (i : Nat) (cur : Array Value) (t : TypeId), W.heap[i]? = some (.cells cur t (0, 0)) → ¬ (BInts.tsK t ∨ BAvps.tsK t) → w'.heap[i]? = some (.cells cur t (0, 0)) := by
  obtain ⟨h1, hK, As, Bs, a6, a7, b6, b7, xa, au, xb, bu, hn', hL', hT, hA1, hB1⟩ := h
  refine (apart_two hT h1.size hL'.1 hL'.2 (by rw [hT.a.p.f6.len, hn'.1]; exact hA) (by rw [hT.b.p.f6.len, hn'.2]; exact hB)).mono ?_
  rintro e w' ⟨rfl, hb⟩
  exact ⟨rfl, kept_of ((h1.below (Nat.le_refl _) (fun _ h => h.elim)).trans hb.b), hb.f⟩
end

/-! What the book's calls leave: boxes and rows of other types. -/
theorem keep_ty {W W' : World} {b : Nat} {cur : Array Value} {t : TypeId} (h : W.heap[b]? = some (.cells cur t (0, 0))) (hk : Kept (BkTy W) W W') (ht : ¬ (t = 49 ∨ t = 59 ∨ t = 22)) : W'.heap[b]? = some (.cells cur t (0, 0)) :=
  (hk.block b (Array.getElem?_eq_some_iff.1 h).1 (fun ⟨cur', t', h1, h2⟩ => ht (by
    rw [h] at h1
    simp at h1
    obtain ⟨_, rfl⟩ := h1
    exact h2))).trans h
theorem CtAt.keptT {W W' : World} {b : Nat} {t s n r : Int} {v : Value} (h : CtAt W b t s n r v) (hk : Kept (BkTy W) W W') : CtAt W' b t s n r v := keep_ty h hk (by decide)
theorem LdAt.keptT {W W' : World} {b : Nat} {t s : Int} {q : Bool} {n r : Int} {x : ByteArray} (h : LdAt W b t s q n r x) (hk : Kept (BkTy W) W W') : LdAt W' b t s q n r x := keep_ty h hk (by decide)
theorem ownB_keptT {W W' : World} {base : Nat} {v : Value} {L : List BAvps.El} (h : BAvps.OwnB W base v L) (hk : Kept (BkTy W) W W') : BAvps.OwnB W' base v L :=
  BAvps.own_kept h hk (fun i hi ⟨cur, t, h1, h2⟩ => by
    obtain ⟨⟨cur', h3⟩, _⟩ := h.block hi
    rw [h1] at h3
    simp at h3
    obtain ⟨_, rfl⟩ := h3
    exact absurd h2 (by decide))
theorem ownI_keptT {W W' : World} {base : Nat} {v : Value} {L : List BInts.El} (h : BInts.OwnB W base v L) (hk : Kept (BkTy W) W W') : BInts.OwnB W' base v L :=
  BInts.own_kept h hk (fun i hi ⟨cur, t, h1, h2⟩ => by
    obtain ⟨⟨cur', h3⟩, _⟩ := h.block hi
    rw [h1] at h3
    simp at h3
    obtain ⟨_, rfl⟩ := h3
    exact absurd h2 (by decide))
theorem CtAt.set4 {W : World} {b : Nat} {t s n r : Int} {v : Value} (h : CtAt W b t s n r v) (v' : Value) : CtAt (W.setCell ⟨b, 4, none⟩ v') b t s n r v' := by
  have hlt : b < W.heap.size := (Array.getElem?_eq_some_iff.1 h).1
  have hv : W.heap[b] = .cells #[.int .i64 t, .int .i64 s, .int .i64 n, .int .i64 r, v] 24 (0, 0) := (Array.getElem?_eq_some_iff.1 h).2
  unfold CtAt World.setCell
  rw [Array.getElem?_eq_getElem (by simpa using hlt), Array.getElem_modify]
  simp [hv]
/-- What GetLoad tells is good for Go's comparison. -/
theorem getLF_good (b : ByteArray) : (-9223372036854775808 ≤ (getLF b).1.tunnel ∧ (getLF b).1.tunnel ≤ 9223372036854775807) ∧ (-9223372036854775808 ≤ (getLF b).1.session ∧ (getLF b).1.session ≤ 9223372036854775807) ∧ (-9223372036854775808 ≤ (getLF b).1.ns ∧ (getLF b).1.ns ≤ 9223372036854775807) ∧ (-9223372036854775808 ≤ (getLF b).1.nr ∧ (getLF b).1.nr ≤ 9223372036854775807) ∧ (getLF b).1.data.size ≤ b.size := by
  have z : ((-9223372036854775808 : Int) ≤ 0 ∧ (0 : Int) ≤ 9223372036854775807) := by decide
  have nn : ∀ k, (-9223372036854775808 : Int) ≤ (numAt b k : Int) ∧ (numAt b k : Int) ≤ 9223372036854775807 := fun k => by have := numAt_lt b k; omega
  have zero : ∀ E : Int, (-9223372036854775808 ≤ (ld0, E).1.tunnel ∧ (ld0, E).1.tunnel ≤ 9223372036854775807) ∧ (-9223372036854775808 ≤ (ld0, E).1.session ∧ (ld0, E).1.session ≤ 9223372036854775807) ∧ (-9223372036854775808 ≤ (ld0, E).1.ns ∧ (ld0, E).1.ns ≤ 9223372036854775807) ∧ (-9223372036854775808 ≤ (ld0, E).1.nr ∧ (ld0, E).1.nr ≤ 9223372036854775807) ∧ (ld0, E).1.data.size ≤ b.size := fun E => ⟨z, z, z, z, Nat.zero_le _⟩
  unfold getLF
  split
  · exact zero _
  split
  · exact zero _
  split
  · exact zero _
  split
  · exact zero _
  split
  · exact zero _
  · refine ⟨nn 4, nn 6, ?_, ?_, ?_⟩
    · dsimp only
      split
      · exact nn 8
      · exact z
    · dsimp only
      split
      · exact nn 10
      · exact z
    · dsimp only
      rw [ByteArray.size_extract]
      omega
theorem getCF_good (b s : ByteArray) : (∀ x ∈ (getCF b s).1.avps, GoodA x) ∧ (getCF b s).1.avps.length ≤ 40 := by
  have zero : ∀ E : Int, (∀ x ∈ (ct0, E).1.avps, GoodA x) ∧ (ct0, E).1.avps.length ≤ 40 := fun E => ⟨fun x hx => by simp [ct0] at hx, Nat.zero_le _⟩
  unfold getCF
  split
  · exact zero _
  split
  · exact zero _
  split
  · exact zero _
  split
  · exact zero _
  split
  · exact getAF_good _ _
  · exact zero _
end Go.Proofs.YtkneogfeokckjaaGreatDoor

namespace Go.Proofs.YtkneogfeokckjaaGreatDoor
open Go.RowKit

set_option maxHeartbeats 4000000 in
set_option maxRecDepth 100000 in
theorem rSameCtl_self (t s n r : Int) (u u' : Value) (l : List Av) (w : World) (hv : AvsAt w u l) (hu : AvsAt w u' l) (hl : l.length ≤ 1000000) (gl : ∀ x ∈ l, GoodA x) :
    Calls Tryz.prog 11 #[.agg #[.int .i64 t, .int .i64 s, .int .i64 n, .int .i64 r, u], .agg #[.int .i64 t, .int .i64 s, .int .i64 n, .int .i64 r, u']] w fun e w' => e = .returned (.bool true) ∧ Kept (fun _ => False) w w' := by
  obtain ⟨p, c, rfl⟩ := RowsAt.slice hv
  obtain ⟨q, d, rfl⟩ := RowsAt.slice hu
  have HS := hid (fun W (hk : Kept (fun _ => False) w W) => rSame_any (.slice p l.length c) (.slice q l.length d) l l W (RowsAt.kept0 hv hk) (RowsAt.kept0 hu hk) hl gl gl)
  rw [sameL_self] at HS
  have hs : (w.alloc (.cells #[.int .i64 t, .int .i64 s, .int .i64 n, .int .i64 r, .slice p l.length c] 24)).heap.size = w.heap.size + 1 := by simp
  have HA := hid ((CtAt.new w t s n r (.slice p l.length c)).kept ((Kept.refl (fun _ => False) (w.alloc (.cells #[.int .i64 t, .int .i64 s, .int .i64 n, .int .i64 r, .slice p l.length c] 24))).alloc (.cells #[.int .i64 t, .int .i64 s, .int .i64 n, .int .i64 r, .slice q l.length d] 24)))
  have HB : Hid (CtAt ((w.alloc (.cells #[.int .i64 t, .int .i64 s, .int .i64 n, .int .i64 r, .slice p l.length c] 24)).alloc (.cells #[.int .i64 t, .int .i64 s, .int .i64 n, .int .i64 r, .slice q l.length d] 24)) (w.heap.size + 1) t s n r (.slice q l.length d)) := by
    have h := CtAt.new (w.alloc (.cells #[.int .i64 t, .int .i64 s, .int .i64 n, .int .i64 r, .slice p l.length c] 24)) t s n r (.slice q l.length d)
    rw [hs] at h
    exact h
  have HK := hid (((Kept.refl (fun _ => False) w).alloc (.cells #[.int .i64 t, .int .i64 s, .int .i64 n, .int .i64 r, .slice p l.length c] 24)).alloc (.cells #[.int .i64 t, .int .i64 s, .int .i64 n, .int .i64 r, .slice q l.length d] 24))
  clear hv hu gl hs
  go_enter Tryz.func11, Tryz.ntmps11
  go_upto_region 1 with fail
  generalize (w.alloc (.cells #[.int .i64 t, .int .i64 s, .int .i64 n, .int .i64 r, .slice p l.length c] 24)).alloc (.cells #[.int .i64 t, .int .i64 s, .int .i64 n, .int .i64 r, .slice q l.length d] 24) = W0 at *
  obtain ⟨a0, a1, a2, a3, a4⟩ := HA.out.cells
  obtain ⟨b0, b1, b2, b3, b4⟩ := HB.out.cells
  go_wp2_with fail
  refine (HS.out _ HK.out).mono ?_
  rintro e w1 ⟨rfl, hk1⟩
  have HK1 := hid (HK.out.trans hk1)
  clear hk1
  go_wp2
  go_ret
  exact ⟨rfl, HK1.out⟩
end Go.Proofs.YtkneogfeokckjaaGreatDoor

namespace Go.Proofs.YtkneogfeokckjaaGreatDoor
open Go.RowKit

theorem idx_at (s : ByteArray) (k : Nat) (h : k < s.size) (i : Int) (hi : i = (k : Int)) (W : World) :
    (Instr.index 9 (.string s) (.int .i64 i)).run Tryz.prog W = .ok (.int .u8 ((s.data.toList.getD k 0).toNat : Int)) W := by
  subst hi
  rw [run_index_string W 9 s .i64 (k : Int) Tryz.underlying9, dif_pos ⟨by omega, by omega⟩]
  have hg : s.data.toList.getD k 0 = s[k] := by
    rw [List.getD_eq_getElem?_getD, List.getElem?_eq_getElem (by simpa using h)]
    rfl
  rw [hg]
  rfl
theorem xorL_snoc (p k : List UInt8) (t : Nat) (hp : t < p.length) (hk : t < k.length) : xorL (p.take (t + 1)) k = xorL (p.take t) k ++ [p.getD t 0 ^^^ k.getD t 0] := by
  apply List.ext_getElem?
  intro i
  have hxl : (xorL (p.take t) k).length = t := by rw [xorL_length, List.length_take]; omega
  by_cases hi : i < t
  · rw [List.getElem?_append_left (by omega)]
    unfold xorL
    rw [List.getElem?_zipWith, List.getElem?_zipWith, List.getElem?_take_of_lt (by omega), List.getElem?_take_of_lt hi]
  · by_cases hi2 : i = t
    · subst hi2
      rw [List.getElem?_append_right (by omega), hxl, Nat.sub_self]
      unfold xorL
      rw [List.getElem?_zipWith, List.getElem?_take_of_lt (by omega), List.getElem?_eq_getElem hp, List.getElem?_eq_getElem hk, List.getD_eq_getElem?_getD, List.getD_eq_getElem?_getD, List.getElem?_eq_getElem hp, List.getElem?_eq_getElem hk]
      rfl
    · rw [List.getElem?_eq_none (by rw [xorL_length, List.length_take]; omega), List.getElem?_eq_none (by rw [List.length_append, hxl]; simp; omega)]
theorem one_cell {a : Int} : ∀ u ∈ [Value.int .u8 a], u.oneCell' = true := by
  intro u hu
  simp at hu
  subst hu
  rfl
/-- The key's own block. -/
def KeyAt (W : World) (d : Nat) (key : List UInt8) : Prop := W.heap[d]? = some (.cells (Lib.byteCells key).toArray 230 (0, 0))
theorem KeyAt.lt {W : World} {d : Nat} {key : List UInt8} (h : KeyAt W d key) : d < W.heap.size := (Array.getElem?_eq_some_iff.1 h).1
theorem KeyAt.cell {W : World} {d : Nat} {key : List UInt8} (h : KeyAt W d key) (i : Nat) (hi : i < key.length) : W.cell? ⟨d, i, none⟩ = some (.int .u8 ((key.getD i 0).toNat : Int)) := by
  rw [cell_of_row W d i _ _ _ h]
  exact byteCells_at key i hi
theorem key_next {W W' : World} {d : Nat} {D : Array Value} {t : TypeId} (h : W.heap[d]? = some (.cells D t (0, 0))) (hb : Below W.heap.size W W') : W'.heap[d]? = some (.cells D t (0, 0)) :=
  (hb.block d (Array.getElem?_eq_some_iff.1 h).1).trans h
theorem mask_next {base : Nat} {w wr w1 : World} {u v' : Value} {t : Nat} {bs : List UInt8} {X : UInt8} {o : Obj} (hb : base ≤ wr.heap.size) (hbel : Below base w wr)
    (hown : wr.ownsRow base 5 1 u t (Lib.byteCells bs)) (hown' : w1.ownsRow base 5 1 v' (t + 1) (Lib.byteCells bs ++ [.int .u8 (X.toNat : Int)])) (hg : (wr.alloc o).drew.grownBy w1 u.ownBlock) :
    w1.ownsRow base 5 1 v' (t + 1) (Lib.byteCells (bs ++ [X])) ∧ Below base w w1 := by
  have hs : (wr.alloc o).drew.heap.size = wr.heap.size + 1 := by simp
  have hb1 : Below base w w1 := (hbel.alloc hb o).drew.grown hg (by omega) (fun g hgk => (hown.lt g hgk).1)
  refine ⟨?_, hb1⟩
  rw [Lib.byteCells_append]
  simpa [Lib.byteCells] using hown'

set_option maxRecDepth 100000 in
set_option maxHeartbeats 4000000 in
theorem refMask_any (un : Bool) (k : Int) (s c v : ByteArray) (hs : s.size ≤ 1000000) (hc : c.size ≤ 1000000) (hv : v.size ≤ 1000000) (w : World) :
    Calls Tryz.prog 173 #[.int .i64 k, .string s, .string c, .string v, .bool un] w fun e w' => e = .returned (.string ⟨(maskF un (firstF k s.data.toList c.data.toList) s.data.toList v.data.toList).toArray⟩) ∧ Below w.heap.size w w' := by
  obtain ⟨i0, hi, hz0, hz1, hz2⟩ := info_parts dgInfo5
  have hlen : v.data.toList.length = v.size := (Lib.size_eq v).symm
  have hfl := firstF_length k s.data.toList c.data.toList
  have HTW := hide (refTwo_any k)
  obtain ⟨KL, hKL⟩ : ∃ KL : ByteArray, KL = ⟨(kindL k).toArray⟩ := ⟨_, rfl⟩
  rw [← hKL] at HTW
  have hKs : KL.size = 2 := by rw [hKL]; rfl
  have hFst := refMd5_any (KL ++ s ++ c) (by rw [ByteArray.size_append, ByteArray.size_append]; omega)
  have eF : md5F (KL ++ s ++ c).data.toList = firstF k s.data.toList c.data.toList := by
    unfold firstF
    rw [hKL]
    congr 1
  rw [eF] at hFst
  obtain ⟨F, hF⟩ : ∃ F, F = firstF k s.data.toList c.data.toList := ⟨_, rfl⟩
  rw [← hF] at hFst hfl ⊢
  have HFS := hide hFst
  have HFL := hide hfl
  have HLEN := hide hlen
  have hKs2 : KL.size ≤ 2 := by omega
  clear hFst hfl hF eF hKL hlen hKs
  go_enter Tryz.func173, Tryz.ntmps173
  go_wp2
  go_loopw [11, 12, 13, 14, 15, 16, 17] (fun vo vl va _ _ _ _ wr => ∃ (j m : Nat) (O L : ByteArray), m = 16 * j ∧ j ≤ (v.size + 15) / 16 ∧ va = .int .i64 (m : Int) ∧ vo = .string O ∧ O.data.toList = (maskB un F s.data.toList v.data.toList j).1 ∧ vl = .string L ∧ L.data.toList = (maskB un F s.data.toList v.data.toList j).2 ∧ L.size ≤ 16 ∧ Below w.heap.size w wr)
    (fun _ _ va _ _ _ _ _ => v.size + 16 - (intOf va).toNat)
  case atStart => exact ⟨0, 0, ⟨#[]⟩, ⟨#[]⟩, rfl, Nat.zero_le _, rfl, rfl, rfl, rfl, rfl, Nat.zero_le _, Below.refl _ _⟩
  case round =>
    obtain ⟨j, m, O, L, hm, hj, rfl, rfl, hO, rfl, hL, hLs, hbel⟩ := hrel
    have hOl : O.size = min (16 * j) v.size := by rw [Lib.size_eq, hO, maskB_length _ _ _ _ HFL.out, HLEN.out]
    by_cases hlt : m < v.size
    · obtain ⟨P, hP⟩ : ∃ P : ByteArray, P = ⟨(pieceF v.data.toList j).toArray⟩ := ⟨_, rfl⟩
      have hPl : P.data.toList = pieceF v.data.toList j := by rw [hP]
      have hPs : P.size = min 16 (v.size - m) := by rw [Lib.size_eq, hPl, pieceF_length, HLEN.out, hm]
      have hd1 : decide ((m : Int) < (v.size : Int)) = true := by rw [decide_eq_true_eq]; omega
      have hd2 : decide (m < v.size) = true := by rw [decide_eq_true_eq]; omega
      have i1 := dg_last_at v m (by omega) (m : Int) rfl
      have hE : (v.extract m v.size).data.toList = v.data.toList.drop m := by
        rw [Lib.extract_data, List.take_of_length_le (by rw [List.length_drop, HLEN.out]; omega)]
      have hEs : (v.extract m v.size).size = v.size - m := by rw [ByteArray.size_extract]; omega
      have hPA : (v.extract m v.size).extract 0 16 = P := by
        apply ByteArray.ext
        apply Array.toList_inj.1
        rw [hPl, Lib.extract_data, hE, hm]
        rfl
      have hPB : v.size - m ≤ 16 → v.extract m v.size = P := fun h => by
        apply ByteArray.ext
        apply Array.toList_inj.1
        rw [hPl, hE, hm]
        unfold pieceF
        rw [List.take_of_length_le (by rw [List.length_drop, HLEN.out]; omega)]
      obtain ⟨E, hEE⟩ : ∃ E, E = v.extract m v.size := ⟨_, rfl⟩
      rw [← hEE] at i1 hEs hPA hPB
      have HPB := hide hPB
      have HO := hide hO
      have HL := hide hL
      have HM := hide hm
      have HOl := hide hOl
      have HPs := hide hPs
      have HPl := hide hPl
      have HEs := hide hEs
      clear hO hL hm hOl hPs hPl hPB hE hP hEE hEs
      go_upto_if 29 with fail
      go_cut [14] from 30 to 31 (fun vp wx => vp = .string P ∧ wx = wr)
      case first =>
        have hEs := HEs.out
        by_cases h16 : 16 < v.size - m
        · have i2 := dg_first_at E 16 (by omega) 16 rfl
          rw [hPA] at i2
          have h16' : 16 < E.size := by omega
          clear hEs
          go_wp2
          go_meet
          case rel => exact ⟨rfl, rfl⟩
        · have h16' : E.size ≤ 16 := by omega
          clear hEs
          go_wp2
          go_meet
          case rel => exact ⟨by rw [HPB.out (by omega)], rfl⟩
      case rest =>
        obtain ⟨rfl, rfl⟩ := hcut
        have hmd := refMd5_any (s ++ L) (by rw [ByteArray.size_append]; omega)
        have eM : md5F (s ++ L).data.toList = md5F (s.data.toList ++ (maskB un F s.data.toList v.data.toList j).2) := by rw [ByteArray.data_append, Array.toList_append, HL.out]
        rw [eM] at hmd
        have sz16 : ∀ l : List UInt8, l.length = 16 → (Lib.byteCells l).toArray.size = 16 := fun l h => by simp [Lib.byteCells, h]
        have on16 : ∀ l : List UInt8, (Lib.byteCells l).toArray.all (·.oneCell') = true := fun l => all_oneCell_toArray (fun v hv => Lib.byteCells_one _ v hv)
        obtain ⟨K1, hK1⟩ : ∃ K1, K1 = md5F (s.data.toList ++ (maskB un F s.data.toList v.data.toList j).2) := ⟨_, rfl⟩
        have hK1l : K1.length = 16 := by rw [hK1]; exact md5F_length _
        rw [← hK1] at hmd
        obtain ⟨D1, hD1⟩ : ∃ D1, D1 = (Lib.byteCells K1).toArray := ⟨_, rfl⟩
        obtain ⟨D2, hD2⟩ : ∃ D2, D2 = (Lib.byteCells F).toArray := ⟨_, rfl⟩
        rw [← hD1] at hmd
        rw [← hD2] at HFS
        have HD1s := hide (show D1.size = 16 by rw [hD1]; exact sz16 _ hK1l)
        have HD2s := hide (show D2.size = 16 by rw [hD2]; exact sz16 _ HFL.out)
        have HD1o := hide (show D1.all (·.oneCell') = true by rw [hD1]; exact on16 _)
        have HD2o := hide (show D2.all (·.oneCell') = true by rw [hD2]; exact on16 _)
        obtain ⟨q, hq⟩ : ∃ q, decide (j = 0) = q := ⟨_, rfl⟩
        have hmq : (m = 0) ↔ (j = 0) := by have := HM.out; omega
        have q1 : ((m : Int) == 0) = q := by rw [← hq, Bool.eq_iff_iff, beq_iff_eq, decide_eq_true_iff, ← hmq]; omega
        have q2 : decide (m = 0) = q := by rw [← hq, decide_eq_decide]; exact hmq
        have q3 : decide ((m : Int) = 0) = q := by rw [← hq, decide_eq_decide, ← hmq]; omega
        have q4 : (m == 0) = q := by rw [← hq, Bool.eq_iff_iff, beq_iff_eq, decide_eq_true_iff, ← hmq]
        have HKY : Hid (keyB un F s.data.toList v.data.toList j = if q then F else K1) := by
          show keyB un F s.data.toList v.data.toList j = if q then F else K1
          unfold keyB
          rw [hK1, ← hq]
          by_cases h0 : j = 0
          · simp [h0]
          · simp [h0]
        have HMD := hide hmd
        have HDE1 := hide hD1
        have HDE2 := hide hD2
        clear hmd eM hK1 hK1l hD1 hD2 hq hmq sz16 on16
        go_upto_if 37 with (first
          | (go_at_call 184; refine (HMD.out _).mono ?_; rintro e w1 ⟨rfl, hb1⟩)
          | (refine wpList_store_row rfl 230 _ _ rfl w1.heap.size D1 rfl rfl 230 Z16b (heap_alloc_new w1 _) (by rw [HD1s.out]; kernel_rfl) (by rw [HD1s.out]; rfl) HD1o.out ?_))
        have hKA : (w1.alloc (.cells Z16b 230)).setRow w1.heap.size D1 = w1.alloc (.cells D1 230) := World.setRow_alloc_new w1 Z16b D1 _
        rw [hKA]
        have hW1 : (w1.alloc (.cells D1 230)).heap[w1.heap.size]? = some (.cells D1 230 (0, 0)) := heap_alloc_new w1 _
        have hB1 : Below w.heap.size w (w1.alloc (.cells D1 230)) := ((hbel.trans (hb1.mono hbel.size)).alloc (Nat.le_trans hbel.size hb1.size) _)
        have hd0 : w.heap.size ≤ w1.heap.size := Nat.le_trans hbel.size hb1.size
        generalize w1.alloc (.cells D1 230) = W1 at hW1 hB1
        generalize w1.heap.size = d at hW1 hd0
        have HW1 := hide hW1
        have HB1 := hide hB1
        clear hW1 hB1 hKA hb1
        go_cut [16] from 38 to 44 (fun _ wx => KeyAt wx d (keyB un F s.data.toList v.data.toList j) ∧ Below w.heap.size w wx)
        case first =>
          cases q with
          | true =>
            go_wp2_with (first
              | (go_at_call 53; refine (HTW.out _).mono ?_; rintro e w2 ⟨rfl, hb2⟩)
              | (go_at_call 184; refine (HFS.out _).mono ?_; rintro e w3 ⟨rfl, hb3⟩)
              | (refine wpList_store_row rfl 230 _ _ rfl d D2 rfl rfl 230 D1 (key_next (key_next HW1.out hb2) hb3) (by rw [HD2s.out]; kernel_rfl) (by rw [HD1s.out, HD2s.out]) HD2o.out ?_))
            go_meet
            case rel =>
              refine ⟨?_, ((HB1.out.trans (hb2.mono HB1.out.size)).trans (hb3.mono (Nat.le_trans HB1.out.size hb2.size))).trans ⟨rfl, rfl, rfl, by simp, fun k hk => setRow_other _ _ _ _ (by omega)⟩⟩
              show _ = _
              rw [HKY.out, if_pos trivial, ← HDE2.out]
              exact setRow_heap _ _ _ _ _ _ (key_next (key_next HW1.out hb2) hb3)
          | false =>
            go_wp2
            go_meet
            case rel =>
              refine ⟨?_, HB1.out⟩
              show _ = _
              rw [HKY.out, if_neg (by decide), ← HDE1.out]
              exact HW1.out
        case rest =>
          obtain ⟨hKA, hB5⟩ := hcut
          have HKl := hide (keyB_length un F s.data.toList v.data.toList j HFL.out)
          have hPl := HPl.out
          have hPs := HPs.out
          have hP16 : P.size ≤ 16 := by omega
          obtain ⟨W5, hW5⟩ : ∃ W5, W5 = wc := ⟨_, rfl⟩
          rw [← hW5] at hKA hB5 ⊢
          have HKA := hide hKA
          have HB5 := hide hB5
          clear hKA hB5 hW5 hPs HMD HW1 HB1 HFS HTW
          go_wp2
          go_loopw [16, 17] (fun vb vi wx => ∃ t : Nat, t ≤ P.size ∧ vi = .int .i64 (t : Int) ∧ wx.ownsRow W5.heap.size 5 1 vb t (Lib.byteCells (xorL (P.data.toList.take t) (keyB un F s.data.toList v.data.toList j))) ∧ Below W5.heap.size W5 wx)
            (fun _ vi _ => P.size - (intOf vi).toNat)
          case atStart => exact ⟨0, Nat.zero_le _, rfl, by simpa [xorL, Lib.byteCells] using World.ownsRow_nil W5 W5.heap.size 5 1, Below.refl _ _⟩
          case round =>
            obtain ⟨t, ht, rfl, hown, hbw⟩ := hrel
            have hPdl : P.data.toList.length = P.size := (Lib.size_eq P).symm
            by_cases hlt2 : t < P.size
            · have ht16 : (t : Int) < 16 := by omega
              have x1 := idx_at P t hlt2 (t : Int) rfl
              have c2 : wr.cell? ⟨d, t, none⟩ = some (.int .u8 (((keyB un F s.data.toList v.data.toList j).getD t 0).toNat : Int)) := KeyAt.cell (show KeyAt wr d _ from key_next HKA.out hbw) t (by rw [HKl.out]; omega)
              have HXS := hide (xorL_snoc P.data.toList (keyB un F s.data.toList v.data.toList j) t (by omega) (by rw [HKl.out]; omega))
              have hA := (P.data.toList.getD t 0).toNat_lt
              have hB := ((keyB un F s.data.toList v.data.toList j).getD t 0).toNat_lt
              have e1 : bits .xor .u8 ((P.data.toList.getD t 0).toNat : Int) (((keyB un F s.data.toList v.data.toList j).getD t 0).toNat : Int) = ((P.data.toList.getD t 0 ^^^ (keyB un F s.data.toList v.data.toList j).getD t 0).toNat : Int) := by
                rw [UInt8.toNat_xor]
                exact u8_xor_nat _ _ (by omega) (by omega)
              generalize P.data.toList.getD t 0 ^^^ (keyB un F s.data.toList v.data.toList j).getD t 0 = X at e1 HXS
              generalize (keyB un F s.data.toList v.data.toList j).getD t 0 = B at c2 e1 hB
              generalize P.data.toList.getD t 0 = A at x1 e1 hA
              have hsz := hbw.size
              have HOW := hide hown
              clear hown
              go_wp2
              go_region_law (refine step_append_lies _ rfl (.tmp 51) (.tmp 59) 127 rfl W5.heap.size 5 i0 (.int .u8 0) 1 1 Tryz.underlying127 hi hz0 hz1 hz2 rfl (by decide) _ t (Lib.byteCells (xorL (P.data.toList.take t) (keyB un F s.data.toList v.data.toList j))) rfl ((HOW.out).alloc _).drew ⟨wr.heap.size, 0, none⟩ 1 1 [.int .u8 (X.toNat : Int)] rfl rfl (World.news_of_block (heap_alloc_new wr _)) one_cell (by decide) (by unfold maxLen; omega) (by omega) (by simp; omega) _ rfl ?_; intro g cap w2 hown' hgrow _ _)
              all_goals
                have R := mask_next hsz hbw HOW.out hown' hgrow
                rw [← HXS.out] at R
                clear hown' hgrow HOW x1 c2 e1
                go_wp2
                go_roundw
                case rel => exact ⟨t + 1, by omega, by go_num, R.1, R.2⟩
                case measure => simp [intOf]; omega
            · obtain rfl : t = P.size := by omega
              have hcv := dg_put_conv hown
              rw [List.take_of_length_le (by omega), hPl] at hcv
              obtain ⟨B, hB⟩ : ∃ B : ByteArray, B = ⟨(xorL (pieceF v.data.toList j) (keyB un F s.data.toList v.data.toList j)).toArray⟩ := ⟨_, rfl⟩
              rw [← hB] at hcv
              have hBl : B.data.toList = xorL (pieceF v.data.toList j) (keyB un F s.data.toList v.data.toList j) := by rw [hB]
              have hBs : B.size ≤ 16 := by rw [Lib.size_eq, hBl, xorL_length, HKl.out]; omega
              have hOs : O.size ≤ 1000000 := by have := HOl.out; omega
              have HBl := hide hBl
              have HBE := hide (show Below w.heap.size w wr from HB5.out.trans (hbw.mono HB5.out.size))
              clear hown hB hBl ht hlt2
              cases un with
              | true =>
                go_wp2
                go_roundw
                case rel => exact ⟨j + 1, m + 16, _, _, by have := HM.out; omega, by have := HM.out; omega, by go_num, rfl, by rw [ByteArray.data_append, Array.toList_append, HO.out, HBl.out, maskB_out], rfl, by rw [maskB_last, HPl.out]; rfl, hP16, HBE.out⟩
                case measure => simp [intOf]; omega
              | false =>
                go_wp2
                go_roundw
                case rel => exact ⟨j + 1, m + 16, _, _, by have := HM.out; omega, by have := HM.out; omega, by go_num, rfl, by rw [ByteArray.data_append, Array.toList_append, HO.out, HBl.out, maskB_out], rfl, by rw [maskB_last, HBl.out]; rfl, hBs, HBE.out⟩
                case measure => simp [intOf]; omega
    · have hfin : O = ⟨(maskF un F s.data.toList v.data.toList).toArray⟩ := by
        apply ByteArray.ext
        apply Array.toList_inj.1
        show O.data.toList = maskF un F s.data.toList v.data.toList
        rw [hO, maskF, HLEN.out, show j = (v.size + 15) / 16 by omega]
      have HFN := hide hfin
      clear hO hL hfin hOl
      go_wp2
      go_ret
      exact ⟨by rw [← HFN.out]; rfl, hbel⟩

set_option maxRecDepth 100000 in
set_option maxHeartbeats 400000 in
theorem refMask_all (k : Int) (s c v : ByteArray) (hs : s.size ≤ 1000000) (hc : c.size ≤ 1000000) (hv : v.size ≤ 1000000) (w : World) :
    Calls Tryz.prog 129 #[.int .i64 k, .string s, .string c, .string v] w fun e w' => e = .returned (.string ⟨(maskF false (firstF k s.data.toList c.data.toList) s.data.toList v.data.toList).toArray⟩) ∧ Below w.heap.size w w' := by
  have H := hide (refMask_any false k s c v hs hc hv)
  generalize (⟨(maskF false (firstF k s.data.toList c.data.toList) s.data.toList v.data.toList).toArray⟩ : ByteArray) = R at H
  go_enter Tryz.func129, Tryz.ntmps129
  go_wp2_with fail
  refine (H.out _).mono ?_
  rintro e w1 ⟨rfl, hb1⟩
  go_wp2
  go_ret
  exact ⟨rfl, hb1⟩

set_option maxRecDepth 100000 in
set_option maxHeartbeats 400000 in
theorem refUnmask_all (k : Int) (s c v : ByteArray) (hs : s.size ≤ 1000000) (hc : c.size ≤ 1000000) (hv : v.size ≤ 1000000) (w : World) :
    Calls Tryz.prog 132 #[.int .i64 k, .string s, .string c, .string v] w fun e w' => e = .returned (.string ⟨(maskF true (firstF k s.data.toList c.data.toList) s.data.toList v.data.toList).toArray⟩) ∧ Below w.heap.size w w' := by
  have H := hide (refMask_any true k s c v hs hc hv)
  generalize (⟨(maskF true (firstF k s.data.toList c.data.toList) s.data.toList v.data.toList).toArray⟩ : ByteArray) = R at H
  go_enter Tryz.func132, Tryz.ntmps132
  go_wp2_with fail
  refine (H.out _).mono ?_
  rintro e w1 ⟨rfl, hb1⟩
  go_wp2
  go_ret
  exact ⟨rfl, hb1⟩
end Go.Proofs.YtkneogfeokckjaaGreatDoor

namespace Go.Proofs.YtkneogfeokckjaaGreatDoor
open Go.RowKit

theorem refMaskAt_holds : RefMaskAt := fun k s v x hs hv hx W => (refMask_all k s v x (by omega) (by omega) (by omega) W).mono fun _ _ ⟨h1, h2⟩ => ⟨h1, kept_of h2⟩
theorem refUnmAt_holds : RefUnmAt := fun k s v x hs hv hx W => (refUnmask_all k s v x (by omega) (by omega) (by omega) W).mono fun _ _ ⟨h1, h2⟩ => ⟨h1, kept_of h2⟩
end Go.Proofs.YtkneogfeokckjaaGreatDoor

namespace Go.Proofs.YtkneogfeokckjaaGreatDoor
open Go.RowKit

set_option maxHeartbeats 4000000 in
set_option maxRecDepth 100000 in
theorem rGetC_short (b s : ByteArray) (h : b.size < 12) (w : World) :
    Calls Tryz.prog 10 #[.string b, .string s] w fun e w' => e = .returned (.tuple #[.agg #[.int .i64 0, .int .i64 0, .int .i64 0, .int .i64 0, .slice none 0 0], .int .i64 5]) ∧ Kept (fun _ => False) w w' := by
  have hz : (b.size : Int) < 12 := by omega
  clear h
  obtain ⟨c0, c1, c2, c3, c4⟩ := (CtAt.new w 0 0 0 0 (.slice none 0 0)).cells
  go_enter Tryz.func10, Tryz.ntmps10
  go_wp2
  refine bodyPost_ret (v := .tuple #[.agg #[.int .i64 0, .int .i64 0, .int .i64 0, .int .i64 0, .slice none 0 0], .int .i64 5]) (by simp [results, Tryz.results10, go_sem, c0, c1, c2, c3, c4]) rfl ⟨rfl, ?_⟩
  exact (Kept.refl _ w).alloc _

set_option maxHeartbeats 4000000 in
set_option maxRecDepth 100000 in
theorem rGetC_f1 (b s : ByteArray) (_hb : b.size ≤ 140737488351232) (h : 12 ≤ b.size) (h1 : byteN b 0 ≠ 200) (w : World) :
    Calls Tryz.prog 10 #[.string b, .string s] w fun e w' => e = .returned (.tuple #[.agg #[.int .i64 0, .int .i64 0, .int .i64 0, .int .i64 0, .slice none 0 0], .int .i64 4]) ∧ Kept (fun _ => False) w w' := by
  have hz : ¬ (b.size : Int) < 12 := by omega
  have x0 := index_at b 0 (by omega) 0 rfl
  have x1 := index_at b 1 (by omega) 1 rfl
  unfold byteN at *
  generalize (b.data.toList.getD 0 0).toNat = A at *
  generalize (b.data.toList.getD 1 0).toNat = B at *
  have e1 : ((A : Int) != 200) = true := by
    rw [bne_iff_ne]
    omega
  clear h h1
  obtain ⟨c0, c1, c2, c3, c4⟩ := (CtAt.new w 0 0 0 0 (.slice none 0 0)).cells
  go_enter Tryz.func10, Tryz.ntmps10
  go_wp2
  refine bodyPost_ret (v := .tuple #[.agg #[.int .i64 0, .int .i64 0, .int .i64 0, .int .i64 0, .slice none 0 0], .int .i64 4]) (by simp [results, Tryz.results10, go_sem, c0, c1, c2, c3, c4]) rfl ⟨rfl, ?_⟩
  exact (Kept.refl _ w).alloc _

set_option maxHeartbeats 4000000 in
set_option maxRecDepth 100000 in
theorem rGetC_f2 (b s : ByteArray) (_hb : b.size ≤ 140737488351232) (h : 12 ≤ b.size) (h0 : byteN b 0 = 200) (h1 : byteN b 1 ≠ 2) (w : World) :
    Calls Tryz.prog 10 #[.string b, .string s] w fun e w' => e = .returned (.tuple #[.agg #[.int .i64 0, .int .i64 0, .int .i64 0, .int .i64 0, .slice none 0 0], .int .i64 4]) ∧ Kept (fun _ => False) w w' := by
  have hz : ¬ (b.size : Int) < 12 := by omega
  have x0 := index_at b 0 (by omega) 0 rfl
  have x1 := index_at b 1 (by omega) 1 rfl
  unfold byteN at *
  generalize (b.data.toList.getD 0 0).toNat = A at *
  generalize (b.data.toList.getD 1 0).toNat = B at *
  have e0 : ((A : Int) != 200) = false := by
    rw [bne_eq_false_iff_eq]
    omega
  have e1 : ((B : Int) != 2) = true := by
    rw [bne_iff_ne]
    omega
  clear h h0 h1
  obtain ⟨c0, c1, c2, c3, c4⟩ := (CtAt.new w 0 0 0 0 (.slice none 0 0)).cells
  go_enter Tryz.func10, Tryz.ntmps10
  go_wp2
  refine bodyPost_ret (v := .tuple #[.agg #[.int .i64 0, .int .i64 0, .int .i64 0, .int .i64 0, .slice none 0 0], .int .i64 4]) (by simp [results, Tryz.results10, go_sem, c0, c1, c2, c3, c4]) rfl ⟨rfl, ?_⟩
  exact (Kept.refl _ w).alloc _

set_option maxHeartbeats 4000000 in
set_option maxRecDepth 100000 in
theorem rGetC_long (b s : ByteArray) (hb : b.size ≤ 140737488351232) (h : 12 ≤ b.size) (h0 : byteN b 0 = 200) (h1 : byteN b 1 = 2) (h2 : b.size < numAt b 2) (w : World) :
    Calls Tryz.prog 10 #[.string b, .string s] w fun e w' => e = .returned (.tuple #[.agg #[.int .i64 0, .int .i64 0, .int .i64 0, .int .i64 0, .slice none 0 0], .int .i64 5]) ∧ Kept (fun _ => False) w w' := by
  have HB := hid (CtAt.new w 0 0 0 0 (.slice none 0 0))
  have HK := hid ((Kept.refl (fun _ => False) w).alloc (.cells #[.int .i64 0, .int .i64 0, .int .i64 0, .int .i64 0, .slice none 0 0] 24))
  have HW := hid (fun W => refNumA b hb 2 (by omega) W)
  have hz : ¬ (b.size : Int) < 12 := by omega
  have x0 := index_at b 0 (by omega) 0 rfl
  have x1 := index_at b 1 (by omega) 1 rfl
  unfold byteN at *
  generalize (b.data.toList.getD 0 0).toNat = A at *
  generalize (b.data.toList.getD 1 0).toNat = B at *
  have e0 : ((A : Int) != 200) = false := by
    rw [bne_eq_false_iff_eq]
    omega
  have e1 : ((B : Int) != 2) = false := by
    rw [bne_eq_false_iff_eq]
    omega
  clear h0 h1
  generalize numAt b 2 = N at *
  have e2 : (b.size : Int) < (N : Int) := by omega
  clear h h2
  go_enter Tryz.func10, Tryz.ntmps10
  go_upto_region 1 with fail
  generalize w.alloc (.cells #[.int .i64 0, .int .i64 0, .int .i64 0, .int .i64 0, .slice none 0 0] 24) = W0 at *
  go_wp2_with fail
  refine (HW.out _).mono ?_
  rintro e w1 ⟨rfl, hk1⟩
  have HK1 := hid (HK.out.trans hk1)
  have HB1 := hid (HB.out.kept hk1)
  clear hk1 HK HB HW x0 x1 e0 e1
  obtain ⟨z0, z1, z2, z3, z4⟩ := (HB1.out).cells
  have f0 := (HB1.out).soft 0
  have f1 := (HB1.out).soft 1
  have f2 := (HB1.out).soft 2
  have f3 := (HB1.out).soft 3
  have f4 := (HB1.out).soft 4
  go_wp2
  refine bodyPost_ret (v := .tuple #[.agg #[.int .i64 0, .int .i64 0, .int .i64 0, .int .i64 0, .slice none 0 0], .int .i64 5]) (by simp [results, Tryz.results10, go_sem, z0, z1, z2, z3, z4]) rfl ⟨rfl, ?_⟩
  exact (((((HK1.out).setCell (Or.inl (Nat.le_refl _)) _).setCell (Or.inl (Nat.le_refl _)) _).setCell (Or.inl (Nat.le_refl _)) _).setCell (Or.inl (Nat.le_refl _)) _).setCell (Or.inl (Nat.le_refl _)) _

set_option maxHeartbeats 4000000 in
set_option maxRecDepth 100000 in
theorem rGetC_less (b s : ByteArray) (hb : b.size ≤ 140737488351232) (h : 12 ≤ b.size) (h0 : byteN b 0 = 200) (h1 : byteN b 1 = 2) (h2 : ¬ b.size < numAt b 2) (h3 : numAt b 2 < 12) (w : World) :
    Calls Tryz.prog 10 #[.string b, .string s] w fun e w' => e = .returned (.tuple #[.agg #[.int .i64 0, .int .i64 0, .int .i64 0, .int .i64 0, .slice none 0 0], .int .i64 4]) ∧ Kept (fun _ => False) w w' := by
  have HB := hid (CtAt.new w 0 0 0 0 (.slice none 0 0))
  have HK := hid ((Kept.refl (fun _ => False) w).alloc (.cells #[.int .i64 0, .int .i64 0, .int .i64 0, .int .i64 0, .slice none 0 0] 24))
  have HW := hid (fun W => refNumA b hb 2 (by omega) W)
  have hz : ¬ (b.size : Int) < 12 := by omega
  have x0 := index_at b 0 (by omega) 0 rfl
  have x1 := index_at b 1 (by omega) 1 rfl
  unfold byteN at *
  generalize (b.data.toList.getD 0 0).toNat = A at *
  generalize (b.data.toList.getD 1 0).toNat = B at *
  have e0 : ((A : Int) != 200) = false := by
    rw [bne_eq_false_iff_eq]
    omega
  have e1 : ((B : Int) != 2) = false := by
    rw [bne_eq_false_iff_eq]
    omega
  clear h0 h1
  generalize numAt b 2 = N at *
  have e2 : ¬ (b.size : Int) < (N : Int) := by omega
  have e3 : (N : Int) < 12 := by omega
  clear h h2 h3
  go_enter Tryz.func10, Tryz.ntmps10
  go_upto_region 1 with fail
  generalize w.alloc (.cells #[.int .i64 0, .int .i64 0, .int .i64 0, .int .i64 0, .slice none 0 0] 24) = W0 at *
  go_wp2_with fail
  refine (HW.out _).mono ?_
  rintro e w1 ⟨rfl, hk1⟩
  have HK1 := hid (HK.out.trans hk1)
  have HB1 := hid (HB.out.kept hk1)
  clear hk1 HK HB HW x0 x1 e0 e1
  obtain ⟨z0, z1, z2, z3, z4⟩ := (HB1.out).cells
  have f0 := (HB1.out).soft 0
  have f1 := (HB1.out).soft 1
  have f2 := (HB1.out).soft 2
  have f3 := (HB1.out).soft 3
  have f4 := (HB1.out).soft 4
  go_wp2
  refine bodyPost_ret (v := .tuple #[.agg #[.int .i64 0, .int .i64 0, .int .i64 0, .int .i64 0, .slice none 0 0], .int .i64 4]) (by simp [results, Tryz.results10, go_sem, z0, z1, z2, z3, z4]) rfl ⟨rfl, ?_⟩
  exact (((((HK1.out).setCell (Or.inl (Nat.le_refl _)) _).setCell (Or.inl (Nat.le_refl _)) _).setCell (Or.inl (Nat.le_refl _)) _).setCell (Or.inl (Nat.le_refl _)) _).setCell (Or.inl (Nat.le_refl _)) _

set_option maxHeartbeats 4000000 in
set_option maxRecDepth 100000 in
theorem rGetC_get (b s : ByteArray) (hb : b.size ≤ 140737488351232) (h : 12 ≤ b.size) (h0 : byteN b 0 = 200) (h1 : byteN b 1 = 2) (hs : s.size ≤ 1000000) (h2 : ¬ b.size < numAt b 2) (h3 : ¬ numAt b 2 < 12) (E : Int) (hE : E ≠ 0) (hg : (getAF (b.extract 12 (numAt b 2)) s).2 = E) (w : World) :
    Calls Tryz.prog 10 #[.string b, .string s] w fun e w' => e = .returned (.tuple #[.agg #[.int .i64 0, .int .i64 0, .int .i64 0, .int .i64 0, .slice none 0 0], .int .i64 E]) ∧ Kept (fun _ => False) w w' := by
  have HB := hid (CtAt.new w 0 0 0 0 (.slice none 0 0))
  have HK := hid ((Kept.refl (fun _ => False) w).alloc (.cells #[.int .i64 0, .int .i64 0, .int .i64 0, .int .i64 0, .slice none 0 0] 24))
  have HW := hid (fun W => refNumA b hb 2 (by omega) W)
  have hz : ¬ (b.size : Int) < 12 := by omega
  have x0 := index_at b 0 (by omega) 0 rfl
  have x1 := index_at b 1 (by omega) 1 rfl
  unfold byteN at *
  generalize (b.data.toList.getD 0 0).toNat = A at *
  generalize (b.data.toList.getD 1 0).toNat = B at *
  have e0 : ((A : Int) != 200) = false := by
    rw [bne_eq_false_iff_eq]
    omega
  have e1 : ((B : Int) != 2) = false := by
    rw [bne_eq_false_iff_eq]
    omega
  clear h0 h1
  have hX : (b.extract 12 (numAt b 2)).size ≤ 140737488351232 := by rw [ByteArray.size_extract]; omega
  have HG := hid (fun W => rGet_any refUnmAt_holds (b.extract 12 (numAt b 2)) s hX hs W)
  have j1 := mid_at b 12 (numAt b 2) (by omega) (by omega) 12 (numAt b 2 : Int) rfl rfl
  rw [hg] at HG
  have hEz : (E != 0) = true := by rw [bne_iff_ne]; exact hE
  clear hE hg
  generalize b.extract 12 (numAt b 2) = X at *
  generalize (getAF X s).1 = L at *
  generalize numAt b 2 = N at *
  have e2 : ¬ (b.size : Int) < (N : Int) := by omega
  have e3 : ¬ (N : Int) < 12 := by omega
  clear h h2 h3 hX
  go_enter Tryz.func10, Tryz.ntmps10
  go_upto_region 1 with fail
  generalize w.alloc (.cells #[.int .i64 0, .int .i64 0, .int .i64 0, .int .i64 0, .slice none 0 0] 24) = W0 at *
  go_wp2_with fail
  refine (HW.out _).mono ?_
  rintro e w1 ⟨rfl, hk1⟩
  have HK1 := hid (HK.out.trans hk1)
  have HB1 := hid (HB.out.kept hk1)
  clear hk1 HK HB HW x0 x1 e0 e1
  go_wp2_with fail
  refine (HG.out _).mono ?_
  rintro e w3 ⟨v, rfl, ho3, hk3⟩
  obtain ⟨p, c, rfl⟩ := slice_of ho3
  have HK3 := hid (HK1.out.trans hk3)
  have HB3 := hid (HB1.out.kept hk3)
  have HO3 := hid (OwnG.mono ho3 HK1.out.size)
  clear hk3 ho3 HK1 HB1 HG
  obtain ⟨z0, z1, z2, z3, z4⟩ := (HB3.out).cells
  have f0 := (HB3.out).soft 0
  have f1 := (HB3.out).soft 1
  have f2 := (HB3.out).soft 2
  have f3 := (HB3.out).soft 3
  have f4 := (HB3.out).soft 4
  go_wp2
  refine bodyPost_ret (v := .tuple #[.agg #[.int .i64 0, .int .i64 0, .int .i64 0, .int .i64 0, .slice none 0 0], .int .i64 E]) (by simp [results, Tryz.results10, go_sem, z0, z1, z2, z3, z4]) rfl ⟨rfl, ?_⟩
  exact (((((HK3.out).setCell (Or.inl (Nat.le_refl _)) _).setCell (Or.inl (Nat.le_refl _)) _).setCell (Or.inl (Nat.le_refl _)) _).setCell (Or.inl (Nat.le_refl _)) _).setCell (Or.inl (Nat.le_refl _)) _

set_option maxHeartbeats 4000000 in
set_option maxRecDepth 100000 in
theorem rGetC_ok (b s : ByteArray) (hb : b.size ≤ 140737488351232) (h : 12 ≤ b.size) (h0 : byteN b 0 = 200) (h1 : byteN b 1 = 2) (hs : s.size ≤ 1000000) (h2 : ¬ b.size < numAt b 2) (h3 : ¬ numAt b 2 < 12) (hg : (getAF (b.extract 12 (numAt b 2)) s).2 = 0) (w : World) :
    Calls Tryz.prog 10 #[.string b, .string s] w fun e w' => ∃ v, e = .returned (.tuple #[.agg #[.int .i64 (numAt b 4 : Int), .int .i64 (numAt b 6 : Int), .int .i64 (numAt b 8 : Int), .int .i64 (numAt b 10 : Int), v], .int .i64 0]) ∧ OwnAv w' w.heap.size v (getAF (b.extract 12 (numAt b 2)) s).1 ∧ Kept (fun _ => False) w w' := by
  have HB := hid (CtAt.new w 0 0 0 0 (.slice none 0 0))
  have HK := hid ((Kept.refl (fun _ => False) w).alloc (.cells #[.int .i64 0, .int .i64 0, .int .i64 0, .int .i64 0, .slice none 0 0] 24))
  have HW := hid (fun W => refNumA b hb 2 (by omega) W)
  have hz : ¬ (b.size : Int) < 12 := by omega
  have x0 := index_at b 0 (by omega) 0 rfl
  have x1 := index_at b 1 (by omega) 1 rfl
  unfold byteN at *
  generalize (b.data.toList.getD 0 0).toNat = A at *
  generalize (b.data.toList.getD 1 0).toNat = B at *
  have e0 : ((A : Int) != 200) = false := by
    rw [bne_eq_false_iff_eq]
    omega
  have e1 : ((B : Int) != 2) = false := by
    rw [bne_eq_false_iff_eq]
    omega
  clear h0 h1
  have hX : (b.extract 12 (numAt b 2)).size ≤ 140737488351232 := by rw [ByteArray.size_extract]; omega
  have HG := hid (fun W => rGet_any refUnmAt_holds (b.extract 12 (numAt b 2)) s hX hs W)
  have j1 := mid_at b 12 (numAt b 2) (by omega) (by omega) 12 (numAt b 2 : Int) rfl rfl
  have HW4 := hid (fun W => refNumA b hb 4 (by omega) W)
  have HW6 := hid (fun W => refNumA b hb 6 (by omega) W)
  have HW8 := hid (fun W => refNumA b hb 8 (by omega) W)
  have HW10 := hid (fun W => refNumA b hb 10 (by omega) W)
  rw [hg] at HG
  generalize numAt b 4 = N4 at *
  generalize numAt b 6 = N6 at *
  generalize numAt b 8 = N8 at *
  generalize numAt b 10 = N10 at *
  clear hg
  generalize b.extract 12 (numAt b 2) = X at *
  generalize (getAF X s).1 = L at *
  generalize numAt b 2 = N at *
  have e2 : ¬ (b.size : Int) < (N : Int) := by omega
  have e3 : ¬ (N : Int) < 12 := by omega
  clear h h2 h3 hX
  go_enter Tryz.func10, Tryz.ntmps10
  go_upto_region 1 with fail
  generalize w.alloc (.cells #[.int .i64 0, .int .i64 0, .int .i64 0, .int .i64 0, .slice none 0 0] 24) = W0 at *
  go_wp2_with fail
  refine (HW.out _).mono ?_
  rintro e w1 ⟨rfl, hk1⟩
  have HK1 := hid (HK.out.trans hk1)
  have HB1 := hid (HB.out.kept hk1)
  clear hk1 HK HB HW x0 x1 e0 e1
  go_wp2_with fail
  refine (HG.out _).mono ?_
  rintro e w3 ⟨v, rfl, ho3, hk3⟩
  obtain ⟨p, c, rfl⟩ := slice_of ho3
  have HK3 := hid (HK1.out.trans hk3)
  have HB3 := hid (HB1.out.kept hk3)
  have HO3 := hid (OwnG.mono ho3 HK1.out.size)
  clear hk3 ho3 HK1 HB1 HG
  go_wp2_with fail
  refine (HW4.out _).mono ?_
  rintro e w4 ⟨rfl, hk4⟩
  have HK4 := hid (HK3.out.trans hk4)
  have HB4 := hid (HB3.out.kept hk4)
  have HO4 := hid (OwnG.kept0 HO3.out hk4)
  clear hk4 HK3 HB3 HO3 HW4
  go_wp2_with fail
  refine (HW6.out _).mono ?_
  rintro e w5 ⟨rfl, hk5⟩
  have HK5 := hid (HK4.out.trans hk5)
  have HB5 := hid (HB4.out.kept hk5)
  have HO5 := hid (OwnG.kept0 HO4.out hk5)
  clear hk5 HK4 HB4 HO4 HW6
  go_wp2_with fail
  refine (HW8.out _).mono ?_
  rintro e w6 ⟨rfl, hk6⟩
  have HK6 := hid (HK5.out.trans hk6)
  have HB6 := hid (HB5.out.kept hk6)
  have HO6 := hid (OwnG.kept0 HO5.out hk6)
  clear hk6 HK5 HB5 HO5 HW8
  go_wp2_with fail
  refine (HW10.out _).mono ?_
  rintro e w7 ⟨rfl, hk7⟩
  have HK7 := hid (HK6.out.trans hk7)
  have HB7 := hid (HB6.out.kept hk7)
  have HO7 := hid (OwnG.kept0 HO6.out hk7)
  clear hk7 HK6 HB6 HO6 HW10
  obtain ⟨z0, z1, z2, z3, z4⟩ := (HB7.out).cells
  have f0 := (HB7.out).soft 0
  have f1 := (HB7.out).soft 1
  have f2 := (HB7.out).soft 2
  have f3 := (HB7.out).soft 3
  have f4 := (HB7.out).soft 4
  have HU := hid (OwnAv.ctl HO7.out HB7.out)
  go_wp2
  refine bodyPost_ret (v := .tuple #[.agg #[.int .i64 (N4 : Int), .int .i64 (N6 : Int), .int .i64 (N8 : Int), .int .i64 (N10 : Int), .slice p L.length c], .int .i64 0]) (by simp [results, Tryz.results10, go_sem, z0, z1, z2, z3, z4]) rfl ⟨_, rfl, ?_, ?_⟩
  · refine OwnG.keptS HO7.out (S := fun i => i = w.heap.size) ((((((Kept.refl (fun i => i = w.heap.size) w7).setCell (Or.inr rfl) _).setCell (Or.inr rfl) _).setCell (Or.inr rfl) _).setCell (Or.inr rfl) _).setCell (Or.inr rfl) _) ?_
    rintro i hi rfl
    exact HU.out hi
  · exact (((((HK7.out).setCell (Or.inl (Nat.le_refl _)) _).setCell (Or.inl (Nat.le_refl _)) _).setCell (Or.inl (Nat.le_refl _)) _).setCell (Or.inl (Nat.le_refl _)) _).setCell (Or.inl (Nat.le_refl _)) _

theorem rGetCtl_any (b s : ByteArray) (hb : b.size ≤ 140737488351232) (hs : s.size ≤ 1000000) (w : World) :
    Calls Tryz.prog 10 #[.string b, .string s] w fun e w' => ∃ v, e = .returned (.tuple #[ctV (getCF b s).1 v, .int .i64 (getCF b s).2]) ∧ OwnAv w' w.heap.size v (getCF b s).1.avps ∧ Kept (fun _ => False) w w' := by
  have zero : ∀ {E : Int}, Calls Tryz.prog 10 #[.string b, .string s] w (fun e w' => e = .returned (.tuple #[.agg #[.int .i64 0, .int .i64 0, .int .i64 0, .int .i64 0, .slice none 0 0], .int .i64 E]) ∧ Kept (fun _ => False) w w') → Calls Tryz.prog 10 #[.string b, .string s] w fun e w' => ∃ v, e = .returned (.tuple #[ctV (ct0, E).1 v, .int .i64 (ct0, E).2]) ∧ OwnAv w' w.heap.size v (ct0, E).1.avps ∧ Kept (fun _ => False) w w' := fun h => h.mono fun e w' ⟨he, hk⟩ => ⟨.slice none 0 0, he, OwnG.nil _ _, hk⟩
  unfold getCF
  by_cases h12 : b.size < 12
  · rw [if_pos h12]
    exact zero (rGetC_short b s h12 w)
  rw [if_neg h12]
  by_cases hf : byteN b 0 ≠ 200 ∨ byteN b 1 ≠ 2
  · rw [if_pos hf]
    by_cases h0 : byteN b 0 = 200
    · exact zero (rGetC_f2 b s hb (by omega) h0 (by omega) w)
    · exact zero (rGetC_f1 b s hb (by omega) h0 w)
  rw [if_neg hf]
  have h0 : byteN b 0 = 200 := by omega
  have h1 : byteN b 1 = 2 := by omega
  by_cases h2 : b.size < numAt b 2
  · rw [if_pos h2]
    exact zero (rGetC_long b s hb (by omega) h0 h1 h2 w)
  rw [if_neg h2]
  by_cases h3 : numAt b 2 < 12
  · rw [if_pos h3]
    exact zero (rGetC_less b s hb (by omega) h0 h1 h2 h3 w)
  rw [if_neg h3]
  by_cases he : (getAF (b.extract 12 (numAt b 2)) s).2 = 0
  · rw [if_pos he]
    exact rGetC_ok b s hb (by omega) h0 h1 hs h2 h3 he w
  · rw [if_neg he]
    exact zero (rGetC_get b s hb (by omega) h0 h1 hs h2 h3 _ he rfl w)
end Go.Proofs.YtkneogfeokckjaaGreatDoor

namespace Go.Proofs.YtkneogfeokckjaaGreatDoor
open Go.RowKit

theorem rKind_any (t s n r : Int) (u : Value) (l : List Av) (w : World) (hv : AvsAt w u l) :
    Calls Tryz.prog 13 #[.agg #[.int .i64 t, .int .i64 s, .int .i64 n, .int .i64 r, u]] w fun e w' => e = .returned (.int .i64 (kindF l)) ∧ Kept (fun _ => False) w w' := by
  obtain ⟨p, c, rfl⟩ := RowsAt.slice hv
  cases l with
  | nil => exact rKind_none t s n r p c w
  | cons x m =>
    obtain ⟨g, o, rfl, hc, h0, h1, h2, h3, h4⟩ := AvsAt.at5 hv (j := 0) (x := x) rfl
    rw [Nat.zero_mul, Nat.add_zero] at h0 h1 h2 h3 h4
    exact rKind_some refNumA t s n r g o (x :: m).length c x m (Nat.succ_pos _) hc w h0 h1 h2 h3 h4
theorem kindB_iff (k : Int) : kindB k = (decide (1 ≤ k) && (decide (k ≤ 16) && ((k != 5) && (k != 13)))) := by
  rw [Bool.eq_iff_iff]
  simp only [kindB, Bool.or_eq_true, decide_eq_true_eq, Bool.and_eq_true, bne_iff_ne]
  constructor
  · rintro (h | h | h)
    · omega
    · omega
    · refine Classical.byContradiction fun hn => h ?_
      unfold needsF
      rw [if_neg (by omega), if_neg (by omega), if_neg (by omega), if_neg (by omega), if_neg (by omega), if_neg (by omega), if_neg (by omega), if_neg (by omega)]
  · intro h
    by_cases h3 : k = 3
    · exact Or.inl h3
    by_cases h6 : k = 6
    · exact Or.inr (Or.inl h6)
    refine Or.inr (Or.inr ?_)
    unfold needsF
    split
    · simp
    split
    · simp
    split
    · simp
    split
    · simp
    split
    · simp
    split
    · simp
    split
    · simp
    split
    · simp
    · omega
theorem kindF_cons (x : Av) (l : List Av) : kindF (x :: l) ≠ -2 := by
  show (if x.vendor = 0 ∧ x.type = 0 ∧ x.hidden = false ∧ x.value.size = 2 then (numAt x.value 0 : Int) else -1) ≠ -2
  split <;> omega
theorem lengthF_low (k : Int) : -2 ≤ lengthF k := by
  have h : AvLit.lengthsR.all (fun r => decide (-2 ≤ r.n)) = true := by rfl
  rw [List.all_eq_true] at h
  unfold lengthF
  split
  · rename_i r hr
    have := h r (List.mem_of_find?_eq_some hr)
    simpa using this
  · exact Int.le_refl _

set_option maxHeartbeats 8000000 in
set_option maxRecDepth 100000 in
theorem rCheck_any (t s n r : Int) (u : Value) (l : List Av) (w : World) (hv : AvsAt w u l) (hl : l.length ≤ 1000000) (hg : ∀ x ∈ l, GoodA x) (hsz : ∀ x ∈ l, x.value.size ≤ 140737488351232) :
    Calls Tryz.prog 15 #[.agg #[.int .i64 t, .int .i64 s, .int .i64 n, .int .i64 r, u]] w fun e w' => e = .returned (.int .i64 (checkF l)) ∧ Kept (fun _ => False) w w' := by
  obtain ⟨p, cap, rfl⟩ := RowsAt.slice hv
  have HB := hid (CtAt.new w t s n r (.slice p l.length cap))
  have HK := hid ((Kept.refl (fun _ => False) w).alloc (.cells #[.int .i64 t, .int .i64 s, .int .i64 n, .int .i64 r, .slice p l.length cap] 24))
  have HKi := hid (fun W (h : Kept (fun _ => False) w W) => rKind_any t s n r (.slice p l.length cap) l W (RowsAt.kept0 hv h))
  by_cases he : l = []
  · subst he
    have HKi0 : Hid (∀ W, Kept (fun _ => False) w W → Calls Tryz.prog 13 #[.agg #[.int .i64 t, .int .i64 s, .int .i64 n, .int .i64 r, .slice p 0 cap]] W fun e w' => e = .returned (.int .i64 (-2)) ∧ Kept (fun _ => False) W w') := HKi.out
    clear HKi hv
    obtain ⟨b0, b1, b2, b3, b4⟩ := HB.out.cells
    simp only [List.length_nil] at b4
    go_enter Tryz.func15, Tryz.ntmps15
    go_wp2_with fail
    refine (HKi0.out _ HK.out).mono ?_
    rintro e w1 ⟨rfl, hk1⟩
    have HK1 := hid (HK.out.trans hk1)
    clear hk1
    go_wp2
    go_ret
    exact ⟨rfl, HK1.out⟩
  have hpos : 0 < l.length := List.length_pos_iff.2 he
  have hk2 : kindF l ≠ -2 := by
    cases l with
    | nil => exact absurd rfl he
    | cons x m => exact kindF_cons x m
  have HNe := hid (fun W => rNeeds_any (kindF l) W)
  have HFi := hid (fun k W (h : Kept (fun _ => False) w W) => rFind_any (.slice p l.length cap) l k W (RowsAt.kept0 hv h) hl hsz)
  have HLe := hid (fun k W => rLength_any k W)
  have Hat : Hid (∀ (j : Nat) (x : Av), l[j]? = some x → ∀ W, Kept (fun _ => False) w W → ∃ g o, p = some ⟨g, o, none⟩ ∧ l.length ≤ cap ∧ W.cell? ⟨g, o + j * 5, none⟩ = some (.bool x.must) ∧ W.cell? ⟨g, o + j * 5 + 1, none⟩ = some (.bool x.hidden) ∧ W.cell? ⟨g, o + j * 5 + 2, none⟩ = some (.int .i64 x.vendor) ∧ W.cell? ⟨g, o + j * 5 + 3, none⟩ = some (.int .i64 x.type) ∧ W.cell? ⟨g, o + j * 5 + 4, none⟩ = some (.string x.value)) :=
    fun j x hj W hW => AvsAt.at5 (RowsAt.kept0 hv hW) hj
  obtain ⟨Q, hQ⟩ : ∃ Q, Q = checkF l := ⟨_, rfl⟩
  have HQ : Hid (Q = if kindB (kindF l) = true then if checkRest (l.drop 1) = 0 then (if needB l (needsF (kindF l)) = true then 0 else 40) else checkRest (l.drop 1) else 40) := by
    show _ = _
    rw [hQ]
    unfold checkF
    rw [if_neg he]
  rw [← hQ]
  have Hsz := hid hsz
  clear hv hg hsz hQ he
  generalize kindF l = K at *
  have HKB := hid (kindB_iff K)
  have hkz : (K == -2) = false := by rw [beq_eq_false_iff_ne]; exact hk2
  clear hk2
  obtain ⟨b0, b1, b2, b3, b4⟩ := HB.out.cells
  go_enter Tryz.func15, Tryz.ntmps15
  go_wp2_with fail
  refine (HKi.out _ HK.out).mono ?_
  rintro e w1 ⟨rfl, hk1⟩
  have HK1 := hid (HK.out.trans hk1)
  have HB1 := hid (HB.out.kept hk1)
  clear hk1 HKi HB HK b0 b1 b2 b3 b4
  go_upto_region 4 with fail
  go_cut [28] from 15 to 28 (fun v wx => v = .bool (!kindB K) ∧ wx = w1)
  case first =>
    have hcase : (¬ 1 ≤ K) ∨ (1 ≤ K ∧ ¬ K ≤ 16) ∨ (1 ≤ K ∧ K ≤ 16 ∧ K = 5) ∨ (1 ≤ K ∧ K ≤ 16 ∧ K ≠ 5 ∧ K = 13) ∨ (1 ≤ K ∧ K ≤ 16 ∧ K ≠ 5 ∧ K ≠ 13) := by omega
    have HC := hid hcase
    clear hcase
    rcases HC.out with g | ⟨g, g'⟩ | ⟨g, g', g5⟩ | ⟨g, g', g5, g13⟩ | ⟨g, g', g5, g13⟩
    · have HR := hid (show kindB K = false from by rw [HKB.out]; simp; omega)
      have q1 : K < 1 := by omega
      clear g
      go_wp2
      go_meet
      exact ⟨by rw [HR.out]; rfl, rfl⟩
    · have HR := hid (show kindB K = false from by rw [HKB.out]; simp; omega)
      have q1 : ¬ K < 1 := by omega
      have q2 : 16 < K := by omega
      clear g g'
      go_wp2
      go_meet
      exact ⟨by rw [HR.out]; rfl, rfl⟩
    · have HR := hid (show kindB K = false from by rw [HKB.out]; simp; omega)
      have q1 : ¬ K < 1 := by omega
      have q2 : ¬ 16 < K := by omega
      have e5 : (K == 5) = true := by rw [g5]; rfl
      clear g g' g5
      go_wp2
      go_meet
      exact ⟨by rw [HR.out]; rfl, rfl⟩
    · have HR := hid (show kindB K = false from by rw [HKB.out]; simp; omega)
      have q1 : ¬ K < 1 := by omega
      have q2 : ¬ 16 < K := by omega
      have e5 : (K == 5) = false := by rw [beq_eq_false_iff_ne]; exact g5
      have e13 : (K == 13) = true := by rw [g13]; rfl
      clear g g' g5 g13
      go_wp2
      go_meet
      exact ⟨by rw [HR.out]; rfl, rfl⟩
    · have HR := hid (show kindB K = true from by rw [HKB.out]; simp; omega)
      have q1 : ¬ K < 1 := by omega
      have q2 : ¬ 16 < K := by omega
      have e5 : (K == 5) = false := by rw [beq_eq_false_iff_ne]; exact g5
      have e13 : (K == 13) = false := by rw [beq_eq_false_iff_ne]; exact g13
      clear g g' g5 g13
      go_wp2
      go_meet
      exact ⟨by rw [HR.out]; rfl, rfl⟩
  obtain ⟨rfl, hwx⟩ := hcut
  rw [hwx]
  clear hwx
  cases hkb : kindB K with
  | false =>
    rw [hkb] at HQ
    clear hkb
    go_wp2
    go_ret
    exact ⟨by rw [HQ.out]; rfl, HK1.out⟩
  | true =>
    rw [hkb] at HQ
    clear hkb HKB
    go_wp2
    go_loopw [4] (fun vi wr => ∃ (j : Nat), 1 ≤ j ∧ j ≤ l.length ∧ vi = .int .i64 (j : Int) ∧ Hid (checkRest (l.drop j) = checkRest (l.drop 1) ∧ Kept (fun _ => False) w wr ∧ CtAt wr w.heap.size t s n r (.slice p l.length cap))) (fun vi _ => l.length - (intOf vi).toNat)
    case atStart => exact ⟨1, Nat.le_refl _, hpos, rfl, rfl, HK1.out, HB1.out⟩
    case round =>
      obtain ⟨j, hj1, hj, rfl, HI⟩ := hrel
      obtain ⟨b0, b1, b2, b3, b4⟩ := HI.out.2.2.cells
      by_cases hlt : j < l.length
      · have hltz : (j : Int) < (l.length : Int) := by omega
        obtain ⟨x, hx⟩ : ∃ x, l[j]? = some x := ⟨l[j], by simp [hlt]⟩
        obtain ⟨g, o, rfl, hcap, x0, x1, x2, x3, x4⟩ := Hat.out j x hx wr HI.out.2.1
        have hT := HI.out.1
        rw [checkRest_at hx] at hT
        have hxz := Hsz.out x (List.mem_of_getElem? hx)
        have HLo := hid (fun W => HLe.out x.type W)
        have HLw := hid (lengthF_low x.type)
        have HX := hid (AvAt.new wr x)
        have HK3 := hid (HI.out.2.1.alloc (.cells #[.bool x.must, .bool x.hidden, .int .i64 x.vendor, .int .i64 x.type, .string x.value] 72))
        have HB3 := hid (HI.out.2.2.kept ((Kept.refl (fun _ => False) wr).alloc (.cells #[.bool x.must, .bool x.hidden, .int .i64 x.vendor, .int .i64 x.type, .string x.value] 72)))
        have HTz := hid hT
        have HOne := hid (show checkOneF x = if lenOfF x = -2 then (if x.must = true then 40 else 0) else if lenOfF x ≠ -1 ∧ lenOfF x ≠ (x.value.size : Int) then 4 else if x.type = 0 then 4 else 0 from rfl)
        have HLf := hid (show lenOfF x = if x.vendor = 0 then lengthF x.type else -2 from rfl)
        clear HI hx hT
        generalize checkOneF x = E1 at *
        generalize lenOfF x = N1 at *
        generalize lengthF x.type = N2 at *
        obtain ⟨mu, hi, V, T, X⟩ := x
        dsimp only at x0 x1 x2 x3 x4 hxz HLo HX HK3 HB3 HOne HLf
        go_upto_region 10 with fail
        generalize wr.alloc (.cells #[.bool mu, .bool hi, .int .i64 V, .int .i64 T, .string X] 72) = W3 at *
        generalize wr.heap.size = bx at *
        clear x0 x1 x2 x3 x4 b0 b1 b2 b3 b4
        obtain ⟨c0, c1, c2, c3, c4⟩ := HX.out.cells
        dsimp only at c0 c1 c2 c3 c4
        go_wp2_with fail
        refine (HLo.out _).mono ?_
        rintro e w4 ⟨rfl, hk4⟩
        have HK4 := hid (HK3.out.trans hk4)
        have HB4 := hid (HB3.out.kept hk4)
        have HX4 := hid (HX.out.kept0 hk4)
        clear hk4 c0 c1 c2 c3 c4 HK3 HB3 HX HLo
        obtain ⟨c0, c1, c2, c3, c4⟩ := HX4.out.cells
        dsimp only at c0 c1 c2 c3 c4
        have ON : Hid (E1 = 0 → ∃ k : Nat, 1 ≤ k ∧ k ≤ l.length ∧ ((j : Int) + 1 = (k : Int)) ∧ Hid (checkRest (l.drop k) = checkRest (l.drop 1) ∧ Kept (fun _ => False) w w4 ∧ CtAt w4 w.heap.size t s n r (.slice (some ⟨g, o, none⟩) l.length cap))) := fun h0 => by
          have := HTz.out
          rw [if_pos h0] at this
          exact ⟨j + 1, by omega, hlt, by omega, this, HK4.out, HB4.out⟩
        have OUT : Hid (E1 ≠ 0 → Q = E1) := fun h0 => by
          have h1 := HTz.out
          rw [if_neg h0] at h1
          have h2 := HQ.out
          simp only [if_true] at h2
          rw [h2, ← h1, if_neg h0]
        by_cases hV : V = 0
        · have hLf := HLf.out
          rw [if_pos hV] at hLf
          have eV : (V != 0) = false := by rw [hV]; rfl
          have hOne := HOne.out
          rw [hLf] at hOne
          have hlw := HLw.out
          clear HLf HOne hLf
          by_cases hN : N2 = -2
          · have eN : (N2 == -2) = true := by rw [hN]; rfl
            rw [if_pos hN] at hOne
            clear hlw hN
            cases mu with
            | true =>
              have HE := hid (show Q = 40 from by rw [OUT.out (by rw [hOne]; simp), hOne]; rfl)
              clear ON OUT hOne hV
              go_wp2
              go_ret
              exact ⟨by rw [HE.out]; rfl, HK4.out⟩
            | false =>
              obtain ⟨k, hk1, hk2, hk3, HI'⟩ := ON.out (by rw [hOne]; rfl)
              have HK3 := hid hk3
              clear ON OUT hOne hV hk3
              go_wp2
              exact ⟨⟨k, hk1, hk2, by rw [← HK3.out], HI'.out⟩, by have := HK3.out; simp [intOf]; omega⟩
          · have eN : (N2 == -2) = false := by rw [beq_eq_false_iff_ne]; exact hN
            rw [if_neg hN] at hOne
            by_cases h4 : N2 ≠ -1 ∧ N2 ≠ (X.size : Int)
            · rw [if_pos h4] at hOne
              have g0 : (0 : Int) ≤ N2 := by omega
              have g1 : ((X.size : Int) != N2) = true := by rw [bne_iff_ne]; exact fun e => h4.2 e.symm
              have HE := hid (show Q = 4 from by rw [OUT.out (by rw [hOne]; decide), hOne])
              clear ON OUT hOne hV h4 hN hlw
              go_wp2
              go_ret
              exact ⟨by rw [HE.out]; rfl, HK4.out⟩
            · rw [if_neg h4] at hOne
              have hcase : (0 ≤ N2 ∧ ((X.size : Int) != N2) = false) ∨ ¬ 0 ≤ N2 := by
                by_cases g0 : 0 ≤ N2
                · refine Or.inl ⟨g0, ?_⟩
                  rw [bne_eq_false_iff_eq]
                  refine Classical.byContradiction fun h => h4 ⟨by omega, fun e => h e.symm⟩
                · exact Or.inr g0
              have HC := hid hcase
              clear hcase h4 hN hlw
              by_cases hT0 : T = 0
              · have eT : (T == 0) = true := by rw [hT0]; rfl
                rw [if_pos hT0] at hOne
                have HE := hid (show Q = 4 from by rw [OUT.out (by rw [hOne]; decide), hOne])
                clear ON OUT hOne hV hT0
                rcases HC.out with ⟨g0, g1⟩ | g0
                · go_wp2
                  go_ret
                  exact ⟨by rw [HE.out]; rfl, HK4.out⟩
                · go_wp2
                  go_ret
                  exact ⟨by rw [HE.out]; rfl, HK4.out⟩
              · have eT : (T == 0) = false := by rw [beq_eq_false_iff_ne]; exact hT0
                rw [if_neg hT0] at hOne
                obtain ⟨k, hk1, hk2, hk3, HI'⟩ := ON.out hOne
                have HK3 := hid hk3
                clear ON OUT hOne hV hT0 hk3
                rcases HC.out with ⟨g0, g1⟩ | g0
                · go_wp2
                  exact ⟨⟨k, hk1, hk2, by rw [← HK3.out], HI'.out⟩, by have := HK3.out; simp [intOf]; omega⟩
                · go_wp2
                  exact ⟨⟨k, hk1, hk2, by rw [← HK3.out], HI'.out⟩, by have := HK3.out; simp [intOf]; omega⟩
        · have hLf := HLf.out
          rw [if_neg hV] at hLf
          have eV : (V != 0) = true := by rw [bne_iff_ne]; exact hV
          have hOne := HOne.out
          rw [if_pos hLf] at hOne
          clear HLf HOne hLf
          cases mu with
          | true =>
            have HE := hid (show Q = 40 from by rw [OUT.out (by rw [hOne]; simp), hOne]; rfl)
            clear ON OUT hOne hV
            go_wp2
            go_ret
            exact ⟨by rw [HE.out]; rfl, HK4.out⟩
          | false =>
            obtain ⟨k, hk1, hk2, hk3, HI'⟩ := ON.out (by rw [hOne]; rfl)
            have HK3 := hid hk3
            clear ON OUT hOne hV hk3
            go_wp2
            exact ⟨⟨k, hk1, hk2, by rw [← HK3.out], HI'.out⟩, by have := HK3.out; simp [intOf]; omega⟩
      · obtain rfl : j = l.length := by omega
        have hltz : ¬ (l.length : Int) < (l.length : Int) := by omega
        have hT := HI.out.1
        rw [List.drop_length] at hT
        have HQ2 := hid (show Q = if needB l (needsF K) = true then 0 else 40 by have hq := HQ.out; simp only [if_true] at hq; rw [hq, if_pos (show checkRest (l.drop 1) = 0 from hT.symm)])
        have hkl := needsF_le K
        have HK3 := hid HI.out.2.1
        have HB3 := hid HI.out.2.2
        clear hT HI hlt hj HQ HB1 HK1 Hat HLe
        generalize needsF K = ks at *
        go_wp2_with fail
        refine (HNe.out _).mono ?_
        rintro e w4 ⟨v4, rfl, ho4, hk4⟩
        have HK4 := hid (HK3.out.trans hk4)
        have HB4 := hid (HB3.out.kept hk4)
        have HO4 := hid (OwnN.z ho4)
        obtain ⟨p4, c4, rfl⟩ := slice_of ho4
        clear ho4 hk4 HNe HK3 HB3 b0 b1 b2 b3 b4
        go_wp2
        go_loopw [8] (fun vi wx => ∃ (i : Nat), i ≤ ks.length ∧ vi = .int .i64 (i : Int) ∧ Hid (needB l (ks.take i) = true ∧ Kept (fun _ => False) w4 wx)) (fun vi _ => ks.length - (intOf vi).toNat)
        case atStart => exact ⟨0, Nat.zero_le _, rfl, rfl, Kept.refl _ _⟩
        case round =>
          obtain ⟨i, hi, rfl, HI⟩ := hrel
          by_cases hlt : i < ks.length
          · have hltz : (i : Int) < (ks.length : Int) := by omega
            obtain ⟨k, hk⟩ : ∃ k, ks[i]? = some k := ⟨ks[i], by simp [hlt]⟩
            obtain ⟨g4, hp4, hn4, hb4, hc4, hm4, hcell, hf4⟩ := OwnG.at (HO4.out.kept0 HI.out.2) encN hk
            clear hn4 hb4 hm4 hf4
            subst hp4
            have k00 := hcell 0 _ rfl
            rw [Nat.mul_one, Nat.add_zero] at k00
            have k0 : ∀ U, Kept (fun _ => False) wr U → U.cell? ⟨g4, i, none⟩ = some (.int .i64 k) := fun U hu => (hu.cell (lt_of_cell k00) id).trans k00
            have s4 : ∀ U, Kept (fun _ => False) wr U → U.cell? ⟨w.heap.size, 4, none⟩ = some (.slice p l.length cap) := fun U hu => ((HB4.out.kept (HI.out.2.trans hu)).cells).2.2.2.2
            have HF := hid (fun U (hu : Kept (fun _ => False) wr U) => HFi.out k U (HK4.out.trans (HI.out.2.trans hu)))
            have HYes := hid (fun h => needB_on hk h HI.out.1)
            have HNo := hid (fun h => needB_no (l := l) hk h)
            have HK5 := hid HI.out.2
            clear HI hk hcell k00
            generalize findAB l k = FB at HF
            cases hfk : (findA l k).isSome with
            | true =>
              rw [hfk] at HF
              have HT := hid (HYes.out hfk)
              clear hfk HYes HNo
              go_wp2
              refine wp_region_held_drew (S := Kept (fun _ => False) wr) (by kernel_rfl) ((Kept.refl _ wr).drew) (fun hSd => ?_)
              refine wpAnyH_take (i := 0) (v := ?_) rfl (by kernel_rfl) (by kernel_rfl) (by kernel_rfl) (fun _ _ _ h => h) (Or.inl ⟨by kernel_rfl, fun W hSW => by go_simp; try with_reducible rfl⟩) (by assumption) ?_
              try simp only [List.getElem_toArray]
              try simp only [List.getElem_cons_succ]
              try simp only [List.getElem_cons_zero]
              try simp only [Act.put]
              try simp only [List.setIfInBounds_toArray]
              try simp only [List.set_cons_succ]
              try simp only [List.set_cons_zero]
              refine wpAnyH_take (i := 1) (v := ?_) rfl (by kernel_rfl) (by kernel_rfl) (by kernel_rfl) (fun _ _ _ h => h) (Or.inl ⟨by kernel_rfl, fun W hSW => by go_simp; try with_reducible rfl⟩) (by assumption) ?_
              try simp only [List.getElem_toArray]
              try simp only [List.getElem_cons_succ]
              try simp only [List.getElem_cons_zero]
              try simp only [Act.put]
              try simp only [List.setIfInBounds_toArray]
              try simp only [List.set_cons_succ]
              try simp only [List.set_cons_zero]
              refine wpAnyH_take (i := 2) (v := ?_) rfl (by kernel_rfl) (by kernel_rfl) (by kernel_rfl) (fun _ _ _ h => h) (Or.inl ⟨by kernel_rfl, fun W hSW => by go_simp; try with_reducible rfl⟩) (by assumption) ?_
              try simp only [List.getElem_toArray]
              try simp only [List.getElem_cons_succ]
              try simp only [List.getElem_cons_zero]
              try simp only [Act.put]
              try simp only [List.setIfInBounds_toArray]
              try simp only [List.set_cons_succ]
              try simp only [List.set_cons_zero]
              refine wpAnyH_take (i := 3) (v := ?_) rfl (by kernel_rfl) (by kernel_rfl) (by kernel_rfl) (fun _ _ _ h => h) (Or.inl ⟨by kernel_rfl, fun W hSW => by go_simp; try with_reducible rfl⟩) (by assumption) ?_
              try simp only [List.getElem_toArray]
              try simp only [List.getElem_cons_succ]
              try simp only [List.getElem_cons_zero]
              try simp only [Act.put]
              try simp only [List.setIfInBounds_toArray]
              try simp only [List.set_cons_succ]
              try simp only [List.set_cons_zero]
              refine wpAnyH_take (i := 4) (v := ?_) rfl (by kernel_rfl) (by kernel_rfl) (by kernel_rfl) (fun _ _ _ h => h) (Or.inl ⟨by kernel_rfl, fun W hSW => by go_simp; try with_reducible rfl⟩) (by assumption) ?_
              try simp only [List.getElem_toArray]
              try simp only [List.getElem_cons_succ]
              try simp only [List.getElem_cons_zero]
              try simp only [Act.put]
              try simp only [List.setIfInBounds_toArray]
              try simp only [List.set_cons_succ]
              try simp only [List.set_cons_zero]
              refine wpAnyH_take (i := 5) (v := ?_) rfl (by kernel_rfl) (by kernel_rfl) (by kernel_rfl) (fun _ _ _ h => h) (Or.inl ⟨by kernel_rfl, fun W hSW => by go_simp; try with_reducible rfl⟩) (by assumption) ?_
              try simp only [List.getElem_toArray]
              try simp only [List.getElem_cons_succ]
              try simp only [List.getElem_cons_zero]
              try simp only [Act.put]
              try simp only [List.setIfInBounds_toArray]
              try simp only [List.set_cons_succ]
              try simp only [List.set_cons_zero]
              refine wpAnyH_ready (rs := [6]) (by kernel_rfl) (by simp) ?_
              refine AllReadyH.cons rfl (fun K hK => ?_) AllReadyH.nil
              go_simp
              refine (HF.out _ hSd).mono ?_
              rintro e w6 ⟨rfl, hk6⟩
              have hS6 : Kept (fun _ => False) wr w6 := hSd.trans hk6
              clear hk6
              refine hK.out _ _ (hS6) (fun _ => ?_)
              clear hK K
              try simp only [List.getElem_toArray]
              try simp only [List.getElem_cons_succ]
              try simp only [List.getElem_cons_zero]
              try simp only [Act.put]
              try simp only [List.setIfInBounds_toArray]
              try simp only [List.set_cons_succ]
              try simp only [List.set_cons_zero]
              refine wpAnyH_take (i := 7) (v := ?_) rfl (by kernel_rfl) (by kernel_rfl) (by kernel_rfl) (fun _ _ _ h => h) (Or.inl ⟨by kernel_rfl, fun W hSW => by go_simp; try with_reducible rfl⟩) (by assumption) ?_
              try simp only [List.getElem_toArray]
              try simp only [List.getElem_cons_succ]
              try simp only [List.getElem_cons_zero]
              try simp only [Act.put]
              try simp only [List.setIfInBounds_toArray]
              try simp only [List.set_cons_succ]
              try simp only [List.set_cons_zero]
              refine wpAnyH_take (i := 8) (v := ?_) rfl (by kernel_rfl) (by kernel_rfl) (by kernel_rfl) (fun _ _ _ h => h) (Or.inl ⟨by kernel_rfl, fun W hSW => by go_simp; try with_reducible rfl⟩) (by assumption) ?_
              try simp only [List.getElem_toArray]
              try simp only [List.getElem_cons_succ]
              try simp only [List.getElem_cons_zero]
              try simp only [Act.put]
              try simp only [List.setIfInBounds_toArray]
              try simp only [List.set_cons_succ]
              try simp only [List.set_cons_zero]
              refine wpAnyH_take (i := 9) (v := ?_) rfl (by kernel_rfl) (by kernel_rfl) (by kernel_rfl) (fun _ _ _ h => h) (Or.inl ⟨by kernel_rfl, fun W hSW => by go_simp; try with_reducible rfl⟩) (by assumption) ?_
              try simp only [List.getElem_toArray]
              try simp only [List.getElem_cons_succ]
              try simp only [List.getElem_cons_zero]
              try simp only [Act.put]
              try simp only [List.setIfInBounds_toArray]
              try simp only [List.set_cons_succ]
              try simp only [List.set_cons_zero]
              refine wpAnyH_take (i := 10) (v := ?_) rfl (by kernel_rfl) (by kernel_rfl) (by kernel_rfl) (fun _ _ _ h => h) (Or.inl ⟨by kernel_rfl, fun W hSW => by go_simp; try with_reducible rfl⟩) (by assumption) ?_
              try simp only [List.getElem_toArray]
              try simp only [List.getElem_cons_succ]
              try simp only [List.getElem_cons_zero]
              try simp only [Act.put]
              try simp only [List.setIfInBounds_toArray]
              try simp only [List.set_cons_succ]
              try simp only [List.set_cons_zero]
              refine wpAnyH_take (i := 11) (v := ?_) rfl (by kernel_rfl) (by kernel_rfl) (by kernel_rfl) (fun _ _ _ h => h) (Or.inl ⟨by kernel_rfl, fun W hSW => by go_simp; try with_reducible rfl⟩) (by assumption) ?_
              try simp only [List.getElem_toArray]
              try simp only [List.getElem_cons_succ]
              try simp only [List.getElem_cons_zero]
              try simp only [Act.put]
              try simp only [List.setIfInBounds_toArray]
              try simp only [List.set_cons_succ]
              try simp only [List.set_cons_zero]
              refine wpAnyH_done (by kernel_rfl) ?_ _
              have HK6 := hid (HK5.out.trans hS6)
              clear hS6 k0 s4 hSd
              go_wp2
              exact ⟨⟨i + 1, hlt, by go_num, HT.out, HK6.out⟩, by simp [intOf]; omega⟩
            | false =>
              rw [hfk] at HF
              have HT := hid (show Q = 40 by rw [HQ2.out, HNo.out hfk]; rfl)
              clear hfk HYes HNo
              go_wp2
              refine wp_region_held_drew (S := Kept (fun _ => False) wr) (by kernel_rfl) ((Kept.refl _ wr).drew) (fun hSd => ?_)
              refine wpAnyH_take (i := 0) (v := ?_) rfl (by kernel_rfl) (by kernel_rfl) (by kernel_rfl) (fun _ _ _ h => h) (Or.inl ⟨by kernel_rfl, fun W hSW => by go_simp; try with_reducible rfl⟩) (by assumption) ?_
              try simp only [List.getElem_toArray]
              try simp only [List.getElem_cons_succ]
              try simp only [List.getElem_cons_zero]
              try simp only [Act.put]
              try simp only [List.setIfInBounds_toArray]
              try simp only [List.set_cons_succ]
              try simp only [List.set_cons_zero]
              refine wpAnyH_take (i := 1) (v := ?_) rfl (by kernel_rfl) (by kernel_rfl) (by kernel_rfl) (fun _ _ _ h => h) (Or.inl ⟨by kernel_rfl, fun W hSW => by go_simp; try with_reducible rfl⟩) (by assumption) ?_
              try simp only [List.getElem_toArray]
              try simp only [List.getElem_cons_succ]
              try simp only [List.getElem_cons_zero]
              try simp only [Act.put]
              try simp only [List.setIfInBounds_toArray]
              try simp only [List.set_cons_succ]
              try simp only [List.set_cons_zero]
              refine wpAnyH_take (i := 2) (v := ?_) rfl (by kernel_rfl) (by kernel_rfl) (by kernel_rfl) (fun _ _ _ h => h) (Or.inl ⟨by kernel_rfl, fun W hSW => by go_simp; try with_reducible rfl⟩) (by assumption) ?_
              try simp only [List.getElem_toArray]
              try simp only [List.getElem_cons_succ]
              try simp only [List.getElem_cons_zero]
              try simp only [Act.put]
              try simp only [List.setIfInBounds_toArray]
              try simp only [List.set_cons_succ]
              try simp only [List.set_cons_zero]
              refine wpAnyH_take (i := 3) (v := ?_) rfl (by kernel_rfl) (by kernel_rfl) (by kernel_rfl) (fun _ _ _ h => h) (Or.inl ⟨by kernel_rfl, fun W hSW => by go_simp; try with_reducible rfl⟩) (by assumption) ?_
              try simp only [List.getElem_toArray]
              try simp only [List.getElem_cons_succ]
              try simp only [List.getElem_cons_zero]
              try simp only [Act.put]
              try simp only [List.setIfInBounds_toArray]
              try simp only [List.set_cons_succ]
              try simp only [List.set_cons_zero]
              refine wpAnyH_take (i := 4) (v := ?_) rfl (by kernel_rfl) (by kernel_rfl) (by kernel_rfl) (fun _ _ _ h => h) (Or.inl ⟨by kernel_rfl, fun W hSW => by go_simp; try with_reducible rfl⟩) (by assumption) ?_
              try simp only [List.getElem_toArray]
              try simp only [List.getElem_cons_succ]
              try simp only [List.getElem_cons_zero]
              try simp only [Act.put]
              try simp only [List.setIfInBounds_toArray]
              try simp only [List.set_cons_succ]
              try simp only [List.set_cons_zero]
              refine wpAnyH_take (i := 5) (v := ?_) rfl (by kernel_rfl) (by kernel_rfl) (by kernel_rfl) (fun _ _ _ h => h) (Or.inl ⟨by kernel_rfl, fun W hSW => by go_simp; try with_reducible rfl⟩) (by assumption) ?_
              try simp only [List.getElem_toArray]
              try simp only [List.getElem_cons_succ]
              try simp only [List.getElem_cons_zero]
              try simp only [Act.put]
              try simp only [List.setIfInBounds_toArray]
              try simp only [List.set_cons_succ]
              try simp only [List.set_cons_zero]
              refine wpAnyH_ready (rs := [6]) (by kernel_rfl) (by simp) ?_
              refine AllReadyH.cons rfl (fun K hK => ?_) AllReadyH.nil
              go_simp
              refine (HF.out _ hSd).mono ?_
              rintro e w6 ⟨rfl, hk6⟩
              have hS6 : Kept (fun _ => False) wr w6 := hSd.trans hk6
              clear hk6
              refine hK.out _ _ (hS6) (fun _ => ?_)
              clear hK K
              try simp only [List.getElem_toArray]
              try simp only [List.getElem_cons_succ]
              try simp only [List.getElem_cons_zero]
              try simp only [Act.put]
              try simp only [List.setIfInBounds_toArray]
              try simp only [List.set_cons_succ]
              try simp only [List.set_cons_zero]
              refine wpAnyH_take (i := 7) (v := ?_) rfl (by kernel_rfl) (by kernel_rfl) (by kernel_rfl) (fun _ _ _ h => h) (Or.inl ⟨by kernel_rfl, fun W hSW => by go_simp; try with_reducible rfl⟩) (by assumption) ?_
              try simp only [List.getElem_toArray]
              try simp only [List.getElem_cons_succ]
              try simp only [List.getElem_cons_zero]
              try simp only [Act.put]
              try simp only [List.setIfInBounds_toArray]
              try simp only [List.set_cons_succ]
              try simp only [List.set_cons_zero]
              refine wpAnyH_take (i := 8) (v := ?_) rfl (by kernel_rfl) (by kernel_rfl) (by kernel_rfl) (fun _ _ _ h => h) (Or.inl ⟨by kernel_rfl, fun W hSW => by go_simp; try with_reducible rfl⟩) (by assumption) ?_
              try simp only [List.getElem_toArray]
              try simp only [List.getElem_cons_succ]
              try simp only [List.getElem_cons_zero]
              try simp only [Act.put]
              try simp only [List.setIfInBounds_toArray]
              try simp only [List.set_cons_succ]
              try simp only [List.set_cons_zero]
              refine wpAnyH_take (i := 9) (v := ?_) rfl (by kernel_rfl) (by kernel_rfl) (by kernel_rfl) (fun _ _ _ h => h) (Or.inl ⟨by kernel_rfl, fun W hSW => by go_simp; try with_reducible rfl⟩) (by assumption) ?_
              try simp only [List.getElem_toArray]
              try simp only [List.getElem_cons_succ]
              try simp only [List.getElem_cons_zero]
              try simp only [Act.put]
              try simp only [List.setIfInBounds_toArray]
              try simp only [List.set_cons_succ]
              try simp only [List.set_cons_zero]
              refine wpAnyH_take (i := 10) (v := ?_) rfl (by kernel_rfl) (by kernel_rfl) (by kernel_rfl) (fun _ _ _ h => h) (Or.inl ⟨by kernel_rfl, fun W hSW => by go_simp; try with_reducible rfl⟩) (by assumption) ?_
              try simp only [List.getElem_toArray]
              try simp only [List.getElem_cons_succ]
              try simp only [List.getElem_cons_zero]
              try simp only [Act.put]
              try simp only [List.setIfInBounds_toArray]
              try simp only [List.set_cons_succ]
              try simp only [List.set_cons_zero]
              refine wpAnyH_take (i := 11) (v := ?_) rfl (by kernel_rfl) (by kernel_rfl) (by kernel_rfl) (fun _ _ _ h => h) (Or.inl ⟨by kernel_rfl, fun W hSW => by go_simp; try with_reducible rfl⟩) (by assumption) ?_
              try simp only [List.getElem_toArray]
              try simp only [List.getElem_cons_succ]
              try simp only [List.getElem_cons_zero]
              try simp only [Act.put]
              try simp only [List.setIfInBounds_toArray]
              try simp only [List.set_cons_succ]
              try simp only [List.set_cons_zero]
              refine wpAnyH_done (by kernel_rfl) ?_ _
              have HK6 := hid (HK4.out.trans (HK5.out.trans hS6))
              clear hS6 k0 s4 hSd
              go_wp2
              go_ret
              exact ⟨by rw [HT.out]; rfl, HK6.out⟩
          · obtain rfl : i = ks.length := by omega
            have hltz : ¬ (ks.length : Int) < (ks.length : Int) := by omega
            have hT := HI.out.1
            rw [List.take_length] at hT
            have HT := hid (show Q = 0 by rw [HQ2.out, if_pos hT])
            have HK6 := hid (HK4.out.trans HI.out.2)
            clear hT HI hlt hi
            go_wp2
            go_ret
            exact ⟨by rw [HT.out]; rfl, HK6.out⟩
end Go.Proofs.YtkneogfeokckjaaGreatDoor

namespace Go.Proofs.YtkneogfeokckjaaGreatDoor
open Go.RowKit


set_option maxHeartbeats 2000000 in
set_option maxRecDepth 100000 in
theorem rMake_any (k : Int) (u : Value) (l : List Av) (w : World) (hv : AvsAt w u l) (hl : l.length ≤ 900000) :
    Calls Tryz.prog 21 #[.int .i64 k, u] w fun e w' => ∃ v, e = .returned v ∧ OwnAv w' w.heap.size v (headK k :: l) ∧ Kept (fun _ => False) w w' := by
  obtain ⟨p, c, rfl⟩ := RowsAt.slice hv
  have HN := hid (fun W => rNum_any 0 k 2 ⟨by decide, by decide⟩ W)
  unfold avV at HN
  have HV := hid hv
  have HA : Hid (∀ w1, Kept (fun _ => False) w w1 → ∃ v' w', AppG Tryz.prog 22 (w1.alloc (.cells #[.bool true, .bool false, .int .i64 0, .int .i64 0, .string (numV k 2)] 72)) (.slice (some ⟨w1.heap.size, 0, none⟩) 1 1) (.slice p l.length c) v' w' ∧ OwnAv w' w.heap.size v' (headK k :: l) ∧ Kept (fun _ => False) w w') := fun w1 hk => by
    have K2 := hk.alloc (.cells #[.bool true, .bool false, .int .i64 0, .int .i64 0, .string (numV k 2)] 72)
    have O1 : OwnAv (w1.alloc (.cells #[.bool true, .bool false, .int .i64 0, .int .i64 0, .string (numV k 2)] 72)) w.heap.size (.slice (some ⟨w1.heap.size, 0, none⟩) 1 1) [headK k] := own_one_av w1 (headK k) w.heap.size hk.size
    have V2 := RowsAt.kept0 HV.out K2
    obtain ⟨v', w', h1, h2, h3⟩ := OwnG.appendList tyAv encAv O1 K2.size p c l (fun hne => AvsAt.src V2 hne) (by simp; omega)
    refine ⟨v', w', h1, h2, K2.andThen h3 (fun i hi h => ?_)⟩
    have : w1.heap.size = i := by simpa [Value.ownBlock] using h
    have := hk.size
    omega
  clear hv
  generalize numV k 2 = X at *
  go_enter Tryz.func21, Tryz.ntmps21
  go_wp2_with fail
  refine (HN.out _).mono ?_
  rintro e w1 ⟨rfl, hk⟩
  obtain ⟨v', w', happ, ho, hk'⟩ := HA.out w1 hk
  have Happ := hid happ
  have HO := hid ho
  have HK := hid hk'
  clear hk happ ho hk'
  go_wp2_with (at_builtin; refine Lib.wpList_append_run _ rfl _ _ _ _ rfl _ _ rfl rfl _ _ (Happ.out _) ?_)
  go_ret
  exact ⟨_, rfl, HO.out, HK.out⟩
end Go.Proofs.YtkneogfeokckjaaGreatDoor

namespace Go.Proofs.YtkneogfeokckjaaGreatDoor
open Go.RowKit

/-- What the parts are laid together to. -/
theorem laid_eq (m q : Bool) {n' t' : Nat} (V X : ByteArray) (F : Nat) (hF : F = (if m then 32768 else 0) + (if q then 16384 else 0)) : laidA ⟨m, q, (n' : Int), (t' : Int), V⟩ X = two (F + X.size + 6) ++ (two n' ++ (two t' ++ X)) := by
  have e : shareN m q (6 + X.size) = F + X.size + 6 := by
    rw [hF]
    unfold shareN
    omega
  unfold laidA headF
  simp only [e, Int.toNat_natCast]
  rw [app_assoc, app_assoc]
/-- How far the document's loop has come. -/
structure RPut (w : World) (l : List Av) (s : ByteArray) (R : ByteArray × Int) (j : Nat) (acc : ByteArray) (c : Cov) (W : World) : Prop where
  of : CovOf l s c
  on : putOn acc (l.drop j) c = R
  size : acc.size ≤ 1008 * j
  kept : Kept (fun _ => False) w W
theorem names_no {n t : Int} (h : (wordB n && wordB t) = false) : n < 0 ∨ (¬ n < 0 ∧ 65535 < n) ∨ (¬ n < 0 ∧ ¬ 65535 < n ∧ t < 0) ∨ (¬ n < 0 ∧ ¬ 65535 < n ∧ ¬ t < 0 ∧ 65535 < t) := by
  by_cases h1 : n < 0
  · exact Or.inl h1
  by_cases h2 : 65535 < n
  · exact Or.inr (Or.inl ⟨h1, h2⟩)
  by_cases h3 : t < 0
  · exact Or.inr (Or.inr (Or.inl ⟨h1, h2, h3⟩))
  by_cases h4 : 65535 < t
  · exact Or.inr (Or.inr (Or.inr ⟨h1, h2, h3, h4⟩))
  rw [show wordB n = true by simp [wordB]; omega, show wordB t = true by simp [wordB]; omega] at h
  cases h

set_option maxHeartbeats 400000 in
set_option maxRecDepth 100000 in
theorem rPut_many (v : Value) (l : List Av) (s : ByteArray) (w : World) (hv : AvsAt w v l) (hl : 40 < l.length) :
    Calls Tryz.prog 37 #[v, .string s] w fun e w' => e = .returned (.tuple #[.string (putAF l s).1, .int .i64 (putAF l s).2]) ∧ Kept (fun _ => False) w w' := by
  obtain ⟨p, cap, rfl⟩ := RowsAt.slice hv
  have hlz : (40 : Int) < (l.length : Int) := by omega
  have e : putAF l s = (⟨#[]⟩, 2) := by unfold putAF; rw [if_pos hl]
  rw [e]
  clear hv hl e
  go_enter Tryz.func37, Tryz.ntmps37
  go_wp2
  go_ret2
  exact ⟨rfl, Kept.refl _ _⟩

set_option maxHeartbeats 16000000 in
set_option maxRecDepth 100000 in
theorem rPut_few (hM : RefMaskAt) (v : Value) (l : List Av) (s : ByteArray) (w : World) (hv : AvsAt w v l) (hl : l.length ≤ 40) (hs : s.size ≤ 1000000) (hsz : ∀ x ∈ l, x.value.size ≤ 140737488351232) :
    Calls Tryz.prog 37 #[v, .string s] w fun e w' => e = .returned (.tuple #[.string (putAF l s).1, .int .i64 (putAF l s).2]) ∧ Kept (fun _ => False) w w' := by
  obtain ⟨p, cap, rfl⟩ := RowsAt.slice hv
  have Hat : Hid (∀ (j : Nat) (x : Av), l[j]? = some x → ∀ W, Kept (fun _ => False) w W → ∃ g o, p = some ⟨g, o, none⟩ ∧ l.length ≤ cap ∧ W.cell? ⟨g, o + j * 5, none⟩ = some (.bool x.must) ∧ W.cell? ⟨g, o + j * 5 + 1, none⟩ = some (.bool x.hidden) ∧ W.cell? ⟨g, o + j * 5 + 2, none⟩ = some (.int .i64 x.vendor) ∧ W.cell? ⟨g, o + j * 5 + 3, none⟩ = some (.int .i64 x.type) ∧ W.cell? ⟨g, o + j * 5 + 4, none⟩ = some (.string x.value)) :=
    fun j x hj W hW => AvsAt.at5 (RowsAt.kept0 hv hW) hj
  have Hsz := hid hsz
  have HM := hid hM
  have hlz : (l.length : Int) ≤ 40 := by omega
  obtain ⟨R, hR⟩ : ∃ R, R = putOn ⟨#[]⟩ l (cov0 s) := ⟨_, rfl⟩
  obtain ⟨Q, hQ⟩ : ∃ Q, Q = putAF l s := ⟨_, rfl⟩
  have HQ : Hid (Q = if R.2 = 0 then (if 1488 < R.1.size then (⟨#[]⟩, 2) else (R.1, 0)) else (⟨#[]⟩, R.2)) := by
    show _ = _
    rw [hQ, hR]
    unfold putAF
    rw [if_neg (by omega)]
  rw [← hQ]
  have HI0 : Hid (RPut w l s R 0 ⟨#[]⟩ (cov0 s) w) := ⟨⟨⟨hs, Nat.zero_le _⟩, rfl, fun h => by cases h⟩, hR.symm, Nat.zero_le _, Kept.refl _ _⟩
  have hs1 : (s.size : Int) ≤ 1000000 := by omega
  clear hv hsz hM hR hQ
  go_enter Tryz.func37, Tryz.ntmps37
  go_wp2
  go_loopw [6, 7, 8, 9] (fun va vv vh vi wr => ∃ (j : Nat) (acc : ByteArray) (c : Cov), j ≤ l.length ∧ vi = .int .i64 (j : Int) ∧ va = .string acc ∧ (vv = .string c.vector ∧ vh = .bool c.has) ∧ Hid (RPut w l s R j acc c wr)) (fun _ _ _ vi _ => l.length - (intOf vi).toNat)
  case atStart => exact ⟨0, ⟨#[]⟩, cov0 s, Nat.zero_le _, rfl, rfl, ⟨rfl, rfl⟩, HI0.out⟩
  case round =>
    obtain ⟨j, acc, c, hj, rfl, rfl, ⟨rfl, rfl⟩, HI⟩ := hrel
    clear HI0
    by_cases hlt : j < l.length
    · have hltz : (j : Int) < (l.length : Int) := by omega
      obtain ⟨x, hx⟩ : ∃ x, l[j]? = some x := ⟨l[j], by simp [hlt]⟩
      have hmem := List.mem_of_getElem? hx
      obtain ⟨g, o, rfl, hcap, b0, b1, b2, b3, b4⟩ := Hat.out j x hx wr HI.out.kept
      have hVs := Hsz.out x hmem
      have hT := HI.out.on
      rw [drop_at hx] at hT
      simp only [putOn] at hT
      have hac := HI.out.size
      have HZ := hid (putOneF_size x c)
      have HOf := hid HI.out.of
      have HNx := hid (fun h => HI.out.of.pass hmem h)
      have hA := AvAt.new wr x
      have HK1 := hid (HI.out.kept.alloc (.cells #[.bool x.must, .bool x.hidden, .int .i64 x.vendor, .int .i64 x.type, .string x.value] 72))
      obtain ⟨m, q, n, t, V⟩ := x
      simp only at b0 b1 b2 b3 b4 hVs HNx HZ
      have HA := hid hA
      clear HI hx hmem hA
      go_upto_region 8 with fail
      generalize hBX : wr.heap.size = BX at *
      generalize hW1 : wr.alloc (.cells #[.bool m, .bool q, .int .i64 n, .int .i64 t, .string V] 72) = W1 at *
      clear hW1 b0 b1 b2 b3 b4
      have HKr := hid (Kept.refl (fun _ => False) W1)
      have p0 : ∀ W, Kept (fun _ => False) W1 W → W.cell? ⟨BX, 0, none⟩ = some (.bool m) := fun W h => (HA.out.kept0 h).cells.1
      have p1 : ∀ W, Kept (fun _ => False) W1 W → W.cell? ⟨BX, 1, none⟩ = some (.bool q) := fun W h => (HA.out.kept0 h).cells.2.1
      have p2 : ∀ W, Kept (fun _ => False) W1 W → W.cell? ⟨BX, 2, none⟩ = some (.int .i64 n) := fun W h => (HA.out.kept0 h).cells.2.2.1
      have p3 : ∀ W, Kept (fun _ => False) W1 W → W.cell? ⟨BX, 3, none⟩ = some (.int .i64 t) := fun W h => (HA.out.kept0 h).cells.2.2.2.1
      have p4 : ∀ W, Kept (fun _ => False) W1 W → W.cell? ⟨BX, 4, none⟩ = some (.string V) := fun W h => (HA.out.kept0 h).cells.2.2.2.2
      have a0 := p0 _ HKr.out
      have a1 := p1 _ HKr.out
      have a2 := p2 _ HKr.out
      have a3 := p3 _ HKr.out
      have a4 := p4 _ HKr.out
      have eN : namesB ⟨m, q, n, t, V⟩ = (wordB n && wordB t) := rfl
      cases hn : (wordB n && wordB t) with
      | false =>
        have e1 : putOneF ⟨m, q, n, t, V⟩ c = (⟨#[]⟩, 1) := by
          unfold putOneF
          rw [eN, hn, if_pos rfl]
        rw [e1, if_neg (by decide)] at hT
        have HP : Hid (Q = (⟨#[]⟩, 1)) := by
          show _ = _
          rw [HQ.out, ← hT, if_neg (by decide)]
        have hcs := names_no hn
        clear hT e1 hn eN p0 p1 p2 p3 p4
        rcases hcs with h1 | ⟨h1, h2⟩ | ⟨h1, h2, h3⟩ | ⟨h1, h2, h3, h4⟩
        · go_wp2
          go_ret2
          exact ⟨by rw [HP.out]; rfl, HK1.out⟩
        · go_wp2
          go_ret2
          exact ⟨by rw [HP.out]; rfl, HK1.out⟩
        · go_wp2
          go_ret2
          exact ⟨by rw [HP.out]; rfl, HK1.out⟩
        · go_wp2
          go_ret2
          exact ⟨by rw [HP.out]; rfl, HK1.out⟩
      | true =>
        simp only [Bool.and_eq_true] at hn
        obtain ⟨n', rfl, hn1⟩ := wordB_nat hn.1
        obtain ⟨t', rfl, ht1⟩ := wordB_nat hn.2
        have g1 : ¬ (n' : Int) < 0 := by omega
        have g2 : ¬ 65535 < (n' : Int) := by omega
        have g3 : ¬ (t' : Int) < 0 := by omega
        have g4 : ¬ 65535 < (t' : Int) := by omega
        have hnm : namesB ⟨m, q, (n' : Int), (t' : Int), V⟩ = true := by rw [eN, hn.1, hn.2]; rfl
        clear hn eN
        by_cases hV : 1000 < V.size
        · have hVz : (1000 : Int) < (V.size : Int) := by omega
          have e1 : putOneF ⟨m, q, (n' : Int), (t' : Int), V⟩ c = (⟨#[]⟩, 2) := by
            unfold putOneF
            rw [hnm, if_neg (by decide), if_pos hV]
          rw [e1, if_neg (by decide)] at hT
          have HP : Hid (Q = (⟨#[]⟩, 2)) := by
            show _ = _
            rw [HQ.out, ← hT, if_neg (by decide)]
          clear hT e1 hnm p0 p1 p2 p3 p4 hV
          go_wp2
          go_ret2
          exact ⟨by rw [HP.out]; rfl, HK1.out⟩
        · have hVz : ¬ (1000 : Int) < (V.size : Int) := by omega
          have HNx' := hid (HNx.out (by show V.size ≤ 1000000; omega))
          clear HNx
          obtain ⟨F0, hF0⟩ : ∃ F0 : Nat, F0 = if m then 32768 else 0 := ⟨_, rfl⟩
          have hF0m : F0 ≤ 32768 := by rw [hF0]; split <;> omega
          have HF0 := hid hF0
          have hcm : (m = true ∧ F0 = 32768) ∨ (m = false ∧ F0 = 0) := by cases m <;> simp_all
          clear hF0
          go_upto_if 51 with fail
          go_cut [12] from 52 to 53 (fun vf wx => vf = .int .i64 (F0 : Int) ∧ wx = W1)
          case first =>
            rcases hcm with ⟨hm, hF⟩ | ⟨hm, hF⟩
            · subst hm hF
              go_wp2
              go_meet
              exact ⟨rfl, by first | rfl | trivial⟩
            · subst hm hF
              go_wp2
              go_meet
              exact ⟨rfl, by first | rfl | trivial⟩
          case rest =>
            obtain ⟨rfl, hwx⟩ := hcut
            rw [hwx]
            clear hwx hcm
            cases q with
            | false =>
              have e1 : putOneF ⟨m, false, (n' : Int), (t' : Int), V⟩ c = (laidA ⟨m, false, (n' : Int), (t' : Int), V⟩ V, 0) := by
                unfold putOneF
                rw [hnm, if_neg (by decide), if_neg hV, if_neg (by simp)]
              rw [e1, if_pos rfl] at hT
              have HT := hid hT
              have HZ' : Hid ((laidA ⟨m, false, (n' : Int), (t' : Int), V⟩ V).size ≤ 1008) := by have := HZ.out; rw [e1] at this; exact this
              have HF : Hid (F0 = (if m then 32768 else 0) + (if false then 16384 else 0)) := by show _ = _; rw [HF0.out]; rfl
              clear hT e1 hnm hV
              replace HZ := HZ'
              have HP0 : ∀ b : Bool, isVec ⟨m, false, (n' : Int), (t' : Int), V⟩ = b → passF c ⟨m, false, (n' : Int), (t' : Int), V⟩ = if b = true then { c with vector := V, has := true } else c := fun b h => by
                unfold passF
                rw [h]
              cases v1 : ((n' : Int) == 0) with
              | false =>
                have HV1 := HP0 false (by unfold isVec; simp [v1])
                rw [if_neg (by decide)] at HV1
                rw [HV1] at HT HNx'
                clear HV1 HP0
                have HT1 := hid (refTwoA (F0 + V.size + 6))
                have HT2 := hid (refTwoA n')
                have HT3 := hid (refTwoA t')
                have s1 := two_size (F0 + V.size + 6)
                have s2 := two_size n'
                have s3 := two_size t'
                have HE : Hid (((acc ++ two (F0 + V.size + 6)) ++ two n') ++ two t' ++ V = acc ++ laidA ⟨m, false, n', t', V⟩ V) := by
                  show _ = _
                  rw [laid_eq m false V V F0 HF.out, app_assoc, app_assoc, app_assoc]
                obtain ⟨T1, hT1⟩ : ∃ T1, T1 = two (F0 + V.size + 6) := ⟨_, rfl⟩
                obtain ⟨T2, hT2⟩ : ∃ T2, T2 = two n' := ⟨_, rfl⟩
                obtain ⟨T3, hT3⟩ : ∃ T3, T3 = two t' := ⟨_, rfl⟩
                rw [← hT1] at HT1 s1 HE
                rw [← hT2] at HT2 s2 HE
                rw [← hT3] at HT3 s3 HE
                clear hT1 hT2 hT3
                have o1 : ¬ (9223372036854775807 < acc.size + T1.size) := by omega
                have o2 : ¬ (9223372036854775807 < acc.size + T1.size + T2.size) := by omega
                have o3 : ¬ (9223372036854775807 < acc.size + T1.size + T2.size + T3.size) := by omega
                have o4 : ¬ (9223372036854775807 < acc.size + T1.size + T2.size + T3.size + V.size) := by omega
                have w1' : IntKind.i64.wrap ((F0 : Int) + (V.size : Int)) = (F0 : Int) + (V.size : Int) := by rw [IntKind.wrap_i64]; omega
                have w2' : IntKind.i64.wrap ((F0 : Int) + (V.size : Int) + 6) = ((F0 + V.size + 6 : Nat) : Int) := by rw [IntKind.wrap_i64]; omega
                clear s1 s2 s3
                go_upto_region 22 with fail
                refine wp_region_held_drew (S := Kept (fun _ => False) W1) (by kernel_rfl) (HKr.out.drew) (fun hSd => ?_)
                refine Tks.out (l := [(0, some none), (1, some none), (2, some none), (3, some none)]) ?_
                iterate 4
                 refine tkT (v := ?_) rfl (by kernel_rfl) (by kernel_rfl) (by kernel_rfl) (fun _ _ _ h => h) (Or.inl ⟨by kernel_rfl, fun W hSW => by go_simp; try with_reducible rfl⟩) (by assumption) ?_
                 try simp only [List.getElem_toArray, List.getElem_cons_succ, List.getElem_cons_zero]
                 try go_frame
                refine tkE ?_
                refine Tks.out (l := [(4, some (some (.int .i64 ((F0 : Int) + (V.size : Int))))), (5, some (some (.int .i64 ((F0 + V.size + 6 : Nat) : Int))))]) ?_
                iterate 2
                 refine tkV rfl (by kernel_rfl) (by kernel_rfl) (by kernel_rfl) (fun _ _ _ h => h) (Or.inl ⟨by kernel_rfl, fun W hSW => by go_simp; try with_reducible rfl⟩) (by assumption) ?_
                 try simp only [List.getElem_toArray, List.getElem_cons_succ, List.getElem_cons_zero]
                 try go_frame
                refine tkE ?_
                refine Tks.out (l := [(8, some none), (9, some none), (12, some none), (13, some none), (16, some none)]) ?_
                iterate 5
                 refine tkT (v := ?_) rfl (by kernel_rfl) (by kernel_rfl) (by kernel_rfl) (fun _ _ _ h => h) (Or.inl ⟨by kernel_rfl, fun W hSW => by go_simp; try with_reducible rfl⟩) (by assumption) ?_
                 try simp only [List.getElem_toArray, List.getElem_cons_succ, List.getElem_cons_zero]
                 try go_frame
                refine tkE ?_
                refine wpAnyH_ready (rs := [6]) (by kernel_rfl) (by simp) ?_
                refine AllReadyH.cons rfl (fun K hK => ?_) AllReadyH.nil
                go_simp
                refine (HT1.out _).mono ?_
                rintro e x1 ⟨rfl, hk⟩
                have hS1 : Kept (fun _ => False) W1 x1 := hSd.trans hk
                clear hk
                refine hK.out _ _ (hS1) (fun _ => ?_)
                clear hK K
                try simp only [List.getElem_toArray, List.getElem_cons_succ, List.getElem_cons_zero]
                try go_frame
                refine wpAnyH_take (i := 7) (v := ?_) rfl (by kernel_rfl) (by kernel_rfl) (by kernel_rfl) (fun _ _ _ h => h) (Or.inl ⟨by kernel_rfl, fun W hSW => by go_simp; try with_reducible rfl⟩) (by assumption) ?_
                try simp only [List.getElem_toArray, List.getElem_cons_succ, List.getElem_cons_zero]
                try go_frame
                refine wpAnyH_ready (rs := [10]) (by kernel_rfl) (by simp) ?_
                refine AllReadyH.cons rfl (fun K hK => ?_) AllReadyH.nil
                go_simp
                refine (HT2.out _).mono ?_
                rintro e x2 ⟨rfl, hk⟩
                have hS2 : Kept (fun _ => False) W1 x2 := hS1.trans hk
                clear hk
                refine hK.out _ _ (hS2) (fun _ => ?_)
                clear hK K
                try simp only [List.getElem_toArray, List.getElem_cons_succ, List.getElem_cons_zero]
                try go_frame
                refine wpAnyH_take (i := 11) (v := ?_) rfl (by kernel_rfl) (by kernel_rfl) (by kernel_rfl) (fun _ _ _ h => h) (Or.inl ⟨by kernel_rfl, fun W hSW => by go_simp; try with_reducible rfl⟩) (by assumption) ?_
                try simp only [List.getElem_toArray, List.getElem_cons_succ, List.getElem_cons_zero]
                try go_frame
                refine wpAnyH_ready (rs := [14]) (by kernel_rfl) (by simp) ?_
                refine AllReadyH.cons rfl (fun K hK => ?_) AllReadyH.nil
                go_simp
                refine (HT3.out _).mono ?_
                rintro e x3 ⟨rfl, hk⟩
                have hS3 : Kept (fun _ => False) W1 x3 := hS2.trans hk
                clear hk
                refine hK.out _ _ (hS3) (fun _ => ?_)
                clear hK K
                try simp only [List.getElem_toArray, List.getElem_cons_succ, List.getElem_cons_zero]
                try go_frame
                refine Tks.out (l := [(15, some none), (17, some none), (18, some none)]) ?_
                iterate 3
                 refine tkT (v := ?_) rfl (by kernel_rfl) (by kernel_rfl) (by kernel_rfl) (fun _ _ _ h => h) (Or.inl ⟨by kernel_rfl, fun W hSW => by go_simp; try with_reducible rfl⟩) (by assumption) ?_
                 try simp only [List.getElem_toArray, List.getElem_cons_succ, List.getElem_cons_zero]
                 try go_frame
                refine tkE ?_
                refine wpAnyH_done (by kernel_rfl) ?_ _
                have HKz := hid (HK1.out.trans hS3)
                have r0 := p0 _ hS3
                have r1 := p1 _ hS3
                have r2 := p2 _ hS3
                have r3 := p3 _ hS3
                have r4 := p4 _ hS3
                clear hS1 hS2 hS3 o1 o2 o3 o4 p0 p1 p2 p3 p4 w1' w2'
                go_wp2
                exact ⟨⟨j + 1, _, _, hlt, by go_num, rfl, ⟨rfl, rfl⟩, ⟨HNx'.out, by rw [HE.out]; exact HT.out, by have := HZ.out; rw [HE.out, ByteArray.size_append]; omega, HKz.out⟩⟩, by simp [intOf]; omega⟩
              | true =>
                cases v2 : ((t' : Int) == 36) with
                | false =>
                  have HV1 := HP0 false (by unfold isVec; simp [v1, v2])
                  rw [if_neg (by decide)] at HV1
                  rw [HV1] at HT HNx'
                  clear HV1 HP0
                  have HT1 := hid (refTwoA (F0 + V.size + 6))
                  have HT2 := hid (refTwoA n')
                  have HT3 := hid (refTwoA t')
                  have s1 := two_size (F0 + V.size + 6)
                  have s2 := two_size n'
                  have s3 := two_size t'
                  have HE : Hid (((acc ++ two (F0 + V.size + 6)) ++ two n') ++ two t' ++ V = acc ++ laidA ⟨m, false, n', t', V⟩ V) := by
                    show _ = _
                    rw [laid_eq m false V V F0 HF.out, app_assoc, app_assoc, app_assoc]
                  obtain ⟨T1, hT1⟩ : ∃ T1, T1 = two (F0 + V.size + 6) := ⟨_, rfl⟩
                  obtain ⟨T2, hT2⟩ : ∃ T2, T2 = two n' := ⟨_, rfl⟩
                  obtain ⟨T3, hT3⟩ : ∃ T3, T3 = two t' := ⟨_, rfl⟩
                  rw [← hT1] at HT1 s1 HE
                  rw [← hT2] at HT2 s2 HE
                  rw [← hT3] at HT3 s3 HE
                  clear hT1 hT2 hT3
                  have o1 : ¬ (9223372036854775807 < acc.size + T1.size) := by omega
                  have o2 : ¬ (9223372036854775807 < acc.size + T1.size + T2.size) := by omega
                  have o3 : ¬ (9223372036854775807 < acc.size + T1.size + T2.size + T3.size) := by omega
                  have o4 : ¬ (9223372036854775807 < acc.size + T1.size + T2.size + T3.size + V.size) := by omega
                  have w1' : IntKind.i64.wrap ((F0 : Int) + (V.size : Int)) = (F0 : Int) + (V.size : Int) := by rw [IntKind.wrap_i64]; omega
                  have w2' : IntKind.i64.wrap ((F0 : Int) + (V.size : Int) + 6) = ((F0 + V.size + 6 : Nat) : Int) := by rw [IntKind.wrap_i64]; omega
                  clear s1 s2 s3
                  go_upto_region 22 with fail
                  refine wp_region_held_drew (S := Kept (fun _ => False) W1) (by kernel_rfl) (HKr.out.drew) (fun hSd => ?_)
                  refine Tks.out (l := [(0, some none), (1, some none), (2, some none), (3, some none)]) ?_
                  iterate 4
                   refine tkT (v := ?_) rfl (by kernel_rfl) (by kernel_rfl) (by kernel_rfl) (fun _ _ _ h => h) (Or.inl ⟨by kernel_rfl, fun W hSW => by go_simp; try with_reducible rfl⟩) (by assumption) ?_
                   try simp only [List.getElem_toArray, List.getElem_cons_succ, List.getElem_cons_zero]
                   try go_frame
                  refine tkE ?_
                  refine Tks.out (l := [(4, some (some (.int .i64 ((F0 : Int) + (V.size : Int))))), (5, some (some (.int .i64 ((F0 + V.size + 6 : Nat) : Int))))]) ?_
                  iterate 2
                   refine tkV rfl (by kernel_rfl) (by kernel_rfl) (by kernel_rfl) (fun _ _ _ h => h) (Or.inl ⟨by kernel_rfl, fun W hSW => by go_simp; try with_reducible rfl⟩) (by assumption) ?_
                   try simp only [List.getElem_toArray, List.getElem_cons_succ, List.getElem_cons_zero]
                   try go_frame
                  refine tkE ?_
                  refine Tks.out (l := [(8, some none), (9, some none), (12, some none), (13, some none), (16, some none)]) ?_
                  iterate 5
                   refine tkT (v := ?_) rfl (by kernel_rfl) (by kernel_rfl) (by kernel_rfl) (fun _ _ _ h => h) (Or.inl ⟨by kernel_rfl, fun W hSW => by go_simp; try with_reducible rfl⟩) (by assumption) ?_
                   try simp only [List.getElem_toArray, List.getElem_cons_succ, List.getElem_cons_zero]
                   try go_frame
                  refine tkE ?_
                  refine wpAnyH_ready (rs := [6]) (by kernel_rfl) (by simp) ?_
                  refine AllReadyH.cons rfl (fun K hK => ?_) AllReadyH.nil
                  go_simp
                  refine (HT1.out _).mono ?_
                  rintro e x1 ⟨rfl, hk⟩
                  have hS1 : Kept (fun _ => False) W1 x1 := hSd.trans hk
                  clear hk
                  refine hK.out _ _ (hS1) (fun _ => ?_)
                  clear hK K
                  try simp only [List.getElem_toArray, List.getElem_cons_succ, List.getElem_cons_zero]
                  try go_frame
                  refine wpAnyH_take (i := 7) (v := ?_) rfl (by kernel_rfl) (by kernel_rfl) (by kernel_rfl) (fun _ _ _ h => h) (Or.inl ⟨by kernel_rfl, fun W hSW => by go_simp; try with_reducible rfl⟩) (by assumption) ?_
                  try simp only [List.getElem_toArray, List.getElem_cons_succ, List.getElem_cons_zero]
                  try go_frame
                  refine wpAnyH_ready (rs := [10]) (by kernel_rfl) (by simp) ?_
                  refine AllReadyH.cons rfl (fun K hK => ?_) AllReadyH.nil
                  go_simp
                  refine (HT2.out _).mono ?_
                  rintro e x2 ⟨rfl, hk⟩
                  have hS2 : Kept (fun _ => False) W1 x2 := hS1.trans hk
                  clear hk
                  refine hK.out _ _ (hS2) (fun _ => ?_)
                  clear hK K
                  try simp only [List.getElem_toArray, List.getElem_cons_succ, List.getElem_cons_zero]
                  try go_frame
                  refine wpAnyH_take (i := 11) (v := ?_) rfl (by kernel_rfl) (by kernel_rfl) (by kernel_rfl) (fun _ _ _ h => h) (Or.inl ⟨by kernel_rfl, fun W hSW => by go_simp; try with_reducible rfl⟩) (by assumption) ?_
                  try simp only [List.getElem_toArray, List.getElem_cons_succ, List.getElem_cons_zero]
                  try go_frame
                  refine wpAnyH_ready (rs := [14]) (by kernel_rfl) (by simp) ?_
                  refine AllReadyH.cons rfl (fun K hK => ?_) AllReadyH.nil
                  go_simp
                  refine (HT3.out _).mono ?_
                  rintro e x3 ⟨rfl, hk⟩
                  have hS3 : Kept (fun _ => False) W1 x3 := hS2.trans hk
                  clear hk
                  refine hK.out _ _ (hS3) (fun _ => ?_)
                  clear hK K
                  try simp only [List.getElem_toArray, List.getElem_cons_succ, List.getElem_cons_zero]
                  try go_frame
                  refine Tks.out (l := [(15, some none), (17, some none), (18, some none)]) ?_
                  iterate 3
                   refine tkT (v := ?_) rfl (by kernel_rfl) (by kernel_rfl) (by kernel_rfl) (fun _ _ _ h => h) (Or.inl ⟨by kernel_rfl, fun W hSW => by go_simp; try with_reducible rfl⟩) (by assumption) ?_
                   try simp only [List.getElem_toArray, List.getElem_cons_succ, List.getElem_cons_zero]
                   try go_frame
                  refine tkE ?_
                  refine wpAnyH_done (by kernel_rfl) ?_ _
                  have HKz := hid (HK1.out.trans hS3)
                  have r0 := p0 _ hS3
                  have r1 := p1 _ hS3
                  have r2 := p2 _ hS3
                  have r3 := p3 _ hS3
                  have r4 := p4 _ hS3
                  clear hS1 hS2 hS3 o1 o2 o3 o4 p0 p1 p2 p3 p4 w1' w2'
                  go_wp2
                  exact ⟨⟨j + 1, _, _, hlt, by go_num, rfl, ⟨rfl, rfl⟩, ⟨HNx'.out, by rw [HE.out]; exact HT.out, by have := HZ.out; rw [HE.out, ByteArray.size_append]; omega, HKz.out⟩⟩, by simp [intOf]; omega⟩
                | true =>
                  have HV1 := HP0 true (by unfold isVec; simp [v1, v2])
                  rw [if_pos rfl] at HV1
                  rw [HV1] at HT HNx'
                  clear HV1 HP0
                  have HT1 := hid (refTwoA (F0 + V.size + 6))
                  have HT2 := hid (refTwoA n')
                  have HT3 := hid (refTwoA t')
                  have s1 := two_size (F0 + V.size + 6)
                  have s2 := two_size n'
                  have s3 := two_size t'
                  have HE : Hid (((acc ++ two (F0 + V.size + 6)) ++ two n') ++ two t' ++ V = acc ++ laidA ⟨m, false, n', t', V⟩ V) := by
                    show _ = _
                    rw [laid_eq m false V V F0 HF.out, app_assoc, app_assoc, app_assoc]
                  obtain ⟨T1, hT1⟩ : ∃ T1, T1 = two (F0 + V.size + 6) := ⟨_, rfl⟩
                  obtain ⟨T2, hT2⟩ : ∃ T2, T2 = two n' := ⟨_, rfl⟩
                  obtain ⟨T3, hT3⟩ : ∃ T3, T3 = two t' := ⟨_, rfl⟩
                  rw [← hT1] at HT1 s1 HE
                  rw [← hT2] at HT2 s2 HE
                  rw [← hT3] at HT3 s3 HE
                  clear hT1 hT2 hT3
                  have o1 : ¬ (9223372036854775807 < acc.size + T1.size) := by omega
                  have o2 : ¬ (9223372036854775807 < acc.size + T1.size + T2.size) := by omega
                  have o3 : ¬ (9223372036854775807 < acc.size + T1.size + T2.size + T3.size) := by omega
                  have o4 : ¬ (9223372036854775807 < acc.size + T1.size + T2.size + T3.size + V.size) := by omega
                  have w1' : IntKind.i64.wrap ((F0 : Int) + (V.size : Int)) = (F0 : Int) + (V.size : Int) := by rw [IntKind.wrap_i64]; omega
                  have w2' : IntKind.i64.wrap ((F0 : Int) + (V.size : Int) + 6) = ((F0 + V.size + 6 : Nat) : Int) := by rw [IntKind.wrap_i64]; omega
                  clear s1 s2 s3
                  go_upto_region 22 with fail
                  refine wp_region_held_drew (S := Kept (fun _ => False) W1) (by kernel_rfl) (HKr.out.drew) (fun hSd => ?_)
                  refine Tks.out (l := [(0, some none), (1, some none), (2, some none), (3, some none)]) ?_
                  iterate 4
                   refine tkT (v := ?_) rfl (by kernel_rfl) (by kernel_rfl) (by kernel_rfl) (fun _ _ _ h => h) (Or.inl ⟨by kernel_rfl, fun W hSW => by go_simp; try with_reducible rfl⟩) (by assumption) ?_
                   try simp only [List.getElem_toArray, List.getElem_cons_succ, List.getElem_cons_zero]
                   try go_frame
                  refine tkE ?_
                  refine Tks.out (l := [(4, some (some (.int .i64 ((F0 : Int) + (V.size : Int))))), (5, some (some (.int .i64 ((F0 + V.size + 6 : Nat) : Int))))]) ?_
                  iterate 2
                   refine tkV rfl (by kernel_rfl) (by kernel_rfl) (by kernel_rfl) (fun _ _ _ h => h) (Or.inl ⟨by kernel_rfl, fun W hSW => by go_simp; try with_reducible rfl⟩) (by assumption) ?_
                   try simp only [List.getElem_toArray, List.getElem_cons_succ, List.getElem_cons_zero]
                   try go_frame
                  refine tkE ?_
                  refine Tks.out (l := [(8, some none), (9, some none), (12, some none), (13, some none), (16, some none)]) ?_
                  iterate 5
                   refine tkT (v := ?_) rfl (by kernel_rfl) (by kernel_rfl) (by kernel_rfl) (fun _ _ _ h => h) (Or.inl ⟨by kernel_rfl, fun W hSW => by go_simp; try with_reducible rfl⟩) (by assumption) ?_
                   try simp only [List.getElem_toArray, List.getElem_cons_succ, List.getElem_cons_zero]
                   try go_frame
                  refine tkE ?_
                  refine wpAnyH_ready (rs := [6]) (by kernel_rfl) (by simp) ?_
                  refine AllReadyH.cons rfl (fun K hK => ?_) AllReadyH.nil
                  go_simp
                  refine (HT1.out _).mono ?_
                  rintro e x1 ⟨rfl, hk⟩
                  have hS1 : Kept (fun _ => False) W1 x1 := hSd.trans hk
                  clear hk
                  refine hK.out _ _ (hS1) (fun _ => ?_)
                  clear hK K
                  try simp only [List.getElem_toArray, List.getElem_cons_succ, List.getElem_cons_zero]
                  try go_frame
                  refine wpAnyH_take (i := 7) (v := ?_) rfl (by kernel_rfl) (by kernel_rfl) (by kernel_rfl) (fun _ _ _ h => h) (Or.inl ⟨by kernel_rfl, fun W hSW => by go_simp; try with_reducible rfl⟩) (by assumption) ?_
                  try simp only [List.getElem_toArray, List.getElem_cons_succ, List.getElem_cons_zero]
                  try go_frame
                  refine wpAnyH_ready (rs := [10]) (by kernel_rfl) (by simp) ?_
                  refine AllReadyH.cons rfl (fun K hK => ?_) AllReadyH.nil
                  go_simp
                  refine (HT2.out _).mono ?_
                  rintro e x2 ⟨rfl, hk⟩
                  have hS2 : Kept (fun _ => False) W1 x2 := hS1.trans hk
                  clear hk
                  refine hK.out _ _ (hS2) (fun _ => ?_)
                  clear hK K
                  try simp only [List.getElem_toArray, List.getElem_cons_succ, List.getElem_cons_zero]
                  try go_frame
                  refine wpAnyH_take (i := 11) (v := ?_) rfl (by kernel_rfl) (by kernel_rfl) (by kernel_rfl) (fun _ _ _ h => h) (Or.inl ⟨by kernel_rfl, fun W hSW => by go_simp; try with_reducible rfl⟩) (by assumption) ?_
                  try simp only [List.getElem_toArray, List.getElem_cons_succ, List.getElem_cons_zero]
                  try go_frame
                  refine wpAnyH_ready (rs := [14]) (by kernel_rfl) (by simp) ?_
                  refine AllReadyH.cons rfl (fun K hK => ?_) AllReadyH.nil
                  go_simp
                  refine (HT3.out _).mono ?_
                  rintro e x3 ⟨rfl, hk⟩
                  have hS3 : Kept (fun _ => False) W1 x3 := hS2.trans hk
                  clear hk
                  refine hK.out _ _ (hS3) (fun _ => ?_)
                  clear hK K
                  try simp only [List.getElem_toArray, List.getElem_cons_succ, List.getElem_cons_zero]
                  try go_frame
                  refine Tks.out (l := [(15, some none), (17, some none), (18, some none)]) ?_
                  iterate 3
                   refine tkT (v := ?_) rfl (by kernel_rfl) (by kernel_rfl) (by kernel_rfl) (fun _ _ _ h => h) (Or.inl ⟨by kernel_rfl, fun W hSW => by go_simp; try with_reducible rfl⟩) (by assumption) ?_
                   try simp only [List.getElem_toArray, List.getElem_cons_succ, List.getElem_cons_zero]
                   try go_frame
                  refine tkE ?_
                  refine wpAnyH_done (by kernel_rfl) ?_ _
                  have HKz := hid (HK1.out.trans hS3)
                  have r0 := p0 _ hS3
                  have r1 := p1 _ hS3
                  have r2 := p2 _ hS3
                  have r3 := p3 _ hS3
                  have r4 := p4 _ hS3
                  clear hS1 hS2 hS3 o1 o2 o3 o4 p0 p1 p2 p3 p4 w1' w2'
                  go_wp2
                  exact ⟨⟨j + 1, _, _, hlt, by go_num, rfl, ⟨rfl, rfl⟩, ⟨HNx'.out, by rw [HE.out]; exact HT.out, by have := HZ.out; rw [HE.out, ByteArray.size_append]; omega, HKz.out⟩⟩, by simp [intOf]; omega⟩
            | true =>
              by_cases hs0 : s.size = 0
              · have e1 : lacksF c = 30 := by
                  unfold lacksF
                  rw [HOf.out.secret, if_pos hs0]
                have eH : hideF c (t' : Int) V = (⟨#[]⟩, 30) := by
                  unfold hideF
                  rw [e1, if_neg (by decide)]
                have e2 : putOneF ⟨m, true, (n' : Int), (t' : Int), V⟩ c = (⟨#[]⟩, 30) := by
                  unfold putOneF
                  rw [hnm, if_neg (by decide), if_neg hV, if_pos rfl]
                  simp only [eH]
                  rw [if_neg (by decide)]
                rw [e2, if_neg (by decide)] at hT
                have HP : Hid (Q = (⟨#[]⟩, 30)) := by
                  show _ = _
                  rw [HQ.out, ← hT, if_neg (by decide)]
                obtain rfl := str_nil s hs0
                clear hT e1 e2 eH hnm p0 p1 p2 p3 p4 hV
                go_wp2
                go_ret2
                exact ⟨by rw [HP.out]; rfl, HK1.out⟩
              · have hsne := str_full hs0
                cases hh : c.has with
                | false =>
                  have e1 : lacksF c = 40 := by
                    unfold lacksF
                    rw [HOf.out.secret, if_neg hs0, if_pos hh]
                  have eH : hideF c (t' : Int) V = (⟨#[]⟩, 40) := by
                    unfold hideF
                    rw [e1, if_neg (by decide)]
                  have e2 : putOneF ⟨m, true, (n' : Int), (t' : Int), V⟩ c = (⟨#[]⟩, 40) := by
                    unfold putOneF
                    rw [hnm, if_neg (by decide), if_neg hV, if_pos rfl]
                    simp only [eH]
                    rw [if_neg (by decide)]
                  rw [e2, if_neg (by decide)] at hT
                  have HP : Hid (Q = (⟨#[]⟩, 40)) := by
                    show _ = _
                    rw [HQ.out, ← hT, if_neg (by decide)]
                  clear hT e1 e2 eH hnm p0 p1 p2 p3 p4 hV
                  go_wp2
                  go_ret2
                  exact ⟨by rw [HP.out]; rfl, HK1.out⟩
                | true =>
                  have e0 : lacksF c = 0 := by
                    unfold lacksF
                    rw [HOf.out.secret, if_neg hs0, hh, if_neg (by decide)]
                  have eH : hideF c (t' : Int) V = (maskA false (t' : Int) s c.vector (two V.size ++ V), 0) := by
                    unfold hideF
                    rw [if_pos e0, HOf.out.secret]
                  have e1 : putOneF ⟨m, true, (n' : Int), (t' : Int), V⟩ c = (laidA ⟨m, true, (n' : Int), (t' : Int), V⟩ (maskA false (t' : Int) s c.vector (two V.size ++ V)), 0) := by
                    unfold putOneF
                    rw [hnm, if_neg (by decide), if_neg hV, if_pos rfl]
                    simp only [eH, if_true]
                  rw [e1, if_pos rfl] at hT
                  have HT := hid hT
                  have HZ' : Hid ((laidA ⟨m, true, (n' : Int), (t' : Int), V⟩ (maskA false (t' : Int) s c.vector (two V.size ++ V))).size ≤ 1008) := by have := HZ.out; rw [e1] at this; exact this
                  obtain ⟨F1, hF1⟩ : ∃ F1 : Nat, F1 = F0 + 16384 := ⟨_, rfl⟩
                  have HF : Hid (F1 = (if m then 32768 else 0) + (if true then 16384 else 0)) := by show _ = _; rw [hF1, HF0.out]; rfl
                  have hF1m : F1 ≤ 49152 := by omega
                  have sV := two_size V.size
                  have hXs : (maskA false (t' : Int) s c.vector (two V.size ++ V)).size = 2 + V.size := by rw [maskA_size, ByteArray.size_append, sV]
                  have HMM := hid (HM.out (t' : Int) s c.vector (two V.size ++ V) hs HOf.out.few.vector (by rw [ByteArray.size_append]; omega))
                  have HTV := hid (refTwoA V.size)
                  obtain ⟨X, hX⟩ : ∃ X, X = maskA false (t' : Int) s c.vector (two V.size ++ V) := ⟨_, rfl⟩
                  rw [← hX] at HT HZ' hXs HMM
                  obtain ⟨TV, hTV⟩ : ∃ TV, TV = two V.size := ⟨_, rfl⟩
                  rw [← hTV] at HMM HTV sV
                  have oV : ¬ (9223372036854775807 < TV.size + V.size) := by omega
                  clear hT e1 hnm hV hX hTV e0 eH sV
                  replace HZ := HZ'
                  have hX2 : X.size ≤ 1002 := by omega
                  clear hXs
                  go_upto_region 21 with fail
                  refine wp_region_held_drew (S := Kept (fun _ => False) W1) (by kernel_rfl) (HKr.out.drew) (fun hSd => ?_)
                  refine Tks.out (l := [(0, some none), (1, some none), (2, some none), (3, some none), (4, some none), (5, some none), (7, some none)]) ?_
                  iterate 7
                   refine tkT (v := ?_) rfl (by kernel_rfl) (by kernel_rfl) (by kernel_rfl) (fun _ _ _ h => h) (Or.inl ⟨by kernel_rfl, fun W hSW => by go_simp; try with_reducible rfl⟩) (by assumption) ?_
                   try simp only [List.getElem_toArray, List.getElem_cons_succ, List.getElem_cons_zero]
                   try go_frame
                  refine tkE ?_
                  refine wpAnyH_ready (rs := [6]) (by kernel_rfl) (by simp) ?_
                  refine AllReadyH.cons rfl (fun K hK => ?_) AllReadyH.nil
                  go_simp
                  refine (HTV.out _).mono ?_
                  rintro e y1 ⟨rfl, hk⟩
                  have hT1 : Kept (fun _ => False) W1 y1 := hSd.trans hk
                  clear hk
                  refine hK.out _ _ (hT1) (fun _ => ?_)
                  clear hK K
                  try simp only [List.getElem_toArray, List.getElem_cons_succ, List.getElem_cons_zero]
                  try go_frame
                  refine wpAnyH_take (i := 8) (v := ?_) rfl (by kernel_rfl) (by kernel_rfl) (by kernel_rfl) (fun _ _ _ h => h) (Or.inl ⟨by kernel_rfl, fun W hSW => by go_simp; try with_reducible rfl⟩) (by assumption) ?_
                  try simp only [List.getElem_toArray, List.getElem_cons_succ, List.getElem_cons_zero]
                  try go_frame
                  refine wpAnyH_ready (rs := [9]) (by kernel_rfl) (by simp) ?_
                  refine AllReadyH.cons rfl (fun K hK => ?_) AllReadyH.nil
                  go_simp
                  refine (HMM.out _).mono ?_
                  rintro e y2 ⟨rfl, hk⟩
                  have hT2 : Kept (fun _ => False) W1 y2 := hT1.trans hk
                  clear hk
                  refine hK.out _ _ (hT2) (fun _ => ?_)
                  clear hK K
                  try simp only [List.getElem_toArray, List.getElem_cons_succ, List.getElem_cons_zero]
                  try go_frame
                  refine wpAnyH_take (i := 10) (v := ?_) rfl (by kernel_rfl) (by kernel_rfl) (by kernel_rfl) (fun _ _ _ h => h) (Or.inl ⟨by kernel_rfl, fun W hSW => by go_simp; try with_reducible rfl⟩) (by assumption) ?_
                  try simp only [List.getElem_toArray, List.getElem_cons_succ, List.getElem_cons_zero]
                  try go_frame
                  refine wpAnyH_done (by kernel_rfl) ?_ _
                  have HK2 := hid (HK1.out.trans hT2)
                  have HA2 := hid (HA.out.kept0 hT2)
                  clear hT1 hT2 p0 p1 p2 p3 p4 a0 a1 a2 a3 a4 HKr HK1 HA oV
                  generalize y2 = W1' at *
                  have HKr := hid (Kept.refl (fun _ => False) W1')
                  have p0 : ∀ W, Kept (fun _ => False) W1' W → W.cell? ⟨BX, 0, none⟩ = some (.bool m) := fun W h => (HA2.out.kept0 h).cells.1
                  have p1 : ∀ W, Kept (fun _ => False) W1' W → W.cell? ⟨BX, 1, none⟩ = some (.bool true) := fun W h => (HA2.out.kept0 h).cells.2.1
                  have p2 : ∀ W, Kept (fun _ => False) W1' W → W.cell? ⟨BX, 2, none⟩ = some (.int .i64 (n' : Int)) := fun W h => (HA2.out.kept0 h).cells.2.2.1
                  have p3 : ∀ W, Kept (fun _ => False) W1' W → W.cell? ⟨BX, 3, none⟩ = some (.int .i64 (t' : Int)) := fun W h => (HA2.out.kept0 h).cells.2.2.2.1
                  have p4 : ∀ W, Kept (fun _ => False) W1' W → W.cell? ⟨BX, 4, none⟩ = some (.string V) := fun W h => (HA2.out.kept0 h).cells.2.2.2.2
                  have eF : (F0 : Int) + 16384 = (F1 : Int) := by omega
                  clear hF1
                  have HP0 : ∀ b : Bool, isVec ⟨m, true, (n' : Int), (t' : Int), V⟩ = b → passF c ⟨m, true, (n' : Int), (t' : Int), V⟩ = if b = true then { c with vector := V, has := true } else c := fun b h => by
                    unfold passF
                    rw [h]
                  cases v1 : ((n' : Int) == 0) with
                  | false =>
                    have HV1 := HP0 false (by unfold isVec; simp [v1])
                    rw [if_neg (by decide)] at HV1
                    rw [HV1] at HT HNx'
                    clear HV1 HP0
                    have HT1 := hid (refTwoA (F1 + X.size + 6))
                    have HT2 := hid (refTwoA n')
                    have HT3 := hid (refTwoA t')
                    have s1 := two_size (F1 + X.size + 6)
                    have s2 := two_size n'
                    have s3 := two_size t'
                    have HE : Hid (((acc ++ two (F1 + X.size + 6)) ++ two n') ++ two t' ++ X = acc ++ laidA ⟨m, true, n', t', V⟩ X) := by
                      show _ = _
                      rw [laid_eq m true V X F1 HF.out, app_assoc, app_assoc, app_assoc]
                    obtain ⟨T1, hT1⟩ : ∃ T1, T1 = two (F1 + X.size + 6) := ⟨_, rfl⟩
                    obtain ⟨T2, hT2⟩ : ∃ T2, T2 = two n' := ⟨_, rfl⟩
                    obtain ⟨T3, hT3⟩ : ∃ T3, T3 = two t' := ⟨_, rfl⟩
                    rw [← hT1] at HT1 s1 HE
                    rw [← hT2] at HT2 s2 HE
                    rw [← hT3] at HT3 s3 HE
                    clear hT1 hT2 hT3
                    have o1 : ¬ (9223372036854775807 < acc.size + T1.size) := by omega
                    have o2 : ¬ (9223372036854775807 < acc.size + T1.size + T2.size) := by omega
                    have o3 : ¬ (9223372036854775807 < acc.size + T1.size + T2.size + T3.size) := by omega
                    have o4 : ¬ (9223372036854775807 < acc.size + T1.size + T2.size + T3.size + X.size) := by omega
                    have w1' : IntKind.i64.wrap ((F1 : Int) + (X.size : Int)) = (F1 : Int) + (X.size : Int) := by rw [IntKind.wrap_i64]; omega
                    have w2' : IntKind.i64.wrap ((F1 : Int) + (X.size : Int) + 6) = ((F1 + X.size + 6 : Nat) : Int) := by rw [IntKind.wrap_i64]; omega
                    clear s1 s2 s3
                    go_upto_region 22 with fail
                    refine wp_region_held_drew (S := Kept (fun _ => False) W1') (by kernel_rfl) (HKr.out.drew) (fun hSd => ?_)
                    refine Tks.out (l := [(0, some none), (1, some none), (2, some none), (3, some none)]) ?_
                    iterate 4
                     refine tkT (v := ?_) rfl (by kernel_rfl) (by kernel_rfl) (by kernel_rfl) (fun _ _ _ h => h) (Or.inl ⟨by kernel_rfl, fun W hSW => by go_simp; try with_reducible rfl⟩) (by assumption) ?_
                     try simp only [List.getElem_toArray, List.getElem_cons_succ, List.getElem_cons_zero]
                     try go_frame
                    refine tkE ?_
                    refine Tks.out (l := [(4, some (some (.int .i64 ((F1 : Int) + (X.size : Int))))), (5, some (some (.int .i64 ((F1 + X.size + 6 : Nat) : Int))))]) ?_
                    iterate 2
                     refine tkV rfl (by kernel_rfl) (by kernel_rfl) (by kernel_rfl) (fun _ _ _ h => h) (Or.inl ⟨by kernel_rfl, fun W hSW => by go_simp; try with_reducible rfl⟩) (by assumption) ?_
                     try simp only [List.getElem_toArray, List.getElem_cons_succ, List.getElem_cons_zero]
                     try go_frame
                    refine tkE ?_
                    refine Tks.out (l := [(8, some none), (9, some none), (12, some none), (13, some none), (16, some none)]) ?_
                    iterate 5
                     refine tkT (v := ?_) rfl (by kernel_rfl) (by kernel_rfl) (by kernel_rfl) (fun _ _ _ h => h) (Or.inl ⟨by kernel_rfl, fun W hSW => by go_simp; try with_reducible rfl⟩) (by assumption) ?_
                     try simp only [List.getElem_toArray, List.getElem_cons_succ, List.getElem_cons_zero]
                     try go_frame
                    refine tkE ?_
                    refine wpAnyH_ready (rs := [6]) (by kernel_rfl) (by simp) ?_
                    refine AllReadyH.cons rfl (fun K hK => ?_) AllReadyH.nil
                    go_simp
                    refine (HT1.out _).mono ?_
                    rintro e x1 ⟨rfl, hk⟩
                    have hS1 : Kept (fun _ => False) W1' x1 := hSd.trans hk
                    clear hk
                    refine hK.out _ _ (hS1) (fun _ => ?_)
                    clear hK K
                    try simp only [List.getElem_toArray, List.getElem_cons_succ, List.getElem_cons_zero]
                    try go_frame
                    refine wpAnyH_take (i := 7) (v := ?_) rfl (by kernel_rfl) (by kernel_rfl) (by kernel_rfl) (fun _ _ _ h => h) (Or.inl ⟨by kernel_rfl, fun W hSW => by go_simp; try with_reducible rfl⟩) (by assumption) ?_
                    try simp only [List.getElem_toArray, List.getElem_cons_succ, List.getElem_cons_zero]
                    try go_frame
                    refine wpAnyH_ready (rs := [10]) (by kernel_rfl) (by simp) ?_
                    refine AllReadyH.cons rfl (fun K hK => ?_) AllReadyH.nil
                    go_simp
                    refine (HT2.out _).mono ?_
                    rintro e x2 ⟨rfl, hk⟩
                    have hS2 : Kept (fun _ => False) W1' x2 := hS1.trans hk
                    clear hk
                    refine hK.out _ _ (hS2) (fun _ => ?_)
                    clear hK K
                    try simp only [List.getElem_toArray, List.getElem_cons_succ, List.getElem_cons_zero]
                    try go_frame
                    refine wpAnyH_take (i := 11) (v := ?_) rfl (by kernel_rfl) (by kernel_rfl) (by kernel_rfl) (fun _ _ _ h => h) (Or.inl ⟨by kernel_rfl, fun W hSW => by go_simp; try with_reducible rfl⟩) (by assumption) ?_
                    try simp only [List.getElem_toArray, List.getElem_cons_succ, List.getElem_cons_zero]
                    try go_frame
                    refine wpAnyH_ready (rs := [14]) (by kernel_rfl) (by simp) ?_
                    refine AllReadyH.cons rfl (fun K hK => ?_) AllReadyH.nil
                    go_simp
                    refine (HT3.out _).mono ?_
                    rintro e x3 ⟨rfl, hk⟩
                    have hS3 : Kept (fun _ => False) W1' x3 := hS2.trans hk
                    clear hk
                    refine hK.out _ _ (hS3) (fun _ => ?_)
                    clear hK K
                    try simp only [List.getElem_toArray, List.getElem_cons_succ, List.getElem_cons_zero]
                    try go_frame
                    refine Tks.out (l := [(15, some none), (17, some none), (18, some none)]) ?_
                    iterate 3
                     refine tkT (v := ?_) rfl (by kernel_rfl) (by kernel_rfl) (by kernel_rfl) (fun _ _ _ h => h) (Or.inl ⟨by kernel_rfl, fun W hSW => by go_simp; try with_reducible rfl⟩) (by assumption) ?_
                     try simp only [List.getElem_toArray, List.getElem_cons_succ, List.getElem_cons_zero]
                     try go_frame
                    refine tkE ?_
                    refine wpAnyH_done (by kernel_rfl) ?_ _
                    have HKz := hid (HK2.out.trans hS3)
                    have r0 := p0 _ hS3
                    have r1 := p1 _ hS3
                    have r2 := p2 _ hS3
                    have r3 := p3 _ hS3
                    have r4 := p4 _ hS3
                    clear hS1 hS2 hS3 o1 o2 o3 o4 p0 p1 p2 p3 p4 w1' w2'
                    go_wp2
                    exact ⟨⟨j + 1, _, _, hlt, by go_num, rfl, ⟨rfl, by rw [hh]⟩, ⟨HNx'.out, by rw [HE.out]; exact HT.out, by have := HZ.out; rw [HE.out, ByteArray.size_append]; omega, HKz.out⟩⟩, by simp [intOf]; omega⟩
                  | true =>
                    cases v2 : ((t' : Int) == 36) with
                    | false =>
                      have HV1 := HP0 false (by unfold isVec; simp [v1, v2])
                      rw [if_neg (by decide)] at HV1
                      rw [HV1] at HT HNx'
                      clear HV1 HP0
                      have HT1 := hid (refTwoA (F1 + X.size + 6))
                      have HT2 := hid (refTwoA n')
                      have HT3 := hid (refTwoA t')
                      have s1 := two_size (F1 + X.size + 6)
                      have s2 := two_size n'
                      have s3 := two_size t'
                      have HE : Hid (((acc ++ two (F1 + X.size + 6)) ++ two n') ++ two t' ++ X = acc ++ laidA ⟨m, true, n', t', V⟩ X) := by
                        show _ = _
                        rw [laid_eq m true V X F1 HF.out, app_assoc, app_assoc, app_assoc]
                      obtain ⟨T1, hT1⟩ : ∃ T1, T1 = two (F1 + X.size + 6) := ⟨_, rfl⟩
                      obtain ⟨T2, hT2⟩ : ∃ T2, T2 = two n' := ⟨_, rfl⟩
                      obtain ⟨T3, hT3⟩ : ∃ T3, T3 = two t' := ⟨_, rfl⟩
                      rw [← hT1] at HT1 s1 HE
                      rw [← hT2] at HT2 s2 HE
                      rw [← hT3] at HT3 s3 HE
                      clear hT1 hT2 hT3
                      have o1 : ¬ (9223372036854775807 < acc.size + T1.size) := by omega
                      have o2 : ¬ (9223372036854775807 < acc.size + T1.size + T2.size) := by omega
                      have o3 : ¬ (9223372036854775807 < acc.size + T1.size + T2.size + T3.size) := by omega
                      have o4 : ¬ (9223372036854775807 < acc.size + T1.size + T2.size + T3.size + X.size) := by omega
                      have w1' : IntKind.i64.wrap ((F1 : Int) + (X.size : Int)) = (F1 : Int) + (X.size : Int) := by rw [IntKind.wrap_i64]; omega
                      have w2' : IntKind.i64.wrap ((F1 : Int) + (X.size : Int) + 6) = ((F1 + X.size + 6 : Nat) : Int) := by rw [IntKind.wrap_i64]; omega
                      clear s1 s2 s3
                      go_upto_region 22 with fail
                      refine wp_region_held_drew (S := Kept (fun _ => False) W1') (by kernel_rfl) (HKr.out.drew) (fun hSd => ?_)
                      refine Tks.out (l := [(0, some none), (1, some none), (2, some none), (3, some none)]) ?_
                      iterate 4
                       refine tkT (v := ?_) rfl (by kernel_rfl) (by kernel_rfl) (by kernel_rfl) (fun _ _ _ h => h) (Or.inl ⟨by kernel_rfl, fun W hSW => by go_simp; try with_reducible rfl⟩) (by assumption) ?_
                       try simp only [List.getElem_toArray, List.getElem_cons_succ, List.getElem_cons_zero]
                       try go_frame
                      refine tkE ?_
                      refine Tks.out (l := [(4, some (some (.int .i64 ((F1 : Int) + (X.size : Int))))), (5, some (some (.int .i64 ((F1 + X.size + 6 : Nat) : Int))))]) ?_
                      iterate 2
                       refine tkV rfl (by kernel_rfl) (by kernel_rfl) (by kernel_rfl) (fun _ _ _ h => h) (Or.inl ⟨by kernel_rfl, fun W hSW => by go_simp; try with_reducible rfl⟩) (by assumption) ?_
                       try simp only [List.getElem_toArray, List.getElem_cons_succ, List.getElem_cons_zero]
                       try go_frame
                      refine tkE ?_
                      refine Tks.out (l := [(8, some none), (9, some none), (12, some none), (13, some none), (16, some none)]) ?_
                      iterate 5
                       refine tkT (v := ?_) rfl (by kernel_rfl) (by kernel_rfl) (by kernel_rfl) (fun _ _ _ h => h) (Or.inl ⟨by kernel_rfl, fun W hSW => by go_simp; try with_reducible rfl⟩) (by assumption) ?_
                       try simp only [List.getElem_toArray, List.getElem_cons_succ, List.getElem_cons_zero]
                       try go_frame
                      refine tkE ?_
                      refine wpAnyH_ready (rs := [6]) (by kernel_rfl) (by simp) ?_
                      refine AllReadyH.cons rfl (fun K hK => ?_) AllReadyH.nil
                      go_simp
                      refine (HT1.out _).mono ?_
                      rintro e x1 ⟨rfl, hk⟩
                      have hS1 : Kept (fun _ => False) W1' x1 := hSd.trans hk
                      clear hk
                      refine hK.out _ _ (hS1) (fun _ => ?_)
                      clear hK K
                      try simp only [List.getElem_toArray, List.getElem_cons_succ, List.getElem_cons_zero]
                      try go_frame
                      refine wpAnyH_take (i := 7) (v := ?_) rfl (by kernel_rfl) (by kernel_rfl) (by kernel_rfl) (fun _ _ _ h => h) (Or.inl ⟨by kernel_rfl, fun W hSW => by go_simp; try with_reducible rfl⟩) (by assumption) ?_
                      try simp only [List.getElem_toArray, List.getElem_cons_succ, List.getElem_cons_zero]
                      try go_frame
                      refine wpAnyH_ready (rs := [10]) (by kernel_rfl) (by simp) ?_
                      refine AllReadyH.cons rfl (fun K hK => ?_) AllReadyH.nil
                      go_simp
                      refine (HT2.out _).mono ?_
                      rintro e x2 ⟨rfl, hk⟩
                      have hS2 : Kept (fun _ => False) W1' x2 := hS1.trans hk
                      clear hk
                      refine hK.out _ _ (hS2) (fun _ => ?_)
                      clear hK K
                      try simp only [List.getElem_toArray, List.getElem_cons_succ, List.getElem_cons_zero]
                      try go_frame
                      refine wpAnyH_take (i := 11) (v := ?_) rfl (by kernel_rfl) (by kernel_rfl) (by kernel_rfl) (fun _ _ _ h => h) (Or.inl ⟨by kernel_rfl, fun W hSW => by go_simp; try with_reducible rfl⟩) (by assumption) ?_
                      try simp only [List.getElem_toArray, List.getElem_cons_succ, List.getElem_cons_zero]
                      try go_frame
                      refine wpAnyH_ready (rs := [14]) (by kernel_rfl) (by simp) ?_
                      refine AllReadyH.cons rfl (fun K hK => ?_) AllReadyH.nil
                      go_simp
                      refine (HT3.out _).mono ?_
                      rintro e x3 ⟨rfl, hk⟩
                      have hS3 : Kept (fun _ => False) W1' x3 := hS2.trans hk
                      clear hk
                      refine hK.out _ _ (hS3) (fun _ => ?_)
                      clear hK K
                      try simp only [List.getElem_toArray, List.getElem_cons_succ, List.getElem_cons_zero]
                      try go_frame
                      refine Tks.out (l := [(15, some none), (17, some none), (18, some none)]) ?_
                      iterate 3
                       refine tkT (v := ?_) rfl (by kernel_rfl) (by kernel_rfl) (by kernel_rfl) (fun _ _ _ h => h) (Or.inl ⟨by kernel_rfl, fun W hSW => by go_simp; try with_reducible rfl⟩) (by assumption) ?_
                       try simp only [List.getElem_toArray, List.getElem_cons_succ, List.getElem_cons_zero]
                       try go_frame
                      refine tkE ?_
                      refine wpAnyH_done (by kernel_rfl) ?_ _
                      have HKz := hid (HK2.out.trans hS3)
                      have r0 := p0 _ hS3
                      have r1 := p1 _ hS3
                      have r2 := p2 _ hS3
                      have r3 := p3 _ hS3
                      have r4 := p4 _ hS3
                      clear hS1 hS2 hS3 o1 o2 o3 o4 p0 p1 p2 p3 p4 w1' w2'
                      go_wp2
                      exact ⟨⟨j + 1, _, _, hlt, by go_num, rfl, ⟨rfl, by rw [hh]⟩, ⟨HNx'.out, by rw [HE.out]; exact HT.out, by have := HZ.out; rw [HE.out, ByteArray.size_append]; omega, HKz.out⟩⟩, by simp [intOf]; omega⟩
                    | true =>
                      have HV1 := HP0 false (by unfold isVec; simp [v1, v2])
                      rw [if_neg (by decide)] at HV1
                      rw [HV1] at HT HNx'
                      clear HV1 HP0
                      have HT1 := hid (refTwoA (F1 + X.size + 6))
                      have HT2 := hid (refTwoA n')
                      have HT3 := hid (refTwoA t')
                      have s1 := two_size (F1 + X.size + 6)
                      have s2 := two_size n'
                      have s3 := two_size t'
                      have HE : Hid (((acc ++ two (F1 + X.size + 6)) ++ two n') ++ two t' ++ X = acc ++ laidA ⟨m, true, n', t', V⟩ X) := by
                        show _ = _
                        rw [laid_eq m true V X F1 HF.out, app_assoc, app_assoc, app_assoc]
                      obtain ⟨T1, hT1⟩ : ∃ T1, T1 = two (F1 + X.size + 6) := ⟨_, rfl⟩
                      obtain ⟨T2, hT2⟩ : ∃ T2, T2 = two n' := ⟨_, rfl⟩
                      obtain ⟨T3, hT3⟩ : ∃ T3, T3 = two t' := ⟨_, rfl⟩
                      rw [← hT1] at HT1 s1 HE
                      rw [← hT2] at HT2 s2 HE
                      rw [← hT3] at HT3 s3 HE
                      clear hT1 hT2 hT3
                      have o1 : ¬ (9223372036854775807 < acc.size + T1.size) := by omega
                      have o2 : ¬ (9223372036854775807 < acc.size + T1.size + T2.size) := by omega
                      have o3 : ¬ (9223372036854775807 < acc.size + T1.size + T2.size + T3.size) := by omega
                      have o4 : ¬ (9223372036854775807 < acc.size + T1.size + T2.size + T3.size + X.size) := by omega
                      have w1' : IntKind.i64.wrap ((F1 : Int) + (X.size : Int)) = (F1 : Int) + (X.size : Int) := by rw [IntKind.wrap_i64]; omega
                      have w2' : IntKind.i64.wrap ((F1 : Int) + (X.size : Int) + 6) = ((F1 + X.size + 6 : Nat) : Int) := by rw [IntKind.wrap_i64]; omega
                      clear s1 s2 s3
                      go_upto_region 22 with fail
                      refine wp_region_held_drew (S := Kept (fun _ => False) W1') (by kernel_rfl) (HKr.out.drew) (fun hSd => ?_)
                      refine Tks.out (l := [(0, some none), (1, some none), (2, some none), (3, some none)]) ?_
                      iterate 4
                       refine tkT (v := ?_) rfl (by kernel_rfl) (by kernel_rfl) (by kernel_rfl) (fun _ _ _ h => h) (Or.inl ⟨by kernel_rfl, fun W hSW => by go_simp; try with_reducible rfl⟩) (by assumption) ?_
                       try simp only [List.getElem_toArray, List.getElem_cons_succ, List.getElem_cons_zero]
                       try go_frame
                      refine tkE ?_
                      refine Tks.out (l := [(4, some (some (.int .i64 ((F1 : Int) + (X.size : Int))))), (5, some (some (.int .i64 ((F1 + X.size + 6 : Nat) : Int))))]) ?_
                      iterate 2
                       refine tkV rfl (by kernel_rfl) (by kernel_rfl) (by kernel_rfl) (fun _ _ _ h => h) (Or.inl ⟨by kernel_rfl, fun W hSW => by go_simp; try with_reducible rfl⟩) (by assumption) ?_
                       try simp only [List.getElem_toArray, List.getElem_cons_succ, List.getElem_cons_zero]
                       try go_frame
                      refine tkE ?_
                      refine Tks.out (l := [(8, some none), (9, some none), (12, some none), (13, some none), (16, some none)]) ?_
                      iterate 5
                       refine tkT (v := ?_) rfl (by kernel_rfl) (by kernel_rfl) (by kernel_rfl) (fun _ _ _ h => h) (Or.inl ⟨by kernel_rfl, fun W hSW => by go_simp; try with_reducible rfl⟩) (by assumption) ?_
                       try simp only [List.getElem_toArray, List.getElem_cons_succ, List.getElem_cons_zero]
                       try go_frame
                      refine tkE ?_
                      refine wpAnyH_ready (rs := [6]) (by kernel_rfl) (by simp) ?_
                      refine AllReadyH.cons rfl (fun K hK => ?_) AllReadyH.nil
                      go_simp
                      refine (HT1.out _).mono ?_
                      rintro e x1 ⟨rfl, hk⟩
                      have hS1 : Kept (fun _ => False) W1' x1 := hSd.trans hk
                      clear hk
                      refine hK.out _ _ (hS1) (fun _ => ?_)
                      clear hK K
                      try simp only [List.getElem_toArray, List.getElem_cons_succ, List.getElem_cons_zero]
                      try go_frame
                      refine wpAnyH_take (i := 7) (v := ?_) rfl (by kernel_rfl) (by kernel_rfl) (by kernel_rfl) (fun _ _ _ h => h) (Or.inl ⟨by kernel_rfl, fun W hSW => by go_simp; try with_reducible rfl⟩) (by assumption) ?_
                      try simp only [List.getElem_toArray, List.getElem_cons_succ, List.getElem_cons_zero]
                      try go_frame
                      refine wpAnyH_ready (rs := [10]) (by kernel_rfl) (by simp) ?_
                      refine AllReadyH.cons rfl (fun K hK => ?_) AllReadyH.nil
                      go_simp
                      refine (HT2.out _).mono ?_
                      rintro e x2 ⟨rfl, hk⟩
                      have hS2 : Kept (fun _ => False) W1' x2 := hS1.trans hk
                      clear hk
                      refine hK.out _ _ (hS2) (fun _ => ?_)
                      clear hK K
                      try simp only [List.getElem_toArray, List.getElem_cons_succ, List.getElem_cons_zero]
                      try go_frame
                      refine wpAnyH_take (i := 11) (v := ?_) rfl (by kernel_rfl) (by kernel_rfl) (by kernel_rfl) (fun _ _ _ h => h) (Or.inl ⟨by kernel_rfl, fun W hSW => by go_simp; try with_reducible rfl⟩) (by assumption) ?_
                      try simp only [List.getElem_toArray, List.getElem_cons_succ, List.getElem_cons_zero]
                      try go_frame
                      refine wpAnyH_ready (rs := [14]) (by kernel_rfl) (by simp) ?_
                      refine AllReadyH.cons rfl (fun K hK => ?_) AllReadyH.nil
                      go_simp
                      refine (HT3.out _).mono ?_
                      rintro e x3 ⟨rfl, hk⟩
                      have hS3 : Kept (fun _ => False) W1' x3 := hS2.trans hk
                      clear hk
                      refine hK.out _ _ (hS3) (fun _ => ?_)
                      clear hK K
                      try simp only [List.getElem_toArray, List.getElem_cons_succ, List.getElem_cons_zero]
                      try go_frame
                      refine Tks.out (l := [(15, some none), (17, some none), (18, some none)]) ?_
                      iterate 3
                       refine tkT (v := ?_) rfl (by kernel_rfl) (by kernel_rfl) (by kernel_rfl) (fun _ _ _ h => h) (Or.inl ⟨by kernel_rfl, fun W hSW => by go_simp; try with_reducible rfl⟩) (by assumption) ?_
                       try simp only [List.getElem_toArray, List.getElem_cons_succ, List.getElem_cons_zero]
                       try go_frame
                      refine tkE ?_
                      refine wpAnyH_done (by kernel_rfl) ?_ _
                      have HKz := hid (HK2.out.trans hS3)
                      have r0 := p0 _ hS3
                      have r1 := p1 _ hS3
                      have r2 := p2 _ hS3
                      have r3 := p3 _ hS3
                      have r4 := p4 _ hS3
                      clear hS1 hS2 hS3 o1 o2 o3 o4 p0 p1 p2 p3 p4 w1' w2'
                      go_wp2
                      exact ⟨⟨j + 1, _, _, hlt, by go_num, rfl, ⟨rfl, by rw [hh]⟩, ⟨HNx'.out, by rw [HE.out]; exact HT.out, by have := HZ.out; rw [HE.out, ByteArray.size_append]; omega, HKz.out⟩⟩, by simp [intOf]; omega⟩
    · obtain rfl : j = l.length := by omega
      have hltz : ¬ (l.length : Int) < (l.length : Int) := by omega
      have hT := HI.out.on
      rw [List.drop_length] at hT
      simp only [putOn] at hT
      have HK := hid HI.out.kept
      by_cases h8 : 1488 < acc.size
      · have HT : Hid (Q = (⟨#[]⟩, 2)) := by
          show _ = _
          rw [HQ.out, ← hT, if_pos rfl]
          exact if_pos h8
        have h8z : (1488 : Int) < (acc.size : Int) := by omega
        clear hT HI hlt h8
        go_wp2
        go_ret2
        exact ⟨by rw [HT.out]; rfl, HK.out⟩
      · have HT : Hid (Q = (acc, 0)) := by
          show _ = _
          rw [HQ.out, ← hT, if_pos rfl]
          exact if_neg h8
        have h8z : ¬ (1488 : Int) < (acc.size : Int) := by omega
        clear hT HI hlt h8
        go_wp2
        go_ret2
        exact ⟨by rw [HT.out]; rfl, HK.out⟩
end Go.Proofs.YtkneogfeokckjaaGreatDoor

namespace Go.Proofs.YtkneogfeokckjaaGreatDoor
open Go.RowKit
open BAvps (El)

theorem putA_at (v : Value) (l : List Av) (s : ByteArray) (w : World) (hv : AvsAt w v l) (hs : s.size ≤ 1000000) (hsz : ∀ x ∈ l, x.value.size ≤ 140737488351232) (hM : MaskAt w) :
    Calls Tryz.prog 34 #[v, .string s] w fun e w' => e = .returned (.tuple #[.string (putAF l s).1, .int .i64 (putAF l s).2]) ∧ Kept (fun _ => False) w w' := by
  by_cases h : 40 < l.length
  · exact putA_many v l s w hv h
  · exact putA_few v l s w hv (by omega) hs hsz (fun _ _ => hM)
theorem rPut_at (v : Value) (l : List Av) (s : ByteArray) (w : World) (hv : AvsAt w v l) (hs : s.size ≤ 1000000) (hsz : ∀ x ∈ l, x.value.size ≤ 140737488351232) :
    Calls Tryz.prog 37 #[v, .string s] w fun e w' => e = .returned (.tuple #[.string (putAF l s).1, .int .i64 (putAF l s).2]) ∧ Kept (fun _ => False) w w' := by
  by_cases h : 40 < l.length
  · exact rPut_many v l s w hv h
  · exact rPut_few refMaskAt_holds v l s w hv (by omega) hs hsz
theorem good_headA (k : Int) : GoodA (headK k) := by
  have h : (headK k).value.size = 2 := numV_size k
  have hz : (-9223372036854775808 : Int) ≤ 0 ∧ (0 : Int) ≤ 9223372036854775807 := by decide
  exact ⟨hz, hz, by rw [h]; decide⟩
/-- What a round has in hand behind both of its Gets. -/
structure Rd (wr : World) (b13 b18 b20 : Nat) (ct cs cn cr : Int) (ca : List Av) (g1 c1 : Nat) (kt ks kn kr : Int) (p1 : Option Addr) (d1 : Nat) (p2 : Option Addr) (d2 : Nat) (LE : List El) (bp : Nat) (W : World) : Prop where
  k : Kept (fun _ => False) wr W
  c13 : CtAt W b13 ct cs cn cr (.slice (some ⟨g1, 0, none⟩) ca.length c1)
  c18 : CtAt W b18 kt ks kn kr (.slice p1 LE.length d1)
  c20 : CtAt W b20 kt ks kn kr (.slice p2 LE.length d2)
  m : LentAv W 0 g1 c1 ca
  o1 : BAvps.OwnB W bp (.slice p1 LE.length d1) LE
  q1 : AvsAt W (.slice p1 LE.length d1) (LE.map (·.1))
  q2 : AvsAt W (.slice p2 LE.length d2) (LE.map (·.1))
section
variable {wr : World} {b13 b18 b20 : Nat} {ct cs cn cr : Int} {ca : List Av} {g1 c1 : Nat} {kt ks kn kr : Int} {p1 : Option Addr} {d1 : Nat} {p2 : Option Addr} {d2 : Nat} {LE : List El} {bp : Nat} {W W' : World}
theorem Rd.kept (h : Rd wr b13 b18 b20 ct cs cn cr ca g1 c1 kt ks kn kr p1 d1 p2 d2 LE bp W) (hk : Kept (fun _ => False) W W') : Rd wr b13 b18 b20 ct cs cn cr ca g1 c1 kt ks kn kr p1 d1 p2 d2 LE bp W' :=
  ⟨h.k.trans hk, h.c13.kept hk, h.c18.kept hk, h.c20.kept hk, h.m.kept hk, h.o1.kept hk, RowsAt.kept0 h.q1 hk, RowsAt.kept0 h.q2 hk⟩
end

set_option maxHeartbeats 16000000 in
set_option maxRecDepth 100000 in
theorem msgTells_heavy (ct cs cn cr : Int) (ca : List Av) (u : Value) (lt ls : Int) (lq : Bool) (ln lr : Int) (lx s b : ByteArray) (k : Int) (w : World) (hI : AvsIn w u ca) (hl : lightA ca = false) :
    Calls Tryz.prog 3 #[.agg #[.int .i64 ct, .int .i64 cs, .int .i64 cn, .int .i64 cr, u], .agg #[.int .i64 lt, .int .i64 ls, .bool lq, .int .i64 ln, .int .i64 lr, .string lx], .string s, .string b, .int .i64 k] w fun e w' => e = .returned (.bool true) ∧ Kept (fun _ => False) w w' := by
  have HA := hid aliveM_any
  have HL := hid (fun W (hk : Kept (fun _ => False) w W) => lightA_any u ca W (hI.kept hk).at_ hI.len hI.size)
  rw [hl] at HL
  obtain ⟨p, cap, rfl⟩ := RowsAt.slice hI.at_
  have HC0 := hid ((CtAt.new w ct cs cn cr (.slice p ca.length cap)).kept ((Kept.refl (fun _ => False) (w.alloc (.cells #[.int .i64 ct, .int .i64 cs, .int .i64 cn, .int .i64 cr, .slice p ca.length cap] 24))).alloc (.cells #[.int .i64 lt, .int .i64 ls, .bool lq, .int .i64 ln, .int .i64 lr, .string lx] 26)))
  have HB0 : Hid (LdAt ((w.alloc (.cells #[.int .i64 ct, .int .i64 cs, .int .i64 cn, .int .i64 cr, .slice p ca.length cap] 24)).alloc (.cells #[.int .i64 lt, .int .i64 ls, .bool lq, .int .i64 ln, .int .i64 lr, .string lx] 26)) (w.heap.size + 1) lt ls lq ln lr lx) := by
    have h := LdAt.new (w.alloc (.cells #[.int .i64 ct, .int .i64 cs, .int .i64 cn, .int .i64 cr, .slice p ca.length cap] 24)) lt ls lq ln lr lx
    rw [show (w.alloc (.cells #[.int .i64 ct, .int .i64 cs, .int .i64 cn, .int .i64 cr, .slice p ca.length cap] 24)).heap.size = w.heap.size + 1 from by simp] at h
    exact h
  have HK0 := hid (((Kept.refl (fun _ => False) w).alloc (.cells #[.int .i64 ct, .int .i64 cs, .int .i64 cn, .int .i64 cr, .slice p ca.length cap] 24)).alloc (.cells #[.int .i64 lt, .int .i64 ls, .bool lq, .int .i64 ln, .int .i64 lr, .string lx] 26))
  clear hI hl
  go_enter Tryz.func3, Tryz.ntmps3
  go_upto_region 1 with fail
  generalize (w.alloc (.cells #[.int .i64 ct, .int .i64 cs, .int .i64 cn, .int .i64 cr, .slice p ca.length cap] 24)).alloc (.cells #[.int .i64 lt, .int .i64 ls, .bool lq, .int .i64 ln, .int .i64 lr, .string lx] 26) = W0 at *
  obtain ⟨b0, b1, b2, b3, b4⟩ := HC0.out.cells
  go_wp2_with fail
  refine (HL.out _ HK0.out).mono ?_
  rintro e w1 ⟨rfl, hk1⟩
  have HK1 := hid (HK0.out.trans hk1)
  have HC1 := hid (HC0.out.kept hk1)
  have HB1 := hid (HB0.out.kept hk1)
  clear hk1 HK0 HC0 HB0 HL b0 b1 b2 b3 b4
  obtain ⟨b0, b1, b2, b3, b4⟩ := HC1.out.cells
  obtain ⟨d0, d1, d2, d3, d4, d5⟩ := HB1.out.cells
  go_wp2_with fail
  refine (HA.out _).mono ?_
  rintro e w2 ⟨rfl, hk2⟩
  have HK2 := hid (HK1.out.trans hk2)
  clear hk2
  go_wp2
  go_ret
  exact ⟨rfl, HK2.out⟩

set_option maxHeartbeats 16000000 in
set_option maxRecDepth 100000 in
theorem msgTells_long (ct cs cn cr : Int) (ca : List Av) (u : Value) (lt ls : Int) (lq : Bool) (ln lr : Int) (lx s b : ByteArray) (k : Int) (w : World) (hI : AvsIn w u ca) (hl : lightA ca = true) (hx : lx.size ≤ 140737488351232) (hs : s.size ≤ 140737488351232) (hm : b.size ≤ 140737488351232) (hsum : 6000 < lx.size + b.size + s.size) :
    Calls Tryz.prog 3 #[.agg #[.int .i64 ct, .int .i64 cs, .int .i64 cn, .int .i64 cr, u], .agg #[.int .i64 lt, .int .i64 ls, .bool lq, .int .i64 ln, .int .i64 lr, .string lx], .string s, .string b, .int .i64 k] w fun e w' => e = .returned (.bool true) ∧ Kept (fun _ => False) w w' := by
  have HA := hid aliveM_any
  have HL := hid (fun W (hk : Kept (fun _ => False) w W) => lightA_any u ca W (hI.kept hk).at_ hI.len hI.size)
  rw [hl] at HL
  obtain ⟨p, cap, rfl⟩ := RowsAt.slice hI.at_
  have HC0 := hid ((CtAt.new w ct cs cn cr (.slice p ca.length cap)).kept ((Kept.refl (fun _ => False) (w.alloc (.cells #[.int .i64 ct, .int .i64 cs, .int .i64 cn, .int .i64 cr, .slice p ca.length cap] 24))).alloc (.cells #[.int .i64 lt, .int .i64 ls, .bool lq, .int .i64 ln, .int .i64 lr, .string lx] 26)))
  have HB0 : Hid (LdAt ((w.alloc (.cells #[.int .i64 ct, .int .i64 cs, .int .i64 cn, .int .i64 cr, .slice p ca.length cap] 24)).alloc (.cells #[.int .i64 lt, .int .i64 ls, .bool lq, .int .i64 ln, .int .i64 lr, .string lx] 26)) (w.heap.size + 1) lt ls lq ln lr lx) := by
    have h := LdAt.new (w.alloc (.cells #[.int .i64 ct, .int .i64 cs, .int .i64 cn, .int .i64 cr, .slice p ca.length cap] 24)) lt ls lq ln lr lx
    rw [show (w.alloc (.cells #[.int .i64 ct, .int .i64 cs, .int .i64 cn, .int .i64 cr, .slice p ca.length cap] 24)).heap.size = w.heap.size + 1 from by simp] at h
    exact h
  have HK0 := hid (((Kept.refl (fun _ => False) w).alloc (.cells #[.int .i64 ct, .int .i64 cs, .int .i64 cn, .int .i64 cr, .slice p ca.length cap] 24)).alloc (.cells #[.int .i64 lt, .int .i64 ls, .bool lq, .int .i64 ln, .int .i64 lr, .string lx] 26))
  obtain ⟨A, hA⟩ : ∃ A, A = lx.size + b.size := ⟨_, rfl⟩
  obtain ⟨B, hB⟩ : ∃ B, B = A + s.size := ⟨_, rfl⟩
  have q1 : IntKind.i64.wrap ((lx.size : Int) + (b.size : Int)) = (A : Int) := by rw [IntKind.wrap_i64]; omega
  have q2 : IntKind.i64.wrap ((A : Int) + (s.size : Int)) = (B : Int) := by rw [IntKind.wrap_i64]; omega
  have q3 : (6000 : Int) < (B : Int) := by omega
  clear hA hB hsum hx hs hm hI hl
  go_enter Tryz.func3, Tryz.ntmps3
  go_upto_region 1 with fail
  generalize (w.alloc (.cells #[.int .i64 ct, .int .i64 cs, .int .i64 cn, .int .i64 cr, .slice p ca.length cap] 24)).alloc (.cells #[.int .i64 lt, .int .i64 ls, .bool lq, .int .i64 ln, .int .i64 lr, .string lx] 26) = W0 at *
  obtain ⟨b0, b1, b2, b3, b4⟩ := HC0.out.cells
  go_wp2_with fail
  refine (HL.out _ HK0.out).mono ?_
  rintro e w1 ⟨rfl, hk1⟩
  have HK1 := hid (HK0.out.trans hk1)
  have HC1 := hid (HC0.out.kept hk1)
  have HB1 := hid (HB0.out.kept hk1)
  clear hk1 HK0 HC0 HB0 HL b0 b1 b2 b3 b4
  obtain ⟨b0, b1, b2, b3, b4⟩ := HC1.out.cells
  obtain ⟨d0, d1, d2, d3, d4, d5⟩ := HB1.out.cells
  go_wp2_with fail
  refine (HA.out _).mono ?_
  rintro e w2 ⟨rfl, hk2⟩
  have HK2 := hid (HK1.out.trans hk2)
  clear hk2
  go_wp2
  go_ret
  exact ⟨rfl, HK2.out⟩

set_option maxHeartbeats 16000000 in
set_option maxRecDepth 100000 in
theorem msgTells_in (ct cs cn cr : Int) (ca : List Av) (u : Value) (lt ls : Int) (lq : Bool) (ln lr : Int) (lx s b : ByteArray) (k : Int) (w : World) (hI : AvsIn w u ca) (hl : lightA ca = true) (hsum : lx.size + b.size + s.size ≤ 6000) (_hn : LdNum ⟨lt, ls, lq, ln, lr, lx⟩) (hT : Tables w) :
    Calls Tryz.prog 3 #[.agg #[.int .i64 ct, .int .i64 cs, .int .i64 cn, .int .i64 cr, u], .agg #[.int .i64 lt, .int .i64 ls, .bool lq, .int .i64 ln, .int .i64 lr, .string lx], .string s, .string b, .int .i64 k] w fun e w' => e = .returned (.bool true) ∧ Kept (fun _ => False) w w' := by
  have HA := hid aliveM_any
  have HL := hid (fun W (hk : Kept (fun _ => False) w W) => lightA_any u ca W (hI.kept hk).at_ hI.len hI.size)
  rw [hl] at HL
  have hl5 := (lightA_true hl).1
  obtain ⟨p, cap, rfl⟩ := RowsAt.slice hI.at_
  have HAt := hid (fun (W : World) (hk : Kept (fun _ => False) w W) => (hI.kept hk).at_)
  have HLe := hid (fun (W : World) (h : AvsAt W (.slice p ca.length cap) ca) => lentAvps_any (.slice p ca.length cap) ca W h (by omega))
  have hPs : (putAF ca s).1.size ≤ 1488 := putAF_size _ _
  have HP1 := hid (fun (g c : Nat) (W : World) (h : LentAv W 0 g c ca) (hk : Kept (fun _ => False) w W) => mPut_any ct cs cn cr (some ⟨g, 0, none⟩) ca.length c s W (putAF ca s).1 (putAF ca s).2 (fun W' hk' => putA_at (.slice (some ⟨g, 0, none⟩) ca.length c) ca s W' (h.kept hk').at_ (by omega) hI.size ((maskAt_of hT).kept (hk.trans hk'))) (by omega))
  have HP2 := hid (fun (W : World) (h : AvsAt W (.slice p ca.length cap) ca) => rPutCtl_any refTwoA ct cs cn cr p ca.length cap s W (putAF ca s).1 (putAF ca s).2 (fun W' hk' => rPut_at (.slice p ca.length cap) ca s W' (RowsAt.kept0 h hk') (by omega) hI.size) (by omega))
  have HG1 := hid (fun (W : World) (hk : Kept (fun _ => False) w W) => mGet_any b s (by omega) (by omega) W (fun _ => (unmAt_of hT).kept hk))
  have HG2 := hid (fun (W : World) => rGetCtl_any b s (by omega) (by omega) W)
  have HK1c := hid (fun (g c : Nat) (W : World) (h : LentAv W 0 g c ca) => mKind_any ct cs cn cr (.slice (some ⟨g, 0, none⟩) ca.length c) ca W h.at_)
  have HK2c := hid (fun (W : World) (h : AvsAt W (.slice p ca.length cap) ca) => rKind_any ct cs cn cr (.slice p ca.length cap) ca W h)
  have HC1c := hid (fun (g c : Nat) (W : World) (h : LentAv W 0 g c ca) => check_any ct cs cn cr (.slice (some ⟨g, 0, none⟩) ca.length c) ca W h.at_ (by omega) hI.good hI.size)
  have HC2c := hid (fun (W : World) (h : AvsAt W (.slice p ca.length cap) ca) => rCheck_any ct cs cn cr (.slice p ca.length cap) ca W h (by omega) hI.good hI.size)
  have HN1 := hid (fun (W : World) => mNeeds_any k W)
  have HN2 := hid (fun (W : World) => rNeeds_any k W)
  have HM1 := hid (fun (g c : Nat) (W : World) (h : LentAv W 0 g c ca) => make_any k (.slice (some ⟨g, 0, none⟩) ca.length c) ca W h.at_ (by omega))
  have HM2 := hid (fun (W : World) (h : AvsAt W (.slice p ca.length cap) ca) => rMake_any k (.slice p ca.length cap) ca W h (by omega))
  have hks := needsF_le k
  have HSI := hid (fun (v1 v2 : Value) (bb1 bb2 : Nat) (W : World) (h1 : BInts.OwnB W bb1 v1 (needsF k)) (h2 : BInts.OwnB W bb2 v2 (needsF k)) => BInts.sameInts_eq v1 v2 (needsF k) W ⟨_, h1⟩ ⟨_, h2⟩ (by omega))
  have HSt := hid (fun (g c : Nat) (W : World) (h : LentAv W 0 g c ca) (hv : AvsAt W (.slice p ca.length cap) ca) => staysAvps_any g c 0 (.slice p ca.length cap) ca W h hv hI.good (by omega))
  have HL1 := hid (fun (W : World) => mPutLoad_any ⟨lt, ls, lq, ln, lr, lx⟩ (show lx.size ≤ _ by omega) W)
  have HL2 := hid (fun (W : World) => rPutLoad_any refTwoA ⟨lt, ls, lq, ln, lr, lx⟩ (show lx.size ≤ _ by omega) W)
  have HX1 := hid (fun (W : World) => mGetLoad_any b (by omega) W)
  have HX2 := hid (fun (W : World) => rGetLoad_any b (by omega) W)
  have HI1 := hid (fun (W : World) => mIsCtl_any b (by omega) W)
  have HI2 := hid (fun (W : World) => rIsCtl_any b (by omega) W)
  obtain ⟨GL1, GL2, GL3, GL4, GL5⟩ := getLF_good b
  have heq := fun W => ld_eqIn (l := (getLF b).1) ⟨GL1, GL2, GL3, GL4⟩ (by unfold maxLen; omega) W
  obtain ⟨GC1, GC2⟩ := getCF_good b s
  have GM : ∀ x ∈ headK k :: ca, GoodA x := fun x hx => by
    rcases List.mem_cons.1 hx with rfl | hx
    · exact good_headA k
    · exact hI.good x hx
  obtain ⟨LM, hLM⟩ := toElA GM
  have hLMl : LM.length = ca.length + 1 := by rw [← List.length_map (f := (·.1)), hLM]; rfl
  rw [← hLM] at HM1 HM2 GM
  have HSA := hid (fun (v1 v2 : Value) (W : World) (h1 : AvsAt W v1 (LM.map (·.1))) (h2 : AvsAt W v2 (LM.map (·.1))) => sameBk_any v1 v2 _ W h1 h2 (by rw [List.length_map]; omega) GM)
  have HLMl := hid hLMl
  clear hLMl
  generalize (getCF b s).2 = E2 at HG1 HG2
  generalize (getCF b s).1 = CC at HG1 HG2 GC1 GC2
  obtain ⟨kt, ks, kn, kr, kl⟩ := CC
  dsimp only at GC1 GC2
  obtain ⟨LE, rfl⟩ := toElA GC1
  rw [List.length_map] at GC2
  have HSm := hid (fun (v1 v2 : Value) (W : World) (h1 : AvsAt W v1 (LE.map (·.1))) (h2 : AvsAt W v2 (LE.map (·.1))) => rSameCtl_self kt ks kn kr v1 v2 _ W h1 h2 (by rw [List.length_map]; omega) GC1)
  unfold ctV at HG1 HG2
  dsimp only at HG1 HG2
  generalize (if wordsB ct cs cn cr = true then if (putAF ca s).2 = 0 then rawF ct cs cn cr (putAF ca s).1 else ⟨#[]⟩ else ⟨#[]⟩ : ByteArray) = PV at HP1 HP2
  generalize (if wordsB ct cs cn cr = true then (putAF ca s).2 else 1 : Int) = E1 at HP1 HP2
  generalize kindF ca = KF at HK1c HK2c
  generalize checkF ca = CF at HC1c HC2c
  generalize needsF k = ns at HN1 HN2 HSI hks
  generalize (putLF ⟨lt, ls, lq, ln, lr, lx⟩).1 = PL at HL1 HL2
  generalize (putLF ⟨lt, ls, lq, ln, lr, lx⟩).2 = E3 at HL1 HL2
  generalize (getLF b).2 = E4 at HX1 HX2
  generalize (getLF b).1 = LL at HX1 HX2 heq
  generalize isCF b = IC at HI1 HI2
  obtain ⟨jt, js, jq, jn, jr, jx⟩ := LL
  unfold ldV at HL1 HX1 HX2 heq
  dsimp only at HL1 HL2 HX1 HX2 heq
  have HC0 := hid ((CtAt.new w ct cs cn cr (.slice p ca.length cap)).kept ((Kept.refl (fun _ => False) (w.alloc (.cells #[.int .i64 ct, .int .i64 cs, .int .i64 cn, .int .i64 cr, .slice p ca.length cap] 24))).alloc (.cells #[.int .i64 lt, .int .i64 ls, .bool lq, .int .i64 ln, .int .i64 lr, .string lx] 26)))
  have HB0 : Hid (LdAt ((w.alloc (.cells #[.int .i64 ct, .int .i64 cs, .int .i64 cn, .int .i64 cr, .slice p ca.length cap] 24)).alloc (.cells #[.int .i64 lt, .int .i64 ls, .bool lq, .int .i64 ln, .int .i64 lr, .string lx] 26)) (w.heap.size + 1) lt ls lq ln lr lx) := by
    have h := LdAt.new (w.alloc (.cells #[.int .i64 ct, .int .i64 cs, .int .i64 cn, .int .i64 cr, .slice p ca.length cap] 24)) lt ls lq ln lr lx
    rw [show (w.alloc (.cells #[.int .i64 ct, .int .i64 cs, .int .i64 cn, .int .i64 cr, .slice p ca.length cap] 24)).heap.size = w.heap.size + 1 from by simp] at h
    exact h
  have HK0 := hid (((Kept.refl (fun _ => False) w).alloc (.cells #[.int .i64 ct, .int .i64 cs, .int .i64 cn, .int .i64 cr, .slice p ca.length cap] 24)).alloc (.cells #[.int .i64 lt, .int .i64 ls, .bool lq, .int .i64 ln, .int .i64 lr, .string lx] 26))
  obtain ⟨A, hA⟩ : ∃ A, A = lx.size + b.size := ⟨_, rfl⟩
  obtain ⟨B, hB⟩ : ∃ B, B = A + s.size := ⟨_, rfl⟩
  have q1 : IntKind.i64.wrap ((lx.size : Int) + (b.size : Int)) = (A : Int) := by rw [IntKind.wrap_i64]; omega
  have q2 : IntKind.i64.wrap ((A : Int) + (s.size : Int)) = (B : Int) := by rw [IntKind.wrap_i64]; omega
  have q3 : ¬ (6000 : Int) < (B : Int) := by omega
  clear hA hB hsum hI hl hT GL1 GL2 GL3 GL4 GL5 GC1 GM hLM hPs
  go_enter Tryz.func3, Tryz.ntmps3
  go_upto_region 1 with fail
  generalize (w.alloc (.cells #[.int .i64 ct, .int .i64 cs, .int .i64 cn, .int .i64 cr, .slice p ca.length cap] 24)).alloc (.cells #[.int .i64 lt, .int .i64 ls, .bool lq, .int .i64 ln, .int .i64 lr, .string lx] 26) = W0 at *
  obtain ⟨b0, b1, b2, b3, b4⟩ := HC0.out.cells
  go_wp2_with fail
  refine (HL.out _ HK0.out).mono ?_
  rintro e w1 ⟨rfl, hk1⟩
  have HK1 := hid (HK0.out.trans hk1)
  have HC1 := hid (HC0.out.kept hk1)
  have HB1 := hid (HB0.out.kept hk1)
  clear hk1 HK0 HC0 HB0 HL b0 b1 b2 b3 b4
  obtain ⟨b0, b1, b2, b3, b4⟩ := HC1.out.cells
  obtain ⟨d0, d1, d2, d3, d4, d5⟩ := HB1.out.cells
  obtain ⟨BC, hBC⟩ : ∃ BC, BInts.bookCells (restA (.slice none 0 0) (.slice none 0 0)) (.slice none 0 0) (.slice none 0 0) = BC := ⟨_, rfl⟩
  have HBC := hid hBC
  clear hBC b0 b1 b2 b3 b4
  go_wp2_with (refine book_build HBC.out rfl rfl ?_)
  have I0 : Hid (TW w w1.heap.size 0 0 w.heap.size w.heap.size (w1.alloc (.cells BC 49))) := by
    have h := TW.new HK1.out
    rw [HBC.out] at h
    exact h
  have HC2 := hid (HC1.out.kept ((Kept.refl (fun _ => False) w1).alloc (.cells BC 49)))
  have HB2 := hid (HB1.out.kept ((Kept.refl (fun _ => False) w1).alloc (.cells BC 49)))
  clear HK1 HBC HC1 HB1 d0 d1 d2 d3 d4 d5
  obtain ⟨bk, hbk⟩ : ∃ bk, bk = w1.heap.size := ⟨_, rfl⟩
  rw [← hbk] at I0 ⊢
  clear hbk
  obtain ⟨b5, hb5⟩ : ∃ b5, b5 = w.heap.size := ⟨_, rfl⟩
  obtain ⟨b6, hb6⟩ : ∃ b6, b6 = w.heap.size + 1 := ⟨_, rfl⟩
  rw [← hb5] at HC2
  rw [← hb6] at HB2
  rw [← hb6, ← hb5]
  clear hb5 hb6
  go_loopw [12] (fun vk wr => ∃ j : Nat, j ≤ 2 ∧ vk = .int .i64 (j : Int) ∧ Hid (TW w bk j (2 * j) wr.heap.size wr.heap.size wr ∧ CtAt wr b5 ct cs cn cr (.slice p ca.length cap) ∧ LdAt wr b6 lt ls lq ln lr lx)) (fun vk _ => 2 - (intOf vk).toNat)
  case atStart => exact ⟨0, by omega, rfl, I0.out.top, HC2.out, HB2.out⟩
  case round =>
    obtain ⟨j, hj, rfl, HI⟩ := hrel
    clear I0 HC2 HB2
    by_cases hj2 : j < 2
    · have hj2z : (j : Int) < 2 := by omega
      have T0 := hid HI.out.1
      have C5 := hid HI.out.2.1
      have L6 := hid HI.out.2.2
      clear HI
      as_aux_lemma =>
        obtain ⟨c0, c1, c2, c3, c4⟩ := C5.out.cells
        go_upto_region 8 with fail
        have H13 := hid (CtAt.new wr ct cs cn cr (.slice p ca.length cap))
        have K1 := hid ((Kept.refl (fun _ => False) wr).alloc (.cells #[.int .i64 ct, .int .i64 cs, .int .i64 cn, .int .i64 cr, .slice p ca.length cap] 24))
        generalize wr.alloc (.cells #[.int .i64 ct, .int .i64 cs, .int .i64 cn, .int .i64 cr, .slice p ca.length cap] 24) = W1 at *
        obtain ⟨b13, hb13⟩ : ∃ b13, b13 = wr.heap.size := ⟨_, rfl⟩
        have HB13 := hid hb13
        rw [← hb13] at H13 T0 ⊢
        clear hb13 c0 c1 c2 c3 c4
        have C5a := hid (C5.out.kept K1.out)
        obtain ⟨c0, c1, c2, c3, c4⟩ := C5a.out.cells
        go_wp2_with fail
        refine (HLe.out _ (HAt.out _ (T0.out.1.trans K1.out))).mono ?_
        rintro e a1 ⟨g1, cc1, rfl, hL, hk⟩
        have L1 := hid (show LentAv a1 0 g1 cc1 ca from OwnG.mono hL (Nat.zero_le _))
        have H13a := hid (H13.out.kept hk)
        have K1a := hid (K1.out.trans hk)
        clear hk hL H13 K1 c0 c1 c2 c3 c4 C5a
        obtain ⟨e0, e1, e2, e3, e4⟩ := H13a.out.cells
        have f4 := H13a.out.soft 4
        go_upto_region 9 with fail
        have H13b := hid (H13a.out.set4 (.slice (some ⟨g1, 0, none⟩) ca.length cc1))
        have K2 := hid (K1a.out.setCell (p := ⟨b13, 4, none⟩) (Or.inl (Nat.le_of_eq HB13.out.symm)) (.slice (some ⟨g1, 0, none⟩) ca.length cc1))
        have L2 := hid (show LentAv (a1.setCell ⟨b13, 4, none⟩ (.slice (some ⟨g1, 0, none⟩) ca.length cc1)) 0 g1 cc1 ca from OwnG.keptS (S := fun i => i = b13) L1.out ((Kept.refl (fun i => i = b13) a1).setCell (p := ⟨b13, 4, none⟩) (Or.inr rfl) (.slice (some ⟨g1, 0, none⟩) ca.length cc1)) (fun i hi e => OwnAv.ctl L1.out H13a.out (by rw [← e]; exact hi)))
        generalize a1.setCell ⟨b13, 4, none⟩ (.slice (some ⟨g1, 0, none⟩) ca.length cc1) = W2 at *
        clear e0 e1 e2 e3 e4 f4 H13a K1a L1
        obtain ⟨e0, e1, e2, e3, e4⟩ := H13b.out.cells
        go_wp2_with fail
        refine (HP1.out _ _ _ L2.out (T0.out.1.trans K2.out)).mono ?_
        rintro e a3 ⟨rfl, hk⟩
        have H13c := hid (H13b.out.kept hk)
        have K3 := hid (K2.out.trans hk)
        have L3 := hid (L2.out.kept hk)
        clear hk H13b K2 L2 e0 e1 e2 e3 e4
        have C5c := hid (C5.out.kept K3.out)
        obtain ⟨c0, c1, c2, c3, c4⟩ := C5c.out.cells
        go_wp2_with fail
        refine (HP2.out _ (HAt.out _ (T0.out.1.trans K3.out))).mono ?_
        rintro e a4 ⟨rfl, hk⟩
        have H13d := hid (H13c.out.kept hk)
        have K4 := hid (K3.out.trans hk)
        have L4 := hid (L3.out.kept hk)
        clear hk H13c K3 L3 C5c c0 c1 c2 c3 c4
        go_wp2_with fail
        refine (HG1.out _ (T0.out.1.trans K4.out)).mono ?_
        rintro e a5 ⟨v5, rfl, ho, hk⟩
        have hB := own_elA ho
        obtain ⟨p1, d1, hv5⟩ := slice_of hB
        subst hv5
        have ho' := OwnAv.at ho
        have kk := (Kept.refl (fun _ => False) a5).alloc (.cells #[.int .i64 kt, .int .i64 ks, .int .i64 kn, .int .i64 kr, .slice p1 LE.length d1] 24)
        have H18 := hid (CtAt.new a5 kt ks kn kr (.slice p1 LE.length d1))
        have O5 := hid (hB.kept kk)
        have HLt := hid (show ∀ i, (Value.slice p1 LE.length d1).ownBlock = some i → i < a5.heap.size from fun i hi => (BAvps.own_lt hB hi).2)
        have Q5 := hid (RowsAt.kept0 ho' kk)
        have K5 := hid ((K4.out.trans hk).trans kk)
        have H13e := hid ((H13d.out.kept hk).kept kk)
        have L5 := hid ((L4.out.kept hk).kept kk)
        have HBp := hid (show b13 ≤ a4.heap.size from by rw [HB13.out]; exact K4.out.size)
        have HBq := hid (show a4.heap.size ≤ a5.heap.size from hk.size)
        clear hk kk ho ho' hB H13d K4 L4
        go_upto_region 12 with fail
        generalize a5.alloc (.cells #[.int .i64 kt, .int .i64 ks, .int .i64 kn, .int .i64 kr, .slice p1 LE.length d1] 24) = W5 at *
        generalize a5.heap.size = b18 at *
        generalize a4.heap.size = bp at *
        go_wp2_with fail
        refine (HG2.out _).mono ?_
        rintro e a6 ⟨v6, rfl, ho, hk⟩
        have hB := own_elA ho
        obtain ⟨p2, d2, hv6⟩ := slice_of hB
        subst hv6
        have ho' := OwnAv.at ho
        have kk := (Kept.refl (fun _ => False) a6).alloc (.cells #[.int .i64 kt, .int .i64 ks, .int .i64 kn, .int .i64 kr, .slice p2 LE.length d2] 24)
        have R6 : Hid (Rd wr b13 b18 a6.heap.size ct cs cn cr ca g1 cc1 kt ks kn kr p1 d1 p2 d2 LE bp (a6.alloc (.cells #[.int .i64 kt, .int .i64 ks, .int .i64 kn, .int .i64 kr, .slice p2 LE.length d2] 24))) :=
          ⟨(K5.out.trans hk).trans kk, (H13e.out.kept hk).kept kk, (H18.out.kept hk).kept kk, CtAt.new a6 kt ks kn kr (.slice p2 LE.length d2), (L5.out.kept hk).kept kk, (O5.out.kept hk).kept kk, RowsAt.kept0 (RowsAt.kept0 Q5.out hk) kk, RowsAt.kept0 ho' kk⟩
        have HB18 := hid (show b18 ≤ (a6.alloc (.cells #[.int .i64 kt, .int .i64 ks, .int .i64 kn, .int .i64 kr, .slice p2 LE.length d2] 24)).heap.size from Nat.le_trans (Nat.le_of_lt (Array.getElem?_eq_some_iff.1 H18.out).1) (Nat.le_trans hk.size kk.size))
        clear hk kk ho ho' hB H13e H18 O5 Q5 K5 L5
        go_upto_region 13 with fail
        generalize a6.alloc (.cells #[.int .i64 kt, .int .i64 ks, .int .i64 kn, .int .i64 kr, .slice p2 LE.length d2] 24) = W6 at *
        generalize a6.heap.size = b20 at *
        as_aux_lemma =>
          have hs0 : Kept (fun _ => False) W6 W6.drew := (Kept.refl (fun _ => False) W6).drew
          have ua0 : ∀ U, Kept (fun _ => False) W6 U → U.cell? ⟨b18, 0, none⟩ = some (.int .i64 kt) := fun U hk => ((R6.out.kept hk).c18).cells.1
          have ua1 : ∀ U, Kept (fun _ => False) W6 U → U.cell? ⟨b18, 1, none⟩ = some (.int .i64 ks) := fun U hk => ((R6.out.kept hk).c18).cells.2.1
          have ua2 : ∀ U, Kept (fun _ => False) W6 U → U.cell? ⟨b18, 2, none⟩ = some (.int .i64 kn) := fun U hk => ((R6.out.kept hk).c18).cells.2.2.1
          have ua3 : ∀ U, Kept (fun _ => False) W6 U → U.cell? ⟨b18, 3, none⟩ = some (.int .i64 kr) := fun U hk => ((R6.out.kept hk).c18).cells.2.2.2.1
          have ua4 : ∀ U, Kept (fun _ => False) W6 U → U.cell? ⟨b18, 4, none⟩ = some (.slice p1 LE.length d1) := fun U hk => ((R6.out.kept hk).c18).cells.2.2.2.2
          have ub0 : ∀ U, Kept (fun _ => False) W6 U → U.cell? ⟨b20, 0, none⟩ = some (.int .i64 kt) := fun U hk => ((R6.out.kept hk).c20).cells.1
          have ub1 : ∀ U, Kept (fun _ => False) W6 U → U.cell? ⟨b20, 1, none⟩ = some (.int .i64 ks) := fun U hk => ((R6.out.kept hk).c20).cells.2.1
          have ub2 : ∀ U, Kept (fun _ => False) W6 U → U.cell? ⟨b20, 2, none⟩ = some (.int .i64 kn) := fun U hk => ((R6.out.kept hk).c20).cells.2.2.1
          have ub3 : ∀ U, Kept (fun _ => False) W6 U → U.cell? ⟨b20, 3, none⟩ = some (.int .i64 kr) := fun U hk => ((R6.out.kept hk).c20).cells.2.2.2.1
          have ub4 : ∀ U, Kept (fun _ => False) W6 U → U.cell? ⟨b20, 4, none⟩ = some (.slice p2 LE.length d2) := fun U hk => ((R6.out.kept hk).c20).cells.2.2.2.2
          have ux0 : ∀ U, Kept (fun _ => False) W6 U → U.cell? ⟨b13, 0, none⟩ = some (.int .i64 ct) := fun U hk => ((R6.out.kept hk).c13).cells.1
          have ux1 : ∀ U, Kept (fun _ => False) W6 U → U.cell? ⟨b13, 1, none⟩ = some (.int .i64 cs) := fun U hk => ((R6.out.kept hk).c13).cells.2.1
          have ux2 : ∀ U, Kept (fun _ => False) W6 U → U.cell? ⟨b13, 2, none⟩ = some (.int .i64 cn) := fun U hk => ((R6.out.kept hk).c13).cells.2.2.1
          have ux3 : ∀ U, Kept (fun _ => False) W6 U → U.cell? ⟨b13, 3, none⟩ = some (.int .i64 cr) := fun U hk => ((R6.out.kept hk).c13).cells.2.2.2.1
          have ux4 : ∀ U, Kept (fun _ => False) W6 U → U.cell? ⟨b13, 4, none⟩ = some (.slice (some ⟨g1, 0, none⟩) ca.length cc1) := fun U hk => ((R6.out.kept hk).c13).cells.2.2.2.2
          have uc0 : ∀ U, Kept (fun _ => False) W6 U → U.cell? ⟨b5, 0, none⟩ = some (.int .i64 ct) := fun U hk => (C5.out.kept (R6.out.kept hk).k).cells.1
          have uc1 : ∀ U, Kept (fun _ => False) W6 U → U.cell? ⟨b5, 1, none⟩ = some (.int .i64 cs) := fun U hk => (C5.out.kept (R6.out.kept hk).k).cells.2.1
          have uc2 : ∀ U, Kept (fun _ => False) W6 U → U.cell? ⟨b5, 2, none⟩ = some (.int .i64 cn) := fun U hk => (C5.out.kept (R6.out.kept hk).k).cells.2.2.1
          have uc3 : ∀ U, Kept (fun _ => False) W6 U → U.cell? ⟨b5, 3, none⟩ = some (.int .i64 cr) := fun U hk => (C5.out.kept (R6.out.kept hk).k).cells.2.2.2.1
          have uc4 : ∀ U, Kept (fun _ => False) W6 U → U.cell? ⟨b5, 4, none⟩ = some (.slice p ca.length cap) := fun U hk => (C5.out.kept (R6.out.kept hk).k).cells.2.2.2.2
          refine wp_region_held_drew (S := Kept (fun _ => False) W6) (by kernel_rfl) (hs0) (fun hSd => ?_)
          refine Tks.out (l := [(0, some none), (1, some none), (2, some none), (3, some none), (4, some none), (5, some none), (6, some none), (7, some none), (8, some none), (9, some none), (10, some none)]) ?_
          iterate 11
           refine tkT (v := ?_) rfl (by kernel_rfl) (by kernel_rfl) (by kernel_rfl) (fun _ _ _ h => h) (Or.inl ⟨by kernel_rfl, fun W hSW => by go_simp; try with_reducible rfl⟩) (by assumption) ?_
           try simp only [List.getElem_toArray, List.getElem_cons_succ, List.getElem_cons_zero]
           try go_frame
          refine tkE ?_
          refine wpAnyH_ready (rs := [11]) (by kernel_rfl) (by simp) ?_
          refine AllReadyH.cons rfl (fun K hK => ?_) AllReadyH.nil
          go_simp
          refine (HSm.out _ _ _ (R6.out.kept hs0).q1 (R6.out.kept hs0).q2).mono ?_
          rintro e y1 ⟨rfl, hk⟩
          have hs1 : Kept (fun _ => False) W6 y1 := hs0.trans hk
          clear hk
          refine hK.out _ _ (hs1) (fun _ => ?_)
          clear hK K
          try simp only [List.getElem_toArray, List.getElem_cons_succ, List.getElem_cons_zero]
          try go_frame
          refine Tks.out (l := [(12, some none), (13, some none), (14, some none), (15, some none), (16, some none), (17, some none), (18, some none), (19, some none), (20, some none), (22, some none)]) ?_
          iterate 10
           refine tkT (v := ?_) rfl (by kernel_rfl) (by kernel_rfl) (by kernel_rfl) (fun _ _ _ h => h) (Or.inl ⟨by kernel_rfl, fun W hSW => by go_simp; try with_reducible rfl⟩) (by assumption) ?_
           try simp only [List.getElem_toArray, List.getElem_cons_succ, List.getElem_cons_zero]
           try go_frame
          refine tkE ?_
          refine wpAnyH_ready (rs := [21]) (by kernel_rfl) (by simp) ?_
          refine AllReadyH.cons rfl (fun K hK => ?_) AllReadyH.nil
          go_simp
          refine (HK1c.out _ _ _ (R6.out.kept hs1).m).mono ?_
          rintro e y2 ⟨rfl, hk⟩
          have hs2 : Kept (fun _ => False) W6 y2 := hs1.trans hk
          clear hk
          refine hK.out _ _ (hs2) (fun _ => ?_)
          clear hK K
          try simp only [List.getElem_toArray, List.getElem_cons_succ, List.getElem_cons_zero]
          try go_frame
          refine wpAnyH_ready (rs := [23]) (by kernel_rfl) (by simp) ?_
          refine AllReadyH.cons rfl (fun K hK => ?_) AllReadyH.nil
          go_simp
          refine (HK2c.out _ (HAt.out _ (T0.out.1.trans (R6.out.kept hs2).k))).mono ?_
          rintro e y3 ⟨rfl, hk⟩
          have hs3 : Kept (fun _ => False) W6 y3 := hs2.trans hk
          clear hk
          refine hK.out _ _ (hs3) (fun _ => ?_)
          clear hK K
          try simp only [List.getElem_toArray, List.getElem_cons_succ, List.getElem_cons_zero]
          try go_frame
          refine Tks.out (l := [(24, some none), (25, some none), (26, some none), (27, some none), (29, some none)]) ?_
          iterate 5
           refine tkT (v := ?_) rfl (by kernel_rfl) (by kernel_rfl) (by kernel_rfl) (fun _ _ _ h => h) (Or.inl ⟨by kernel_rfl, fun W hSW => by go_simp; try with_reducible rfl⟩) (by assumption) ?_
           try simp only [List.getElem_toArray, List.getElem_cons_succ, List.getElem_cons_zero]
           try go_frame
          refine tkE ?_
          refine wpAnyH_ready (rs := [28]) (by kernel_rfl) (by simp) ?_
          refine AllReadyH.cons rfl (fun K hK => ?_) AllReadyH.nil
          go_simp
          refine (HC1c.out _ _ _ (R6.out.kept hs3).m).mono ?_
          rintro e y4 ⟨rfl, hk⟩
          have hs4 : Kept (fun _ => False) W6 y4 := hs3.trans hk
          clear hk
          refine hK.out _ _ (hs4) (fun _ => ?_)
          clear hK K
          try simp only [List.getElem_toArray, List.getElem_cons_succ, List.getElem_cons_zero]
          try go_frame
          refine wpAnyH_ready (rs := [30]) (by kernel_rfl) (by simp) ?_
          refine AllReadyH.cons rfl (fun K hK => ?_) AllReadyH.nil
          go_simp
          refine (HC2c.out _ (HAt.out _ (T0.out.1.trans (R6.out.kept hs4).k))).mono ?_
          rintro e y5 ⟨rfl, hk⟩
          have hs5 : Kept (fun _ => False) W6 y5 := hs4.trans hk
          clear hk
          refine hK.out _ _ (hs5) (fun _ => ?_)
          clear hK K
          try simp only [List.getElem_toArray, List.getElem_cons_succ, List.getElem_cons_zero]
          try go_frame
          refine Tks.out (l := [(31, some none), (32, some none)]) ?_
          iterate 2
           refine tkT (v := ?_) rfl (by kernel_rfl) (by kernel_rfl) (by kernel_rfl) (fun _ _ _ h => h) (Or.inl ⟨by kernel_rfl, fun W hSW => by go_simp; try with_reducible rfl⟩) (by assumption) ?_
           try simp only [List.getElem_toArray, List.getElem_cons_succ, List.getElem_cons_zero]
           try go_frame
          refine tkE ?_
          refine wpAnyH_done (by kernel_rfl) ?_ _
          have R7 := hid (R6.out.kept hs5)
          have HB18a := hid (Nat.le_trans HB18.out hs5.size)
          clear hs0 hs1 hs2 hs3 hs4 hs5 R6 HB18 ua0 ua1 ua2 ua3 ua4 ub0 ub1 ub2 ub3 ub4 ux0 ux1 ux2 ux3 ux4 uc0 uc1 uc2 uc3 uc4 hSd
          go_upto_region 15 with fail
          as_aux_lemma =>
            have u4 : ∀ U, Kept (fun _ => False) y5 U → U.cell? ⟨b13, 4, none⟩ = some (.slice (some ⟨g1, 0, none⟩) ca.length cc1) := fun U hk => ((R7.out.kept hk).c13).cells.2.2.2.2
            have t0 : Kept (fun _ => False) y5 y5.drew := (Kept.refl (fun _ => False) y5).drew
            refine wp_region_held_drew (S := Kept (fun _ => False) y5) (by kernel_rfl) (t0) (fun hSd => ?_)
            refine Tks.out (l := [(0, some none), (2, some none), (3, some none), (4, some none)]) ?_
            iterate 4
             refine tkT (v := ?_) rfl (by kernel_rfl) (by kernel_rfl) (by kernel_rfl) (fun _ _ _ h => h) (Or.inl ⟨by kernel_rfl, fun W hSW => by go_simp; try with_reducible rfl⟩) (by assumption) ?_
             try simp only [List.getElem_toArray, List.getElem_cons_succ, List.getElem_cons_zero]
             try go_frame
            refine tkE ?_
            refine wpAnyH_ready (rs := [1]) (by kernel_rfl) (by simp) ?_
            refine AllReadyH.cons rfl (fun K hK => ?_) AllReadyH.nil
            go_simp
            refine (HN1.out _).mono ?_
            rintro e z1 ⟨vn, rfl, hn, hk⟩
            have hBn := own_ints hn
            obtain ⟨pn, dn, hvn⟩ := slice_of hBn
            subst hvn
            have t1 : Kept (fun _ => False) y5 z1 := t0.trans hk
            clear hk hn
            refine hK.out _ _ (t1) (fun _ => ?_)
            clear hK K
            try simp only [List.getElem_toArray, List.getElem_cons_succ, List.getElem_cons_zero]
            try go_frame
            refine wpAnyH_ready (rs := [5]) (by kernel_rfl) (by simp) ?_
            refine AllReadyH.cons rfl (fun K hK => ?_) AllReadyH.nil
            go_simp
            refine (HM1.out _ _ _ (R7.out.kept t1).m).mono ?_
            rintro e z2 ⟨vm, rfl, hm, hk2⟩
            have hBm := own_elA hm
            obtain ⟨pm, dm, hvm⟩ := slice_of hBm
            subst hvm
            have t2 : Kept (fun _ => False) y5 z2 := t1.trans hk2
            refine hK.out _ _ (t2) (fun _ => ?_)
            clear hK K
            try simp only [List.getElem_toArray, List.getElem_cons_succ, List.getElem_cons_zero]
            try go_frame
            refine Tks.out (l := [(6, some none), (7, some none)]) ?_
            iterate 2
             refine tkT (v := ?_) rfl (by kernel_rfl) (by kernel_rfl) (by kernel_rfl) (fun _ _ _ h => h) (Or.inl ⟨by kernel_rfl, fun W hSW => by go_simp; try with_reducible rfl⟩) (by assumption) ?_
             try simp only [List.getElem_toArray, List.getElem_cons_succ, List.getElem_cons_zero]
             try go_frame
            refine tkE ?_
            refine wpAnyH_done (by kernel_rfl) ?_ _
            have R8 := hid (R7.out.kept t2)
            have ON8 := hid (hBn.kept hk2)
            have OM8 := hid hBm
            have QM8 := hid (OwnAv.at hm)
            have HMb := hid (show b18 ≤ z1.heap.size from Nat.le_trans HB18a.out t1.size)
            have HNb := hid (show b13 ≤ y5.drew.heap.size from by rw [HB13.out]; exact Nat.le_trans R7.out.k.size t0.size)
            have HMlt := hid (show ∀ i, (Value.slice pm LM.length dm).ownBlock = some i → i < z2.heap.size from fun i hi => (BAvps.own_lt hBm hi).2)
            have HNlt := hid (show ∀ i, (Value.slice pn ns.length dn).ownBlock = some i → i < z2.heap.size from fun i hi => (BInts.own_lt (hBn.kept hk2) hi).2)
            have HZ := hid (show b18 ≤ z2.heap.size ∧ b13 ≤ z2.heap.size from ⟨Nat.le_trans HB18a.out t2.size, by rw [HB13.out]; exact (R7.out.kept t2).k.size⟩)
            generalize z1.heap.size = bm at *
            generalize y5.drew.heap.size = bn at *
            generalize hZ2 : z2.heap.size = bz at *
            clear hZ2 t0 t1 t2 hBn hBm hm hk2 R7 HB18a u4 hSd
            as_aux_lemma =>
              go_wp2_with fail
              refine (HN2.out _).mono ?_
              rintro e z3 ⟨vn2, rfl, hn2, hk⟩
              have ON2 := hid (own_ints hn2)
              obtain ⟨pn2, dn2, hvn2⟩ := slice_of ON2.out
              subst hvn2
              have R9 := hid (R8.out.kept hk)
              have ON9 := hid (ON8.out.kept hk)
              have OM9 := hid (OM8.out.kept hk)
              have QM9 := hid (RowsAt.kept0 QM8.out hk)
              clear hk hn2 R8 ON8 OM8 QM8
              go_wp2_with fail
              refine (HSI.out _ _ _ _ _ ON9.out ON2.out).mono ?_
              rintro e z4 ⟨rfl, hk⟩
              have R10 := hid (R9.out.kept hk)
              have ON10 := hid (ON9.out.kept hk)
              have OM10 := hid (OM9.out.kept hk)
              have QM10 := hid (RowsAt.kept0 QM9.out hk)
              clear hk R9 ON9 OM9 QM9 ON2
              have C10 := hid (C5.out.kept R10.out.k)
              obtain ⟨c0, c1, c2, c3, c4⟩ := C10.out.cells
              go_wp2_with fail
              refine (HM2.out _ (HAt.out _ (T0.out.1.trans R10.out.k))).mono ?_
              rintro e z5 ⟨vm2, rfl, hm2, hk⟩
              have QM2 := hid (OwnAv.at hm2)
              obtain ⟨pm2, dm2, hvm2⟩ := slice_of (own_elA hm2)
              subst hvm2
              have R11 := hid (R10.out.kept hk)
              have ON11 := hid (ON10.out.kept hk)
              have OM11 := hid (OM10.out.kept hk)
              have QM11 := hid (RowsAt.kept0 QM10.out hk)
              clear hk hm2 R10 ON10 OM10 QM10 C10 c0 c1 c2 c3 c4
              go_wp2_with fail
              refine (HSA.out _ _ _ QM11.out QM2.out).mono ?_
              rintro e z6 ⟨rfl, hk⟩
              have R12 := hid (R11.out.kept hk)
              have ON12 := hid (ON11.out.kept hk)
              have OM12 := hid (OM11.out.kept hk)
              clear hk R11 ON11 OM11 QM11 QM2
              have C12 := hid (C5.out.kept R12.out.k)
              obtain ⟨c0, c1, c2, c3, c4⟩ := C12.out.cells
              obtain ⟨e0, e1, e2, e3, e4⟩ := R12.out.c13.cells
              go_wp2_with fail
              refine (HSt.out _ _ _ R12.out.m (HAt.out _ (T0.out.1.trans R12.out.k))).mono ?_
              rintro e z7 ⟨rfl, hk⟩
              have R13 := hid (R12.out.kept hk)
              have ON13 := hid (ON12.out.kept hk)
              have OM13 := hid (OM12.out.kept hk)
              clear hk R12 ON12 OM12 C12 c0 c1 c2 c3 c4 e0 e1 e2 e3 e4
              have T13 := hid (T0.out.kept R13.out.k)
              have C13 := hid (C5.out.kept R13.out.k)
              have L13 := hid (L6.out.kept R13.out.k)
              obtain ⟨a0, a1, a2, a3, a4⟩ := R13.out.c18.cells
              as_aux_lemma =>
                go_wp2_with fail
                refine (T13.out.addB (R13.out.o1.mono HBp.out) (by omega) (by omega) b18 (Nat.le_trans HBp.out HBq.out) HLt.out).mono ?_
                rintro e z8 ⟨rfl, hT, hk⟩
                have T14 := hid hT
                have C14 := hid (C13.out.keptT hk)
                have L14 := hid (L13.out.keptT hk)
                have ON14 := hid (ownI_keptT ON13.out hk)
                have OM14 := hid (ownB_keptT OM13.out hk)
                clear hT hk a0 a1 a2 a3 a4 T13 C13 L13 ON13 OM13 R13
                go_wp2_with fail
                refine (T14.out.addB (OM14.out.mono HMb.out) (by omega) (by have := HLMl.out; omega) bz HZ.out.1 HMlt.out).mono ?_
                rintro e z9 ⟨rfl, hT, hk⟩
                have T15 := hid hT
                have C15 := hid (C14.out.keptT hk)
                have L15 := hid (L14.out.keptT hk)
                have ON15 := hid (ownI_keptT ON14.out hk)
                clear hT hk T14 C14 L14 ON14 OM14
                go_wp2_with fail
                refine (T15.out.addA (ON15.out.mono HNb.out) (by omega) (by omega) bz HZ.out.2 HNlt.out).mono ?_
                rintro e z10 ⟨rfl, hT, hk⟩
                have T16 := hid hT.top
                have C16 := hid (C15.out.keptT hk)
                have L16 := hid (L15.out.keptT hk)
                clear hT hk T15 C15 L15 ON15
                go_wp2
                exact ⟨⟨j + 1, by omega, by go_num, by rw [show 2 * (j + 1) = 2 * j + 1 + 1 by omega]; exact T16.out, C16.out, L16.out⟩, by simp [intOf]; omega⟩
    · obtain rfl : j = 2 := by omega
      have hj2z : ¬ ((2 : Nat) : Int) < 2 := by omega
      have T0 := hid HI.out.1
      have L0 := hid HI.out.2.2
      clear HI
      as_aux_lemma =>
        obtain ⟨d0, d1, d2, d3, d4, d5⟩ := L0.out.cells
        go_wp2_with fail
        refine (HL1.out _).mono ?_
        rintro e a1 ⟨rfl, hk⟩
        have T1 := hid (T0.out.kept hk)
        have L1 := hid (L0.out.kept hk)
        clear hk T0 L0 d0 d1 d2 d3 d4 d5
        obtain ⟨d0, d1, d2, d3, d4, d5⟩ := L1.out.cells
        go_wp2_with fail
        refine (HL2.out _).mono ?_
        rintro e a2 ⟨rfl, hk⟩
        have T2 := hid (T1.out.kept hk)
        clear hk T1 L1 d0 d1 d2 d3 d4 d5
        go_wp2_with fail
        refine (HX1.out _).mono ?_
        rintro e a3 ⟨rfl, hk⟩
        have kk := (Kept.refl (fun _ => False) a3).alloc (.cells #[.int .i64 jt, .int .i64 js, .bool jq, .int .i64 jn, .int .i64 jr, .string jx] 26)
        have T3 := hid ((T2.out.kept hk).kept kk)
        have D3 := hid (LdAt.new a3 jt js jq jn jr jx)
        clear hk kk T2
        go_upto_region 24 with fail
        generalize a3.alloc (.cells #[.int .i64 jt, .int .i64 js, .bool jq, .int .i64 jn, .int .i64 jr, .string jx] 26) = W3 at *
        generalize a3.heap.size = b28 at *
        go_wp2_with fail
        refine (HX2.out _).mono ?_
        rintro e a4 ⟨rfl, hk⟩
        have kk := (Kept.refl (fun _ => False) a4).alloc (.cells #[.int .i64 jt, .int .i64 js, .bool jq, .int .i64 jn, .int .i64 jr, .string jx] 26)
        have T4 := hid ((T3.out.kept hk).kept kk)
        have D4 := hid ((D3.out.kept hk).kept kk)
        have F4 := hid (LdAt.new a4 jt js jq jn jr jx)
        clear hk kk T3 D3
        go_upto_region 25 with fail
        generalize a4.alloc (.cells #[.int .i64 jt, .int .i64 js, .bool jq, .int .i64 jn, .int .i64 jr, .string jx] 26) = W4 at *
        generalize a4.heap.size = b30 at *
        as_aux_lemma =>
          go_wp2_with fail
          refine (HA.out _).mono ?_
          rintro e a5 ⟨rfl, hk⟩
          have T5 := hid (T4.out.kept hk)
          have D5 := hid (D4.out.kept hk)
          have F5 := hid (F4.out.kept hk)
          clear hk T4 D4 F4
          go_wp2_with fail
          refine (T5.out.apart (by omega) (by omega)).mono ?_
          rintro e a6 ⟨rfl, hk⟩
          have K6 := hid hk.1
          have D6 := hid (show LdAt a6 b28 jt js jq jn jr jx from hk.2 _ _ _ D5.out (by unfold BInts.tsK BAvps.tsK; decide))
          have F6 := hid (show LdAt a6 b30 jt js jq jn jr jx from hk.2 _ _ _ F5.out (by unfold BInts.tsK BAvps.tsK; decide))
          clear hk T5 D5 F5
          obtain ⟨d0, d1, d2, d3, d4, d5⟩ := D6.out.cells
          obtain ⟨f0, f1, f2, f3, f4, f5⟩ := F6.out.cells
          go_wp2_with fail
          refine (HI1.out _).mono ?_
          rintro e a7 ⟨rfl, hk⟩
          have K7 := hid (K6.out.trans hk)
          clear hk K6 D6 F6 d0 d1 d2 d3 d4 d5 f0 f1 f2 f3 f4 f5
          go_wp2_with fail
          refine (HI2.out _).mono ?_
          rintro e a8 ⟨rfl, hk⟩
          have K8 := hid (K7.out.trans hk)
          clear hk K7
          go_wp2
          go_ret
          exact ⟨rfl, K8.out⟩

theorem msgTells_walk (c : Ct) (u : Value) (l : Ld) (s b : ByteArray) (k : Int) (w : World) (_hc : CtNum c) (hI : AvsIn w u c.avps) (hn : LdNum l) (hx : l.data.size ≤ 140737488351232) (hs : s.size ≤ 140737488351232) (hm : b.size ≤ 140737488351232) (_hk : -9223372036854775808 ≤ k ∧ k ≤ 9223372036854775807) (hT : Tables w) :
    Calls Tryz.prog 3 #[ctV c u, ldV l, .string s, .string b, .int .i64 k] w fun e w' => e = .returned (.bool true) ∧ Below w.heap.size w w' := by
  refine (?_ : Calls Tryz.prog 3 #[ctV c u, ldV l, .string s, .string b, .int .i64 k] w fun e w' => e = .returned (.bool true) ∧ Kept (fun _ => False) w w').mono fun _ _ ⟨h1, h2⟩ => ⟨h1, below_of h2⟩
  obtain ⟨ct, cs, cn, cr, ca⟩ := c
  obtain ⟨lt, ls, lq, ln, lr, lx⟩ := l
  cases hl : lightA ca with
  | false => exact msgTells_heavy ct cs cn cr ca u lt ls lq ln lr lx s b k w hI hl
  | true =>
    by_cases hsum : 6000 < lx.size + b.size + s.size
    · exact msgTells_long ct cs cn cr ca u lt ls lq ln lr lx s b k w hI hl hx hs hm hsum
    · exact msgTells_in ct cs cn cr ca u lt ls lq ln lr lx s b k w hI hl (by omega) hn hT
end Go.Proofs.YtkneogfeokckjaaGreatDoor

namespace Go.Proofs.YtkneogfeokckjaaGreatDoor
open Go.RowKit

theorem gSines : Tryz.prog.globalNamed "tollgate/digest.sines" = some 0 := by kernel_rfl
theorem gSinesType : (Tryz.prog.globals[0]?).map (·.type) = some 255 := by kernel_rfl
theorem gTurns : Tryz.prog.globalNamed "tollgate/digest.turns" = some 1 := by kernel_rfl
theorem gTurnsType : (Tryz.prog.globals[1]?).map (·.type) = some 257 := by kernel_rfl
theorem cells27 : Tryz.prog.cellsOf 245 = 1 := by kernel_rfl
theorem cells3 : Tryz.prog.cellsOf 3 = 1 := by kernel_rfl
theorem cells64 : Tryz.prog.cellsOf 255 = 64 := by kernel_rfl
theorem cells4 : Tryz.prog.cellsOf 242 = 4 := by kernel_rfl
theorem cells44 : Tryz.prog.cellsOf 257 = 16 := by kernel_rfl

def turnsR : List (List Int) := [[7, 12, 17, 22], [5, 9, 14, 20], [4, 11, 16, 23], [6, 10, 15, 21]]
/-- An array of arrays of ints that reads as a list of lists holds it, row for row. -/
theorem rows_of_tab {w : World} {fuel : Nat} {cs : List Value} {p : List MemPlace}
    (h : DataW.trod (fun _ => ()) Tryz.prog w 0 (fun _ => true) false fuel 257 cs = some (.agg (turnsR.map (Lib.tabData .i64)), p)) (i : Nat) (hi : i < 4) :
    (cs.drop (i * 4)).take 4 = (turnsR.getD i []).map fun z => Value.int .i64 z := by
  cases fuel with
  | zero => simp [DataW.trod] at h
  | succ fuel =>
    simp only [DataW.trod, Tryz.underlying257, cells4, cells44] at h
    split at h
    · obtain ⟨xs, hm, hx⟩ := Option.map_eq_some_iff.1 h
      have hxs : xs.map (·.1) = turnsR.map (Lib.tabData .i64) := by
        have := congrArg Prod.fst hx
        simpa using this
      obtain ⟨b, hb, hf⟩ := Lib.mapM_at hm i i (by simp [hi])
      have h2 : (xs.map (·.1))[i]? = some b.1 := by simp [hb]
      rw [hxs] at h2
      have h3 : b.1 = Lib.tabData .i64 (turnsR.getD i []) := by
        rcases (show i = 0 ∨ i = 1 ∨ i = 2 ∨ i = 3 by omega) with rfl | rfl | rfl | rfl <;> exact (Option.some.inj h2).symm
      have h4 : DataW.trod (fun _ => ()) Tryz.prog w 0 (fun _ => true) false fuel 242 ((cs.drop (i * 4)).take 4) = some (Lib.tabData .i64 (turnsR.getD i []), b.2) := by rw [hf, ← h3]
      exact Lib.cells_of_tab Tryz.underlying242 Tryz.underlying3 cells3 cells4 h4
    · cases h

/-- From what a row lists to the two tables. -/
theorem tables_of {W : World} (h : laidMet Tryz.prog [("tollgate/digest.sines", Rows.laid_tollgate_digest_sines), ("tollgate/digest.turns", Rows.laid_tollgate_digest_turns)] W) : Tables W := by
  have h1 : Lib.TabIs Tryz.prog W "tollgate/digest.sines" .u32 (sinesL.map fun (n : Nat) => (n : Int)) := Lib.tabIs_of_head gSines gSinesType Tryz.underlying255 Tryz.underlying245 cells27 cells64 h
  obtain ⟨ps, ⟨g, t, cs, fuel, p, q, hg, ht, hvar, hd, _, _⟩, _⟩ := laidMet.tail h
  obtain rfl := Option.some.inj (gTurns.symm.trans hg)
  obtain rfl := Option.some.inj (gTurnsType.symm.trans ht)
  have hrow := rows_of_tab (cs := cs.toList) hd
  refine ⟨fun i hi => ?_, fun i hi => ?_⟩
  · have hc := h1.cell gSines i (by rw [List.length_map]; exact hi)
    rw [hc]
    congr 2
    unfold sineF
    rw [List.getD_eq_getElem?_getD, List.getD_eq_getElem?_getD, List.getElem?_map]
    have hl : i < sinesL.length := hi
    rw [List.getElem?_eq_getElem hl]
    rfl
  · rw [World.var?_cell gTurns hvar]
    have hq : i / 16 < 4 := by omega
    have hr : i % 4 < 4 := by omega
    have h2 := congrArg (fun l => l[i % 4]?) (hrow (i / 16) hq)
    simp only [List.getElem?_take, List.getElem?_drop, hr, if_true] at h2
    rw [← Array.getElem?_toList, h2]
    unfold turnF
    generalize i / 16 = a at hq
    generalize i % 4 = b at hr
    rcases (show a = 0 ∨ a = 1 ∨ a = 2 ∨ a = 3 by omega) with rfl | rfl | rfl | rfl <;> rcases (show b = 0 ∨ b = 1 ∨ b = 2 ∨ b = 3 by omega) with rfl | rfl | rfl | rfl <;> rfl

def laySines : Obj → Obj
  | .cells _ t frozen => .cells (sinesL.map fun (n : Nat) => Value.int .u32 (n : Int)).toArray t frozen
  | o => o
def layTurns : Obj → Obj
  | .cells _ t frozen => .cells (turnsL.map fun (n : Nat) => Value.int .i64 (n : Int)).toArray t frozen
  | o => o
/-- A world for the witness: the settled one, the two tables holding what their initialisers lay. -/
def laidOf (P : Program) (os : Os) : World :=
  { World.holding P os ⟨#[], #[], []⟩ with heap := ((World.holding P os ⟨#[], #[], []⟩).heap.modify 0 laySines).modify 1 layTurns }
end Go.Proofs.YtkneogfeokckjaaGreatDoor
