/- The contract of alive, of the laws of chapter 18. · How a list of values among the arguments is read; and what Mask and Unmask come to by the tables. · Rows of values of a call's own: one; 'append' of a list that is read; how they are read. · What the document's Mask and Unmask come to, as AvRefPut and AvRefGet want it. · The contracts of the book's SameAvps (of two lists that are alike), LentAvps, StaysAvps; rows of values as rows of the book's elements; the values that some bytes give are good ones. · The contract of the book's Tags: one list more. · The contract of the book's Tags: one list more. · What the walk of the law AvpTells leans on: a law's own book of lists of values, each of its own. · What the rows' lists give: the two tables' cells hold what the program's text lays; and a world for the witness. · The walk of the law AvpTells. -/
import Derived.Test.YtnghakhgogfemaaGreatDoorTlA
import Derived.Test.YtnghakhgogfemaaGreatDoorArgKit
import Derived.Test.YtnghakhgogfemaaGreatDoorAvEq
import Derived.Test.YtnghakhgogfemaaGreatDoorMask
import Derived.Test.YtnghakhgogfemaaGreatDoorTlC
import Derived.Test.YtnghakhgogfemaaGreatDoorRefMask
import Derived.Test.YtnghakhgogfemaaGreatDoorVaMark
import Derived.Test.YtnghakhgogfemaaGreatDoorVaGrow
import Derived.Deep.RegionHeld3
import Derived.Test.YtnghakhgogfemaaGreatDoorVaApart
import Derived.Test.YtnghakhgogfemaaGreatDoorRows
import Derived.Test.YtnghakhgogfemaaGreatDoorStir
import Derived.Lib.LaidTab
import Derived.Stop.LaidErr
import Derived.ProofKit
import Derived.Deep.DeepCutAuto
namespace Go.Proofs.YtnghakhgogfemaaGreatDoor
open Go.RowKit

def xa1 : Av := ⟨true, false, 0, 0, ⟨#[0, 1]⟩⟩
def xa2 : Av := ⟨false, true, 0, 0, ⟨#[]⟩⟩
theorem al1 : putAF [xa1] ⟨#[]⟩ = (⟨#[128, 8, 0, 0, 0, 0, 0, 1]⟩, 0) := by rfl
theorem al2 : putAF [xa2] ⟨#[115]⟩ = (⟨#[]⟩, 40) := by rfl
theorem al3 : getAF ⟨#[128, 5, 0, 0, 0, 0]⟩ ⟨#[]⟩ = ([], 4) := by rfl
theorem al4 : lengthF 5 = 8 := by rfl
theorem al5 : numV 258 2 = ⟨#[1, 2]⟩ := by rfl
theorem avs_one (W : World) (x : Av) : AvsAt (W.alloc (.cells #[.bool x.must, .bool x.hidden, .int .i64 x.vendor, .int .i64 x.type, .string x.value] 59)) (.slice (some ⟨W.heap.size, 0, none⟩) 1 1) [x] := by
  refine Or.inr ⟨W.heap.size, 0, 1, rfl, Nat.le_refl _, by unfold maxLen; omega, fun j y hj i u hu => ?_⟩
  obtain rfl : j = 0 := by have := (List.getElem?_eq_some_iff.1 hj).1; simp at this; omega
  simp at hj
  subst hj
  rw [Nat.zero_mul, Nat.add_zero, Nat.zero_add, cell_of_row _ _ _ _ _ _ (heap_alloc_new W _)]
  show (avCells x).toArray[i]? = some u
  rw [List.getElem?_toArray]
  exact hu

set_option maxHeartbeats 2000000 in
set_option maxRecDepth 100000 in
theorem aliveA_any (w : World) : Calls Tryz.prog 5 #[] w fun e w' => e = .returned (.bool true) ∧ Kept (fun _ => False) w w' := by
  have C1 := hid (fun W b (h : AvsAt W (.slice (some ⟨b, 0, none⟩) 1 1) [xa1]) => putA_few (.slice (some ⟨b, 0, none⟩) 1 1) [xa1] ⟨#[]⟩ W h (by decide) (by decide) (by intro x hx; simp at hx; subst hx; decide) (fun h => absurd rfl h))
  have C2 := hid (fun W b (h : AvsAt W (.slice (some ⟨b, 0, none⟩) 1 1) [xa2]) => putA_few (.slice (some ⟨b, 0, none⟩) 1 1) [xa2] ⟨#[115]⟩ W h (by decide) (by decide) (by intro x hx; simp at hx; subst hx; decide) (fun _ ⟨x, hx, hv⟩ => by simp at hx; subst hx; cases hv))
  have C3 := hid (fun W => getA_any ⟨#[128, 5, 0, 0, 0, 0]⟩ ⟨#[]⟩ (by decide) (by decide) W (fun h => absurd rfl h))
  have C4 := hid (length_any 5 ⟨by decide, by decide⟩)
  have C5 := hid (num_any 5 258 2 ⟨by decide, by decide⟩)
  rw [al1] at C1
  rw [al2] at C2
  rw [al3] at C3
  rw [al4] at C4
  rw [al5] at C5
  unfold avV at C5
  have A1 := hid (avs_one w xa1)
  have K1 := hid ((Kept.refl (fun _ => False) w).alloc (.cells #[.bool true, .bool false, .int .i64 0, .int .i64 0, .string ⟨#[0, 1]⟩] 59))
  have hfld : ∀ W, Sem.run Tryz.prog (Instr.field 59 (.agg #[.bool true, .bool false, .int .i64 0, .int .i64 5, .string ⟨#[1, 2]⟩]) 4) W = .ok (.string ⟨#[1, 2]⟩) W := fun W => by kernel_rfl
  go_enter Tryz.func5, Tryz.ntmps5
  go_wp2_with fail
  refine (C1.out _ _ A1.out).mono ?_
  rintro e w1 ⟨rfl, hk1⟩
  have HK1 := hid (K1.out.trans hk1)
  clear hk1 A1 K1 C1
  have A2 := hid (avs_one w1 xa2)
  have K2 := hid ((Kept.refl (fun _ => False) w1).alloc (.cells #[.bool false, .bool true, .int .i64 0, .int .i64 0, .string ⟨#[]⟩] 59))
  go_wp2_with fail
  refine (C2.out _ _ A2.out).mono ?_
  rintro e w2 ⟨rfl, hk2⟩
  have HK2 := hid (HK1.out.trans (K2.out.trans hk2))
  clear hk2 A2 K2 C2 HK1
  go_wp2_with fail
  refine (C3.out _).mono ?_
  rintro e w3 ⟨v3, rfl, hown3, hk3⟩
  have HK3 := hid (HK2.out.trans hk3)
  clear hk3 hown3 C3 HK2
  go_wp2_with fail
  refine (C4.out _).mono ?_
  rintro e w4 ⟨rfl, hk4⟩
  have HK4 := hid (HK3.out.trans hk4)
  clear hk4 C4 HK3
  go_wp2_with fail
  refine (C5.out _).mono ?_
  rintro e w5 ⟨rfl, hk5⟩
  have HK5 := hid (HK4.out.trans hk5)
  clear hk5 C5 HK4
  go_wp2
  go_ret
  exact ⟨rfl, HK5.out⟩
end Go.Proofs.YtnghakhgogfemaaGreatDoor

namespace Go.Proofs.YtnghakhgogfemaaGreatDoor
open Go.ChangeShapes Go.WideShapes Go.ChangeAt Go.RowKit Go.Joins

/-- A list of values, with all that is known of it. -/
structure AvsIn (W : World) (v : Value) (l : List Av) : Prop where
  at_ : AvsAt W v l
  len : l.length ≤ maxLen
  good : ∀ x ∈ l, GoodA x
  size : ∀ x ∈ l, x.value.size ≤ 140737488351232
theorem AvsIn.kept {W W' : World} {v : Value} {l : List Av} (h : AvsIn W v l) (hk : Kept (fun _ => False) W W') : AvsIn W' v l := ⟨RowsAt.kept0 h.at_ hk, h.len, h.good, h.size⟩

section
variable {H : Type} {enc : TypeId × Value → H} {w : World} {base : Nat} {spare : Nat → Bool} {held : Bool}

def RAv (x : Av) (d : DataW H) : Prop := ((-9223372036854775808 ≤ x.vendor ∧ x.vendor ≤ 9223372036854775807) ∧ (-9223372036854775808 ≤ x.type ∧ x.type ≤ 9223372036854775807)) ∧ ∃ z0 z1 z2 z3, d = .agg [z0, z1, z2, z3, .lit (.string x.value.data.toList)]

set_option maxRecDepth 100000 in
theorem each_av (n : Nat) (cs : List Value) (y : DataW H × List MemPlace) (hlen : cs.length = 5) (ht : DataW.trod enc Tryz.prog w base spare held n 59 cs = some y) : ∃ x : Av, cs = avCells x ∧ RAv x y.1 := by
  obtain ⟨xs, k, hk, hxy, _, hxl, hf⟩ := DataW.trod_struct Tryz.underlying59 ht
  match xs, hxl, cs, hlen with
  | [y0, y1, y2, y3, y4], _, [v0, v1, v2, v3, v4], _ =>
    have g0 := hf 0 _ rfl
    have g1 := hf 1 _ rfl
    have g2 := hf 2 _ rfl
    have g3 := hf 3 _ rfl
    have g4 := hf 4 _ rfl
    simp [cellsBoolV, cellsIntV, cellsStrV] at g0 g1 g2 g3 g4
    obtain ⟨b0, e0, _⟩ := DataW.trod_bool Tryz.underlying4 g0
    obtain ⟨b1, e1, _⟩ := DataW.trod_bool Tryz.underlying4 g1
    obtain ⟨i2, e2, _, w2⟩ := DataW.trod_int Tryz.underlying3 g2
    obtain ⟨i3, e3, _, w3⟩ := DataW.trod_int Tryz.underlying3 g3
    obtain ⟨x, e4, hy4, _⟩ := DataW.trod_string Tryz.underlying9 g4
    simp at e0 e1 e2 e3 e4
    subst e0 e1 e2 e3 e4
    refine ⟨⟨b0, b1, i2, i3, x⟩, rfl, ⟨bounds_i64 w2, bounds_i64 w3⟩, y0.1, y1.1, y2.1, y3.1, ?_⟩
    rw [hxy]
    simp [hy4]
set_option maxRecDepth 100000 in
theorem open_avps {r : Reach} {b0 : Nat} {v : Value} {d : DataW H} {p : List MemPlace} (hv : Value.okWide Tryz.prog w r b0 22 v) (h : DataW.Trod enc Tryz.prog w base spare held 22 v d p) (hw : Wt Tryz.prog 22 d) :
    ∃ l : List Av, AvsIn w v l := by
  obtain ⟨a, len, cap, rfl⟩ := okWide_slice Tryz.underlying22 hv
  obtain ⟨fuel, hf⟩ := h
  have hf' : DataW.trod enc Tryz.prog w base spare held fuel 22 [.slice a len cap] = some (d, p) := by simpa [Value.cells] using hf
  obtain ⟨l, h1, h2, h3, _⟩ := open_rows avCells RAv Tryz.underlying22 cellsAvp av0 (fun _ => by simp [avCells]) each_av hf'
  have hs : ∀ x ∈ l, ((-9223372036854775808 ≤ x.vendor ∧ x.vendor ≤ 9223372036854775807) ∧ (-9223372036854775808 ≤ x.type ∧ x.type ≤ 9223372036854775807)) ∧ x.value.size ≤ 140737488351232 := fun x hx => by
    obtain ⟨y, ⟨hb, z0, z1, z2, z3, rfl⟩, hwy⟩ := wt_list hw Tryz.underlying22 h3 x hx
    exact ⟨hb, wt_string (wt_field (j := 4) (d := .lit (.string x.value.data.toList)) hwy Tryz.underlying59 rfl rfl)⟩
  exact ⟨l, h1, h2, fun x hx => ⟨(hs x hx).1.1, (hs x hx).1.2, by have := (hs x hx).2; unfold maxLen; omega⟩, fun x hx => (hs x hx).2⟩
end

theorem Tables.kept {w W : World} (h : Tables w) (hk : Kept (fun _ => False) w W) : Tables W :=
  ⟨fun i hi => (hk.cell (lt_of_cell (h.1 i hi)) id).trans (h.1 i hi), fun i hi => (hk.cell (lt_of_cell (h.2 i hi)) id).trans (h.2 i hi)⟩
theorem maskAt_of {w : World} (h : Tables w) : MaskAt w := fun k s v x hs hv hx W hk => (mask_any k s v x (by omega) (by omega) (by omega) W (h.kept hk)).mono fun _ _ ⟨h1, h2⟩ => ⟨h1, kept_of h2⟩
theorem unmAt_of {w : World} (h : Tables w) : UnmAt w := fun k s v x hs hv hx W hk => (unmask_any k s v x (by omega) (by omega) (by omega) W (h.kept hk)).mono fun _ _ ⟨h1, h2⟩ => ⟨h1, kept_of h2⟩
end Go.Proofs.YtnghakhgogfemaaGreatDoor

namespace Go.Proofs.YtnghakhgogfemaaGreatDoor
open Go.RowKit

theorem tyAv : TyG Tryz.prog 22 59 5 (.agg #[.bool false, .bool false, .int .i64 0, .int .i64 0, .string ⟨#[]⟩]) 40 := ⟨Tryz.underlying22, infoAv, rfl, by decide⟩
theorem own_one_av (w : World) (x : Av) (base : Nat) (hb : base ≤ w.heap.size) : OwnAv (w.alloc (.cells #[.bool x.must, .bool x.hidden, .int .i64 x.vendor, .int .i64 x.type, .string x.value] 59)) base (.slice (some ⟨w.heap.size, 0, none⟩) 1 1) [x] :=
  ⟨rfl, Or.inr ⟨w.heap.size, 1, _, rfl, hb, heap_alloc_new w _, Nat.le_refl _, by unfold maxLen; omega, rfl, rfl⟩⟩
theorem own_two_av (w : World) (x y : Av) (base : Nat) (hb : base ≤ w.heap.size) : OwnAv (w.alloc (.cells #[.bool x.must, .bool x.hidden, .int .i64 x.vendor, .int .i64 x.type, .string x.value, .bool y.must, .bool y.hidden, .int .i64 y.vendor, .int .i64 y.type, .string y.value] 59)) base (.slice (some ⟨w.heap.size, 0, none⟩) 2 2) [x, y] :=
  ⟨rfl, Or.inr ⟨w.heap.size, 2, _, rfl, hb, heap_alloc_new w _, Nat.le_refl _, by unfold maxLen; omega, rfl, rfl⟩⟩
theorem OwnAv.at {w : World} {base : Nat} {v : Value} {l : List Av} (h : OwnAv w base v l) : AvsAt w v l := by
  by_cases hl : l = []
  · subst hl
    obtain ⟨p, cap, rfl⟩ := slice_of h
    exact Or.inl ⟨rfl, p, cap, rfl⟩
  · obtain ⟨g, cap, rfl, hb, h1, h2, hc, _⟩ := OwnG.lies h hl
    refine Or.inr ⟨g, 0, cap, rfl, h1, h2, fun j x hj i u hu => ?_⟩
    have hlt := (List.getElem?_eq_some_iff.1 hj).1
    have hi : i < 5 := (List.getElem?_eq_some_iff.1 hu).1
    rw [Nat.zero_add, hc _ (by omega), encAv.get hj i hi]
    exact hu
theorem AvsAt.src {w : World} {p : Option Addr} {n cap : Nat} {l : List Av} (h : AvsAt w (.slice p n cap) l) (hne : l ≠ []) : ∃ ad, p = some ad ∧ ∀ (j : Nat) (u : Value), (rowG avCells l)[j]? = some u → w.cell? (ad.add j) = some u := by
  rcases h with ⟨rfl, _⟩ | ⟨g, o, cap', e, h1, h2, hc⟩
  · exact absurd rfl hne
  · simp only [Value.slice.injEq] at e
    obtain ⟨rfl, rfl, rfl⟩ := e
    refine ⟨_, rfl, fun j u hu => ?_⟩
    have hj := (List.getElem?_eq_some_iff.1 hu).1
    rw [encAv.length] at hj
    obtain ⟨x, hx⟩ : ∃ x, l[j / 5]? = some x := ⟨l[j / 5]'(by omega), by simp⟩
    have e1 : (rowG avCells l)[j / 5 * 5 + j % 5]? = (avCells x)[j % 5]? := encAv.get hx (j % 5) (by omega)
    rw [show j / 5 * 5 + j % 5 = j by omega, hu] at e1
    have := hc (j / 5) x hx (j % 5) u e1.symm
    rw [add_none]
    rw [show o + j / 5 * 5 + j % 5 = o + j by omega] at this
    exact this
/-- The first k of a list that is read. -/
theorem AvsAt.take {w : World} {p : Option Addr} {n cap : Nat} {l : List Av} (h : AvsAt w (.slice p n cap) l) {k : Nat} (hk : k ≤ l.length) : AvsAt w (.slice p k cap) (l.take k) := by
  rcases h with ⟨rfl, _⟩ | ⟨g, o, cap', e, h1, h2, hc⟩
  · simp at hk
    subst hk
    exact Or.inl ⟨rfl, p, cap, rfl⟩
  · simp only [Value.slice.injEq] at e
    obtain ⟨rfl, rfl, rfl⟩ := e
    refine Or.inr ⟨g, o, cap, by rw [List.length_take, Nat.min_eq_left hk], by rw [List.length_take]; omega, h2, fun j x hj => ?_⟩
    have hlt := (List.getElem?_eq_some_iff.1 hj).1
    rw [List.length_take] at hlt
    rw [List.getElem?_take_of_lt (by omega)] at hj
    exact hc j x hj
end Go.Proofs.YtnghakhgogfemaaGreatDoor

namespace Go.Proofs.YtnghakhgogfemaaGreatDoor
open Go.RowKit

theorem refMaskAt_holds : RefMaskAt := fun k s v x hs hv hx W => (refMask_all k s v x (by omega) (by omega) (by omega) W).mono fun _ _ ⟨h1, h2⟩ => ⟨h1, kept_of h2⟩
theorem refUnmAt_holds : RefUnmAt := fun k s v x hs hv hx W => (refUnmask_all k s v x (by omega) (by omega) (by omega) W).mono fun _ _ ⟨h1, h2⟩ => ⟨h1, kept_of h2⟩
end Go.Proofs.YtnghakhgogfemaaGreatDoor

namespace Go.Proofs.YtnghakhgogfemaaGreatDoor
open Go.RowKit

/-! Values that were got. -/
theorem cutF_good (b : ByteArray) : GoodA (cutF b).1 := by
  have h2 := numAt_lt b 2
  have h4 := numAt_lt b 4
  have hs := cutF_size b
  refine ⟨?_, ?_, by unfold maxLen; omega⟩
  · unfold cutF
    split
    · exact ⟨by show (-9223372036854775808 : Int) ≤ 0; decide, by show (0 : Int) ≤ 9223372036854775807; decide⟩
    split
    · exact ⟨by show (-9223372036854775808 : Int) ≤ 0; decide, by show (0 : Int) ≤ 9223372036854775807; decide⟩
    split
    · exact ⟨by show (-9223372036854775808 : Int) ≤ 0; decide, by show (0 : Int) ≤ 9223372036854775807; decide⟩
    split
    · exact ⟨by show (-9223372036854775808 : Int) ≤ 0; decide, by show (0 : Int) ≤ 9223372036854775807; decide⟩
    · show -9223372036854775808 ≤ (numAt b 2 : Int) ∧ (numAt b 2 : Int) ≤ 9223372036854775807
      omega
  · unfold cutF
    split
    · exact ⟨by show (-9223372036854775808 : Int) ≤ 0; decide, by show (0 : Int) ≤ 9223372036854775807; decide⟩
    split
    · exact ⟨by show (-9223372036854775808 : Int) ≤ 0; decide, by show (0 : Int) ≤ 9223372036854775807; decide⟩
    split
    · exact ⟨by show (-9223372036854775808 : Int) ≤ 0; decide, by show (0 : Int) ≤ 9223372036854775807; decide⟩
    split
    · exact ⟨by show (-9223372036854775808 : Int) ≤ 0; decide, by show (0 : Int) ≤ 9223372036854775807; decide⟩
    · show -9223372036854775808 ≤ (numAt b 4 : Int) ∧ (numAt b 4 : Int) ≤ 9223372036854775807
      omega
theorem toldF_good {c : Cov} {x : Av} (h : GoodA x) (hs : x.value.size ≤ 1002) : GoodA (toldF c x).1 := by
  have hv := toldF_size (c := c) hs
  refine ⟨?_, ?_, by unfold maxLen; omega⟩
  · unfold toldF
    split
    · exact h.vendor
    · exact h.vendor
  · unfold toldF
    split
    · exact h.type
    · exact h.type
theorem getN_good (n : Nat) (b : ByteArray) (acc : List Av) (c : Cov) (h : ∀ x ∈ acc, GoodA x) (hl : acc.length ≤ 40) : (∀ x ∈ (getN n b acc c).1, GoodA x) ∧ (getN n b acc c).1.length ≤ 40 := by
  induction n generalizing b acc c with
  | zero => exact ⟨fun x hx => by simp [getN] at hx, by simp [getN]⟩
  | succ n ih =>
    unfold getN
    split
    · exact ⟨h, hl⟩
    split
    · split
      · exact ⟨fun x hx => by simp at hx, by simp⟩
      · split
        · refine ih _ _ _ (fun x hx => ?_) (by rw [List.length_append, List.length_singleton]; omega)
          rcases List.mem_append.1 hx with hx | hx
          · exact h x hx
          · rw [List.mem_singleton.1 hx]
            exact toldF_good (cutF_good b) (cutF_size b)
        · exact ⟨fun x hx => by simp at hx, by simp⟩
    · exact ⟨fun x hx => by simp at hx, by simp⟩
theorem getAF_good (b s : ByteArray) : (∀ x ∈ (getAF b s).1, GoodA x) ∧ (getAF b s).1.length ≤ 40 := getN_good _ b [] (cov0 s) (fun x hx => by simp at hx) (by simp)

/-! Lists of values as lists of the book. -/
theorem toElA {l : List Av} (h : ∀ x ∈ l, GoodA x) : ∃ L : List BAvps.El, L.map (·.1) = l := by
  induction l with
  | nil => exact ⟨[], rfl⟩
  | cons f l ih =>
    obtain ⟨L, hL⟩ := ih (fun x hx => h x (List.mem_cons_of_mem _ hx))
    exact ⟨⟨f, h f (List.mem_cons_self ..)⟩ :: L, by simp [hL]⟩
theorem rowA_map (L : List BAvps.El) : rowG avCells (L.map (·.1)) = BAvps.rowB L := by
  induction L with
  | nil => rfl
  | cons a r ih =>
    rw [BAvps.rowB_cons, ← ih]
    simp [rowG, BAvps.elCells]
theorem own_elA {W : World} {base : Nat} {v : Value} {L : List BAvps.El} (h : OwnAv W base v (L.map (·.1))) : BAvps.OwnB W base v L := by
  unfold OwnAv OwnG at h
  rw [rowA_map, List.length_map] at h
  exact h

/-! Lists that are lent. -/
def lentA : Av := ⟨false, false, 0, -77, ⟨#[]⟩⟩
/-- A list with one more, hidden, behind it. -/
def LentAv (W : World) (base g cap : Nat) (l : List Av) : Prop := OwnAv W base (.slice (some ⟨g, 0, none⟩) (l.length + 1) cap) (l ++ [lentA])
theorem LentAv.at_ {W : World} {base g cap : Nat} {l : List Av} (h : LentAv W base g cap l) : AvsAt W (.slice (some ⟨g, 0, none⟩) l.length cap) l := by
  have h1 := AvsAt.take (k := l.length) (OwnAv.at h) (by simp)
  rw [List.take_left] at h1
  exact h1
theorem LentAv.kept {W W' : World} {base g cap : Nat} {l : List Av} (h : LentAv W base g cap l) (hk : Kept (fun _ => False) W W') : LentAv W' base g cap l := OwnG.kept0 h hk
theorem LentAv.last {W : World} {base g cap : Nat} {l : List Av} (h : LentAv W base g cap l) : l.length + 1 ≤ cap ∧ cap ≤ maxLen ∧ W.cell? ⟨g, l.length * 5 + 3, none⟩ = some (.int .i64 (-77)) := by
  obtain ⟨g', e, _, _, h1, h2, hc, _⟩ := OwnG.at h encAv (j := l.length) (x := lentA) (by simp)
  simp only [Option.some.injEq, Addr.mk.injEq, and_true] at e
  subst e
  rw [List.length_append, List.length_singleton] at h1
  exact ⟨h1, h2, hc 3 _ rfl⟩

def lentCells : Array Value := #[.bool false, .bool false, .int .i64 0, .int .i64 (-77), .string ⟨#[]⟩]
theorem lent_run (p : Option Addr) (cp : Nat) (l : List Av) (w : World) (hv : AvsAt w (.slice p l.length cp) l) (hl : l.length ≤ 10000) :
    ∃ q n c w1 g cap w2, AppG Tryz.prog 22 w (.slice none 0 0) (.slice p l.length cp) (.slice q n c) w1 ∧ AppG Tryz.prog 22 (w1.alloc (.cells lentCells 59)) (.slice q n c) (.slice (some ⟨w1.heap.size, 0, none⟩) 1 1) (.slice (some ⟨g, 0, none⟩) (l.length + 1) cap) w2 ∧ LentAv w2 w.heap.size g cap l ∧ Kept (fun _ => False) w w2 ∧ l.length + 1 ≤ cap ∧ cap ≤ maxLen := by
  obtain ⟨u, w1, r1, o1, k0⟩ := OwnG.appendList tyAv encAv (OwnG.nil w w.heap.size) (Nat.le_refl _) p cp l (fun hne => AvsAt.src hv hne) (by simp; omega)
  rw [List.nil_append] at o1
  obtain ⟨q, c, hu⟩ := slice_of o1
  subst hu
  have k1 : Kept (fun _ => False) w w1 := k0.mono (fun i _ h => by cases h)
  have hs1 := k1.size
  have hc0 := cells_new w1 (avCells lentA) 59
  obtain ⟨v2, w2, r2, o2, g2⟩ := OwnG.append tyAv encAv (OwnAv.alloc o1 (.cells (avCells lentA).toArray 59)) (by simp; omega) ⟨w1.heap.size, 0, none⟩ 1 [lentA] (by simp) (by simpa [rowG] using hc0) (by simp; omega)
  have hk2 : Kept (fun _ => False) w w2 := (k1.alloc (.cells (avCells lentA).toArray 59)).andThen g2.kept (fun i hi e => by have := (OwnG.block o1 e).2.1; omega)
  obtain ⟨g, cap, rfl, _, c1, c2, _, _⟩ := OwnG.lies o2 (by simp)
  have e2 : (l ++ [lentA]).length = l.length + 1 := by simp
  rw [e2] at o2 r2 c1
  exact ⟨q, _, c, w1, g, cap, w2, r1, r2, o2, hk2, c1, c2⟩

set_option maxHeartbeats 1000000 in
set_option maxRecDepth 100000 in
theorem lentAvps_any (v : Value) (l : List Av) (w : World) (hv : AvsAt w v l) (hl : l.length ≤ 10000) :
    Calls Tryz.prog 6 #[v] w fun e w' => ∃ g cap, e = .returned (.slice (some ⟨g, 0, none⟩) l.length cap) ∧ LentAv w' w.heap.size g cap l ∧ Kept (fun _ => False) w w' := by
  obtain ⟨p, cp, rfl⟩ := RowsAt.slice hv
  obtain ⟨q, n, c, w1, g, cap, w2, r1, r2, o2, hk2, c1, c2⟩ := lent_run p cp l w hv hl
  have HL := hid o2
  have HK := hid hk2
  unfold lentCells AppG at r2
  unfold AppG at r1
  unfold maxLen at c2
  have hc1 : (l.length : Int) + 1 ≤ (cap : Int) := by omega
  clear hv o2 hk2
  go_enter Tryz.func6, Tryz.ntmps6
  go_wp2_with (first
    | (at_builtin; refine Lib.wpList_append_run _ rfl _ _ _ _ rfl _ _ rfl rfl _ _ (r1 _) ?_; clear r1)
    | (at_builtin; refine Lib.wpList_append_run _ rfl _ _ _ _ rfl _ _ rfl rfl _ _ (r2 _) ?_; clear r2))
  go_ret
  exact ⟨_, _, rfl, HL.out, HK.out⟩

set_option maxHeartbeats 4000000 in
set_option maxRecDepth 100000 in
theorem sameBk_any (v u : Value) (l : List Av) (w : World) (hv : AvsAt w v l) (hu : AvsAt w u l) (hl : l.length ≤ 1000000) (gl : ∀ x ∈ l, GoodA x) :
    Calls Tryz.prog 15 #[v, u] w fun e w' => e = .returned (.bool true) ∧ Kept (fun _ => False) w w' := by
  obtain ⟨p, cap, rfl⟩ := RowsAt.slice hv
  obtain ⟨q, cbp, rfl⟩ := RowsAt.slice hu
  have HV := hid (fun W (hk : Kept (fun _ => False) w W) => RowsAt.kept0 hv hk)
  have HU := hid (fun W (hk : Kept (fun _ => False) w W) => RowsAt.kept0 hu hk)
  have GL := hid gl
  clear hv hu gl
  go_enter Tryz.func15, Tryz.ntmps15
  go_wp2
  go_loopw [5] (fun vi wr => ∃ j : Nat, j ≤ l.length ∧ vi = .int .i64 (j : Int) ∧ Hid (Kept (fun _ => False) w wr)) (fun vi _ => l.length - (intOf vi).toNat)
  case atStart => exact ⟨0, Nat.zero_le _, rfl, Kept.refl _ _⟩
  case round =>
    obtain ⟨j, hj, rfl, HI⟩ := hrel
    by_cases hlt : j < l.length
    · have hltz : (j : Int) < (l.length : Int) := by omega
      obtain ⟨x, hx⟩ : ∃ x, l[j]? = some x := ⟨l[j], by simp [hlt]⟩
      have hq : ∀ W, Sem.run Tryz.prog (Op.equalIn 10000 59 (avV x) (avV x)) W = .ok true W := BAvps.av_self (GL.out x (List.mem_of_getElem? hx))
      obtain ⟨g, o, rfl, hcap, _⟩ := AvsAt.at5 (HV.out _ HI.out) hx
      obtain ⟨g2, o2, rfl, hcbp, _⟩ := AvsAt.at5 (HU.out _ HI.out) hx
      have A1 := hid (fun W (hk : Kept (fun _ => False) wr W) => AvsAt.at5 (HV.out W (HI.out.trans hk)) hx)
      have A2 := hid (fun W (hk : Kept (fun _ => False) wr W) => AvsAt.at5 (HU.out W (HI.out.trans hk)) hx)
      have c0 : ∀ W, Kept (fun _ => False) wr W → W.cell? ⟨g, o + j * 5, none⟩ = some (.bool x.must) := fun W hk => by
        obtain ⟨g', o', e', _, q⟩ := A1.out W hk
        simp only [Option.some.injEq, Addr.mk.injEq, and_true] at e'
        obtain ⟨rfl, rfl⟩ := e'
        exact q.1
      have c1 : ∀ W, Kept (fun _ => False) wr W → W.cell? ⟨g, o + j * 5 + 1, none⟩ = some (.bool x.hidden) := fun W hk => by
        obtain ⟨g', o', e', _, q⟩ := A1.out W hk
        simp only [Option.some.injEq, Addr.mk.injEq, and_true] at e'
        obtain ⟨rfl, rfl⟩ := e'
        exact q.2.1
      have c2 : ∀ W, Kept (fun _ => False) wr W → W.cell? ⟨g, o + j * 5 + 2, none⟩ = some (.int .i64 x.vendor) := fun W hk => by
        obtain ⟨g', o', e', _, q⟩ := A1.out W hk
        simp only [Option.some.injEq, Addr.mk.injEq, and_true] at e'
        obtain ⟨rfl, rfl⟩ := e'
        exact q.2.2.1
      have c3 : ∀ W, Kept (fun _ => False) wr W → W.cell? ⟨g, o + j * 5 + 3, none⟩ = some (.int .i64 x.type) := fun W hk => by
        obtain ⟨g', o', e', _, q⟩ := A1.out W hk
        simp only [Option.some.injEq, Addr.mk.injEq, and_true] at e'
        obtain ⟨rfl, rfl⟩ := e'
        exact q.2.2.2.1
      have c4 : ∀ W, Kept (fun _ => False) wr W → W.cell? ⟨g, o + j * 5 + 4, none⟩ = some (.string x.value) := fun W hk => by
        obtain ⟨g', o', e', _, q⟩ := A1.out W hk
        simp only [Option.some.injEq, Addr.mk.injEq, and_true] at e'
        obtain ⟨rfl, rfl⟩ := e'
        exact q.2.2.2.2
      have d0 : ∀ W, Kept (fun _ => False) wr W → W.cell? ⟨g2, o2 + j * 5, none⟩ = some (.bool x.must) := fun W hk => by
        obtain ⟨g', o', e', _, q⟩ := A2.out W hk
        simp only [Option.some.injEq, Addr.mk.injEq, and_true] at e'
        obtain ⟨rfl, rfl⟩ := e'
        exact q.1
      have d1 : ∀ W, Kept (fun _ => False) wr W → W.cell? ⟨g2, o2 + j * 5 + 1, none⟩ = some (.bool x.hidden) := fun W hk => by
        obtain ⟨g', o', e', _, q⟩ := A2.out W hk
        simp only [Option.some.injEq, Addr.mk.injEq, and_true] at e'
        obtain ⟨rfl, rfl⟩ := e'
        exact q.2.1
      have d2 : ∀ W, Kept (fun _ => False) wr W → W.cell? ⟨g2, o2 + j * 5 + 2, none⟩ = some (.int .i64 x.vendor) := fun W hk => by
        obtain ⟨g', o', e', _, q⟩ := A2.out W hk
        simp only [Option.some.injEq, Addr.mk.injEq, and_true] at e'
        obtain ⟨rfl, rfl⟩ := e'
        exact q.2.2.1
      have d3 : ∀ W, Kept (fun _ => False) wr W → W.cell? ⟨g2, o2 + j * 5 + 3, none⟩ = some (.int .i64 x.type) := fun W hk => by
        obtain ⟨g', o', e', _, q⟩ := A2.out W hk
        simp only [Option.some.injEq, Addr.mk.injEq, and_true] at e'
        obtain ⟨rfl, rfl⟩ := e'
        exact q.2.2.2.1
      have d4 : ∀ W, Kept (fun _ => False) wr W → W.cell? ⟨g2, o2 + j * 5 + 4, none⟩ = some (.string x.value) := fun W hk => by
        obtain ⟨g', o', e', _, q⟩ := A2.out W hk
        simp only [Option.some.injEq, Addr.mk.injEq, and_true] at e'
        obtain ⟨rfl, rfl⟩ := e'
        exact q.2.2.2.2
      have HK := hid HI.out.drew
      clear HI A1 A2 hx
      unfold avV at hq
      go_upto_region 6 with fail
      refine wp_region_held_drew (S := Kept (fun _ => False) wr) (by kernel_rfl) ((Kept.refl _ wr).drew) (fun hSd => ?_)
      refine wpAnyH_take (i := 0) (v := ?_) rfl (by kernel_rfl) (by kernel_rfl) (by kernel_rfl) (fun _ _ _ h => h) (Or.inl ⟨by kernel_rfl, fun W hSW => by go_simp; try with_reducible rfl⟩) (by assumption) ?_
      try simp only [List.getElem_toArray]
      try simp only [List.getElem_cons_succ]
      try simp only [List.getElem_cons_zero]
      try simp only [Act.put]
      try simp only [List.setIfInBounds_toArray]
      try simp only [List.set_cons_succ]
      try simp only [List.set_cons_zero]
      refine wpAnyH_take (i := 1) (v := ?_) rfl (by kernel_rfl) (by kernel_rfl) (by kernel_rfl) (fun _ _ _ h => h) (Or.inl ⟨by kernel_rfl, fun W hSW => by go_simp; try with_reducible rfl⟩) (by assumption) ?_
      try simp only [List.getElem_toArray]
      try simp only [List.getElem_cons_succ]
      try simp only [List.getElem_cons_zero]
      try simp only [Act.put]
      try simp only [List.setIfInBounds_toArray]
      try simp only [List.set_cons_succ]
      try simp only [List.set_cons_zero]
      refine wpAnyH_take (i := 2) (v := ?_) rfl (by kernel_rfl) (by kernel_rfl) (by kernel_rfl) (fun _ _ _ h => h) (Or.inl ⟨by kernel_rfl, fun W hSW => by go_simp; try with_reducible rfl⟩) (by assumption) ?_
      try simp only [List.getElem_toArray]
      try simp only [List.getElem_cons_succ]
      try simp only [List.getElem_cons_zero]
      try simp only [Act.put]
      try simp only [List.setIfInBounds_toArray]
      try simp only [List.set_cons_succ]
      try simp only [List.set_cons_zero]
      refine wpAnyH_take (i := 3) (v := ?_) rfl (by kernel_rfl) (by kernel_rfl) (by kernel_rfl) (fun _ _ _ h => h) (Or.inl ⟨by kernel_rfl, fun W hSW => by go_simp; try with_reducible rfl⟩) (by assumption) ?_
      try simp only [List.getElem_toArray]
      try simp only [List.getElem_cons_succ]
      try simp only [List.getElem_cons_zero]
      try simp only [Act.put]
      try simp only [List.setIfInBounds_toArray]
      try simp only [List.set_cons_succ]
      try simp only [List.set_cons_zero]
      refine wpAnyH_take (i := 4) (v := ?_) rfl (by kernel_rfl) (by kernel_rfl) (by kernel_rfl) (fun _ _ _ h => h) (Or.inl ⟨by kernel_rfl, fun W hSW => by go_simp; try with_reducible rfl⟩) (by assumption) ?_
      try simp only [List.getElem_toArray]
      try simp only [List.getElem_cons_succ]
      try simp only [List.getElem_cons_zero]
      try simp only [Act.put]
      try simp only [List.setIfInBounds_toArray]
      try simp only [List.set_cons_succ]
      try simp only [List.set_cons_zero]
      refine wpAnyH_take (i := 5) (v := ?_) rfl (by kernel_rfl) (by kernel_rfl) (by kernel_rfl) (fun _ _ _ h => h) (Or.inl ⟨by kernel_rfl, fun W hSW => by go_simp; try with_reducible rfl⟩) (by assumption) ?_
      try simp only [List.getElem_toArray]
      try simp only [List.getElem_cons_succ]
      try simp only [List.getElem_cons_zero]
      try simp only [Act.put]
      try simp only [List.setIfInBounds_toArray]
      try simp only [List.set_cons_succ]
      try simp only [List.set_cons_zero]
      refine wpAnyH_take (i := 6) (v := ?_) rfl (by kernel_rfl) (by kernel_rfl) (by kernel_rfl) (fun _ _ _ h => h) (Or.inl ⟨by kernel_rfl, fun W hSW => by go_simp; try with_reducible rfl⟩) (by assumption) ?_
      try simp only [List.getElem_toArray]
      try simp only [List.getElem_cons_succ]
      try simp only [List.getElem_cons_zero]
      try simp only [Act.put]
      try simp only [List.setIfInBounds_toArray]
      try simp only [List.set_cons_succ]
      try simp only [List.set_cons_zero]
      refine wpAnyH_take (i := 7) (v := ?_) rfl (by kernel_rfl) (by kernel_rfl) (by kernel_rfl) (fun _ _ _ h => h) (Or.inl ⟨by kernel_rfl, fun W hSW => by go_simp; try with_reducible rfl⟩) (by assumption) ?_
      try simp only [List.getElem_toArray]
      try simp only [List.getElem_cons_succ]
      try simp only [List.getElem_cons_zero]
      try simp only [Act.put]
      try simp only [List.setIfInBounds_toArray]
      try simp only [List.set_cons_succ]
      try simp only [List.set_cons_zero]
      refine wpAnyH_take (i := 8) (v := .bool true) rfl (by kernel_rfl) (by kernel_rfl) (by kernel_rfl) (fun _ _ _ h => h) (Or.inl ⟨by kernel_rfl, fun W _ => avOp_eql Tryz.eqGuardType59 rfl rfl rfl (hq W)⟩) (by assumption) ?_
      try simp only [List.getElem_toArray]
      try simp only [List.getElem_cons_succ]
      try simp only [List.getElem_cons_zero]
      try simp only [Act.put]
      try simp only [List.setIfInBounds_toArray]
      try simp only [List.set_cons_succ]
      try simp only [List.set_cons_zero]
      refine wpAnyH_take (i := 9) (v := ?_) rfl (by kernel_rfl) (by kernel_rfl) (by kernel_rfl) (fun _ _ _ h => h) (Or.inl ⟨by kernel_rfl, fun W hSW => by go_simp; try with_reducible rfl⟩) (by assumption) ?_
      try simp only [List.getElem_toArray]
      try simp only [List.getElem_cons_succ]
      try simp only [List.getElem_cons_zero]
      try simp only [Act.put]
      try simp only [List.setIfInBounds_toArray]
      try simp only [List.set_cons_succ]
      try simp only [List.set_cons_zero]
      refine wpAnyH_done (by kernel_rfl) ?_ _
      go_wp2
      exact ⟨⟨j + 1, hlt, by go_num, HK.out⟩, by simp [intOf]; omega⟩
    · obtain rfl : j = l.length := by omega
      have hltz : ¬ (l.length : Int) < (l.length : Int) := by omega
      go_wp2
      go_ret
      exact ⟨rfl, HI.out⟩

set_option maxHeartbeats 1000000 in
set_option maxRecDepth 100000 in
theorem staysAvps_any (g cap base : Nat) (v : Value) (l : List Av) (w : World) (hn : LentAv w base g cap l) (hv : AvsAt w v l) (gl : ∀ x ∈ l, GoodA x) (hl : l.length ≤ 10000) :
    Calls Tryz.prog 18 #[.slice (some ⟨g, 0, none⟩) l.length cap, v] w fun e w' => e = .returned (.bool true) ∧ Kept (fun _ => False) w w' := by
  have HS := hid (sameBk_any (.slice (some ⟨g, 0, none⟩) l.length cap) v l w hn.at_ hv (by omega) gl)
  obtain ⟨hc1, hc2, _⟩ := hn.last
  unfold maxLen at hc2
  have HN := hid hn
  clear hn hv gl
  go_enter Tryz.func18, Tryz.ntmps18
  go_wp2_with fail
  refine HS.out.mono ?_
  rintro e w1 ⟨rfl, hk1⟩
  obtain ⟨_, _, q1⟩ := (HN.out.kept hk1).last
  have K1 := hid hk1
  have hl1 : (l.length : Int) + 1 ≤ (cap : Int) := by omega
  clear hk1 HN
  go_wp2
  go_ret
  exact ⟨rfl, K1.out⟩
end Go.Proofs.YtnghakhgogfemaaGreatDoor

namespace Go.Proofs.YtnghakhgogfemaaGreatDoor.BAvps
open Go.RowKit

section
variable {X : Nat → Value} {W W' : World} {bk base : Nat} {v6 v7 : Value} {vs us : List Value} {Ls Ks : List (List El)}

/-- No row is the book's own block. -/
theorem BookP.far {n k : Nat} {e : TypeId} {x : Value} {xs : List Value} {b : Nat} (h : BookP X W bk base v6 v7 vs Ls) (hx : W.ownsRow b e k x n xs) (he : e ≠ 45) : x.ownBlock ≠ some bk := by
  intro h1
  rcases hx.2 with ⟨rfl, _⟩ | ⟨g, cap, cur, rfl, hb, hg, _⟩
  · cases h1
  · have : g = bk := by simpa [Value.ownBlock] using h1
    subst this
    rw [h.blk] at hg
    simp at hg
    exact he hg.2.symm

/-- A book in the midst of it. -/
structure Half (X : Nat → Value) (W : World) (bk base : Nat) (v6 v7 : Value) (vs us : List Value) (Ls Ks : List (List El)) : Prop where
  p : BookP X W bk base v6 v7 vs Ls
  r7 : RowS W base v7 us
  f7 : Fam W base us Ks
  ne : ¬ Shares v6 v7

theorem Half.kept0 (h : Half X W bk base v6 v7 vs us Ls Ks) (hk : Kept (fun _ => False) W W') : Half X W' bk base v6 v7 vs us Ls Ks :=
  ⟨h.p.kept0 hk, rowS_kept h.r7 hk (fun _ _ => id), h.f7.kept0 hk, h.ne⟩

/-- A cell of the book is written. -/
theorem half_set {i : Nat} {x v6' v7' : Value} (hb : W.heap[bk]? = some (.cells (bookCells X v6 v7) 45 (0, 0))) (hi : (bookCells X v6 v7).setIfInBounds i x = bookCells X v6' v7') (hlo : base ≤ bk)
    (r6 : RowS W base v6' vs) (f6 : Fam W base vs Ls) (a6 : Apart vs) (r7 : RowS W base v7' us) (f7 : Fam W base us Ks) (ne : ¬ Shares v6' v7') : Half X (W.setCell ⟨bk, i, none⟩ x) bk base v6' v7' vs us Ls Ks := by
  have hk : Kept (fun j => j = bk) W (W.setCell ⟨bk, i, none⟩ x) := (Kept.refl (fun j => j = bk) W).setCell (p := ⟨bk, i, none⟩) (Or.inr rfl) x
  have far : ∀ {n k b : Nat} {e : TypeId} {y : Value} {ys : List Value}, W.ownsRow b e k y n ys → e ≠ 45 → ∀ j, y.ownBlock = some j → ¬ j = bk := by
    intro n k b e y ys hy he j hj hjb
    subst hjb
    rcases hy.2 with ⟨rfl, _⟩ | ⟨g, cap, cur, rfl, _, hg, _⟩
    · cases hj
    · have : g = j := by simpa [Value.ownBlock] using hj
      subst this
      rw [hb] at hg
      simp at hg
      exact he hg.2.symm
  have b1 := Joins.block_setCell hb (i := i) x
  rw [hi] at b1
  refine ⟨⟨b1, rowS_kept r6 hk (far r6 (by decide)), f6.kept hk (fun r v j hv hj => ?_), a6, hlo⟩, rowS_kept r7 hk (far r7 (by decide)), f7.kept hk (fun r v j hv hj => ?_), ne⟩
  · obtain ⟨L, _, hL⟩ := f6.at hv
    exact far hL (by decide) j hj
  · obtain ⟨L, _, hL⟩ := f7.at hv
    exact far hL (by decide) j hj

theorem half6 (h : BookT X W bk base v6 v7 vs us Ls) {v v6' : Value} {L : List El} (hv : OwnB W base v L) (hnew : ∀ (r : Nat) (u : Value), vs[r]? = some u → ¬ Shares u v) (hg : Grew W W' v6 v6' vs.length 1) (hr : RowS W' base v6' (vs ++ [v])) :
    Half X (W'.setCell ⟨bk, 12, none⟩ v6') bk base v6' v7 (vs ++ [v]) us (Ls ++ [L]) Ls := by
  have hk := hg.kept
  have unl : ∀ {x : Value} {M : List El}, OwnB W base x M → ∀ i, x.ownBlock = some i → ¬ v6.ownBlock = some i := fun hx i hi e => owned_unlike hx h.p.r6 (by decide) i hi e
  refine half_set (v6 := v6) (v7 := v7) ((hk.block bk h.p.lt (fun e => h.p.far h.p.r6 (by decide) e)).trans h.p.blk) rfl h.p.lo hr ?_ (h.p.a6.snoc hnew) (rowS_kept h.r7 hk (fun i hi e => h.ne ⟨i, e, hi⟩)) (h.f7.kept hk (fun r x i hx hi => ?_)) (shares_symm (grew_far hg h.r7 (shares_symm h.ne)))
  · refine Fam.snoc (h.p.f6.kept hk (fun r x i hx hi => ?_)) (own_kept hv hk (unl hv))
    obtain ⟨M, _, hM⟩ := h.p.f6.at hx
    exact unl hM i hi
  · obtain ⟨M, _, hM⟩ := h.f7.at hx
    exact unl hM i hi

theorem half7 (h : Half X W bk base v6 v7 vs us Ls Ks) {u v7' : Value} {L : List El} (hu : OwnB W base u L) (hg : Grew W W' v7 v7' us.length 1) (hr : RowS W' base v7' (us ++ [u])) (hL : Ls = Ks ++ [L]) :
    BookT X (W'.setCell ⟨bk, 13, none⟩ v7') bk base v6 v7' vs (us ++ [u]) Ls := by
  have hk := hg.kept
  have unl : ∀ {x : Value} {M : List El}, OwnB W base x M → ∀ i, x.ownBlock = some i → ¬ v7.ownBlock = some i := fun hx i hi e => owned_unlike hx h.r7 (by decide) i hi e
  have R : Half X (W'.setCell ⟨bk, 13, none⟩ v7') bk base v6 v7' vs (us ++ [u]) Ls (Ks ++ [L]) := by
    refine half_set (v6 := v6) (v7 := v7) ((hk.block bk h.p.lt (fun e => h.p.far h.r7 (by decide) e)).trans h.p.blk) rfl h.p.lo (rowS_kept h.p.r6 hk (fun i hi e => h.ne ⟨i, hi, e⟩)) (h.p.f6.kept hk (fun r x i hx hi => ?_)) h.p.a6 hr ?_ (grew_far hg h.p.r6 h.ne)
    · obtain ⟨M, _, hM⟩ := h.p.f6.at hx
      exact unl hM i hi
    · refine Fam.snoc (h.f7.kept hk (fun r x i hx hi => ?_)) (own_kept hu hk (unl hu))
      obtain ⟨M, _, hM⟩ := h.f7.at hx
      exact unl hM i hi
  rw [← hL] at R
  exact ⟨R.p, R.r7, R.f7, R.ne⟩

/-- Behind the copy. -/
def Copied (X : Nat → Value) (W0 : World) (S : Nat → Prop) (bk base : Nat) (v6 v7 : Value) (vs us : List Value) (Ls Ks : List (List El)) (u : Value) (L : List El) (W : World) : Prop := Half X W bk base v6 v7 vs us Ls Ks ∧ OwnB W base u L ∧ Kept S W0 W ∧ base ≤ W.heap.size ∧ ∀ i, u.ownBlock = some i → W0.heap.size ≤ i

theorem copied_app {W0 : World} {S : Nat → Prop} {u : Value} {L : List El} (hS7 : ∀ i, v7.ownBlock = some i → S i) (hSb : S bk) (h : Copied X W0 S bk base v6 v7 vs us Ls Ks u L W) (hL : Ls = Ks ++ [L]) (hn : us.length ≤ 250) :
    ∃ p c w4, AppS (W.alloc (.cells #[u] 22)) v7 (.slice (some ⟨W.heap.size, 0, none⟩) 1 1) (.slice p (us.length + 1) c) w4 ∧ w4.cell? ⟨bk, 13, none⟩ = some v7 ∧ w4.frozen? ⟨bk, 13, none⟩ = false ∧
      BookT X (w4.setCell ⟨bk, 13, none⟩ (.slice p (us.length + 1) c)) bk base v6 (.slice p (us.length + 1) c) vs (us ++ [u]) Ls ∧ Kept S W0 (w4.setCell ⟨bk, 13, none⟩ (.slice p (us.length + 1) c)) ∧ ∀ i, u.ownBlock = some i → W0.heap.size ≤ i := by
  obtain ⟨hH, hu, hB, hb, hfr⟩ := h
  obtain ⟨v7', w4, h1, h2, h3⟩ := rowS_app hH.r7 hb (own_oneCell hu) (by omega)
  have hk1 : Kept (fun _ => False) W (W.alloc (.cells #[u] 22)) := (Kept.refl _ _).alloc _
  have hH1 := hH.kept0 hk1
  have R := half7 hH1 (hu.kept hk1) h3 h2 hL
  have hblk := (h3.kept.block bk hH1.p.lt (fun e => hH1.p.far hH1.r7 (by decide) e)).trans hH1.p.blk
  have hBw : Kept S W0 w4 := (hB.trans (hk1.mono (fun _ _ h => h.elim))).trans (h3.kept.mono (fun i _ hi => hS7 i hi))
  obtain ⟨p, c, e⟩ := slice_of h2
  rw [List.length_append, List.length_singleton] at e
  subst e
  exact ⟨p, c, w4, h1, by simp [World.cell?, hblk, bookCells], frozen_of_row _ bk 13 _ _ hblk, R, hBw.setCell (p := ⟨bk, 13, none⟩) (Or.inr hSb) _, hfr⟩

end
end Go.Proofs.YtnghakhgogfemaaGreatDoor.BAvps

namespace Go.Proofs.YtnghakhgogfemaaGreatDoor.BAvps
open Go.RowKit
section
variable {X : Nat → Value} {W W' : World} {bk base : Nat} {v6 v7 : Value} {vs us : List Value} {Ls Ks : List (List El)}
set_option maxHeartbeats 4000000 in
set_option maxRecDepth 100000 in
theorem bookAvps_any (h : BookT X W bk base v6 v7 vs us Ls) (hb : base ≤ W.heap.size) (h250 : vs.length < 250) {v : Value} {L : List El} (hv : OwnB W base v L) (hnew : ∀ (r : Nat) (u : Value), vs[r]? = some u → ¬ Shares u v) (hLn : L.length ≤ 1000) :
    Calls Tryz.prog 19 #[.pointer (some ⟨bk, 0, none⟩), v] W fun e w' => e = .returned (.tuple #[]) ∧ ∃ v6' v7' u, BookT X w' bk base v6' v7' (vs ++ [v]) (us ++ [u]) (Ls ++ [L]) ∧ Kept (Bo bk v6 v7) W w' ∧ ∀ i, u.ownBlock = some i → W.heap.size ≤ i := by
  have hul : us.length ≤ 250 := by have h1 := h.f7.len; have h2 := h.p.f6.len; omega
  obtain ⟨p6, cap6, rfl⟩ := rowS_slice h.p.r6
  obtain ⟨pv, cv, rfl⟩ := slice_of hv
  obtain ⟨v6', w1, hs, hr, hg⟩ := rowS_app h.p.r6 hb (own_oneCell hv) (by omega)
  have hk0 : Kept (fun _ => False) W (W.alloc (.cells #[.slice pv L.length cv] 22)) := (Kept.refl _ _).alloc _
  have h0 := h.kept0 hk0
  have hH := half6 h0 (hv.kept hk0) hnew hg hr
  have hblk := (hg.kept.block bk h0.p.lt (fun e => h0.p.far h0.p.r6 (by decide) e)).trans h0.p.blk
  have c6 := h.p.c6
  have c60 := h0.p.c6
  have d6 : w1.cell? ⟨bk, 12, none⟩ = some (.slice p6 vs.length cap6) := by simp [World.cell?, hblk, bookCells]
  have f6 : w1.frozen? ⟨bk, 12, none⟩ = false := frozen_of_row _ bk 12 _ _ hblk
  have hB1 : Kept (Bo bk (.slice p6 vs.length cap6) v7) W w1 := (hk0.mono (fun _ _ h => h.elim)).trans (hg.kept.mono (fun i _ hi => Or.inr (Or.inl hi)))
  have hBH := hB1.setCell (p := ⟨bk, 12, none⟩) (Or.inr (Or.inl rfl)) v6'
  have hbH : base ≤ (w1.setCell ⟨bk, 12, none⟩ v6').heap.size := Nat.le_trans hb hBH.size
  have hov : OwnB (w1.setCell ⟨bk, 12, none⟩ v6') base (.slice pv L.length cv) L := hH.p.f6.own vs.length _ L (by simp) (by rw [h.p.f6.len]; simp)
  obtain ⟨p6', c6', e6⟩ := slice_of hr
  rw [List.length_append, List.length_singleton] at e6
  subst e6
  have c7 := hH.p.c7
  have f7 := hH.p.frozen 13
  obtain ⟨p7, cap7, e7⟩ := rowS_slice hH.r7
  subst e7
  have hltz : (vs.length : Int) < 250 := by omega
  have HC : Hid (∀ W', Kept (fun _ => False) (w1.setCell ⟨bk, 12, none⟩ (.slice p6' (vs.length + 1) c6')) W' → Calls Tryz.prog 35 #[.slice pv L.length cv] W' fun e w' => ∃ pu cu, e = .returned (.slice pu L.length cu) ∧ Copied X W (Bo bk (.slice p6 vs.length cap6) (.slice p7 us.length cap7)) bk base (.slice p6' (vs.length + 1) c6') (.slice p7 us.length cap7) (vs ++ [.slice pv L.length cv]) us (Ls ++ [L]) Ls (.slice pu L.length cu) L w') := fun W' hk => by
    refine (copyAvps_any (.slice pv L.length cv) L W' (hov.kept hk).tags (by omega)).mono ?_
    rintro e w' ⟨u, rfl, ho, hk2⟩
    obtain ⟨pu, cu, rfl⟩ := slice_of ho
    exact ⟨pu, cu, rfl, hH.kept0 (hk.trans hk2), ho.mono (Nat.le_trans hbH hk.size), hBH.trans ((hk.trans hk2).mono (fun _ _ h => h.elim)), Nat.le_trans hbH (hk.trans hk2).size, fun i hi => Nat.le_trans (Nat.le_trans hBH.size hk.size) (own_lt ho hi).1⟩
  have HA := hid (fun W' u (hc : Copied X W (Bo bk (.slice p6 vs.length cap6) (.slice p7 us.length cap7)) bk base (.slice p6' (vs.length + 1) c6') (.slice p7 us.length cap7) (vs ++ [.slice pv L.length cv]) us (Ls ++ [L]) Ls u L W') => copied_app (S := Bo bk (.slice p6 vs.length cap6) (.slice p7 us.length cap7)) (fun i hi => Or.inr (Or.inr hi)) (Or.inl rfl) hc rfl hul)
  have D0 : Kept (fun _ => False) (w1.setCell ⟨bk, 12, none⟩ (.slice p6' (vs.length + 1) c6')) (w1.setCell ⟨bk, 12, none⟩ (.slice p6' (vs.length + 1) c6')).drew := (Kept.refl _ _).drew
  have HS : Hid (∀ W', Kept (fun _ => False) (w1.setCell ⟨bk, 12, none⟩ (.slice p6' (vs.length + 1) c6')) W' → W'.cell? ⟨bk, 13, none⟩ = some (.slice p7 us.length cap7) ∧ W'.frozen? ⟨bk, 13, none⟩ = false) := fun W' hk => ⟨(hH.kept0 hk).p.c7, (hH.kept0 hk).p.frozen 13⟩
  have HSc : Hid (∀ W' u o, Copied X W (Bo bk (.slice p6 vs.length cap6) (.slice p7 us.length cap7)) bk base (.slice p6' (vs.length + 1) c6') (.slice p7 us.length cap7) (vs ++ [.slice pv L.length cv]) us (Ls ++ [L]) Ls u L W' → (W'.cell? ⟨bk, 13, none⟩ = some (.slice p7 us.length cap7) ∧ W'.frozen? ⟨bk, 13, none⟩ = false) ∧ ((W'.alloc o).cell? ⟨bk, 13, none⟩ = some (.slice p7 us.length cap7) ∧ (W'.alloc o).frozen? ⟨bk, 13, none⟩ = false)) := fun W' u o hc => ⟨⟨hc.1.p.c7, hc.1.p.frozen 13⟩, (hc.1.kept0 ((Kept.refl _ _).alloc o)).p.c7, (hc.1.kept0 ((Kept.refl _ _).alloc o)).p.frozen 13⟩
  clear h h0 hH hov hg hr hv hnew hblk hB1 hBH hk0
  go_enter Tryz.func19, Tryz.ntmps19
  go_wp2_with (at_builtin; refine Lib.wpList_append_run _ rfl _ _ _ _ rfl _ _ rfl rfl _ _ (hs _) ?_)
  clear hs c6 c60
  have c7d := (HS.out _ D0).1
  have f7d := (HS.out _ D0).2
  refine wp_region_noPanic ?_
  refine wp_region_held_drew (S := fun _ => True) (by kernel_rfl) trivial (fun _ => ?_)
  refine wpAnyH_take (i := 0) (v := ?_) rfl (by kernel_rfl) (by kernel_rfl) (by kernel_rfl) (fun _ _ _ h => h) (Or.inl ⟨by kernel_rfl, fun W hSW => by go_simp; try with_reducible rfl⟩) trivial ?_
  try simp only [List.getElem_toArray]
  try simp only [List.getElem_cons_succ]
  try simp only [List.getElem_cons_zero]
  try simp only [Act.put]
  try simp only [List.setIfInBounds_toArray]
  try simp only [List.set_cons_succ]
  try simp only [List.set_cons_zero]
  refine wpAnyH_take (i := 1) (v := ?_) rfl (by kernel_rfl) (by kernel_rfl) (by kernel_rfl) (fun _ _ _ h => h) (Or.inl ⟨by kernel_rfl, fun W hSW => by go_simp; try with_reducible rfl⟩) trivial ?_
  try simp only [List.getElem_toArray]
  try simp only [List.getElem_cons_succ]
  try simp only [List.getElem_cons_zero]
  try simp only [Act.put]
  try simp only [List.setIfInBounds_toArray]
  try simp only [List.set_cons_succ]
  try simp only [List.set_cons_zero]
  refine wpAnyH_take (i := 2) (v := ?_) rfl (by kernel_rfl) (by kernel_rfl) (by kernel_rfl) (fun _ _ _ h => h) (Or.inl ⟨by kernel_rfl, fun W hSW => by go_simp; try with_reducible rfl⟩) trivial ?_
  try simp only [List.getElem_toArray]
  try simp only [List.getElem_cons_succ]
  try simp only [List.getElem_cons_zero]
  try simp only [Act.put]
  try simp only [List.setIfInBounds_toArray]
  try simp only [List.set_cons_succ]
  try simp only [List.set_cons_zero]
  refine wpAnyH_take (i := 3) (v := ?_) rfl (by kernel_rfl) (by kernel_rfl) (by kernel_rfl) (fun _ _ _ h => h) (Or.inl ⟨by kernel_rfl, fun W hSW => by go_simp; try with_reducible rfl⟩) trivial ?_
  try simp only [List.getElem_toArray]
  try simp only [List.getElem_cons_succ]
  try simp only [List.getElem_cons_zero]
  try simp only [Act.put]
  try simp only [List.setIfInBounds_toArray]
  try simp only [List.set_cons_succ]
  try simp only [List.set_cons_zero]
  refine wpAnyH_take (i := 5) (v := ?_) rfl (by kernel_rfl) (by kernel_rfl) (by kernel_rfl) (fun _ _ _ h => h) (Or.inl ⟨by kernel_rfl, fun W hSW => by go_simp; try with_reducible rfl⟩) trivial ?_
  try simp only [List.getElem_toArray]
  try simp only [List.getElem_cons_succ]
  try simp only [List.getElem_cons_zero]
  try simp only [Act.put]
  try simp only [List.setIfInBounds_toArray]
  try simp only [List.set_cons_succ]
  try simp only [List.set_cons_zero]
  refine wpAnyH_ready (rs := [4, 6]) (by kernel_rfl) (by simp) ?_
  refine AllReadyH.cons rfl (fun K hK => ?_) (AllReadyH.cons rfl (fun K hK => ?_) AllReadyH.nil)
  · go_simp
    refine hK.out _ _ trivial (fun _ => ?_)
    clear hK K
    try simp only [List.getElem_toArray]
    try simp only [List.getElem_cons_succ]
    try simp only [List.getElem_cons_zero]
    try simp only [Act.put]
    try simp only [List.setIfInBounds_toArray]
    try simp only [List.set_cons_succ]
    try simp only [List.set_cons_zero]
    refine wpAnyH_ready (rs := [6]) (by kernel_rfl) (by simp) ?_
    refine AllReadyH.cons rfl (fun K hK => ?_) AllReadyH.nil
    go_simp
    refine (HC.out _ D0).mono ?_
    rintro e w3 ⟨pu, cu, rfl, hc3⟩
    have q3 := hc3.1.p.c7
    have q3a := fun o => (HSc.out _ _ o hc3).2.1
    refine hK.out _ _ trivial (fun _ => ?_)
    clear hK K
    try simp only [List.getElem_toArray]
    try simp only [List.getElem_cons_succ]
    try simp only [List.getElem_cons_zero]
    try simp only [Act.put]
    try simp only [List.setIfInBounds_toArray]
    try simp only [List.set_cons_succ]
    try simp only [List.set_cons_zero]
    refine wpAnyH_ready (rs := [7]) (by kernel_rfl) (by simp) ?_
    refine AllReadyH.cons rfl (fun K hK => ?_) AllReadyH.nil
    go_simp
    refine hK.out _ _ trivial (fun _ => ?_)
    clear hK K
    try simp only [List.getElem_toArray]
    try simp only [List.getElem_cons_succ]
    try simp only [List.getElem_cons_zero]
    try simp only [Act.put]
    try simp only [List.setIfInBounds_toArray]
    try simp only [List.set_cons_succ]
    try simp only [List.set_cons_zero]
    refine wpAnyH_ready (rs := [8]) (by kernel_rfl) (by simp) ?_
    refine AllReadyH.cons rfl (fun K hK => ?_) AllReadyH.nil
    obtain ⟨p4, c4, w4, hs4, q7, qf, hB4, hbel, hfr⟩ := HA.out _ _ hc3
    refine stepB_append rfl (.tmp 24) (.tmp 27) 32 rfl (.slice p7 us.length cap7) (.slice (some ⟨w3.heap.size, 0, none⟩) 1 1) rfl rfl (hs4 _) ?_
    refine hK.out _ _ trivial (fun _ => ?_)
    clear hK K
    try simp only [List.getElem_toArray]
    try simp only [List.getElem_cons_succ]
    try simp only [List.getElem_cons_zero]
    try simp only [Act.put]
    try simp only [List.setIfInBounds_toArray]
    try simp only [List.set_cons_succ]
    try simp only [List.set_cons_zero]
    refine wpAnyH_take (i := 9) (v := ?_) rfl (by kernel_rfl) (by kernel_rfl) (by kernel_rfl) (fun _ _ _ h => h) (Or.inl ⟨by kernel_rfl, fun W hSW => by go_simp; try with_reducible rfl⟩) trivial ?_
    try simp only [List.getElem_toArray]
    try simp only [List.getElem_cons_succ]
    try simp only [List.getElem_cons_zero]
    try simp only [Act.put]
    try simp only [List.setIfInBounds_toArray]
    try simp only [List.set_cons_succ]
    try simp only [List.set_cons_zero]
    refine wpAnyH_take (i := 10) (v := ?_) rfl (by kernel_rfl) (by kernel_rfl) (by kernel_rfl) (fun _ _ _ h => h) (Or.inl ⟨by kernel_rfl, fun W hSW => by go_simp; try with_reducible rfl⟩) trivial ?_
    try simp only [List.getElem_toArray]
    try simp only [List.getElem_cons_succ]
    try simp only [List.getElem_cons_zero]
    try simp only [Act.put]
    try simp only [List.setIfInBounds_toArray]
    try simp only [List.set_cons_succ]
    try simp only [List.set_cons_zero]
    refine wpAnyH_ready (rs := [11]) (by kernel_rfl) (by simp) ?_
    refine AllReadyH.cons rfl (fun K hK => ?_) AllReadyH.nil
    go_simp
    refine hK.out _ _ trivial (fun _ => ?_)
    clear hK K
    try simp only [List.getElem_toArray]
    try simp only [List.getElem_cons_succ]
    try simp only [List.getElem_cons_zero]
    try simp only [Act.put]
    try simp only [List.setIfInBounds_toArray]
    try simp only [List.set_cons_succ]
    try simp only [List.set_cons_zero]
    refine wpAnyH_done (by kernel_rfl) ?_ _
    refine NoPanic.normal ?_
    go_wp2
    go_end0
    exact ⟨rfl, _, _, _, hB4, hbel, hfr⟩
  · go_simp
    refine (HC.out _ D0).mono ?_
    rintro e w3 ⟨pu, cu, rfl, hc3⟩
    have q3 := hc3.1.p.c7
    have q3a := fun o => (HSc.out _ _ o hc3).2.1
    refine hK.out _ _ trivial (fun _ => ?_)
    clear hK K
    try simp only [List.getElem_toArray]
    try simp only [List.getElem_cons_succ]
    try simp only [List.getElem_cons_zero]
    try simp only [Act.put]
    try simp only [List.setIfInBounds_toArray]
    try simp only [List.set_cons_succ]
    try simp only [List.set_cons_zero]
    refine wpAnyH_ready (rs := [4, 7]) (by kernel_rfl) (by simp) ?_
    refine AllReadyH.cons rfl (fun K hK => ?_) (AllReadyH.cons rfl (fun K hK => ?_) AllReadyH.nil)
    · go_simp
      refine hK.out _ _ trivial (fun _ => ?_)
      clear hK K
      try simp only [List.getElem_toArray]
      try simp only [List.getElem_cons_succ]
      try simp only [List.getElem_cons_zero]
      try simp only [Act.put]
      try simp only [List.setIfInBounds_toArray]
      try simp only [List.set_cons_succ]
      try simp only [List.set_cons_zero]
      refine wpAnyH_ready (rs := [7]) (by kernel_rfl) (by simp) ?_
      refine AllReadyH.cons rfl (fun K hK => ?_) AllReadyH.nil
      go_simp
      refine hK.out _ _ trivial (fun _ => ?_)
      clear hK K
      try simp only [List.getElem_toArray]
      try simp only [List.getElem_cons_succ]
      try simp only [List.getElem_cons_zero]
      try simp only [Act.put]
      try simp only [List.setIfInBounds_toArray]
      try simp only [List.set_cons_succ]
      try simp only [List.set_cons_zero]
      refine wpAnyH_ready (rs := [8]) (by kernel_rfl) (by simp) ?_
      refine AllReadyH.cons rfl (fun K hK => ?_) AllReadyH.nil
      obtain ⟨p4, c4, w4, hs4, q7, qf, hB4, hbel, hfr⟩ := HA.out _ _ hc3
      refine stepB_append rfl (.tmp 24) (.tmp 27) 32 rfl (.slice p7 us.length cap7) (.slice (some ⟨w3.heap.size, 0, none⟩) 1 1) rfl rfl (hs4 _) ?_
      refine hK.out _ _ trivial (fun _ => ?_)
      clear hK K
      try simp only [List.getElem_toArray]
      try simp only [List.getElem_cons_succ]
      try simp only [List.getElem_cons_zero]
      try simp only [Act.put]
      try simp only [List.setIfInBounds_toArray]
      try simp only [List.set_cons_succ]
      try simp only [List.set_cons_zero]
      refine wpAnyH_take (i := 9) (v := ?_) rfl (by kernel_rfl) (by kernel_rfl) (by kernel_rfl) (fun _ _ _ h => h) (Or.inl ⟨by kernel_rfl, fun W hSW => by go_simp; try with_reducible rfl⟩) trivial ?_
      try simp only [List.getElem_toArray]
      try simp only [List.getElem_cons_succ]
      try simp only [List.getElem_cons_zero]
      try simp only [Act.put]
      try simp only [List.setIfInBounds_toArray]
      try simp only [List.set_cons_succ]
      try simp only [List.set_cons_zero]
      refine wpAnyH_take (i := 10) (v := ?_) rfl (by kernel_rfl) (by kernel_rfl) (by kernel_rfl) (fun _ _ _ h => h) (Or.inl ⟨by kernel_rfl, fun W hSW => by go_simp; try with_reducible rfl⟩) trivial ?_
      try simp only [List.getElem_toArray]
      try simp only [List.getElem_cons_succ]
      try simp only [List.getElem_cons_zero]
      try simp only [Act.put]
      try simp only [List.setIfInBounds_toArray]
      try simp only [List.set_cons_succ]
      try simp only [List.set_cons_zero]
      refine wpAnyH_ready (rs := [11]) (by kernel_rfl) (by simp) ?_
      refine AllReadyH.cons rfl (fun K hK => ?_) AllReadyH.nil
      go_simp
      refine hK.out _ _ trivial (fun _ => ?_)
      clear hK K
      try simp only [List.getElem_toArray]
      try simp only [List.getElem_cons_succ]
      try simp only [List.getElem_cons_zero]
      try simp only [Act.put]
      try simp only [List.setIfInBounds_toArray]
      try simp only [List.set_cons_succ]
      try simp only [List.set_cons_zero]
      refine wpAnyH_done (by kernel_rfl) ?_ _
      refine NoPanic.normal ?_
      go_wp2
      go_end0
      exact ⟨rfl, _, _, _, hB4, hbel, hfr⟩
    · go_simp
      refine hK.out _ _ trivial (fun _ => ?_)
      clear hK K
      try simp only [List.getElem_toArray]
      try simp only [List.getElem_cons_succ]
      try simp only [List.getElem_cons_zero]
      try simp only [Act.put]
      try simp only [List.setIfInBounds_toArray]
      try simp only [List.set_cons_succ]
      try simp only [List.set_cons_zero]
      refine wpAnyH_ready (rs := [4]) (by kernel_rfl) (by simp) ?_
      refine AllReadyH.cons rfl (fun K hK => ?_) AllReadyH.nil
      go_simp
      refine hK.out _ _ trivial (fun _ => ?_)
      clear hK K
      try simp only [List.getElem_toArray]
      try simp only [List.getElem_cons_succ]
      try simp only [List.getElem_cons_zero]
      try simp only [Act.put]
      try simp only [List.setIfInBounds_toArray]
      try simp only [List.set_cons_succ]
      try simp only [List.set_cons_zero]
      refine wpAnyH_ready (rs := [8]) (by kernel_rfl) (by simp) ?_
      refine AllReadyH.cons rfl (fun K hK => ?_) AllReadyH.nil
      obtain ⟨p4, c4, w4, hs4, q7, qf, hB4, hbel, hfr⟩ := HA.out _ _ hc3
      refine stepB_append rfl (.tmp 24) (.tmp 27) 32 rfl (.slice p7 us.length cap7) (.slice (some ⟨w3.heap.size, 0, none⟩) 1 1) rfl rfl (hs4 _) ?_
      refine hK.out _ _ trivial (fun _ => ?_)
      clear hK K
      try simp only [List.getElem_toArray]
      try simp only [List.getElem_cons_succ]
      try simp only [List.getElem_cons_zero]
      try simp only [Act.put]
      try simp only [List.setIfInBounds_toArray]
      try simp only [List.set_cons_succ]
      try simp only [List.set_cons_zero]
      refine wpAnyH_take (i := 9) (v := ?_) rfl (by kernel_rfl) (by kernel_rfl) (by kernel_rfl) (fun _ _ _ h => h) (Or.inl ⟨by kernel_rfl, fun W hSW => by go_simp; try with_reducible rfl⟩) trivial ?_
      try simp only [List.getElem_toArray]
      try simp only [List.getElem_cons_succ]
      try simp only [List.getElem_cons_zero]
      try simp only [Act.put]
      try simp only [List.setIfInBounds_toArray]
      try simp only [List.set_cons_succ]
      try simp only [List.set_cons_zero]
      refine wpAnyH_take (i := 10) (v := ?_) rfl (by kernel_rfl) (by kernel_rfl) (by kernel_rfl) (fun _ _ _ h => h) (Or.inl ⟨by kernel_rfl, fun W hSW => by go_simp; try with_reducible rfl⟩) trivial ?_
      try simp only [List.getElem_toArray]
      try simp only [List.getElem_cons_succ]
      try simp only [List.getElem_cons_zero]
      try simp only [Act.put]
      try simp only [List.setIfInBounds_toArray]
      try simp only [List.set_cons_succ]
      try simp only [List.set_cons_zero]
      refine wpAnyH_ready (rs := [11]) (by kernel_rfl) (by simp) ?_
      refine AllReadyH.cons rfl (fun K hK => ?_) AllReadyH.nil
      go_simp
      refine hK.out _ _ trivial (fun _ => ?_)
      clear hK K
      try simp only [List.getElem_toArray]
      try simp only [List.getElem_cons_succ]
      try simp only [List.getElem_cons_zero]
      try simp only [Act.put]
      try simp only [List.setIfInBounds_toArray]
      try simp only [List.set_cons_succ]
      try simp only [List.set_cons_zero]
      refine wpAnyH_done (by kernel_rfl) ?_ _
      refine NoPanic.normal ?_
      go_wp2
      go_end0
      exact ⟨rfl, _, _, _, hB4, hbel, hfr⟩
end
end Go.Proofs.YtnghakhgogfemaaGreatDoor.BAvps

namespace Go.Proofs.YtnghakhgogfemaaGreatDoor
open Go.RowKit
open BAvps (El OwnB noX bookCells)

theorem book_newA (w : World) (base : Nat) (hb : base ≤ w.heap.size) :
    BAvps.BookT noX (w.alloc (.cells (bookCells noX (.slice none 0 0) (.slice none 0 0)) 45)) w.heap.size base (.slice none 0 0) (.slice none 0 0) [] [] [] :=
  ⟨⟨heap_alloc_new w _, World.ownsRow_nil _ _ _ _, ⟨rfl, fun r v L h => by simp at h⟩, fun r q u v h => by simp at h, hb⟩, World.ownsRow_nil _ _ _ _, ⟨rfl, fun r v L h => by simp at h⟩, fun ⟨g, h, _⟩ => by simp [Value.ownBlock] at h⟩
theorem wpList_bookA {ops : Array Oper} {rest : List Oper} {o : Oper} {a : Act} {w : World} {Q : Exit → Act → World → Prop} {BC : Array Value} (hBC : bookCells noX (.slice none 0 0) (.slice none 0 0) = BC) (hg : o.guard = none) (ho : o.op = .build 45 #[])
    (h : wpList Tryz.prog ops Q rest (a.put o.dst (.agg BC)) w) : wpList Tryz.prog ops Q (o :: rest) a w := by
  refine wpList_build hg 45 #[] ho (by kernel_rfl) ?_
  have e : (Tryz.prog.built 45 ((#[] : Array (Nat × Operand)).map fun (i, x) => (i, a.eval x)).toList).getD #[] = bookCells noX (.slice none 0 0) (.slice none 0 0) := by kernel_rfl
  rw [e, hBC]
  exact h

/-- A law's own book, made behind w: it holds Ls. -/
def TA (w : World) (bk : Nat) (Ls : List (List El)) (W : World) : Prop := Kept (fun _ => False) w W ∧ (∀ L ∈ Ls, L.length ≤ 1000) ∧ ∃ v6 v7 vs us, BAvps.BookT noX W bk w.heap.size v6 v7 vs us Ls
/-- And a list that is in none of its lists. -/
def TAV (w : World) (bk : Nat) (Ls : List (List El)) (v : Value) (L : List El) (W : World) : Prop := Kept (fun _ => False) w W ∧ (∀ L ∈ Ls, L.length ≤ 1000) ∧ ∃ v6 v7 vs us, BAvps.BookT noX W bk w.heap.size v6 v7 vs us Ls ∧ OwnB W w.heap.size v L ∧ ∀ (r : Nat) (u : Value), vs[r]? = some u → ¬ Shares u v
section
variable {w W W' : World} {bk : Nat} {Ls : List (List El)} {v : Value} {L : List El}
theorem TA.new (hk : Kept (fun _ => False) w W) : TA w W.heap.size [] (W.alloc (.cells (bookCells noX (.slice none 0 0) (.slice none 0 0)) 45)) :=
  ⟨hk.alloc _, fun L h => by simp at h, _, _, _, _, book_newA W w.heap.size hk.size⟩
theorem TA.kept (h : TA w bk Ls W) (hk : Kept (fun _ => False) W W') : TA w bk Ls W' := by
  obtain ⟨h1, h2, v6, v7, vs, us, hB⟩ := h
  exact ⟨h1.trans hk, h2, v6, v7, vs, us, hB.kept0 hk⟩
theorem TAV.kept (h : TAV w bk Ls v L W) (hk : Kept (fun _ => False) W W') : TAV w bk Ls v L W' := by
  obtain ⟨h1, h2, v6, v7, vs, us, hB, ho, hs⟩ := h
  exact ⟨h1.trans hk, h2, v6, v7, vs, us, hB.kept0 hk, ho.kept hk, hs⟩
theorem TAV.out (h : TAV w bk Ls v L W) : Kept (fun _ => False) w W := h.1
theorem TAV.own (h : TAV w bk Ls v L W) : OwnB W w.heap.size v L := by
  obtain ⟨_, _, _, _, _, _, _, ho, _⟩ := h
  exact ho
/-- A list that a call has made. -/
theorem TA.got (h : TA w bk Ls W) (hk : Kept (fun _ => False) W W') (ho : OwnB W' W.heap.size v L) : TAV w bk Ls v L W' := by
  obtain ⟨h1, h2, v6, v7, vs, us, hB⟩ := h
  refine ⟨h1.trans hk, h2, v6, v7, vs, us, hB.kept0 hk, ho.mono h1.size, fun r u hu hs => ?_⟩
  obtain ⟨g, g1, g2⟩ := hs
  obtain ⟨M, _, hM⟩ := hB.p.f6.at hu
  have a1 := (BAvps.own_lt hM g1).2
  have a2 := (BAvps.own_lt ho g2).1
  omega
/-- The book keeps it. -/
theorem TAV.add (h : TAV w bk Ls v L W) (hn : Ls.length < 250) (hL : L.length ≤ 1000) :
    Calls Tryz.prog 19 #[.pointer (some ⟨bk, 0, none⟩), v] W fun e w' => e = .returned (.tuple #[]) ∧ TA w bk (Ls ++ [L]) w' := by
  obtain ⟨h1, h2, v6, v7, vs, us, hB, ho, hs⟩ := h
  refine (BAvps.bookAvps_any hB h1.size (by rw [hB.p.f6.len]; exact hn) ho hs hL).mono ?_
  rintro e w' ⟨rfl, v6', v7', u, hB', hk, _⟩
  refine ⟨rfl, h1.andThen hk (fun i hi hb => ?_), fun M hM => ?_, v6', v7', _, _, hB'⟩
  · rcases hb with rfl | hb | hb
    · exact absurd hB.p.lo (by omega)
    · have := (World.ownsRow.lt hB.p.r6 i hb).1
      omega
    · have := (World.ownsRow.lt hB.r7 i hb).1
      omega
  · rcases List.mem_append.1 hM with hM | hM
    · exact h2 M hM
    · rw [List.mem_singleton.1 hM]
      exact hL
theorem TA.apart (h : TA w bk Ls W) (hn : Ls.length ≤ 250) :
    Calls Tryz.prog 20 #[.pointer (some ⟨bk, 0, none⟩)] W fun e w' => e = .returned (.bool true) ∧ Kept (fun _ => False) w w' := by
  obtain ⟨h1, h2, v6, v7, vs, us, hB⟩ := h
  refine (BAvps.apart_Avps hB h1.size h2 (by rw [hB.p.f6.len]; exact hn)).mono ?_
  rintro e w' ⟨rfl, hb⟩
  exact ⟨rfl, kept_of ((h1.below (Nat.le_refl _) (fun _ h => h.elim)).trans hb)⟩
end
end Go.Proofs.YtnghakhgogfemaaGreatDoor

namespace Go.Proofs.YtnghakhgogfemaaGreatDoor
open Go.RowKit

theorem gSines : Tryz.prog.globalNamed "tollgate/digest.sines" = some 0 := by kernel_rfl
theorem gSinesType : (Tryz.prog.globals[0]?).map (·.type) = some 234 := by kernel_rfl
theorem gTurns : Tryz.prog.globalNamed "tollgate/digest.turns" = some 1 := by kernel_rfl
theorem gTurnsType : (Tryz.prog.globals[1]?).map (·.type) = some 236 := by kernel_rfl
theorem cells27 : Tryz.prog.cellsOf 224 = 1 := by kernel_rfl
theorem cells3 : Tryz.prog.cellsOf 3 = 1 := by kernel_rfl
theorem cells64 : Tryz.prog.cellsOf 234 = 64 := by kernel_rfl
theorem cells4 : Tryz.prog.cellsOf 221 = 4 := by kernel_rfl
theorem cells44 : Tryz.prog.cellsOf 236 = 16 := by kernel_rfl

def turnsR : List (List Int) := [[7, 12, 17, 22], [5, 9, 14, 20], [4, 11, 16, 23], [6, 10, 15, 21]]
/-- An array of arrays of ints that reads as a list of lists holds it, row for row. -/
theorem rows_of_tab {w : World} {fuel : Nat} {cs : List Value} {p : List MemPlace}
    (h : DataW.trod (fun _ => ()) Tryz.prog w 0 (fun _ => true) false fuel 236 cs = some (.agg (turnsR.map (Lib.tabData .i64)), p)) (i : Nat) (hi : i < 4) :
    (cs.drop (i * 4)).take 4 = (turnsR.getD i []).map fun z => Value.int .i64 z := by
  cases fuel with
  | zero => simp [DataW.trod] at h
  | succ fuel =>
    simp only [DataW.trod, Tryz.underlying236, cells4, cells44] at h
    split at h
    · obtain ⟨xs, hm, hx⟩ := Option.map_eq_some_iff.1 h
      have hxs : xs.map (·.1) = turnsR.map (Lib.tabData .i64) := by
        have := congrArg Prod.fst hx
        simpa using this
      obtain ⟨b, hb, hf⟩ := Lib.mapM_at hm i i (by simp [hi])
      have h2 : (xs.map (·.1))[i]? = some b.1 := by simp [hb]
      rw [hxs] at h2
      have h3 : b.1 = Lib.tabData .i64 (turnsR.getD i []) := by
        rcases (show i = 0 ∨ i = 1 ∨ i = 2 ∨ i = 3 by omega) with rfl | rfl | rfl | rfl <;> exact (Option.some.inj h2).symm
      have h4 : DataW.trod (fun _ => ()) Tryz.prog w 0 (fun _ => true) false fuel 221 ((cs.drop (i * 4)).take 4) = some (Lib.tabData .i64 (turnsR.getD i []), b.2) := by rw [hf, ← h3]
      exact Lib.cells_of_tab Tryz.underlying221 Tryz.underlying3 cells3 cells4 h4
    · cases h

/-- From what a row lists to the two tables. -/
theorem tables_of {W : World} (h : laidMet Tryz.prog [("tollgate/digest.sines", Rows.laid_tollgate_digest_sines), ("tollgate/digest.turns", Rows.laid_tollgate_digest_turns)] W) : Tables W := by
  have h1 : Lib.TabIs Tryz.prog W "tollgate/digest.sines" .u32 (sinesL.map fun (n : Nat) => (n : Int)) := Lib.tabIs_of_head gSines gSinesType Tryz.underlying234 Tryz.underlying224 cells27 cells64 h
  obtain ⟨ps, ⟨g, t, cs, fuel, p, q, hg, ht, hvar, hd, _, _⟩, _⟩ := laidMet.tail h
  obtain rfl := Option.some.inj (gTurns.symm.trans hg)
  obtain rfl := Option.some.inj (gTurnsType.symm.trans ht)
  have hrow := rows_of_tab (cs := cs.toList) hd
  refine ⟨fun i hi => ?_, fun i hi => ?_⟩
  · have hc := h1.cell gSines i (by rw [List.length_map]; exact hi)
    rw [hc]
    congr 2
    unfold sineF
    rw [List.getD_eq_getElem?_getD, List.getD_eq_getElem?_getD, List.getElem?_map]
    have hl : i < sinesL.length := hi
    rw [List.getElem?_eq_getElem hl]
    rfl
  · rw [World.var?_cell gTurns hvar]
    have hq : i / 16 < 4 := by omega
    have hr : i % 4 < 4 := by omega
    have h2 := congrArg (fun l => l[i % 4]?) (hrow (i / 16) hq)
    simp only [List.getElem?_take, List.getElem?_drop, hr, if_true] at h2
    rw [← Array.getElem?_toList, h2]
    unfold turnF
    generalize i / 16 = a at hq
    generalize i % 4 = b at hr
    rcases (show a = 0 ∨ a = 1 ∨ a = 2 ∨ a = 3 by omega) with rfl | rfl | rfl | rfl <;> rcases (show b = 0 ∨ b = 1 ∨ b = 2 ∨ b = 3 by omega) with rfl | rfl | rfl | rfl <;> rfl

def laySines : Obj → Obj
  | .cells _ t frozen => .cells (sinesL.map fun (n : Nat) => Value.int .u32 (n : Int)).toArray t frozen
  | o => o
def layTurns : Obj → Obj
  | .cells _ t frozen => .cells (turnsL.map fun (n : Nat) => Value.int .i64 (n : Int)).toArray t frozen
  | o => o
/-- A world for the witness: the settled one, the two tables holding what their initialisers lay. -/
def laidOf (P : Program) (os : Os) : World :=
  { World.holding P os ⟨#[], #[], []⟩ with heap := ((World.holding P os ⟨#[], #[], []⟩).heap.modify 0 laySines).modify 1 layTurns }
end Go.Proofs.YtnghakhgogfemaaGreatDoor

namespace Go.Proofs.YtnghakhgogfemaaGreatDoor
open Go.RowKit
open BAvps (El)

theorem eql_wanted {P : Program} {ops : Array Oper} {rest : List Oper} {o : Oper} {a : Act} {t t' : TypeId} {x y : Nat} {A A' : Array Value} {B : Bool} {w : World} {Q : Exit → Act → World → Prop} (hw : Region.wanted o (yielded ops a.tmps) = true) (hm : P.eqGuardType P.depth t = false) (ho : o.op = Op.binOp .eql t (.tmp x) (.tmp y) t') (hx : a.eval (.tmp x) = .agg A) (hy : a.eval (.tmp y) = .agg A') (h : (Op.equalIn 10000 t (.agg A) (.agg A')).run P w = .ok B w) (hk : wpList P ops Q rest (a.put o.dst (.bool B)) w) : wpList P ops Q (o :: rest) a w := by
  unfold wpList
  rw [if_pos hw]
  refine .inl ?_
  unfold Oper.wp
  rw [avOp_eql (f := a.eval) hm ho hx hy h]
  exact hk
theorem putA_all (v : Value) (l : List Av) (s : ByteArray) (w : World) (hv : AvsAt w v l) (hs : s.size ≤ 1000000) (hsz : ∀ x ∈ l, x.value.size ≤ 140737488351232) (hM : MaskAt w) :
    Calls Tryz.prog 7 #[v, .string s] w fun e w' => e = .returned (.tuple #[.string (putAF l s).1, .int .i64 (putAF l s).2]) ∧ Kept (fun _ => False) w w' := by
  by_cases h : 40 < l.length
  · exact putA_many v l s w hv h
  · exact putA_few v l s w hv (by omega) hs hsz (fun _ _ => hM)
theorem rPut_all (v : Value) (l : List Av) (s : ByteArray) (w : World) (hv : AvsAt w v l) (hs : s.size ≤ 1000000) (hsz : ∀ x ∈ l, x.value.size ≤ 140737488351232) :
    Calls Tryz.prog 8 #[v, .string s] w fun e w' => e = .returned (.tuple #[.string (putAF l s).1, .int .i64 (putAF l s).2]) ∧ Kept (fun _ => False) w w' := by
  by_cases h : 40 < l.length
  · exact rPut_many v l s w hv h
  · exact rPut_few refMaskAt_holds v l s w hv (by omega) hs hsz
/-- What a round has in hand behind both of its Gets. -/
structure Rd (w : World) (bk : Nat) (Ls : List (List El)) (g c : Nat) (l : List Av) (v1 v2 : Value) (LE : List El) (W : World) : Prop where
  t : TAV w bk Ls v1 LE W
  m : LentAv W 0 g c l
  q : AvsAt W v1 (LE.map (·.1))
  r : AvsAt W v2 (LE.map (·.1))
theorem Rd.kept {w W W' : World} {bk g c : Nat} {Ls : List (List El)} {l : List Av} {v1 v2 : Value} {LE : List El} (h : Rd w bk Ls g c l v1 v2 LE W) (hk : Kept (fun _ => False) W W') : Rd w bk Ls g c l v1 v2 LE W' :=
  ⟨h.t.kept hk, h.m.kept hk, RowsAt.kept0 h.q hk, RowsAt.kept0 h.r hk⟩

set_option maxHeartbeats 8000000 in
set_option maxRecDepth 100000 in
theorem avpTells_not (v : Value) (l : List Av) (u : Value) (m : List Av) (s b : ByteArray) (k x y : Int) (w : World) (hI : AvsIn w v l) (hJ : AvsIn w u m) (hs : s.size ≤ 140737488351232) (hb : b.size ≤ 140737488351232)
    (h : lightA l = false ∨ (lightA l = true ∧ (lightA m = false ∨ (lightA m = true ∧ (300 < s.size ∨ (¬ 300 < s.size ∧ 3000 < b.size)))))) :
    Calls Tryz.prog 3 #[v, u, .string s, .string b, .int .i64 k, .int .i64 x, .int .i64 y] w fun e w' => e = .returned (.bool true) ∧ Kept (fun _ => False) w w' := by
  have HA := hid aliveA_any
  have HL := hid (lightA_any v l w hI.at_ hI.len hI.size)
  have HM := hid (fun (W : World) (hk : Kept (fun _ => False) w W) => lightA_any u m W (RowsAt.kept0 hJ.at_ hk) hJ.len hJ.size)
  obtain ⟨p, cap, rfl⟩ := RowsAt.slice hI.at_
  obtain ⟨q, cbp, rfl⟩ := RowsAt.slice hJ.at_
  clear hI hJ
  rcases h with h | ⟨h, h | ⟨h2, h3 | ⟨h3, h4⟩⟩⟩
  · rw [h] at HL
    clear h
    go_enter Tryz.func3, Tryz.ntmps3
    go_wp2_with fail
    refine HL.out.mono ?_
    rintro e w0 ⟨rfl, hk0⟩
    have HK0 := hid hk0
    clear hk0
    go_wp2_with fail
    refine (HA.out _).mono ?_
    rintro e w1 ⟨rfl, hk1⟩
    have HK1 := hid (HK0.out.trans hk1)
    clear hk1
    go_wp2
    go_ret
    exact ⟨rfl, HK1.out⟩
  · rename_i hl
    rw [hl] at HL
    rw [h] at HM
    clear h hl
    go_enter Tryz.func3, Tryz.ntmps3
    go_wp2_with fail
    refine HL.out.mono ?_
    rintro e w0 ⟨rfl, hk0⟩
    have HK0 := hid hk0
    clear hk0
    go_wp2_with fail
    refine (HM.out _ HK0.out).mono ?_
    rintro e w1 ⟨rfl, hk1⟩
    have HK1 := hid (HK0.out.trans hk1)
    clear hk1
    go_wp2_with fail
    refine (HA.out _).mono ?_
    rintro e w2 ⟨rfl, hk2⟩
    have HK2 := hid (HK1.out.trans hk2)
    clear hk2
    go_wp2
    go_ret
    exact ⟨rfl, HK2.out⟩
  · rw [h] at HL
    rw [h2] at HM
    have h3z : (300 : Int) < (s.size : Int) := by omega
    clear h h2
    go_enter Tryz.func3, Tryz.ntmps3
    go_wp2_with fail
    refine HL.out.mono ?_
    rintro e w0 ⟨rfl, hk0⟩
    have HK0 := hid hk0
    clear hk0
    go_wp2_with fail
    refine (HM.out _ HK0.out).mono ?_
    rintro e w1 ⟨rfl, hk1⟩
    have HK1 := hid (HK0.out.trans hk1)
    clear hk1
    go_wp2_with fail
    refine (HA.out _).mono ?_
    rintro e w2 ⟨rfl, hk2⟩
    have HK2 := hid (HK1.out.trans hk2)
    clear hk2
    go_wp2
    go_ret
    exact ⟨rfl, HK2.out⟩
  · rw [h] at HL
    rw [h2] at HM
    have h3z : ¬ (300 : Int) < (s.size : Int) := by omega
    have h4z : (3000 : Int) < (b.size : Int) := by omega
    clear h h2
    go_enter Tryz.func3, Tryz.ntmps3
    go_wp2_with fail
    refine HL.out.mono ?_
    rintro e w0 ⟨rfl, hk0⟩
    have HK0 := hid hk0
    clear hk0
    go_wp2_with fail
    refine (HM.out _ HK0.out).mono ?_
    rintro e w1 ⟨rfl, hk1⟩
    have HK1 := hid (HK0.out.trans hk1)
    clear hk1
    go_wp2_with fail
    refine (HA.out _).mono ?_
    rintro e w2 ⟨rfl, hk2⟩
    have HK2 := hid (HK1.out.trans hk2)
    clear hk2
    go_wp2
    go_ret
    exact ⟨rfl, HK2.out⟩

set_option maxHeartbeats 16000000 in
set_option maxRecDepth 100000 in
theorem avpTells_in (v : Value) (l : List Av) (u : Value) (m : List Av) (s b : ByteArray) (k x y : Int) (w : World) (hI : AvsIn w v l) (hJ : AvsIn w u m) (hs : s.size ≤ 300) (hb : b.size ≤ 3000) (hl : lightA l = true) (hm : lightA m = true) (hk : AvLit.In64 k) (hy : -9223372036854775808 ≤ y ∧ y ≤ 9223372036854775807) (hT : Tables w) :
    Calls Tryz.prog 3 #[v, u, .string s, .string b, .int .i64 k, .int .i64 x, .int .i64 y] w fun e w' => e = .returned (.bool true) ∧ Kept (fun _ => False) w w' := by
  have HA := hid aliveA_any
  have HL := hid (lightA_any v l w hI.at_ hI.len hI.size)
  have HM := hid (fun (W : World) (hk : Kept (fun _ => False) w W) => lightA_any u m W (RowsAt.kept0 hJ.at_ hk) hJ.len hJ.size)
  rw [hl] at HL
  rw [hm] at HM
  have hl5 := (lightA_true hl).1
  have hm5 := (lightA_true hm).1
  have HV := hid (fun (W : World) (hk : Kept (fun _ => False) w W) => hI.kept hk)
  have HU := hid (fun (W : World) (hk : Kept (fun _ => False) w W) => hJ.kept hk)
  have HLe := hid (fun (W : World) (h : AvsIn W v l) => lentAvps_any v l W h.at_ (by omega))
  have HP1 := hid (fun (g c : Nat) (W : World) (h : LentAv W 0 g c l) (hk : Kept (fun _ => False) w W) => putA_all (.slice (some ⟨g, 0, none⟩) l.length c) l s W h.at_ (by omega) hI.size ((maskAt_of hT).kept hk))
  have HP2 := hid (fun (W : World) (h : AvsIn W v l) => rPut_all v l s W h.at_ (by omega) hI.size)
  have HG1 := hid (fun (W : World) (hk : Kept (fun _ => False) w W) => getA_any b s (by omega) (by omega) W (fun _ => (unmAt_of hT).kept hk))
  have HG2 := hid (fun (W : World) => rGet_any refUnmAt_holds b s (by omega) (by omega) W)
  have HF1 := hid (fun (g c : Nat) (W : World) (h : LentAv W 0 g c l) => findA_any (.slice (some ⟨g, 0, none⟩) l.length c) l k W h.at_ (by omega) hI.size)
  have HF2 := hid (fun (W : World) (h : AvsIn W v l) => rFind_any v l k W h.at_ (by omega) hI.size)
  have HN1 := hid (fun (g c : Nat) (W : World) (h : LentAv W 0 g c l) => numberA_any (.slice (some ⟨g, 0, none⟩) l.length c) l k W h.at_ (by omega) hI.size)
  have HN2 := hid (fun (W : World) (h : AvsIn W v l) => rNumber_any v l k W h.at_ (by omega) hI.size)
  have HS1 := hid (fun (g c : Nat) (W : World) (h : LentAv W 0 g c l) (hu : AvsIn W u m) => sameAv_any (.slice (some ⟨g, 0, none⟩) l.length c) u l m W h.at_ hu.at_ (by omega) hI.good hJ.good)
  have HS2 := hid (fun (W : World) (h : AvsIn W v l) (hu : AvsIn W u m) => rSame_any v u l m W h.at_ hu.at_ (by omega) hI.good hJ.good)
  have HSt := hid (fun (g c : Nat) (W : World) (h : LentAv W 0 g c l) (hv : AvsIn W v l) => staysAvps_any g c 0 v l W h hv.at_ hI.good (by omega))
  have HNm1 := hid (fun (W : World) => num_any k x y hy W)
  have HNm2 := hid (fun (W : World) => rNum_any k x y hy W)
  have HLn1 := hid (fun (W : World) => length_any k hk W)
  have HLn2 := hid (fun (W : World) => rLength_any k W)
  obtain ⟨GQ1, GQ2⟩ := getAF_good b s
  generalize (getAF b s).2 = E2 at HG1 HG2
  generalize (getAF b s).1 = Lq at HG1 HG2 GQ1 GQ2
  obtain ⟨LE, rfl⟩ := toElA GQ1
  rw [List.length_map] at GQ2
  have HB := hid (fun (p q : Value) (W : World) (hp : AvsAt W p (LE.map (·.1))) (hq : AvsAt W q (LE.map (·.1))) => sameBk_any p q _ W hp hq (by rw [List.length_map]; omega) GQ1)
  have gN : GoodA ⟨true, false, 0, k, numV x y⟩ := ⟨⟨by show (-9223372036854775808 : Int) ≤ 0; decide, by show (0 : Int) ≤ 9223372036854775807; decide⟩, hk, by
    show (numV x y).size ≤ maxLen
    unfold numV
    split
    · exact Nat.zero_le _
    · rw [Lib.size_eq]
      show (lowI x y.toNat).length ≤ maxLen
      rw [lowI_length]
      unfold maxLen
      omega⟩
  have HEq := hid (BAvps.av_self gN)
  unfold avV at HNm1 HNm2
  simp only [avCells] at HEq HNm1 HNm2
  generalize numV x y = NV at HEq HNm1 HNm2
  generalize (putAF l s).1 = PV at HP1 HP2
  generalize (putAF l s).2 = E1 at HP1 HP2
  generalize findAB l k = FB at HF1 HF2
  generalize (findA l k).isSome = fb at HF1 HF2
  generalize ((numberA l k).1 : Int) = nn at HN1 HN2
  generalize (numberA l k).2 = nb at HN1 HN2
  generalize sameL l m = sm at HS1 HS2
  generalize lengthF k = ln at HLn1 HLn2
  obtain ⟨p, cap, rfl⟩ := RowsAt.slice hI.at_
  obtain ⟨q, cbp, rfl⟩ := RowsAt.slice hJ.at_
  have h3z : ¬ (300 : Int) < (s.size : Int) := by omega
  have h4z : ¬ (3000 : Int) < (b.size : Int) := by omega
  clear hI hJ hT GQ1 gN hy hk hl hm
  go_enter Tryz.func3, Tryz.ntmps3
  go_wp2_with fail
  refine HL.out.mono ?_
  rintro e w1 ⟨rfl, hk1⟩
  have K1 := hid hk1
  clear hk1 HL
  go_wp2_with fail
  refine (HM.out _ K1.out).mono ?_
  rintro e w2 ⟨rfl, hk2⟩
  have K2 := hid (K1.out.trans hk2)
  clear hk2 K1 HM
  obtain ⟨BC, hBC⟩ : ∃ BC, BAvps.bookCells BAvps.noX (.slice none 0 0) (.slice none 0 0) = BC := ⟨_, rfl⟩
  have HBC := hid hBC
  clear hBC
  go_wp2_with (refine wpList_bookA HBC.out rfl rfl ?_)
  have I0 : Hid (TA w w2.heap.size [] (w2.alloc (.cells BC 45))) := by
    have h := TA.new K2.out
    rw [HBC.out] at h
    exact h
  clear K2 HBC
  obtain ⟨bk, hbk⟩ : ∃ bk, bk = w2.heap.size := ⟨_, rfl⟩
  rw [← hbk] at I0 ⊢
  clear hbk
  go_loopw [16, 17, 18, 19, 20, 21, 22, 23, 24, 25, 26, 27, 28, 29, 30, 31, 32, 33] (fun k _ _ _ _ _ _ _ _ _ _ _ _ _ _ _ _ _ wr => ∃ (j : Nat) (Ls : List (List El)), j ≤ 2 ∧ k = .int .i64 (j : Int) ∧ Hid (Ls.length = j ∧ TA w bk Ls wr)) (fun k _ _ _ _ _ _ _ _ _ _ _ _ _ _ _ _ _ _ => 2 - (intOf k).toNat)
  case atStart => exact ⟨0, [], by omega, rfl, rfl, I0.out⟩
  case round =>
    obtain ⟨j, Ls, hj, rfl, HI⟩ := hrel
    clear I0
    by_cases hj2 : j < 2
    · have hj2z : (j : Int) < 2 := by omega
      have I := hid HI.out.2
      have HLn := hid HI.out.1
      clear HI
      as_aux_lemma =>
        go_wp2_with fail
        refine (HLe.out _ (HV.out _ I.out.1)).mono ?_
        rintro e a1 ⟨g1, c1, rfl, hL, hk⟩
        have L1 : Hid (LentAv a1 0 g1 c1 l) := OwnG.mono hL (Nat.zero_le _)
        have T1 := hid (I.out.kept hk)
        clear hk hL I
        go_wp2_with fail
        refine (HP1.out _ _ _ L1.out T1.out.1).mono ?_
        rintro e a2 ⟨rfl, hk⟩
        have L2 := hid (L1.out.kept hk)
        have T2 := hid (T1.out.kept hk)
        clear hk L1 T1
        go_wp2_with fail
        refine (HP2.out _ (HV.out _ T2.out.1)).mono ?_
        rintro e a3 ⟨rfl, hk⟩
        have L3 := hid (L2.out.kept hk)
        have T3 := hid (T2.out.kept hk)
        clear hk L2 T2
        go_wp2_with fail
        refine (HG1.out _ T3.out.1).mono ?_
        rintro e a4 ⟨v1, rfl, ho, hk⟩
        obtain ⟨p1, d1, hv1⟩ := slice_of (own_elA ho)
        subst hv1
        have L4 := hid (L3.out.kept hk)
        have T4 := hid (T3.out.got hk (own_elA ho))
        have Q4 := hid (OwnAv.at ho)
        clear hk ho L3 T3
        go_wp2_with fail
        refine (HG2.out _).mono ?_
        rintro e a5 ⟨v2, rfl, ho, hk⟩
        obtain ⟨p2, d2, hv2⟩ := slice_of (own_elA ho)
        subst hv2
        have R5 : Hid (Rd w bk Ls g1 c1 l (.slice p1 LE.length d1) (.slice p2 LE.length d2) LE a5) := ⟨T4.out.kept hk, L4.out.kept hk, RowsAt.kept0 Q4.out hk, OwnAv.at ho⟩
        clear hk ho L4 T4 Q4
        as_aux_lemma =>
          go_wp2_with fail
          refine (HF1.out _ _ _ R5.out.m).mono ?_
          rintro e a6 ⟨rfl, hk⟩
          have R6 := hid (R5.out.kept hk)
          clear hk R5
          go_wp2_with fail
          refine (HF2.out _ (HV.out _ R6.out.t.1)).mono ?_
          rintro e a7 ⟨rfl, hk⟩
          have R7 := hid (R6.out.kept hk)
          clear hk R6
          go_wp2_with fail
          refine (HN1.out _ _ _ R7.out.m).mono ?_
          rintro e a8 ⟨rfl, hk⟩
          have R8 := hid (R7.out.kept hk)
          clear hk R7
          go_wp2_with fail
          refine (HN2.out _ (HV.out _ R8.out.t.1)).mono ?_
          rintro e a9 ⟨rfl, hk⟩
          have R9 := hid (R8.out.kept hk)
          clear hk R8
          as_aux_lemma =>
            go_wp2_with fail
            refine (HB.out _ _ _ R9.out.q R9.out.r).mono ?_
            rintro e a10 ⟨rfl, hk⟩
            have R10 := hid (R9.out.kept hk)
            clear hk R9
            go_wp2_with fail
            refine (HS1.out _ _ _ R10.out.m (HU.out _ R10.out.t.1)).mono ?_
            rintro e a11 ⟨rfl, hk⟩
            have R11 := hid (R10.out.kept hk)
            clear hk R10
            go_wp2_with fail
            refine (HS2.out _ (HV.out _ R11.out.t.1) (HU.out _ R11.out.t.1)).mono ?_
            rintro e a12 ⟨rfl, hk⟩
            have R12 := hid (R11.out.kept hk)
            clear hk R11
            go_wp2_with fail
            refine (HSt.out _ _ _ R12.out.m (HV.out _ R12.out.t.1)).mono ?_
            rintro e a13 ⟨rfl, hk⟩
            have R13 := hid (R12.out.kept hk)
            clear hk R12
            go_wp2_with fail
            refine (R13.out.t.add (by rw [HLn.out]; omega) (by omega)).mono ?_
            rintro e a14 ⟨rfl, hT⟩
            have T14 := hid hT
            clear hT R13
            go_wp2
            go_roundw
            case rel => exact ⟨j + 1, Ls ++ [LE], by omega, by go_num, by rw [List.length_append, HLn.out]; rfl, T14.out⟩
            case measure => simp [intOf]; omega
    · obtain rfl : j = 2 := by omega
      have hj2z : ¬ ((2 : Nat) : Int) < 2 := by omega
      have I := hid HI.out.2
      have HLn := hid HI.out.1
      clear HI
      as_aux_lemma =>
        go_wp2_with fail
        refine (HA.out _).mono ?_
        rintro e a1 ⟨rfl, k1⟩
        have I1 := hid (I.out.kept k1)
        clear k1 I
        go_wp2_with fail
        refine (I1.out.apart (by rw [HLn.out]; omega)).mono ?_
        rintro e a2 ⟨rfl, k2⟩
        have K2 := hid k2
        clear k2 I1
        go_wp2_with fail
        refine (HNm1.out _).mono ?_
        rintro e a3 ⟨rfl, k3⟩
        have K3 := hid (K2.out.trans k3)
        clear k3 K2
        go_wp2_with fail
        refine (HNm2.out _).mono ?_
        rintro e a4 ⟨rfl, k4⟩
        have K4 := hid (K3.out.trans k4)
        clear k4 K3
        go_wp2_with (refine eql_wanted (by kernel_rfl) (by kernel_rfl) rfl (by rfl) (by rfl) (HEq.out _) ?_)
        refine (HLn1.out _).mono ?_
        rintro e a5 ⟨rfl, k5⟩
        have K5 := hid (K4.out.trans k5)
        clear k5 K4
        go_wp2_with fail
        refine (HLn2.out _).mono ?_
        rintro e a6 ⟨rfl, k6⟩
        have K6 := hid (K5.out.trans k6)
        clear k6 K5
        go_wp2
        go_ret
        exact ⟨rfl, K6.out⟩

theorem avpTells_walk (v : Value) (l : List Av) (u : Value) (m : List Av) (s b : ByteArray) (k x y : Int) (w : World) (hI : AvsIn w v l) (hJ : AvsIn w u m) (hs : s.size ≤ 140737488351232) (hb : b.size ≤ 140737488351232) (hk : -9223372036854775808 ≤ k ∧ k ≤ 9223372036854775807) (_hx : -9223372036854775808 ≤ x ∧ x ≤ 9223372036854775807) (hy : -9223372036854775808 ≤ y ∧ y ≤ 9223372036854775807) (hT : Tables w) :
    Calls Tryz.prog 3 #[v, u, .string s, .string b, .int .i64 k, .int .i64 x, .int .i64 y] w fun e w' => e = .returned (.bool true) ∧ Below w.heap.size w w' := by
  refine (?_ : Calls Tryz.prog 3 #[v, u, .string s, .string b, .int .i64 k, .int .i64 x, .int .i64 y] w fun e w' => e = .returned (.bool true) ∧ Kept (fun _ => False) w w').mono fun _ _ ⟨h1, h2⟩ => ⟨h1, below_of h2⟩
  cases h1 : lightA l with
  | false => exact avpTells_not v l u m s b k x y w hI hJ hs hb (Or.inl h1)
  | true =>
    cases h2 : lightA m with
    | false => exact avpTells_not v l u m s b k x y w hI hJ hs hb (Or.inr ⟨h1, Or.inl h2⟩)
    | true =>
      by_cases h3 : 300 < s.size
      · exact avpTells_not v l u m s b k x y w hI hJ hs hb (Or.inr ⟨h1, Or.inr ⟨h2, Or.inl h3⟩⟩)
      · by_cases h4 : 3000 < b.size
        · exact avpTells_not v l u m s b k x y w hI hJ hs hb (Or.inr ⟨h1, Or.inr ⟨h2, Or.inr ⟨h3, h4⟩⟩⟩)
        · exact avpTells_in v l u m s b k x y w hI hJ (by omega) (by omega) h1 h2 hk hy hT
end Go.Proofs.YtnghakhgogfemaaGreatDoor
