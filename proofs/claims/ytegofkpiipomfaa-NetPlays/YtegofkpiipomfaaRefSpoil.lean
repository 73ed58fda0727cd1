/- The contract of the document's Spoil. -/
import Derived.Test.YtegofkpiipomfaaRefDeliver
import Derived.Test.YtegofkpiipomfaaSpoil
namespace Go.Proofs.Ytegofkpiipomfaa
open Go.RowKit

theorem RowR.data {w : World} {g cap : Nat} {l : List Gr} (h : RowR w g cap l) {j : Nat} {x : Gr} (hj : l[j]? = some x) (d : ByteArray) : RowR (w.setCell ⟨g, j * 4 + 2, none⟩ (.string d)) g cap (l.set j { x with data := d }) := by
  have h1 := (World.ownsRow.stored h (j * 4 + 2) (.string d)).1
  rw [rowCells_data l j x hj d] at h1
  unfold RowR
  rw [List.length_set]
  exact h1
theorem RefIn.data {w : World} {r g cap : Nat} {wv : Value} {s : RefSt} (h : RefIn w r (.slice (some ⟨g, 0, none⟩) s.grams.length cap) wv s) {j : Nat} {x : Gr} (hj : s.grams[j]? = some x) (d : ByteArray) :
    RefIn (w.setCell ⟨g, j * 4 + 2, none⟩ (.string d)) r (.slice (some ⟨g, 0, none⟩) s.grams.length cap) wv { s with grams := s.grams.set j { x with data := d } } := by
  have hr := (h.own.row).2.2
  refine ⟨(World.cell?_setCell_other _ _ _ _ (by simp)).trans h.c0, (World.cell?_setCell_other _ _ _ _ (by simp)).trans h.c1, fun i => (World.frozen?_setCell _ _ _ _).trans (h.f i), ?_, h.ways.same (fun i hi => Below.heap_setCell w _ _ i (fun e => h.lw g rfl (by rw [hi, e]))), h.nl, h.nw, h.lw⟩
  have := (hr.data hj d).own (base := 0) (Nat.zero_le _)
  rw [List.length_set] at this
  exact this
theorem rem_or (a n : Int) (hn : 0 < n) : a.tmod n = a % n ∨ (a % n ≠ 0 ∧ a.tmod n = a % n - n) := by
  have h := Int.tmod_eq_emod (a := a) (b := n)
  by_cases hc : 0 ≤ a ∨ n ∣ a
  · rw [if_pos hc] at h
    left
    rw [h]
    simp
  · rw [if_neg hc] at h
    right
    refine ⟨fun h0 => hc (Or.inr (Int.dvd_of_emod_eq_zero h0)), ?_⟩
    rw [h]
    omega

section
variable {T : Nat → Prop} {w : World} {r : Nat} {s : RefSt}

set_option maxHeartbeats 1000000 in
theorem refSpoil_no (h : RefAt T w r s) (i at' by' : Int) (hi : i < 0 ∨ (s.grams.length : Int) ≤ i) :
    Calls Try.prog 15 #[.pointer (some ⟨r, 0, none⟩), .int .i64 i, .int .i64 at', .int .i64 by'] w fun e w' => e = .returned (.int .i64 3) ∧ w' = w := by
  have Hp := hid (refHas_any h i)
  rw [show hasB s.grams.length i = false from decide_eq_false (by omega)] at Hp
  clear h hi
  go_enter Try.func15, Try.ntmps15
  go_wp2_with fail
  refine (Hp.out).mono ?_
  rintro e' w' ⟨rfl, rfl⟩
  go_wp2
  go_ret
  exact ⟨rfl, rfl⟩

set_option maxHeartbeats 1000000 in
set_option maxRecDepth 100000 in
theorem refSpoil_bad (h : RefAt T w r s) (j : Nat) (hj : j < s.grams.length) (at' by' e : Int) (he : ((getG s.grams j).data.size = 0 ∧ e = 3) ∨ (0 < (getG s.grams j).data.size ∧ (by' < 1 ∨ 255 < by') ∧ e = 1)) :
    Calls Try.prog 15 #[.pointer (some ⟨r, 0, none⟩), .int .i64 (j : Int), .int .i64 at', .int .i64 by'] w fun e' w' => e' = .returned (.int .i64 e) ∧ w' = w := by
  have Hp := hid (refHas_any h (j : Int))
  rw [show hasB s.grams.length (j : Int) = true from decide_eq_true ⟨by omega, by omega⟩] at Hp
  obtain ⟨lv, wv, hN, hT⟩ := h
  rcases hN.own.cases with ⟨_, e⟩ | ⟨g, cap, rfl, _, hr⟩
  · rw [e] at hj
    cases hj
  have h63 : s.grams.length ≤ 9223372036854775807 := Nat.le_trans hr.le hr.le63
  have c0 := hN.c0
  obtain ⟨_, _, r2, _⟩ := hr.cells4 (getG_at hj)
  clear hr hN hT
  generalize (getG s.grams j).data = x at *
  have hjz : (j : Int) < (s.grams.length : Int) := by omega
  generalize s.grams.length = N at *
  rcases he with ⟨hz, rfl⟩ | ⟨hz, hby, rfl⟩
  · have hz0 : ((x.size : Int) == 0) = true := by rw [hz]; rfl
    clear hz
    go_enter Try.func15, Try.ntmps15
    go_wp2_with fail
    refine (Hp.out).mono ?_
    rintro e' w' ⟨rfl, rfl⟩
    go_wp2
    go_ret
    exact ⟨rfl, rfl⟩
  · have hnz : ((x.size : Int) == 0) = false := by rw [beq_eq_false_iff_ne]; omega
    by_cases h1 : by' < 1
    · clear hby
      go_enter Try.func15, Try.ntmps15
      go_wp2_with fail
      refine (Hp.out).mono ?_
      rintro e' w' ⟨rfl, rfl⟩
      go_wp2
      go_ret
      exact ⟨rfl, rfl⟩
    · have h2 : 255 < by' := by omega
      clear hby
      go_enter Try.func15, Try.ntmps15
      go_wp2_with fail
      refine (Hp.out).mono ?_
      rintro e' w' ⟨rfl, rfl⟩
      go_wp2
      go_ret
      exact ⟨rfl, rfl⟩

set_option maxHeartbeats 2000000 in
set_option maxRecDepth 100000 in
theorem refSpoil_ok (h : RefAt T w r s) (j : Nat) (hj : j < s.grams.length) (hroom : s.grams.length ≤ 1000) (at' : Int) (y : UInt8) (hy : 1 ≤ y.toNat) (hx1 : 0 < (getG s.grams j).data.size) (hx2 : (getG s.grams j).data.size ≤ 1000000) :
    Calls Try.prog 15 #[.pointer (some ⟨r, 0, none⟩), .int .i64 (j : Int), .int .i64 at', .int .i64 (y.toNat : Int)] w fun e' w' => e' = .returned (.int .i64 0) ∧
      RNext T w w' r { s with grams := s.grams.set j { getG s.grams j with data := spoilB (getG s.grams j).data (at' % ((getG s.grams j).data.size : Int)).toNat y } } := by
  have Hp := hid (refHas_any h (j : Int))
  rw [show hasB s.grams.length (j : Int) = true from decide_eq_true ⟨by omega, by omega⟩] at Hp
  obtain ⟨lv, wv, hN, hT⟩ := h
  rcases hN.own.cases with ⟨_, e⟩ | ⟨g, cap, rfl, _, hr⟩
  · rw [e] at hj
    cases hj
  have h63 : s.grams.length ≤ 9223372036854775807 := Nat.le_trans hr.le hr.le63
  have c0 := hN.c0
  have hgx := getG_at hj
  obtain ⟨_, _, r2, _⟩ := hr.cells4 hgx
  obtain ⟨x, hxe⟩ : ∃ x, x = (getG s.grams j).data := ⟨_, rfl⟩
  rw [← hxe] at r2 hx1 hx2
  obtain ⟨q, hq⟩ : ∃ q : Nat, at' % (x.size : Int) = (q : Int) := ⟨(at' % (x.size : Int)).toNat, by have := Int.emod_nonneg at' (show (x.size : Int) ≠ 0 by omega); omega⟩
  have hql : q < x.size := by have := Int.emod_lt_of_pos at' (show (0 : Int) < (x.size : Int) by omega); omega
  have hrem := rem_or at' (x.size : Int) (by omega)
  rw [hq] at hrem
  have hcv : (convert 9 72 (.string x)).run Try.prog w = _ := Lib.run_convert_string_bytes w 9 72 5 x Try.underlying9 Try.underlying72 Try.underlying5
  have HK1 : Kept (fun _ => False) w (Lib.bytesWorld w 5 x) := ⟨rfl, rfl, rfl, by rw [Lib.bytesWorld_size]; omega, fun k hk _ => Lib.bytesWorld_at_old w 5 x k hk⟩
  have hsz1 : w.heap.size < (Lib.bytesWorld w 5 x).heap.size := by rw [Lib.bytesWorld_size]; omega
  have hD := Lib.bytesWorld_at_new w 5 x
  have hcs : x.size ≤ (Lib.bytesCells w 5 x).size := by unfold Lib.bytesCells; simp
  have hcell := fun i hi => Lib.bytesWorld_cell w 5 x i hi
  have hfz : (Lib.bytesWorld w 5 x).frozen? ⟨w.heap.size, q, none⟩ = false := by
    unfold World.frozen?
    rw [hD]
    simp
    omega
  rw [← hxe, hq, Int.toNat_natCast]
  have hgl := hr.lt
  have hrl := hN.lt (Or.inl rfl)
  generalize Lib.bytesWorld w 5 x = W1 at *
  have hcap : x.size ≤ grownCap w x.size 0 5 := grownCap_ge w _ _ _
  generalize grownCap w x.size 0 5 = c1 at *
  have hyl := y.toNat_lt
  have e1 : bits .xor .u8 ((x.data.toList.getD q 0).toNat : Int) (y.toNat : Int) = ((x.data.toList.getD q 0 ^^^ y).toNat : Int) := by
    rw [UInt8.toNat_xor]
    exact u8_xor_nat _ _ (by have := (x.data.toList.getD q 0).toNat_lt; omega) (by omega)
  have hcq := hcell q hql
  obtain ⟨W2, hW2⟩ : ∃ W2, W2 = W1.setCell ⟨w.heap.size, q, none⟩ (.int .u8 ((x.data.toList.getD q 0 ^^^ y).toNat : Int)) := ⟨_, rfl⟩
  have hk2 : Kept (fun _ => False) w W2 := by rw [hW2]; exact HK1.setCell (Or.inl (Nat.le_refl _)) _
  have hsz2 : w.heap.size < W2.heap.size := by rw [hW2]; simpa using hsz1
  have hc2 : ∀ i, i < x.size → W2.cell? ⟨w.heap.size, i, none⟩ = some (.int .u8 (((spoilB x q y).data.toList.getD i 0).toNat : Int)) := fun i hi => by
    rw [hW2, spoilB_cell hql y i hi]
    by_cases hiq : i = q
    · subst hiq
      rw [if_pos rfl]
      exact World.cell?_setCell_same _ _ _ (hcell i hi)
    · rw [if_neg hiq]
      exact (World.cell?_setCell_other _ _ _ _ (by simp)).trans (hcell i hi)
  have hr2 : RowR W2 g cap s.grams := hr.same (hk2.block g hgl id)
  obtain ⟨p3, cap3, w3, hrun3, hown3, hgr3, hat3⟩ := append_own (OwnR.nil W2 0) ⟨g, 0, none⟩ s.grams.length cap s.grams rfl (fun t u hu => by
    have ht := (List.getElem?_eq_some_iff.1 hu).1
    rw [rowCells_length] at ht
    rw [Addr.add_lit, Nat.zero_add, ← hu]
    exact World.ownsRow.cellAt hr2 t (by omega)) (by simp; omega)
  simp only [List.length_nil, Nat.zero_add, List.nil_append] at hrun3 hown3 hat3
  obtain ⟨g3, rfl⟩ : ∃ g3, p3 = some ⟨g3, 0, none⟩ := by
    rcases hown3.cases with ⟨e, e2⟩ | ⟨g3, cap', e, _⟩
    · rw [e2] at hj
      cases hj
    · simp only [Value.slice.injEq] at e
      exact ⟨g3, e.1⟩
  have hg3 : g3 = W2.heap.size := by
    rcases hat3 with h | h
    · cases h
    · exact Option.some.inj h
  have hk3 : Kept (fun _ => False) w w3 := hk2.grown hgr3 (fun q hq => by cases hq)
  have hR4 := hN.rerow hk3 hown3 (fun i hi => by
    have e : g3 = i := by simpa [Value.ownBlock] using hi
    omega)
  obtain ⟨W4, hW4⟩ : ∃ W4, W4 = w3.setCell ⟨r, 0, none⟩ (.slice (some ⟨g3, 0, none⟩) s.grams.length cap3) := ⟨_, rfl⟩
  rw [← hW4] at hR4
  have hgx4 : ({ s with grams := s.grams } : RefSt).grams[j]? = some (getG s.grams j) := hgx
  have hR5 := hR4.data hgx4 (spoilB x q y)
  have hk4 : Kept T w W4 := by rw [hW4]; exact (hk3.mono (fun _ _ h => h.elim)).setCell (Or.inr ((hT r).2 (Or.inl rfl))) _
  have fin : Hid (RNext T w (W4.setCell ⟨g3, j * 4 + 2, none⟩ (.string (spoilB x q y))).drew r { s with grams := s.grams.set j { getG s.grams j with data := spoilB x q y } }) := by
    refine ⟨_, ⟨_, _, hR5.drew, fun _ => Iff.rfl⟩, fun i hi => ?_, (hk4.setCell (p := ⟨g3, j * 4 + 2, none⟩) (Or.inl (by show w.heap.size ≤ g3; omega)) _).drew⟩
    rcases hi with hi | hi | hi
    · exact Or.inl ((hT i).2 (Or.inl hi))
    · have e : g3 = i := by simpa [Value.ownBlock] using hi
      exact Or.inr (by omega)
    · exact Or.inl ((hT i).2 (Or.inr (Or.inr hi)))
  have hr3 := (hown3.row).2.2
  have hk23 : Kept (fun _ => False) W2 w3 := (Kept.refl _ W2).grown hgr3 (fun q hq => by cases hq)
  have d2 : W2.cell? ⟨r, 0, none⟩ = _ := (hk2.cell (p := ⟨r, 0, none⟩) hrl id).trans c0
  have d3 : w3.cell? ⟨r, 0, none⟩ = _ := (hk3.cell (p := ⟨r, 0, none⟩) hrl id).trans c0
  have f3 : w3.frozen? ⟨r, 0, none⟩ = false := (hk3.frozen (p := ⟨r, 0, none⟩) hrl id).trans (hN.f 0)
  have d4 : W4.cell? ⟨r, 0, none⟩ = some (.slice (some ⟨g3, 0, none⟩) s.grams.length cap3) := hR4.c0
  have hrg3 : r ≠ g3 := by omega
  have hc4 : ∀ W : World, (∀ a : Addr, W.cell? a = W4.cell? a) → (convert 72 9 (.slice (some ⟨w.heap.size, 0, none⟩) x.size c1)).run Try.prog W = .ok (.string (spoilB x q y)) W := fun W hW => by
    refine row_conv W w.heap.size x.size c1 (spoilB x q y).data.toList (by rw [← Lib.size_eq, spoilB_size]) (fun i hi => ?_)
    rw [hW, hW4, World.cell?_setCell_other _ _ _ _ (by simp), hk23.cell (p := ⟨w.heap.size, i, none⟩) hsz2 id]
    exact hc2 i hi
  have d5 : W4.cell? ⟨g3, j * 4 + 2, none⟩ = some (.string x) := by
    have := (((hR4.own).row).2.2.cells4 hgx4).2.2.1
    rw [hxe]
    exact this
  have f5 : W4.frozen? ⟨g3, j * 4 + 2, none⟩ = false := ((hR4.own).row).2.2.frozenAt _
  have hle3 : s.grams.length ≤ cap3 := hr3.le
  have h633 : cap3 ≤ 9223372036854775807 := hr3.le63
  have hjz : (j : Int) < (s.grams.length : Int) := by omega
  have hqz : (q : Int) < (x.size : Int) := by omega
  have hnz : ((x.size : Int) == 0) = false := by rw [beq_eq_false_iff_ne]; omega
  have hy1 : (1 : Int) ≤ (y.toNat : Int) := by omega
  have hy2 : (y.toNat : Int) ≤ 255 := by omega
  have hyw : IntKind.u8.wrap (y.toNat : Int) = (y.toNat : Int) := by rw [IntKind.wrap_u8]; omega
  have hle := hr.le
  have hcapz := hr.le63
  subst hW2
  subst hW4
  have HC4 := hid hc4
  have HR3 := hid hrun3
  clear hr hN hT hr2 hgx hgx4 hxe hD hcs hcell hq HK1 hk2 hk3 hk23 hr3 hown3 hgr3 hat3 hR4 hR5 hk4 hc2 hsz1 hsz2 hc4 hrun3 hg3 hgl hroom
  generalize spoilB x q y = x' at *
  generalize hag : ((x.data.toList.getD q 0 ^^^ y).toNat : Int) = ag at *
  generalize hab : ((x.data.toList.getD q 0).toNat : Int) = ab at *
  clear hag hab
  generalize s.grams.length = N at *
  rcases hrem with hrem | ⟨hq0, hrem⟩
  · have hq00 : ¬ ((q : Int) < 0) := by omega
    go_enter Try.func15, Try.ntmps15
    go_wp2_with fail
    refine (Hp.out).mono ?_
    rintro e' w' ⟨rfl, rfl⟩
    go_wp2_with (at_builtin; refine Lib.wpList_append_run _ rfl _ _ _ _ rfl _ _ rfl rfl _ _ (HR3.out _) ?_)
    have hc5 := HC4.out (w3.setCell ⟨r, 0, none⟩ (.slice (some ⟨g3, 0, none⟩) N cap3)).drew (fun _ => rfl)
    go_region
    all_goals go_wp2
    all_goals go_ret
    all_goals exact ⟨rfl, fin.out⟩
  · have hneg : ((q : Int) - (x.size : Int)) < 0 := by omega
    have hadd : IntKind.i64.wrap ((q : Int) - (x.size : Int) + (x.size : Int)) = (q : Int) := by rw [IntKind.wrap_i64]; omega
    have hadd2 : (q : Int) - (x.size : Int) + (x.size : Int) = (q : Int) := by omega
    go_enter Try.func15, Try.ntmps15
    go_wp2_with fail
    refine (Hp.out).mono ?_
    rintro e' w' ⟨rfl, rfl⟩
    go_wp2_with (at_builtin; refine Lib.wpList_append_run _ rfl _ _ _ _ rfl _ _ rfl rfl _ _ (HR3.out _) ?_)
    have hc5 := HC4.out (w3.setCell ⟨r, 0, none⟩ (.slice (some ⟨g3, 0, none⟩) N cap3)).drew (fun _ => rfl)
    go_region
    all_goals go_wp2
    all_goals go_ret
    all_goals exact ⟨rfl, fin.out⟩
end
end Go.Proofs.Ytegofkpiipomfaa
