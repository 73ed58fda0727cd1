/- The contracts of package avp's inner lacks, pass, hide and show: what values are hidden by, in memory; of Mask and Unmask what they come to is a premise. -/
import Derived.Test.YtkneogfeokckjaaGreatDoorAvSmall
import Derived.Test.YtkneogfeokckjaaGreatDoorClone
namespace Go.Proofs.YtkneogfeokckjaaGreatDoor
open Go.RowKit

def avCells (x : Av) : List Value := [.bool x.must, .bool x.hidden, .int .i64 x.vendor, .int .i64 x.type, .string x.value]
def avV (x : Av) : Value := .agg #[.bool x.must, .bool x.hidden, .int .i64 x.vendor, .int .i64 x.type, .string x.value]
def cvV (c : Cov) : Value := .agg #[.string c.secret, .string c.vector, .bool c.has]
/-- A boxed value, a boxed cover. -/
def AvAt (W : World) (b : Nat) (x : Av) : Prop := W.heap[b]? = some (.cells #[.bool x.must, .bool x.hidden, .int .i64 x.vendor, .int .i64 x.type, .string x.value] 72 (0, 0))
def CvAt (W : World) (b : Nat) (c : Cov) : Prop := W.heap[b]? = some (.cells #[.string c.secret, .string c.vector, .bool c.has] 129 (0, 0))
section
variable {W W' : World} {b : Nat} {x : Av} {c : Cov}
theorem AvAt.new (W : World) (x : Av) : AvAt (W.alloc (.cells #[.bool x.must, .bool x.hidden, .int .i64 x.vendor, .int .i64 x.type, .string x.value] 72)) W.heap.size x := heap_alloc_new W _
theorem CvAt.new (W : World) (c : Cov) : CvAt (W.alloc (.cells #[.string c.secret, .string c.vector, .bool c.has] 129)) W.heap.size c := heap_alloc_new W _
theorem AvAt.lt (h : AvAt W b x) : b < W.heap.size := (Array.getElem?_eq_some_iff.1 h).1
theorem CvAt.lt (h : CvAt W b c) : b < W.heap.size := (Array.getElem?_eq_some_iff.1 h).1
theorem AvAt.cells (h : AvAt W b x) : W.cell? ⟨b, 0, none⟩ = some (.bool x.must) ∧ W.cell? ⟨b, 1, none⟩ = some (.bool x.hidden) ∧ W.cell? ⟨b, 2, none⟩ = some (.int .i64 x.vendor) ∧ W.cell? ⟨b, 3, none⟩ = some (.int .i64 x.type) ∧ W.cell? ⟨b, 4, none⟩ = some (.string x.value) := by
  simp [World.cell?, show W.heap[b]? = _ from h]
theorem CvAt.cells (h : CvAt W b c) : W.cell? ⟨b, 0, none⟩ = some (.string c.secret) ∧ W.cell? ⟨b, 1, none⟩ = some (.string c.vector) ∧ W.cell? ⟨b, 2, none⟩ = some (.bool c.has) := by
  simp [World.cell?, show W.heap[b]? = _ from h]
theorem CvAt.frozen (h : CvAt W b c) (i : Nat) : W.frozen? ⟨b, i, none⟩ = false := frozen_of_row W b i _ _ h
theorem AvAt.frozen (h : AvAt W b x) (i : Nat) : W.frozen? ⟨b, i, none⟩ = false := frozen_of_row W b i _ _ h
theorem AvAt.kept {S : Nat → Prop} (h : AvAt W b x) (hk : Kept S W W') (hS : ¬ S b) : AvAt W' b x := (hk.block b h.lt hS).trans h
theorem CvAt.kept {S : Nat → Prop} (h : CvAt W b c) (hk : Kept S W W') (hS : ¬ S b) : CvAt W' b c := (hk.block b h.lt hS).trans h
theorem AvAt.kept0 (h : AvAt W b x) (hk : Kept (fun _ => False) W W') : AvAt W' b x := h.kept hk id
theorem CvAt.kept0 (h : CvAt W b c) (hk : Kept (fun _ => False) W W') : CvAt W' b c := h.kept hk id
theorem AvAt.setValue (h : AvAt W b x) (v : ByteArray) : AvAt (W.setCell ⟨b, 4, none⟩ (.string v)) b { x with value := v } := by
  have hlt := h.lt
  have hv : W.heap[b] = .cells #[.bool x.must, .bool x.hidden, .int .i64 x.vendor, .int .i64 x.type, .string x.value] 72 (0, 0) := (Array.getElem?_eq_some_iff.1 h).2
  unfold AvAt World.setCell
  rw [Array.getElem?_eq_getElem (by simpa using hlt), Array.getElem_modify]
  simp [hv]
theorem CvAt.setTwo (h : CvAt W b c) (v : ByteArray) : CvAt ((W.setCell ⟨b, 1, none⟩ (.string v)).setCell ⟨b, 2, none⟩ (.bool true)) b { c with vector := v, has := true } := by
  have hlt := h.lt
  have hv : W.heap[b] = .cells #[.string c.secret, .string c.vector, .bool c.has] 129 (0, 0) := (Array.getElem?_eq_some_iff.1 h).2
  unfold CvAt World.setCell
  rw [Array.getElem?_eq_getElem (by simpa using hlt), Array.getElem_modify, Array.getElem_modify]
  simp [hv]
end

theorem lacksF_0 {c : Cov} (h : lacksF c = 0) : c.secret.size ≠ 0 ∧ c.has = true := by
  unfold lacksF at h
  split at h
  · cases h
  split at h
  · cases h
  rename_i h1 h2
  exact ⟨h1, by simpa using h2⟩
theorem str_full {s : ByteArray} (h : s.size ≠ 0) : s.toList.isEmpty = false := by
  rw [List.isEmpty_eq_false_iff]
  intro e
  rw [ByteArray.toList_eq] at e
  exact h (by rw [Lib.size_eq, e]; rfl)

set_option maxRecDepth 100000 in
theorem lacks_any (c : Cov) (w : World) : Calls Tryz.prog 176 #[cvV c] w fun e w' => e = .returned (.int .i64 (lacksF c)) ∧ Kept (fun _ => False) w w' := by
  obtain ⟨s, v, h⟩ := c
  unfold lacksF cvV
  simp only
  by_cases h0 : s.size = 0
  · rw [if_pos h0]
    obtain rfl := str_nil s h0
    clear h0
    go_enter Tryz.func176, Tryz.ntmps176
    go_wp2
    go_ret
    exact ⟨rfl, (Kept.refl _ w).alloc _⟩
  · rw [if_neg h0]
    have hne := str_full h0
    cases h with
    | false =>
      rw [if_pos rfl]
      clear h0
      go_enter Tryz.func176, Tryz.ntmps176
      go_wp2
      go_ret
      exact ⟨rfl, (Kept.refl _ w).alloc _⟩
    | true =>
      rw [if_neg (by simp)]
      clear h0
      go_enter Tryz.func176, Tryz.ntmps176
      go_wp2
      go_ret
      exact ⟨rfl, (Kept.refl _ w).alloc _⟩

set_option maxHeartbeats 1000000 in
set_option maxRecDepth 100000 in
theorem pass_any (b : Nat) (c : Cov) (x : Av) (w : World) (h : CvAt w b c) :
    Calls Tryz.prog 128 #[.pointer (some ⟨b, 0, none⟩), avV x] w fun e w' => e = .returned (.tuple #[]) ∧ CvAt w' b (passF c x) ∧ Kept (fun i => i = b) w w' := by
  obtain ⟨m, q, n, t, v⟩ := x
  have hk1 := (Kept.refl (fun i => i = b) w).alloc (.cells #[.bool m, .bool q, .int .i64 n, .int .i64 t, .string v] 72)
  have h1 : CvAt (w.alloc (.cells #[.bool m, .bool q, .int .i64 n, .int .i64 t, .string v] 72)) b c := h.kept0 ((Kept.refl _ w).alloc _)
  obtain ⟨a0, a1, a2, a3, a4⟩ := (AvAt.new w ⟨m, q, n, t, v⟩).cells
  unfold avV
  have H1 := hid h1
  have HK := hid hk1
  have f1 := h1.frozen 1
  have f2 := h1.frozen 2
  obtain ⟨c0, c1, c2⟩ := h1.cells
  unfold passF isVec
  simp only at a0 a1 a2 a3 a4
  clear h hk1 h1
  cases e1 : (n == 0) with
  | false =>
    simp only [Bool.false_and, Bool.false_eq_true, if_false]
    go_enter Tryz.func128, Tryz.ntmps128
    go_wp2
    go_end0
    exact ⟨rfl, H1.out, HK.out⟩
  | true =>
    cases e2 : (t == 36) with
    | false =>
      simp only [Bool.true_and, Bool.false_and, Bool.false_eq_true, if_false]
      go_enter Tryz.func128, Tryz.ntmps128
      go_wp2
      go_end0
      exact ⟨rfl, H1.out, HK.out⟩
    | true =>
      cases q with
      | true =>
        simp only [Bool.true_and, Bool.not_true, Bool.false_eq_true, if_false]
        go_enter Tryz.func128, Tryz.ntmps128
        go_wp2
        go_end0
        exact ⟨rfl, H1.out, HK.out⟩
      | false =>
        simp only [Bool.true_and, Bool.not_false, if_true]
        have R := hid (H1.out.setTwo v)
        have RK : Hid (Kept (fun i => i = b) w (((w.alloc (.cells #[.bool m, .bool false, .int .i64 n, .int .i64 t, .string v] 72)).setCell ⟨b, 1, none⟩ (.string v)).setCell ⟨b, 2, none⟩ (.bool true))) := (HK.out.setCell (Or.inr rfl) _).setCell (Or.inr rfl) _
        clear H1 HK
        go_enter Tryz.func128, Tryz.ntmps128
        go_wp2
        go_end0
        exact ⟨rfl, R.out, RK.out⟩

theorem ints_one (W : World) (z : Int) : IntsV (W.alloc (.cells #[.int .i64 z] 3)) (.slice (some ⟨W.heap.size, 0, none⟩) 1 1) [z] := by
  refine Or.inr ⟨W.heap.size, 0, 1, rfl, Nat.le_refl _, by unfold maxLen; omega, fun j x hj i u hu => ?_⟩
  obtain rfl : j = 0 := by have := (List.getElem?_eq_some_iff.1 hj).1; simp at this; omega
  obtain rfl : i = 0 := by have := (List.getElem?_eq_some_iff.1 hu).1; simp at this; omega
  simp at hj hu
  subst hj hu
  rw [cell_of_row _ _ _ _ _ _ (heap_alloc_new W _)]
  rfl
theorem ints_two (W : World) (y z : Int) : IntsV (W.alloc (.cells #[.int .i64 y, .int .i64 z] 3)) (.slice (some ⟨W.heap.size, 0, none⟩) 2 2) [y, z] := by
  refine Or.inr ⟨W.heap.size, 0, 2, rfl, Nat.le_refl _, by unfold maxLen; omega, fun j x hj i u hu => ?_⟩
  obtain rfl : i = 0 := by have := (List.getElem?_eq_some_iff.1 hu).1; simp at this; omega
  have hl := (List.getElem?_eq_some_iff.1 hj).1
  simp at hl
  rw [cell_of_row _ _ _ _ _ _ (heap_alloc_new W _)]
  rcases (show j = 0 ∨ j = 1 by omega) with rfl | rfl
  · simp at hj hu
    subst hj hu
    rfl
  · simp at hj hu
    subst hj hu
    rfl
theorem lacks_has {c : Cov} (h : lacksF c = 0) : c.has = true := (lacksF_0 h).2

/-- What Mask and Unmask come to, whatever has come behind w. -/
def MaskAt (w : World) : Prop := ∀ (k : Int) (s v x : ByteArray), s.size ≤ 1000000 → v.size ≤ 1000000 → x.size ≤ 1000000 → ∀ W, Kept (fun _ => False) w W →
  Calls Tryz.prog 183 #[.int .i64 k, .string s, .string v, .string x] W fun e w' => e = .returned (.string (maskA false k s v x)) ∧ Kept (fun _ => False) W w'
def UnmAt (w : World) : Prop := ∀ (k : Int) (s v x : ByteArray), s.size ≤ 1000000 → v.size ≤ 1000000 → x.size ≤ 1000000 → ∀ W, Kept (fun _ => False) w W →
  Calls Tryz.prog 177 #[.int .i64 k, .string s, .string v, .string x] W fun e w' => e = .returned (.string (maskA true k s v x)) ∧ Kept (fun _ => False) W w'
theorem MaskAt.kept {w W : World} (h : MaskAt w) (hk : Kept (fun _ => False) w W) : MaskAt W := fun k s v x h1 h2 h3 W' hk' => h k s v x h1 h2 h3 W' (hk.trans hk')
theorem UnmAt.kept {w W : World} (h : UnmAt w) (hk : Kept (fun _ => False) w W) : UnmAt W := fun k s v x h1 h2 h3 W' hk' => h k s v x h1 h2 h3 W' (hk.trans hk')
/-- A cover whose texts are not long. -/
structure Few (c : Cov) : Prop where
  secret : c.secret.size ≤ 1000000
  vector : c.vector.size ≤ 1000000

set_option maxHeartbeats 1000000 in
set_option maxRecDepth 100000 in
theorem hide_any (c : Cov) (k : Int) (x : ByteArray) (hc : Few c) (hx : x.size ≤ 1000) (w : World) (hM : lacksF c = 0 → MaskAt w) :
    Calls Tryz.prog 171 #[cvV c, .int .i64 k, .string x] w fun e w' => e = .returned (.tuple #[.string (hideF c k x).1, .int .i64 (hideF c k x).2]) ∧ Kept (fun _ => False) w w' := by
  have HL := hid (lacks_any c)
  obtain ⟨c0, c1, c2⟩ := (CvAt.new w c).cells
  have HB := hid (CvAt.new w c)
  have HK := hid ((Kept.refl (fun _ => False) w).alloc (.cells #[.string c.secret, .string c.vector, .bool c.has] 129))
  unfold hideF
  by_cases h0 : lacksF c = 0
  · rw [if_pos h0]
    rw [h0] at HL
    have HM := hid (hM h0)
    have ht := two_size x.size
    have hno : ¬ (9223372036854775807 < (two x.size).size + x.size) := by omega
    have hsz : (two x.size ++ x).size ≤ 1000000 := by rw [ByteArray.size_append]; omega
    have HMM := hid (HM.out k c.secret c.vector (two x.size ++ x) hc.secret hc.vector hsz)
    have HW := hid (fun W b (h : IntsV W (.slice (some ⟨b, 0, none⟩) 1 1) [(x.size : Int)]) => wordsA_any _ [(x.size : Int)] W h (by simp))
    have e1 := words_one x.size (by omega)
    rw [e1] at HW
    clear hM h0 e1 ht hsz HM
    unfold cvV at *
    generalize maskA false k c.secret c.vector (two x.size ++ x) = R at *
    generalize two x.size = T at *
    go_enter Tryz.func171, Tryz.ntmps171
    go_wp2_with fail
    refine (HL.out _).mono ?_
    rintro e w1 ⟨rfl, hk1⟩
    have B1 := HB.out.kept0 hk1
    obtain ⟨d0, d1, d2⟩ := B1.cells
    have HK1 := hid (HK.out.trans hk1)
    clear hk1 c0 c1 c2 HB HK
    have HX := hid (ints_one w1 (x.size : Int))
    have HB1 := hid B1
    have K2 := (Kept.refl (fun _ => False) w1).alloc (.cells #[.int .i64 (x.size : Int)] 3)
    have HK2 := hid K2
    clear d0 d1 d2 B1 K2
    go_wp2_with fail
    refine (HW.out _ _ HX.out).mono ?_
    rintro e w2 ⟨rfl, hk2⟩
    obtain ⟨d0, d1, d2⟩ := (HB1.out.kept0 (HK2.out.trans hk2)).cells
    have HK3 := hid (HK1.out.trans (HK2.out.trans hk2))
    clear hk2 HK1 HK2 HB1 HX HW
    go_wp2_with fail
    refine (HMM.out _ HK3.out).mono ?_
    rintro e w3 ⟨rfl, hk3⟩
    have HK4 := hid (HK3.out.trans hk3)
    clear hk3 HK3
    go_wp2
    go_ret2
    exact ⟨rfl, HK4.out⟩
  · rw [if_neg h0]
    clear hM
    have hne : ((lacksF c) != 0) = true := by rw [bne_iff_ne]; exact h0
    clear h0
    unfold cvV at *
    generalize lacksF c = L at *
    go_enter Tryz.func171, Tryz.ntmps171
    go_wp2_with fail
    refine (HL.out _).mono ?_
    rintro e w1 ⟨rfl, hk1⟩
    have HK1 := hid (HK.out.trans hk1)
    clear hk1
    go_wp2
    go_ret2
    exact ⟨rfl, HK1.out⟩

set_option maxHeartbeats 1000000 in
set_option maxRecDepth 100000 in
theorem show_any (c : Cov) (k : Int) (x : ByteArray) (hc : Few c) (hx : x.size ≤ 1002) (w : World) (hM : lacksF c = 0 → UnmAt w) :
    Calls Tryz.prog 131 #[cvV c, .int .i64 k, .string x] w fun e w' => e = .returned (.tuple #[.string (showF c k x).1, .int .i64 (showF c k x).2]) ∧ Kept (fun _ => False) w w' := by
  have HL := hid (lacks_any c)
  obtain ⟨c0, c1, c2⟩ := (CvAt.new w c).cells
  have HB := hid (CvAt.new w c)
  have HK := hid ((Kept.refl (fun _ => False) w).alloc (.cells #[.string c.secret, .string c.vector, .bool c.has] 129))
  unfold showF
  by_cases h0 : lacksF c = 0
  · rw [if_pos h0]
    rw [h0] at HL
    have HM := hid (hM h0)
    have HMM := hid (HM.out k c.secret c.vector x hc.secret hc.vector (by omega))
    clear hM HM h0
    unfold cvV at *
    by_cases h2 : x.size < 2
    · rw [if_pos h2]
      have h2z : (x.size : Int) < 2 := by omega
      clear h2 HMM
      go_enter Tryz.func131, Tryz.ntmps131
      go_wp2_with fail
      refine (HL.out _).mono ?_
      rintro e w1 ⟨rfl, hk1⟩
      have HK1 := hid (HK.out.trans hk1)
      clear hk1
      go_wp2
      go_ret2
      exact ⟨rfl, HK1.out⟩
    · rw [if_neg h2]
      have h2z : ¬ (x.size : Int) < 2 := by omega
      have hms := maskA_size true k c.secret c.vector x
      obtain ⟨R, hR⟩ : ∃ R, R = maskA true k c.secret c.vector x := ⟨_, rfl⟩
      rw [← hR] at HMM hms ⊢
      have HW := hid (word_any R 0 (by omega) (by omega))
      have hms' : (R.size : Int) = (x.size : Int) := by omega
      by_cases h3 : numAt R 0 = x.size - 2
      · rw [if_pos h3]
        have hne : ((numAt R 0 : Int) != (x.size : Int) - 2) = false := by rw [bne_eq_false_iff_eq]; omega
        have jE := last_at R 2 (by omega) 2 rfl
        rw [hms] at jE
        have hz : (R.extract 2 x.size).size ≤ 281474976710656 := by rw [ByteArray.size_extract]; omega
        have HC := hid (fun W => clone_any (R.extract 2 x.size) W hz)
        generalize R.extract 2 x.size = E at *
        generalize numAt R 0 = N at *
        have hxx : (x.size : Int) ≤ 1002 := by omega
        clear hR h2 h3 hms hz hc hx
        go_enter Tryz.func131, Tryz.ntmps131
        go_wp2_with fail
        refine (HL.out _).mono ?_
        rintro e w1 ⟨rfl, hk1⟩
        obtain ⟨d0, d1, d2⟩ := (HB.out.kept0 hk1).cells
        have HK1 := hid (HK.out.trans hk1)
        clear hk1 c0 c1 c2 HB HK
        go_wp2_with fail
        refine (HMM.out _ HK1.out).mono ?_
        rintro e w2 ⟨rfl, hk2⟩
        have HK2 := hid (HK1.out.trans hk2)
        clear hk2 HK1 d0 d1 d2
        go_wp2_with fail
        refine (HW.out _).mono ?_
        rintro e w3 ⟨rfl, rfl⟩
        go_wp2_with fail
        refine (HC.out _).mono ?_
        rintro e w4 ⟨rfl, hb4⟩
        have HK4 := hid (HK2.out.trans (kept_of hb4))
        clear hb4 HK2
        go_wp2
        go_ret2
        exact ⟨rfl, HK4.out⟩
      · rw [if_neg h3]
        have hne : ((numAt R 0 : Int) != (x.size : Int) - 2) = true := by rw [bne_iff_ne]; omega
        generalize numAt R 0 = N at *
        have hxx : (x.size : Int) ≤ 1002 := by omega
        clear hR h2 h3 hms hc hx
        go_enter Tryz.func131, Tryz.ntmps131
        go_wp2_with fail
        refine (HL.out _).mono ?_
        rintro e w1 ⟨rfl, hk1⟩
        obtain ⟨d0, d1, d2⟩ := (HB.out.kept0 hk1).cells
        have HK1 := hid (HK.out.trans hk1)
        clear hk1 c0 c1 c2 HB HK
        go_wp2_with fail
        refine (HMM.out _ HK1.out).mono ?_
        rintro e w2 ⟨rfl, hk2⟩
        have HK2 := hid (HK1.out.trans hk2)
        clear hk2 HK1 d0 d1 d2
        go_wp2_with fail
        refine (HW.out _).mono ?_
        rintro e w3 ⟨rfl, rfl⟩
        go_wp2
        go_ret2
        exact ⟨rfl, HK2.out⟩
  · rw [if_neg h0]
    clear hM
    have hne : ((lacksF c) != 0) = true := by rw [bne_iff_ne]; exact h0
    clear h0
    unfold cvV at *
    generalize lacksF c = L at *
    go_enter Tryz.func131, Tryz.ntmps131
    go_wp2_with fail
    refine (HL.out _).mono ?_
    rintro e w1 ⟨rfl, hk1⟩
    have HK1 := hid (HK.out.trans hk1)
    clear hk1
    go_wp2
    go_ret2
    exact ⟨rfl, HK1.out⟩
end Go.Proofs.YtkneogfeokckjaaGreatDoor
