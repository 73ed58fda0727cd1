/- The contract of New. (Written by gen_cnnew.py.) -/
import Derived.Test.YtoflohomnoppnaaCnSmall
import Derived.Test.YtoflohomnoppnaaCnTick
namespace Go.Proofs.Ytoflohomnoppnaa
open Go.RowKit

def PaceB (w : World) (g : Nat) (a b c d : Int) : Prop := w.heap[g]? = some (.cells #[.int .i64 a, .int .i64 b, .int .i64 c, .int .i64 d] 28 (0, 0))
section
variable {w : World} {g : Nat} {a b c d : Int}
theorem PaceB.soft (h : PaceB w g a b c d) (j : Nat) : w.frozen? ⟨g, j, none⟩ = false := frozen_of_row w g j _ _ h
theorem PaceB.cell (h : PaceB w g a b c d) (j : Nat) : w.cell? ⟨g, j, none⟩ = (#[Value.int .i64 a, .int .i64 b, .int .i64 c, .int .i64 d])[j]? := by
  unfold PaceB at h
  simp [World.cell?, h]
end

set_option maxHeartbeats 4000000 in
set_option maxRecDepth 100000 in
theorem newPace_any (win : Int) (w : World) :
    Calls Try.prog 33 #[.int .i64 win] w fun e w' => e = .returned (.agg #[.int .i64 win, .int .i64 1, .int .i64 win, .int .i64 0]) ∧ Kept (fun _ => False) w w' := by
  have K0 := hid ((Kept.refl (fun _ => False) w).alloc (.cells #[.int .i64 0, .int .i64 0, .int .i64 0, .int .i64 0] 28))
  have B0 : Hid (PaceB (w.alloc (.cells #[.int .i64 0, .int .i64 0, .int .i64 0, .int .i64 0] 28)) w.heap.size 0 0 0 0) := heap_alloc_new w _
  go_enter Try.func33, Try.ntmps33
  go_upto_region 1 with fail
  generalize w.alloc (.cells #[.int .i64 0, .int .i64 0, .int .i64 0, .int .i64 0] 28) = X at *
  have c0 : X.cell? ⟨w.heap.size, 0, none⟩ = some (.int .i64 0) := B0.out.cell 0
  have c1 : X.cell? ⟨w.heap.size, 1, none⟩ = some (.int .i64 0) := B0.out.cell 1
  have c2 : X.cell? ⟨w.heap.size, 2, none⟩ = some (.int .i64 0) := B0.out.cell 2
  have c3 : X.cell? ⟨w.heap.size, 3, none⟩ = some (.int .i64 0) := B0.out.cell 3
  have f0 := B0.out.soft 0
  have f1 := B0.out.soft 1
  have f2 := B0.out.soft 2
  have f3 := B0.out.soft 3
  go_wp2
  refine bodyPost_ret (v := .agg #[.int .i64 win, .int .i64 1, .int .i64 win, .int .i64 0]) (by simp [results, Try.results33, go_sem, c0, c1, c2, c3]) rfl ⟨rfl, ?_⟩
  exact (((K0.out.setCell (p := ⟨w.heap.size, 0, none⟩) (Or.inl (Nat.le_refl _)) _).setCell (p := ⟨w.heap.size, 1, none⟩) (Or.inl (Nat.le_refl _)) _).setCell (p := ⟨w.heap.size, 2, none⟩) (Or.inl (Nat.le_refl _)) _).setCell (p := ⟨w.heap.size, 3, none⟩) (Or.inl (Nat.le_refl _)) _

set_option maxHeartbeats 4000000 in
set_option maxRecDepth 100000 in
theorem new_win (win queue retry wait first : Int)  (n : ¬ (1 ≤ win ∧ win ≤ 64)) (w : World) :
    Calls Try.prog 20 #[.int .i64 win, .int .i64 queue, .int .i64 retry, .int .i64 wait, .int .i64 first] w fun e w' => e = .returned (.tuple #[.pointer none, .int .i64 1]) ∧ w' = w := by
  have hw : (decide (1 ≤ win) && decide (win ≤ 64)) = false := by simp; omega
  have HW := hid (fun W => isWin_any win W)
  rw [hw] at HW
  clear hw
  clear n
  go_enter Try.func20, Try.ntmps20
  go_wp2_with fail
  refine (HW.out _).mono ?_
  rintro e w1 ⟨rfl, hq⟩
  rw [hq]
  clear hq w1 HW
  go_wp2
  go_returns
  exact ⟨rfl, rfl⟩

set_option maxHeartbeats 4000000 in
set_option maxRecDepth 100000 in
theorem new_q1 (win queue retry wait first : Int) (gwin : 1 ≤ win ∧ win ≤ 64) (n : queue < 1) (w : World) :
    Calls Try.prog 20 #[.int .i64 win, .int .i64 queue, .int .i64 retry, .int .i64 wait, .int .i64 first] w fun e w' => e = .returned (.tuple #[.pointer none, .int .i64 1]) ∧ w' = w := by
  have hw : (decide (1 ≤ win) && decide (win ≤ 64)) = true := by simp; omega
  have HW := hid (fun W => isWin_any win W)
  rw [hw] at HW
  clear hw
  go_enter Try.func20, Try.ntmps20
  go_wp2_with fail
  refine (HW.out _).mono ?_
  rintro e w1 ⟨rfl, hq⟩
  rw [hq]
  clear hq w1 HW
  go_wp2
  go_returns
  exact ⟨rfl, rfl⟩

set_option maxHeartbeats 4000000 in
set_option maxRecDepth 100000 in
theorem new_q2 (win queue retry wait first : Int) (gwin : 1 ≤ win ∧ win ≤ 64) (gq1 : ¬ queue < 1) (n : 40 < queue) (w : World) :
    Calls Try.prog 20 #[.int .i64 win, .int .i64 queue, .int .i64 retry, .int .i64 wait, .int .i64 first] w fun e w' => e = .returned (.tuple #[.pointer none, .int .i64 1]) ∧ w' = w := by
  have hw : (decide (1 ≤ win) && decide (win ≤ 64)) = true := by simp; omega
  have HW := hid (fun W => isWin_any win W)
  rw [hw] at HW
  clear hw
  go_enter Try.func20, Try.ntmps20
  go_wp2_with fail
  refine (HW.out _).mono ?_
  rintro e w1 ⟨rfl, hq⟩
  rw [hq]
  clear hq w1 HW
  go_wp2
  go_returns
  exact ⟨rfl, rfl⟩

set_option maxHeartbeats 4000000 in
set_option maxRecDepth 100000 in
theorem new_r1 (win queue retry wait first : Int) (gwin : 1 ≤ win ∧ win ≤ 64) (gq1 : ¬ queue < 1) (gq2 : ¬ 40 < queue) (n : retry < 0) (w : World) :
    Calls Try.prog 20 #[.int .i64 win, .int .i64 queue, .int .i64 retry, .int .i64 wait, .int .i64 first] w fun e w' => e = .returned (.tuple #[.pointer none, .int .i64 1]) ∧ w' = w := by
  have hw : (decide (1 ≤ win) && decide (win ≤ 64)) = true := by simp; omega
  have HW := hid (fun W => isWin_any win W)
  rw [hw] at HW
  clear hw
  go_enter Try.func20, Try.ntmps20
  go_wp2_with fail
  refine (HW.out _).mono ?_
  rintro e w1 ⟨rfl, hq⟩
  rw [hq]
  clear hq w1 HW
  go_wp2
  go_returns
  exact ⟨rfl, rfl⟩

set_option maxHeartbeats 4000000 in
set_option maxRecDepth 100000 in
theorem new_r2 (win queue retry wait first : Int) (gwin : 1 ≤ win ∧ win ≤ 64) (gq1 : ¬ queue < 1) (gq2 : ¬ 40 < queue) (gr1 : ¬ retry < 0) (n : 10 < retry) (w : World) :
    Calls Try.prog 20 #[.int .i64 win, .int .i64 queue, .int .i64 retry, .int .i64 wait, .int .i64 first] w fun e w' => e = .returned (.tuple #[.pointer none, .int .i64 1]) ∧ w' = w := by
  have hw : (decide (1 ≤ win) && decide (win ≤ 64)) = true := by simp; omega
  have HW := hid (fun W => isWin_any win W)
  rw [hw] at HW
  clear hw
  go_enter Try.func20, Try.ntmps20
  go_wp2_with fail
  refine (HW.out _).mono ?_
  rintro e w1 ⟨rfl, hq⟩
  rw [hq]
  clear hq w1 HW
  go_wp2
  go_returns
  exact ⟨rfl, rfl⟩

set_option maxHeartbeats 4000000 in
set_option maxRecDepth 100000 in
theorem new_w1 (win queue retry wait first : Int) (gwin : 1 ≤ win ∧ win ≤ 64) (gq1 : ¬ queue < 1) (gq2 : ¬ 40 < queue) (gr1 : ¬ retry < 0) (gr2 : ¬ 10 < retry) (n : wait < 1) (w : World) :
    Calls Try.prog 20 #[.int .i64 win, .int .i64 queue, .int .i64 retry, .int .i64 wait, .int .i64 first] w fun e w' => e = .returned (.tuple #[.pointer none, .int .i64 1]) ∧ w' = w := by
  have hw : (decide (1 ≤ win) && decide (win ≤ 64)) = true := by simp; omega
  have HW := hid (fun W => isWin_any win W)
  rw [hw] at HW
  clear hw
  go_enter Try.func20, Try.ntmps20
  go_wp2_with fail
  refine (HW.out _).mono ?_
  rintro e w1 ⟨rfl, hq⟩
  rw [hq]
  clear hq w1 HW
  go_wp2
  go_returns
  exact ⟨rfl, rfl⟩

set_option maxHeartbeats 4000000 in
set_option maxRecDepth 100000 in
theorem new_w2 (win queue retry wait first : Int) (gwin : 1 ≤ win ∧ win ≤ 64) (gq1 : ¬ queue < 1) (gq2 : ¬ 40 < queue) (gr1 : ¬ retry < 0) (gr2 : ¬ 10 < retry) (gw1 : ¬ wait < 1) (n : 100 < wait) (w : World) :
    Calls Try.prog 20 #[.int .i64 win, .int .i64 queue, .int .i64 retry, .int .i64 wait, .int .i64 first] w fun e w' => e = .returned (.tuple #[.pointer none, .int .i64 1]) ∧ w' = w := by
  have hw : (decide (1 ≤ win) && decide (win ≤ 64)) = true := by simp; omega
  have HW := hid (fun W => isWin_any win W)
  rw [hw] at HW
  clear hw
  go_enter Try.func20, Try.ntmps20
  go_wp2_with fail
  refine (HW.out _).mono ?_
  rintro e w1 ⟨rfl, hq⟩
  rw [hq]
  clear hq w1 HW
  go_wp2
  go_returns
  exact ⟨rfl, rfl⟩

set_option maxHeartbeats 4000000 in
set_option maxRecDepth 100000 in
theorem new_f (win queue retry wait first : Int) (gwin : 1 ≤ win ∧ win ≤ 64) (gq1 : ¬ queue < 1) (gq2 : ¬ 40 < queue) (gr1 : ¬ retry < 0) (gr2 : ¬ 10 < retry) (gw1 : ¬ wait < 1) (gw2 : ¬ 100 < wait) (n : numN first = false) (w : World) :
    Calls Try.prog 20 #[.int .i64 win, .int .i64 queue, .int .i64 retry, .int .i64 wait, .int .i64 first] w fun e w' => e = .returned (.tuple #[.pointer none, .int .i64 1]) ∧ w' = w := by
  have hw : (decide (1 ≤ win) && decide (win ≤ 64)) = true := by simp; omega
  have HW := hid (fun W => isWin_any win W)
  rw [hw] at HW
  clear hw
  have HF := hid (fun W => isNum_any first W)
  rw [n] at HF
  clear n
  go_enter Try.func20, Try.ntmps20
  go_wp2_with fail
  refine (HW.out _).mono ?_
  rintro e w1 ⟨rfl, hq⟩
  rw [hq]
  clear hq w1 HW
  go_wp2_with fail
  refine (HF.out _).mono ?_
  rintro e w1 ⟨rfl, hq⟩
  rw [hq]
  clear hq w1 HF
  go_wp2
  go_returns
  exact ⟨rfl, rfl⟩

set_option maxHeartbeats 4000000 in
set_option maxRecDepth 100000 in
theorem new_ok (win queue retry wait first : Int) (gwin : 1 ≤ win ∧ win ≤ 64) (gq1 : ¬ queue < 1) (gq2 : ¬ 40 < queue) (gr1 : ¬ retry < 0) (gr2 : ¬ 10 < retry) (gw1 : ¬ wait < 1) (gw2 : ¬ 100 < wait) (gf : numN first = true) (w : World) :
    Calls Try.prog 20 #[.int .i64 win, .int .i64 queue, .int .i64 retry, .int .i64 wait, .int .i64 first] w fun e w' => ∃ b, e = .returned (.tuple #[.pointer (some ⟨b, 0, none⟩), .int .i64 0]) ∧ CnIn w' b (newN win queue retry wait first) (.slice none 0 0) (.slice none 0 0) ∧ w.heap.size ≤ b ∧ Kept (fun _ => False) w w' := by
  have hw : (decide (1 ≤ win) && decide (win ≤ 64)) = true := by simp; omega
  have HW := hid (fun W => isWin_any win W)
  rw [hw] at HW
  have HF := hid (fun W => isNum_any first W)
  rw [gf] at HF
  have HP := hid (fun W => newPace_any win W)
  clear hw gf gwin
  go_enter Try.func20, Try.ntmps20
  go_wp2_with fail
  refine (HW.out _).mono ?_
  rintro e w1 ⟨rfl, hq⟩
  rw [hq]
  clear hq w1 HW
  go_wp2_with fail
  refine (HF.out _).mono ?_
  rintro e w1 ⟨rfl, hq⟩
  rw [hq]
  clear hq w1 HF
  go_wp2_with fail
  refine (HP.out _).mono ?_
  rintro e w3 ⟨rfl, hk3⟩
  have hka := hk3.alloc (.cells (cnCells (newN win queue retry wait first) (.slice none 0 0) (.slice none 0 0)) 31)
  have hcn : CnB (w3.alloc (.cells (cnCells (newN win queue retry wait first) (.slice none 0 0) (.slice none 0 0)) 31)) w3.heap.size (newN win queue retry wait first) (.slice none 0 0) (.slice none 0 0) := heap_alloc_new w3 _
  have HC := hid hcn
  have HK := hid hka
  have hs := hk3.size
  clear hcn hka hk3
  go_wp2
  go_returns
  refine ⟨w3.heap.size, rfl, ⟨HC.out, OwnG.nil _ _, OwnG.nil _ _, fun i hi => by cases hi⟩, hs, HK.out⟩

theorem new_any (win queue retry wait first : Int) (w : World) :
    Calls Try.prog 20 #[.int .i64 win, .int .i64 queue, .int .i64 retry, .int .i64 wait, .int .i64 first] w fun e w' => (newOkN win queue retry wait first = false ∧ e = .returned (.tuple #[.pointer none, .int .i64 1]) ∧ Kept (fun _ => False) w w') ∨ (newOkN win queue retry wait first = true ∧ ∃ b, e = .returned (.tuple #[.pointer (some ⟨b, 0, none⟩), .int .i64 0]) ∧ CnIn w' b (newN win queue retry wait first) (.slice none 0 0) (.slice none 0 0) ∧ w.heap.size ≤ b ∧ Kept (fun _ => False) w w') := by
  by_cases gwin : 1 ≤ win ∧ win ≤ 64
  case neg =>
    have hb : newOkN win queue retry wait first = false := by
      cases hq : newOkN win queue retry wait first with
      | false => rfl
      | true =>
        simp only [newOkN, Bool.and_eq_true, decide_eq_true_eq] at hq
        exact absurd (by omega) gwin
    refine (new_win win queue retry wait first  (gwin) w).mono ?_
    rintro e w' ⟨rfl, hq⟩
    exact Or.inl ⟨hb, rfl, by rw [hq]; exact Kept.refl _ _⟩
  by_cases gq1 : ¬ queue < 1
  case neg =>
    have hb : newOkN win queue retry wait first = false := by
      cases hq : newOkN win queue retry wait first with
      | false => rfl
      | true =>
        simp only [newOkN, Bool.and_eq_true, decide_eq_true_eq] at hq
        exact absurd (by omega) gq1
    refine (new_q1 win queue retry wait first gwin (by omega) w).mono ?_
    rintro e w' ⟨rfl, hq⟩
    exact Or.inl ⟨hb, rfl, by rw [hq]; exact Kept.refl _ _⟩
  by_cases gq2 : ¬ 40 < queue
  case neg =>
    have hb : newOkN win queue retry wait first = false := by
      cases hq : newOkN win queue retry wait first with
      | false => rfl
      | true =>
        simp only [newOkN, Bool.and_eq_true, decide_eq_true_eq] at hq
        exact absurd (by omega) gq2
    refine (new_q2 win queue retry wait first gwin gq1 (by omega) w).mono ?_
    rintro e w' ⟨rfl, hq⟩
    exact Or.inl ⟨hb, rfl, by rw [hq]; exact Kept.refl _ _⟩
  by_cases gr1 : ¬ retry < 0
  case neg =>
    have hb : newOkN win queue retry wait first = false := by
      cases hq : newOkN win queue retry wait first with
      | false => rfl
      | true =>
        simp only [newOkN, Bool.and_eq_true, decide_eq_true_eq] at hq
        exact absurd (by omega) gr1
    refine (new_r1 win queue retry wait first gwin gq1 gq2 (by omega) w).mono ?_
    rintro e w' ⟨rfl, hq⟩
    exact Or.inl ⟨hb, rfl, by rw [hq]; exact Kept.refl _ _⟩
  by_cases gr2 : ¬ 10 < retry
  case neg =>
    have hb : newOkN win queue retry wait first = false := by
      cases hq : newOkN win queue retry wait first with
      | false => rfl
      | true =>
        simp only [newOkN, Bool.and_eq_true, decide_eq_true_eq] at hq
        exact absurd (by omega) gr2
    refine (new_r2 win queue retry wait first gwin gq1 gq2 gr1 (by omega) w).mono ?_
    rintro e w' ⟨rfl, hq⟩
    exact Or.inl ⟨hb, rfl, by rw [hq]; exact Kept.refl _ _⟩
  by_cases gw1 : ¬ wait < 1
  case neg =>
    have hb : newOkN win queue retry wait first = false := by
      cases hq : newOkN win queue retry wait first with
      | false => rfl
      | true =>
        simp only [newOkN, Bool.and_eq_true, decide_eq_true_eq] at hq
        exact absurd (by omega) gw1
    refine (new_w1 win queue retry wait first gwin gq1 gq2 gr1 gr2 (by omega) w).mono ?_
    rintro e w' ⟨rfl, hq⟩
    exact Or.inl ⟨hb, rfl, by rw [hq]; exact Kept.refl _ _⟩
  by_cases gw2 : ¬ 100 < wait
  case neg =>
    have hb : newOkN win queue retry wait first = false := by
      cases hq : newOkN win queue retry wait first with
      | false => rfl
      | true =>
        simp only [newOkN, Bool.and_eq_true, decide_eq_true_eq] at hq
        exact absurd (by omega) gw2
    refine (new_w2 win queue retry wait first gwin gq1 gq2 gr1 gr2 gw1 (by omega) w).mono ?_
    rintro e w' ⟨rfl, hq⟩
    exact Or.inl ⟨hb, rfl, by rw [hq]; exact Kept.refl _ _⟩
  by_cases gf : numN first = true
  case neg =>
    have hb : newOkN win queue retry wait first = false := by
      cases hq : newOkN win queue retry wait first with
      | false => rfl
      | true =>
        simp only [newOkN, Bool.and_eq_true, decide_eq_true_eq] at hq
        exact absurd (by simp only [numN, Bool.and_eq_true, decide_eq_true_eq]; omega) gf
    refine (new_f win queue retry wait first gwin gq1 gq2 gr1 gr2 gw1 gw2 (by simpa using gf) w).mono ?_
    rintro e w' ⟨rfl, hq⟩
    exact Or.inl ⟨hb, rfl, by rw [hq]; exact Kept.refl _ _⟩
  have hb : newOkN win queue retry wait first = true := by
    simp only [numN, Bool.and_eq_true, decide_eq_true_eq] at gf
    simp only [newOkN, Bool.and_eq_true, decide_eq_true_eq]
    omega
  refine (new_ok win queue retry wait first gwin gq1 gq2 gr1 gr2 gw1 gw2 gf w).mono ?_
  intro e w' h
  exact Or.inr ⟨hb, h⟩
end Go.Proofs.Ytoflohomnoppnaa
