/- The walk of StoreForgets: an empty secret takes a name away, with how often it was wrong. -/
import Derived.Test.YtmbdjgfbhblifaaKsOne
namespace Go.Proofs.Ytmbdjgfbhblifaa
open Go.RowKit

theorem good_longer (x : ByteArray) : goodS (x ++ ⟨#[120]⟩) x = false := by
  rw [goodS_eq, decide_eq_false_iff_not]
  intro h
  have := congrArg List.length h
  simp [ByteArray.data_append] at this
theorem tryE_free (calm : Int) (x : ByteArray) (n : Nat) (hn : n ≤ 50) : tryE 0 calm ⟨x, (n : Int), 0⟩ (goodS (x ++ ⟨#[120]⟩)) 0 = (30, ⟨x, ((n + 1 : Nat) : Int), 0⟩) := by
  unfold tryE shutE
  rw [if_neg (by simp), if_neg (by rw [good_longer]; decide)]
  unfold moreE
  simp only
  rw [if_pos (by omega)]
  rfl
/-- A law's store of one name with its secret, which was wrong n times, last at 0. -/
def FgM (w W : World) (b : Nat) (s x : ByteArray) (n : Int) : Prop := Hid (SMine w W b 0 5 (oneA (splitF s) ⟨x, n, 0⟩))
def FgE (w W : World) (b : Nat) : Prop := Hid (SMine w W b 0 5 empA)

set_option maxHeartbeats 4000000 in
set_option maxRecDepth 100000 in
theorem storeForgets_in (s x : ByteArray) (N : Nat) (w : World) (hs : s.size ≤ 60) (hx0 : x.size ≠ 0) (hx : x.size ≤ 50) (hN : N ≤ 50) :
    Calls Try.prog 5 #[.string s, .string x, .int .i64 (N : Int)] w fun e w' => e = .returned (.bool true) ∧ Kept (fun _ => False) w w' := by
  have Ha := hid alive15_any
  have hxx : (x ++ ⟨#[120]⟩ : ByteArray).size ≤ 1000000 := by rw [ByteArray.size_append]; show x.size + 1 ≤ 1000000; omega
  have i0 : In64 0 := ⟨by decide, by decide⟩
  have few : ∀ n : Nat, n ≤ 50 → FewE ⟨x, (n : Int), 0⟩ := fun n hn => ⟨by show x.size ≤ 1000000; omega, by show (0 : Int) ≤ n; omega, by show (n : Int) ≤ 1000000000000; omega, i0⟩
  have C1 := hid (new_good (Kept.refl (fun _ => False) w) 0 5 ⟨by decide, by decide, by decide, by decide⟩)
  have C2 : Hid (∀ b W, SMine w W b 0 5 empA → Calls Try.prog 8 #[.pointer (some ⟨b, 0, none⟩), .string s, .string x] W fun e w' => e = .returned (.int .i64 0) ∧ FgM w w' b s x ((0 : Nat) : Int)) := fun b W h => SMine.set1 (w0 := w) (w := W) (b := b) h s x hs (by omega) hx0
  have C3 : Hid (∀ b W (n : Nat), n ≤ 50 → FgM w W b s x n → Calls Try.prog 9 #[.pointer (some ⟨b, 0, none⟩), .string s, .string (x ++ ⟨#[120]⟩), .int .i64 0] W fun e w' => e = .returned (.int .i64 30) ∧ FgM w w' b s x ((n + 1 : Nat) : Int)) := fun b W n h1 h => by
    have := SMine.pap1 (w0 := w) (w := W) (b := b) (s := s) h.out (by omega) (by decide) (few n h1) (x ++ ⟨#[120]⟩) hxx 0 i0 (30, ⟨x, ((n + 1 : Nat) : Int), 0⟩) (tryE_free 5 x n h1)
    exact this
  have C4 : Hid (∀ b W (n : Int), FgM w W b s x n → Calls Try.prog 10 #[.pointer (some ⟨b, 0, none⟩), .string s] W fun e w' => e = .returned (.int .i64 n) ∧ FgM w w' b s x n) := fun b W n h => by
    have := h.out.wrong s (by omega)
    rw [wrongA_one] at this
    exact this
  have C5 : Hid (∀ b W (n : Nat), n ≤ 50 → FgM w W b s x n → Calls Try.prog 8 #[.pointer (some ⟨b, 0, none⟩), .string s, .string ⟨#[]⟩] W fun e w' => e = .returned (.int .i64 0) ∧ FgE w w' b) := fun b W n h1 h => by
    have := h.out.set (few_one (few n h1)) s ⟨#[]⟩ (by omega) (by decide)
    rw [setA_gone s _ hs] at this
    exact this
  have C6 : Hid (∀ b W, FgE w W b → Calls Try.prog 12 #[.pointer (some ⟨b, 0, none⟩)] W fun e w' => e = .returned (.int .i64 0) ∧ w' = W) := fun b W h => by
    obtain ⟨m, hm⟩ := h.out.here
    exact len_any hm
  have C7 : Hid (∀ b W, FgE w W b → Calls Try.prog 10 #[.pointer (some ⟨b, 0, none⟩), .string s] W fun e w' => e = .returned (.int .i64 0) ∧ FgE w w' b) := fun b W h => h.out.wrong s (by omega)
  have C8 : Hid (∀ b W (y : ByteArray), y.size ≤ 1000000 → FgE w W b → Calls Try.prog 9 #[.pointer (some ⟨b, 0, none⟩), .string s, .string y, .int .i64 0] W fun e w' => e = .returned (.int .i64 30) ∧ FgE w w' b) := fun b W y hy h => h.out.pap (by decide) few_emp s y (by omega) hy 0 i0
  have hne : ¬ x.toList = [] := fun e => by
    apply hx0
    rw [ByteArray.toList_eq] at e
    have := congrArg List.length e
    simpa using this
  have hne' : x.toList.isEmpty = false := by rw [List.isEmpty_eq_false_iff]; exact hne
  have z1 : ¬ (50 : Int) < (x.size : Int) := by omega
  have z2 : ¬ (60 : Int) < (s.size : Int) := by omega
  have z3 : ¬ ((N : Int)) < 0 := by omega
  have z4 : ¬ (50 : Int) < (N : Int) := by omega
  have C8a := hid (fun b W => C8.out b W ⟨#[]⟩ (by decide))
  have C8b := hid (fun b W => C8.out b W x (by omega))
  have HN := hid hN
  clear hxx i0 few hx0 hs hx hN C8
  go_enter Try.func5, Try.ntmps5
  go_wp2_with fail
  refine C1.out.mono ?_
  rintro e w1 ⟨b, rfl, h1⟩
  have H1 := hid h1
  clear h1 C1
  go_wp2_with fail
  refine (C2.out _ _ H1.out).mono ?_
  rintro e w2 ⟨rfl, h2⟩
  have H2 := hid h2
  clear h2 C2 H1
  go_wp2
  go_loopw [9] (fun vi wr => ∃ i : Nat, i ≤ N ∧ vi = .int .i64 (i : Int) ∧ FgM w wr b s x i) (fun vi _ => N - (intOf vi).toNat)
  case atStart => exact ⟨0, Nat.zero_le _, rfl, H2.out⟩
  case round =>
    obtain ⟨i, hi, rfl, hS⟩ := hrel
    by_cases hlt : i < N
    · have hlt' : (i : Int) < (N : Int) := by omega
      have hi50 : i ≤ 50 := by have := HN.out; omega
      have C3' := hid (C3.out b _ i hi50 hS)
      clear hS hi
      go_wp2_with fail
      refine C3'.out.mono ?_
      rintro e w3 ⟨rfl, h3⟩
      have H3 := hid h3
      clear h3 C3'
      go_wp2
      go_roundw
      case rel => exact ⟨i + 1, by omega, by go_num, H3.out⟩
      case measure => simp [intOf]; omega
    · have hlt' : ¬ (i : Int) < (N : Int) := by omega
      obtain rfl : i = N := by omega
      have C4' := hid (C4.out b _ i hS)
      clear hS hi hlt hlt' H2
      go_wp2_with fail
      refine C4'.out.mono ?_
      rintro e w3 ⟨rfl, h3⟩
      have H3 := hid h3
      clear h3 C4'
      go_wp2_with fail
      refine (C5.out _ _ _ HN.out H3.out).mono ?_
      rintro e w4 ⟨rfl, h4⟩
      have H4 := hid h4
      clear h4 H3
      go_wp2_with fail
      refine (Ha.out _).mono ?_
      rintro e w5 ⟨rfl, h5⟩
      have H5 : Hid (FgE w w5 b) := H4.out.out.still h5
      clear h5 H4
      go_wp2_with fail
      refine (C6.out _ _ H5.out).mono ?_
      rintro e w6 ⟨rfl, hw6⟩
      rw [hw6]
      clear hw6
      go_wp2_with fail
      refine (C7.out _ _ H5.out).mono ?_
      rintro e w7 ⟨rfl, h7⟩
      have H7 := hid h7
      clear h7 H5
      go_wp2_with fail
      refine (C8a.out _ _ H7.out).mono ?_
      rintro e w8 ⟨rfl, h8⟩
      have H8 := hid h8
      clear h8 H7
      go_wp2_with fail
      refine (C8b.out _ _ H8.out).mono ?_
      rintro e w9 ⟨rfl, h9⟩
      have H9 := hid h9
      clear h9 H8
      go_wp2
      go_ret
      exact ⟨rfl, H9.out.out.kept⟩

set_option maxHeartbeats 2000000 in
set_option maxRecDepth 100000 in
theorem storeForgets_walk (s x : ByteArray) (n : Int) (w : World) (_ : s.size ≤ 140737488351232) (_ : x.size ≤ 140737488351232) (_ : -9223372036854775808 ≤ n ∧ n ≤ 9223372036854775807) :
    Calls Try.prog 5 #[.string s, .string x, .int .i64 n] w fun e w' => e = .returned (.bool true) ∧ Below w.heap.size w w' := by
  have fin : ∀ {e : Ending} {w' : World}, (e = .returned (.bool true) ∧ Kept (fun _ => False) w w') → (e = .returned (.bool true) ∧ Below w.heap.size w w') := fun h => ⟨h.1, h.2.below (Nat.le_refl _) (fun i hi => hi.elim)⟩
  by_cases h : s.size ≤ 60 ∧ x.size ≠ 0 ∧ x.size ≤ 50 ∧ 0 ≤ n ∧ n ≤ 50
  · obtain ⟨h1, h2, h3, h4, h5⟩ := h
    obtain ⟨N, rfl⟩ : ∃ N : Nat, n = (N : Int) := ⟨n.toNat, by omega⟩
    exact (storeForgets_in s x N w h1 h2 h3 (by omega)).mono fun _ _ h => fin h
  · refine Calls.mono (R := fun e w' => e = .returned (.bool true) ∧ Kept (fun _ => False) w w') ?_ fun _ _ h => fin h
    have Ha := hid alive15_any
    have C1 := hid (new_good (Kept.refl (fun _ => False) w) 0 5 ⟨by decide, by decide, by decide, by decide⟩)
    have HH := hid h
    clear h fin
    by_cases z0 : x.size = 0
    · have hem : x = ⟨#[]⟩ := by
        apply ByteArray.ext
        exact Array.eq_empty_of_size_eq_zero z0
      subst hem
      have hem0 : (⟨#[]⟩ : ByteArray).toList = [] := by rw [ByteArray.toList_eq]
      clear z0 HH
      go_enter Try.func5, Try.ntmps5
      go_wp2_with fail
      refine C1.out.mono ?_
      rintro e w1 ⟨b, rfl, h1⟩
      have H1 := hid h1
      clear h1 C1
      go_wp2_with fail
      refine (Ha.out _).mono ?_
      rintro e w2 ⟨rfl, h2⟩
      go_wp2
      go_ret
      exact ⟨rfl, H1.out.kept.trans h2⟩
    · have hne : ¬ x.toList = [] := fun e => by
        apply z0
        rw [ByteArray.toList_eq] at e
        have := congrArg List.length e
        simpa using this
      have hne' : x.toList.isEmpty = false := by rw [List.isEmpty_eq_false_iff]; exact hne
      by_cases z1 : (50 : Int) < (x.size : Int)
      · clear z0 HH
        go_enter Try.func5, Try.ntmps5
        go_wp2_with fail
        refine C1.out.mono ?_
        rintro e w1 ⟨b, rfl, h1⟩
        have H1 := hid h1
        clear h1 C1
        go_wp2_with fail
        refine (Ha.out _).mono ?_
        rintro e w2 ⟨rfl, h2⟩
        go_wp2
        go_ret
        exact ⟨rfl, H1.out.kept.trans h2⟩
      · by_cases z2 : (60 : Int) < (s.size : Int)
        · clear z0 HH
          go_enter Try.func5, Try.ntmps5
          go_wp2_with fail
          refine C1.out.mono ?_
          rintro e w1 ⟨b, rfl, h1⟩
          have H1 := hid h1
          clear h1 C1
          go_wp2_with fail
          refine (Ha.out _).mono ?_
          rintro e w2 ⟨rfl, h2⟩
          go_wp2
          go_ret
          exact ⟨rfl, H1.out.kept.trans h2⟩
        · by_cases z3 : n < 0
          · clear z0 HH
            go_enter Try.func5, Try.ntmps5
            go_wp2_with fail
            refine C1.out.mono ?_
            rintro e w1 ⟨b, rfl, h1⟩
            have H1 := hid h1
            clear h1 C1
            go_wp2_with fail
            refine (Ha.out _).mono ?_
            rintro e w2 ⟨rfl, h2⟩
            go_wp2
            go_ret
            exact ⟨rfl, H1.out.kept.trans h2⟩
          · have z4 : 50 < n := by
              have := HH.out
              omega
            clear z0 HH
            go_enter Try.func5, Try.ntmps5
            go_wp2_with fail
            refine C1.out.mono ?_
            rintro e w1 ⟨b, rfl, h1⟩
            have H1 := hid h1
            clear h1 C1
            go_wp2_with fail
            refine (Ha.out _).mono ?_
            rintro e w2 ⟨rfl, h2⟩
            go_wp2
            go_ret
            exact ⟨rfl, H1.out.kept.trans h2⟩
end Go.Proofs.Ytmbdjgfbhblifaa
