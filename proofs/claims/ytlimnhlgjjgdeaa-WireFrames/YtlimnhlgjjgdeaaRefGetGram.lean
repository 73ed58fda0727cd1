/- The contract of the document's own GetGram: a datagram out of bytes, or the error; for every string of at most 2^40 bytes. -/
import Derived.Test.YtlimnhlgjjgdeaaRefPutGram
namespace Go.Proofs.Ytlimnhlgjjgdeaa
open Go.RowKit

/-- The result's own cells, as they were laid, and nothing turned of what was there. -/
abbrev SR (w W : World) : Prop :=
  W.cell? ⟨w.heap.size, 0, none⟩ = some (.int .i64 0) ∧ W.cell? ⟨w.heap.size, 1, none⟩ = some (.int .i64 0) ∧ W.cell? ⟨w.heap.size, 2, none⟩ = some (.string ⟨#[]⟩) ∧ (∀ j, W.frozen? ⟨w.heap.size, j, none⟩ = false) ∧ Below w.heap.size w W ∧ w.heap.size < W.heap.size
theorem sr_next {w W W' : World} (h : SR w W) (hb : Below W.heap.size W W') : SR w W' :=
  ⟨(hb.cell (p := ⟨w.heap.size, 0, none⟩) h.2.2.2.2.2).trans h.1, (hb.cell (p := ⟨w.heap.size, 1, none⟩) h.2.2.2.2.2).trans h.2.1, (hb.cell (p := ⟨w.heap.size, 2, none⟩) h.2.2.2.2.2).trans h.2.2.1, fun j => (hb.frozen (p := ⟨w.heap.size, j, none⟩) h.2.2.2.2.2).trans (h.2.2.2.1 j), h.2.2.2.2.1.trans (hb.mono (Nat.le_of_lt h.2.2.2.2.2)), Nat.lt_of_lt_of_le h.2.2.2.2.2 hb.size⟩
theorem sr_new (w : World) : SR w (w.alloc (.cells #[.int .i64 0, .int .i64 0, .string ⟨#[]⟩] 27)) := by
  obtain ⟨⟨h0, h1, h2⟩, hf⟩ := own3_new w 27 (.int .i64 0) (.int .i64 0) (.string ⟨#[]⟩)
  exact ⟨h0, h1, h2, hf, (Below.refl _ _).alloc (Nat.le_refl _) _, by simp⟩
theorem sr_call {w W : World} {g : Nat} {args : Array Value} {v : Value} (h : SR w W) (hc : ∀ W, Calls Try.prog g args W fun e w' => e = .returned v ∧ Below W.heap.size W w') : Calls Try.prog g args W fun e w' => e = .returned v ∧ SR w w' :=
  (hc W).mono fun _ _ ⟨he, hb⟩ => ⟨he, sr_next h hb⟩

set_option maxHeartbeats 2000000 in
theorem refGetGram_e (s y : ByteArray) (e : Int) (hne : (e != 0) = true)
    (hu : ∀ w, Calls Try.prog 31 #[.string s] w fun e' w' => e' = .returned (.tuple #[.string y, .int .i64 e]) ∧ Below w.heap.size w w') (w : World) :
    Calls Try.prog 16 #[.string s] w fun e' w' => e' = .returned (.tuple #[.agg #[.int .i64 0, .int .i64 0, .string ⟨#[]⟩], .int .i64 e]) ∧ Below w.heap.size w w' := by
  have HU := hide hu
  have HS := hide (sr_new w)
  clear hu
  go_enter Try.func16, Try.ntmps16
  go_wp2_with fail
  refine (sr_call HS.out HU.out).mono ?_
  rintro e1 w1 ⟨rfl, hS1⟩
  have HS1 := hide hS1
  obtain ⟨c0, c1, c2, f0, _, _⟩ := hS1
  go_wp2
  exact bodyPost_ret (v := .tuple #[.agg #[.int .i64 0, .int .i64 0, .string ⟨#[]⟩], .int .i64 e]) (by simp [results, Try.results16, go_sem, c0, c1, c2]) rfl ⟨rfl, ((HS1.out.2.2.2.2.1.setCell (Nat.le_refl _) _).setCell (Nat.le_refl _) _).setCell (Nat.le_refl _) _⟩

set_option maxHeartbeats 2000000 in
theorem refGetGram_s (s y : ByteArray) (hy : y.size < 6)
    (hu : ∀ w, Calls Try.prog 31 #[.string s] w fun e' w' => e' = .returned (.tuple #[.string y, .int .i64 0]) ∧ Below w.heap.size w w') (w : World) :
    Calls Try.prog 16 #[.string s] w fun e' w' => e' = .returned (.tuple #[.agg #[.int .i64 0, .int .i64 0, .string ⟨#[]⟩], .int .i64 5]) ∧ Below w.heap.size w w' := by
  have HU := hide hu
  have HS := hide (sr_new w)
  clear hu
  go_enter Try.func16, Try.ntmps16
  go_wp2_with fail
  refine (sr_call HS.out HU.out).mono ?_
  rintro e1 w1 ⟨rfl, hS1⟩
  have HS1 := hide hS1
  obtain ⟨c0, c1, c2, f0, _, _⟩ := hS1
  go_wp2
  exact bodyPost_ret (v := .tuple #[.agg #[.int .i64 0, .int .i64 0, .string ⟨#[]⟩], .int .i64 5]) (by simp [results, Try.results16, go_sem, c0, c1, c2]) rfl ⟨rfl, ((HS1.out.2.2.2.2.1.setCell (Nat.le_refl _) _).setCell (Nat.le_refl _) _).setCell (Nat.le_refl _) _⟩

set_option maxHeartbeats 2000000 in
theorem refGetGram_l (s y : ByteArray) (hsz : y.size ≤ 140737488351232) (hy : 6 ≤ y.size) (n : Nat) (hn : 1500 < n) (hn2 : n ≤ 65535)
    (hu : ∀ w, Calls Try.prog 31 #[.string s] w fun e' w' => e' = .returned (.tuple #[.string y, .int .i64 0]) ∧ Below w.heap.size w w')
    (h4 : ∀ w, Calls Try.prog 26 #[.string y, .int .i64 4] w fun e' w' => e' = .returned (.int .i64 (n : Int)) ∧ Below w.heap.size w w') (w : World) :
    Calls Try.prog 16 #[.string s] w fun e' w' => e' = .returned (.tuple #[.agg #[.int .i64 0, .int .i64 0, .string ⟨#[]⟩], .int .i64 2]) ∧ Below w.heap.size w w' := by
  have HU := hide hu
  have H4 := hide h4
  have HS := hide (sr_new w)
  clear hu h4
  go_enter Try.func16, Try.ntmps16
  go_wp2_with fail
  refine (sr_call HS.out HU.out).mono ?_
  rintro e1 w1 ⟨rfl, hS1⟩
  go_wp2_with fail
  refine (sr_call hS1 H4.out).mono ?_
  rintro e2 w2 ⟨rfl, hS2⟩
  have HS1 := hide hS2
  obtain ⟨c0, c1, c2, f0, _, _⟩ := hS2
  clear hS1
  go_wp2
  exact bodyPost_ret (v := .tuple #[.agg #[.int .i64 0, .int .i64 0, .string ⟨#[]⟩], .int .i64 2]) (by simp [results, Try.results16, go_sem, c0, c1, c2]) rfl ⟨rfl, ((HS1.out.2.2.2.2.1.setCell (Nat.le_refl _) _).setCell (Nat.le_refl _) _).setCell (Nat.le_refl _) _⟩

set_option maxHeartbeats 2000000 in
theorem refGetGram_f (s y : ByteArray) (hsz : y.size ≤ 140737488351232) (hy : 6 ≤ y.size) (n : Nat) (hn : n ≤ 1500) (hnb : ((n : Int) != (y.size : Int) - 6) = true)
    (hu : ∀ w, Calls Try.prog 31 #[.string s] w fun e' w' => e' = .returned (.tuple #[.string y, .int .i64 0]) ∧ Below w.heap.size w w')
    (h4 : ∀ w, Calls Try.prog 26 #[.string y, .int .i64 4] w fun e' w' => e' = .returned (.int .i64 (n : Int)) ∧ Below w.heap.size w w') (w : World) :
    Calls Try.prog 16 #[.string s] w fun e' w' => e' = .returned (.tuple #[.agg #[.int .i64 0, .int .i64 0, .string ⟨#[]⟩], .int .i64 4]) ∧ Below w.heap.size w w' := by
  have HU := hide hu
  have H4 := hide h4
  have HS := hide (sr_new w)
  clear hu h4
  go_enter Try.func16, Try.ntmps16
  go_wp2_with fail
  refine (sr_call HS.out HU.out).mono ?_
  rintro e1 w1 ⟨rfl, hS1⟩
  go_wp2_with fail
  refine (sr_call hS1 H4.out).mono ?_
  rintro e2 w2 ⟨rfl, hS2⟩
  go_wp2_with fail
  refine (sr_call hS2 H4.out).mono ?_
  rintro e3 w3 ⟨rfl, hS3⟩
  have HS1 := hide hS3
  obtain ⟨c0, c1, c2, f0, _, _⟩ := hS3
  clear hS1 hS2
  go_wp2
  exact bodyPost_ret (v := .tuple #[.agg #[.int .i64 0, .int .i64 0, .string ⟨#[]⟩], .int .i64 4]) (by simp [results, Try.results16, go_sem, c0, c1, c2]) rfl ⟨rfl, ((HS1.out.2.2.2.2.1.setCell (Nat.le_refl _) _).setCell (Nat.le_refl _) _).setCell (Nat.le_refl _) _⟩

set_option maxHeartbeats 4000000 in
theorem refGetGram_y (s y : ByteArray) (hsz : y.size ≤ 140737488351232) (hy : 6 ≤ y.size) (n a b : Nat) (hn : n ≤ 1500) (hnb : ((n : Int) != (y.size : Int) - 6) = false)
    (hu : ∀ w, Calls Try.prog 31 #[.string s] w fun e' w' => e' = .returned (.tuple #[.string y, .int .i64 0]) ∧ Below w.heap.size w w')
    (h4 : ∀ w, Calls Try.prog 26 #[.string y, .int .i64 4] w fun e' w' => e' = .returned (.int .i64 (n : Int)) ∧ Below w.heap.size w w')
    (h0 : ∀ w, Calls Try.prog 26 #[.string y, .int .i64 0] w fun e' w' => e' = .returned (.int .i64 (a : Int)) ∧ Below w.heap.size w w')
    (h2 : ∀ w, Calls Try.prog 26 #[.string y, .int .i64 2] w fun e' w' => e' = .returned (.int .i64 (b : Int)) ∧ Below w.heap.size w w') (w : World) :
    Calls Try.prog 16 #[.string s] w fun e' w' => e' = .returned (.tuple #[.agg #[.int .i64 (a : Int), .int .i64 (b : Int), .string (y.extract 6 y.size)], .int .i64 0]) ∧ Below w.heap.size w w' := by
  have HU := hide hu
  have H4 := hide h4
  have H0 := hide h0
  have H2 := hide h2
  have HS := hide (sr_new w)
  have i3 := last_at y 6 (by omega) 6 (by rfl)
  clear hu h4 h0 h2
  go_enter Try.func16, Try.ntmps16
  go_wp2_with fail
  refine (sr_call HS.out HU.out).mono ?_
  rintro e1 w1 ⟨rfl, hS1⟩
  go_wp2_with fail
  refine (sr_call hS1 H4.out).mono ?_
  rintro e2 w2 ⟨rfl, hS2⟩
  go_wp2_with fail
  refine (sr_call hS2 H4.out).mono ?_
  rintro e3 w3 ⟨rfl, hS3⟩
  have HSD := hide (sr_next hS3 (Below.refl _ _).drew)
  clear hS1 hS2 hS3 HS
  go_wp2_with fail
  go_region_with (first
    | (go_at_call_of 26 (Value.int .i64 0); refine (H0.out _).mono ?_; rintro e4 w4 ⟨rfl, hb4⟩)
    | (go_at_call_of 26 (Value.int .i64 2); refine (H2.out _).mono ?_; rintro e5 w5 ⟨rfl, hb5⟩; obtain ⟨c0, c1, c2, f0, hbE, _⟩ := sr_next (sr_next HSD.out hb4) hb5))
  all_goals
    go_wp2
    exact bodyPost_ret (v := .tuple #[.agg #[.int .i64 (a : Int), .int .i64 (b : Int), .string (y.extract 6 y.size)], .int .i64 0]) (by simp [results, Try.results16, go_sem, c0, c1, c2]) rfl ⟨rfl, ((hbE.setCell (Nat.le_refl _) _).setCell (Nat.le_refl _) _).setCell (Nat.le_refl _) _⟩

theorem refGetGram_any (s : ByteArray) (hs : s.size ≤ 1099511627776) (w : World) :
    Calls Try.prog 16 #[.string s] w fun e w' => e = .returned (.tuple #[gramV (getGramF s.data.toList).1, .int .i64 (getGramF s.data.toList).2]) ∧ Below w.heap.size w w' := by
  have hu := refUnseal_any s hs
  obtain ⟨x, e, hx⟩ : ∃ x e, unsealF s.data.toList = (x, e) := ⟨_, _, rfl⟩
  have hg : getGramF s.data.toList = if e ≠ 0 then ((0, 0, []), e) else if x.length < 6 then ((0, 0, []), 5) else if 1500 < numOf ((x.drop 4).take 2) then ((0, 0, []), 2)
      else if numOf ((x.drop 4).take 2) ≠ x.length - 6 then ((0, 0, []), 4) else ((numOf (x.take 2), numOf ((x.drop 2).take 2), x.drop 6), 0) := by
    unfold getGramF
    rw [hx]
  rw [hx] at hu
  by_cases he : e ≠ 0
  · rw [if_pos he] at hg
    rw [hg]
    exact refGetGram_e s _ e (by simpa using he) hu w
  · have he0 : e = 0 := by simpa using he
    subst he0
    rw [if_neg he] at hg
    obtain ⟨y, hy⟩ : ∃ y : ByteArray, y = ⟨x.toArray⟩ := ⟨_, rfl⟩
    have hyl : y.data.toList = x := by rw [hy]
    have hys : y.size = x.length := by rw [Lib.size_eq, hyl]
    have hu' : ∀ w, Calls Try.prog 31 #[.string s] w fun e' w' => e' = .returned (.tuple #[.string y, .int .i64 0]) ∧ Below w.heap.size w w' := by rw [hy]; exact hu
    have hx6 : x.length ≤ s.size := by
      have h2 : (unsealF s.data.toList).1.length ≤ s.data.toList.length := by
        unfold unsealF
        split
        · exact Nat.zero_le _
        · split
          · exact (List.length_take_le' _ _)
          · exact Nat.zero_le _
      rw [hx, ← Lib.size_eq] at h2
      exact h2
    have hmx : (1099511627776 : Nat) ≤ maxLen := by decide
    by_cases h6 : x.length < 6
    · rw [if_pos h6] at hg
      rw [hg]
      exact refGetGram_s s y (by omega) hu' w
    rw [if_neg h6] at hg
    have n4 := refNum_any y (by omega) 4 (by omega)
    have n0 := refNum_any y (by omega) 0 (by omega)
    have n2 := refNum_any y (by omega) 2 (by omega)
    rw [hyl] at n4 n0 n2
    rw [List.drop_zero] at n0
    have hl4 : numOf ((x.drop 4).take 2) ≤ 65535 := by
      have h := numOf_lt ((x.drop 4).take 2)
      have h2 : ((x.drop 4).take 2).length = 2 := by rw [List.length_take, List.length_drop]; omega
      rw [h2] at h
      omega
    by_cases hL : 1500 < numOf ((x.drop 4).take 2)
    · rw [if_pos hL] at hg
      rw [hg]
      exact refGetGram_l s y (by omega) (by omega) _ hL hl4 hu' n4 w
    rw [if_neg hL] at hg
    by_cases hF : numOf ((x.drop 4).take 2) ≠ x.length - 6
    · rw [if_pos hF] at hg
      rw [hg]
      exact refGetGram_f s y (by omega) (by omega) _ (by omega) (by rw [bne_iff_ne]; omega) hu' n4 w
    · rw [if_neg hF] at hg
      rw [hg]
      have hE : (⟨(x.drop 6).toArray⟩ : ByteArray) = y.extract 6 y.size := by
        apply ByteArray.ext
        apply Array.toList_inj.1
        rw [Lib.extract_data, hyl, List.take_of_length_le (by rw [List.length_drop]; omega)]
      have h := refGetGram_y s y (by omega) (by omega) _ _ _ (by omega) (by rw [bne_eq_false_iff_eq]; omega) hu' n4 n0 n2 w
      rw [← hE] at h
      exact h
end Go.Proofs.Ytlimnhlgjjgdeaa
