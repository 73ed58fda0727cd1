/- The contracts of opts.GetData and opts.Get: the packet of some bytes, or the error; for every string of at most 2^47 bytes. -/
import Derived.Test.YtdifdcceigoedaaGreatOpPutData
namespace Go.Proofs.YtdifdcceigoedaaGreat
open Go.RowKit

/-- The four cells of a result of the call's own, none of them frozen. -/
def Own4 (w : World) (b : Nat) (x y z u : Value) : Prop := Box4 w b x y z u ∧ ∀ j, w.frozen? ⟨b, j, none⟩ = false
theorem own4_new (w : World) (t : TypeId) (x y z u : Value) : Own4 (w.alloc (.cells #[x, y, z, u] t)) w.heap.size x y z u :=
  ⟨box4_new w t x y z u, fun j => frozen_of_row _ w.heap.size j #[x, y, z, u] t (heap_alloc_new w _)⟩
theorem Own4.kept {w w1 : World} {b : Nat} {x y z u : Value} (h : Own4 w b x y z u) (hk : Kept (fun _ => False) w w1) : Own4 w1 b x y z u := by
  have hlt : b < w.heap.size := lt_of_cell h.1.1
  exact ⟨h.1.kept hk id, fun j => (hk.frozen (p := ⟨b, j, none⟩) hlt id).trans (h.2 j)⟩

/-- The packet that is none. -/
def pkZ : Value := pkV 0 0 (.slice none 0 0) ⟨#[]⟩

theorem take_numK (s : ByteArray) (k : Nat) : numOf (s.extract k (k + 2)).data.toList = numOf ((s.data.toList.drop k).take 2) := by
  rw [Lib.extract_data, show k + 2 - k = 2 by omega]

set_option maxHeartbeats 4000000 in
set_option maxRecDepth 100000 in
theorem getData_yes (s : ByteArray) (hsz : s.size ≤ 140737488351232) (h4 : 4 ≤ s.size) (A B n : Nat) (h0 : (s.data.toList.getD 0 0).toNat = A) (h1 : (s.data.toList.getD 1 0).toNat = B) (hA : A < 256) (hB : B < 256)
    (hn : numOf ((s.data.toList.drop 2).take 2) = n) (hl : 4 ≤ n) (hl2 : n ≤ 1492) (hs : n ≤ s.size) (w : World) :
    Calls Tryz.prog 15 #[.string s] w fun e w' => e = .returned (.tuple #[pkV (A : Int) (B : Int) (.slice none 0 0) (s.extract 4 n), .int .i64 0]) ∧ Kept (fun _ => False) w w' := by
  unfold pkV
  have x0 := index_at s 0 (by omega) 0 rfl
  have x1 := index_at s 1 (by omega) 1 rfl
  rw [h0] at x0
  rw [h1] at x1
  have i2 := mid_at s 2 4 (by omega) (by omega) 2 4 rfl rfl
  have i4 := mid_at s 4 n (by omega) (by omega) 4 (n : Int) rfl rfl
  have HN := hid (number_any (s.extract 2 4) (by rw [ByteArray.size_extract]; omega))
  rw [take_numK s 2, hn] at HN
  have HC := hid (fun w0 => since (fun w => clone_any (s.extract 4 n) w (by rw [ByteArray.size_extract]; omega)) w0)
  have hwA : IntKind.i64.wrap (A : Int) = (A : Int) := by rw [IntKind.wrap_i64]; omega
  have hwB : IntKind.i64.wrap (B : Int) = (B : Int) := by rw [IntKind.wrap_i64]; omega
  have hz1 : ¬ (n : Int) < 4 := by omega
  have hz2 : ¬ (1492 : Int) < (n : Int) := by omega
  have hz3 : ¬ (s.size : Int) < (n : Int) := by omega
  clear h0 h1 hn
  have O0 := hid (own4_new w 24 (.int .i64 0) (.int .i64 0) (.slice none 0 0) (.string ⟨#[]⟩))
  have K1 := hid ((Kept.refl (fun _ => False) w).alloc (.cells #[.int .i64 0, .int .i64 0, .slice none 0 0, .string ⟨#[]⟩] 24))
  go_enter Tryz.func15, Tryz.ntmps15
  go_wp2_with fail
  refine (HN.out _).mono ?_
  rintro e1 w1 ⟨rfl, rfl⟩
  have D1 := (Kept.refl (fun _ => False) (w.alloc (.cells #[.int .i64 0, .int .i64 0, .slice none 0 0, .string ⟨#[]⟩] 24))).drew
  go_wp2_with fail
  go_region_with (first
    | (go_at_call 37; refine (HC.out _ _ (by assumption)).mono ?_; rintro e5 w5 ⟨rfl, hk5⟩; obtain ⟨⟨c0, c1, c2, c3⟩, f0⟩ := O0.out.kept hk5))
  all_goals
    go_wp2
    refine bodyPost_ret (v := .tuple #[.agg #[.int .i64 (A : Int), .int .i64 (B : Int), .slice none 0 0, .string (s.extract 4 n)], .int .i64 0]) (by simp [results, Tryz.results15, go_sem, c0, c1, c2, c3]) rfl ⟨rfl, ?_⟩
    exact ((((K1.out.trans hk5).setCell (Or.inl (Nat.le_refl _)) _).setCell (Or.inl (Nat.le_refl _)) _).setCell (Or.inl (Nat.le_refl _)) _).setCell (Or.inl (Nat.le_refl _)) _

set_option maxHeartbeats 1000000 in
set_option maxRecDepth 100000 in
theorem getData_no1 (s : ByteArray) (h : s.size < 4) (w : World) :
    Calls Tryz.prog 15 #[.string s] w fun r w' => r = .returned (.tuple #[pkZ, .int .i64 5]) ∧ Kept (fun _ => False) w w' := by
  unfold pkZ pkV
  obtain ⟨⟨c0, c1, c2, c3⟩, f0⟩ := own4_new w 24 (.int .i64 0) (.int .i64 0) (.slice none 0 0) (.string ⟨#[]⟩)
  go_enter Tryz.func15, Tryz.ntmps15
  go_wp2
  exact bodyPost_ret (v := .tuple #[.agg #[.int .i64 0, .int .i64 0, .slice none 0 0, .string ⟨#[]⟩], .int .i64 5]) (by simp [results, Tryz.results15, go_sem, c0, c1, c2, c3]) rfl ⟨rfl, (Kept.refl _ w).alloc _⟩

set_option maxHeartbeats 1000000 in
set_option maxRecDepth 100000 in
theorem getData_no2 (s : ByteArray) (e : Int) (n : Nat) (hsz : s.size ≤ 140737488351232) (h4 : 4 ≤ s.size) (hn : numOf ((s.data.toList.drop 2).take 2) = n) (hn6 : n < 65536)
    (h : (n < 4 ∧ e = 4) ∨ (1492 < n ∧ e = 2) ∨ (4 ≤ n ∧ n ≤ 1492 ∧ s.size < n ∧ e = 5)) (w : World) :
    Calls Tryz.prog 15 #[.string s] w fun r w' => r = .returned (.tuple #[pkZ, .int .i64 e]) ∧ Kept (fun _ => False) w w' := by
  unfold pkZ pkV
  have i2 := mid_at s 2 4 (by omega) (by omega) 2 4 rfl rfl
  have HN := hid (number_any (s.extract 2 4) (by rw [ByteArray.size_extract]; omega))
  rw [take_numK s 2, hn] at HN
  clear hn
  obtain ⟨⟨c0, c1, c2, c3⟩, f0⟩ := own4_new w 24 (.int .i64 0) (.int .i64 0) (.slice none 0 0) (.string ⟨#[]⟩)
  have K1 := hid ((Kept.refl (fun _ => False) w).alloc (.cells #[.int .i64 0, .int .i64 0, .slice none 0 0, .string ⟨#[]⟩] 24))
  rcases h with ⟨h, rfl⟩ | ⟨h, rfl⟩ | ⟨h1, h2, h3, rfl⟩
  · have hz1 : (n : Int) < 4 := by omega
    go_enter Tryz.func15, Tryz.ntmps15
    go_wp2_with fail
    refine (HN.out _).mono ?_
    rintro e1 w1 ⟨rfl, rfl⟩
    go_wp2
    exact bodyPost_ret (v := .tuple #[.agg #[.int .i64 0, .int .i64 0, .slice none 0 0, .string ⟨#[]⟩], .int .i64 4]) (by simp [results, Tryz.results15, go_sem, c0, c1, c2, c3]) rfl ⟨rfl, by first | exact K1.out | exact ((((K1.out).setCell (Or.inl (Nat.le_refl _)) _).setCell (Or.inl (Nat.le_refl _)) _).setCell (Or.inl (Nat.le_refl _)) _).setCell (Or.inl (Nat.le_refl _)) _⟩
  · have hz1 : ¬ (n : Int) < 4 := by omega
    have hz2 : (1492 : Int) < (n : Int) := by omega
    go_enter Tryz.func15, Tryz.ntmps15
    go_wp2_with fail
    refine (HN.out _).mono ?_
    rintro e1 w1 ⟨rfl, rfl⟩
    go_wp2
    exact bodyPost_ret (v := .tuple #[.agg #[.int .i64 0, .int .i64 0, .slice none 0 0, .string ⟨#[]⟩], .int .i64 2]) (by simp [results, Tryz.results15, go_sem, c0, c1, c2, c3]) rfl ⟨rfl, by first | exact K1.out | exact ((((K1.out).setCell (Or.inl (Nat.le_refl _)) _).setCell (Or.inl (Nat.le_refl _)) _).setCell (Or.inl (Nat.le_refl _)) _).setCell (Or.inl (Nat.le_refl _)) _⟩
  · have hz1 : ¬ (n : Int) < 4 := by omega
    have hz2 : ¬ (1492 : Int) < (n : Int) := by omega
    have hz3 : (s.size : Int) < (n : Int) := by omega
    go_enter Tryz.func15, Tryz.ntmps15
    go_wp2_with fail
    refine (HN.out _).mono ?_
    rintro e1 w1 ⟨rfl, rfl⟩
    go_wp2
    exact bodyPost_ret (v := .tuple #[.agg #[.int .i64 0, .int .i64 0, .slice none 0 0, .string ⟨#[]⟩], .int .i64 5]) (by simp [results, Tryz.results15, go_sem, c0, c1, c2, c3]) rfl ⟨rfl, by first | exact K1.out | exact ((((K1.out).setCell (Or.inl (Nat.le_refl _)) _).setCell (Or.inl (Nat.le_refl _)) _).setCell (Or.inl (Nat.le_refl _)) _).setCell (Or.inl (Nat.le_refl _)) _⟩

/-- A packet without options, as a value. -/
def pkD (p : Pk) : Value := pkV (p.code : Int) (p.id : Int) (.slice none 0 0) ⟨p.data.toArray⟩

/-- 'GetData(b)'. -/
theorem getData_any (s : ByteArray) (hs : s.size ≤ 140737488351232) (w : World) :
    Calls Tryz.prog 15 #[.string s] w fun e w' => e = .returned (.tuple #[pkD (getDataF s.data.toList).1, .int .i64 (getDataF s.data.toList).2]) ∧ Kept (fun _ => False) w w' := by
  have hl : s.data.toList.length = s.size := (Lib.size_eq s).symm
  have hn6 := num2_lt (s.data.toList.drop 2)
  unfold getDataF
  rw [hl]
  by_cases h4 : s.size < 4
  · rw [if_pos h4]
    exact getData_no1 s h4 w
  · rw [if_neg h4]
    by_cases h1 : numOf ((s.data.toList.drop 2).take 2) < 4
    · rw [if_pos h1]
      exact getData_no2 s 4 _ hs (by omega) rfl hn6 (Or.inl ⟨h1, rfl⟩) w
    · rw [if_neg h1]
      by_cases h2 : 1492 < numOf ((s.data.toList.drop 2).take 2)
      · rw [if_pos h2]
        exact getData_no2 s 2 _ hs (by omega) rfl hn6 (Or.inr (Or.inl ⟨h2, rfl⟩)) w
      · rw [if_neg h2]
        by_cases h3 : s.size < numOf ((s.data.toList.drop 2).take 2)
        · rw [if_pos h3]
          exact getData_no2 s 5 _ hs (by omega) rfl hn6 (Or.inr (Or.inr ⟨by omega, by omega, h3, rfl⟩)) w
        · rw [if_neg h3]
          refine (getData_yes s hs (by omega) _ _ _ rfl rfl (UInt8.toNat_lt _) (UInt8.toNat_lt _) rfl (by omega) (by omega) (by omega) w).mono ?_
          rintro r w' ⟨rfl, hk⟩
          refine ⟨?_, hk⟩
          have hx : s.extract 4 (numOf ((s.data.toList.drop 2).take 2)) = ⟨((s.data.toList.drop 4).take (numOf ((s.data.toList.drop 2).take 2) - 4)).toArray⟩ := by
            apply bytes_ext
            rw [Lib.extract_data]
          rw [hx]
          rfl

theorem getDataF_data (l : List UInt8) : (getDataF l).1.data.length ≤ 1488 ∧ (getDataF l).1.opts = [] := by
  unfold getDataF
  split
  · simp
  · split
    · simp
    · split
      · simp
      · split
        · simp
        · simp only [List.length_take, and_true]
          omega
end Go.Proofs.YtdifdcceigoedaaGreat
