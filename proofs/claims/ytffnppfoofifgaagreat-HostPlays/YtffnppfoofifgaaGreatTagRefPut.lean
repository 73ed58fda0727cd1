/- The contract of the document's own Put (tollgateref5): a packet as bytes, or the error. -/
import Derived.Test.YtffnppfoofifgaaGreatTagRefOne
import Derived.Test.YtffnppfoofifgaaGreatTagGet
import Derived.Deep.RegionHeld
namespace Go.Proofs.YtffnppfoofifgaaGreat
open Go.RowKit

set_option maxHeartbeats 4000000 in
set_option maxRecDepth 100000 in
theorem refPut_yes (c t : Nat) (hc : c ≤ 255) (ht : t ≤ 65535) (s : ByteArray) (hs : s.size ≤ 1494) (w : World) :
    Calls Tryz.prog 34 #[.agg #[.int .i64 (c : Int), .int .i64 (t : Int), .string s]] w fun e w' => e = .returned (.tuple #[.string ⟨(discF c t s.data.toList).toArray⟩, .int .i64 0]) ∧ Kept (fun _ => False) w w' := by
  have B0 := box3_new w 82 (.int .i64 (c : Int)) (.int .i64 (t : Int)) (.string s)
  have K0 := (Kept.refl (fun _ => False) w).alloc (.cells #[.int .i64 (c : Int), .int .i64 (t : Int), .string s] 82)
  obtain ⟨A, hA⟩ : ∃ A : ByteArray, A = ⟨(low c 1).toArray⟩ := ⟨_, rfl⟩
  obtain ⟨B, hB⟩ : ∃ B : ByteArray, B = ⟨(low t 2).toArray⟩ := ⟨_, rfl⟩
  obtain ⟨C, hC⟩ : ∃ C : ByteArray, C = ⟨(low s.size 2).toArray⟩ := ⟨_, rfl⟩
  have hAs : A.size ≤ 1 := by rw [hA, Lib.size_eq]; simp [low_length]
  have hBs : B.size ≤ 2 := by rw [hB, Lib.size_eq]; simp [low_length]
  have hCs : C.size ≤ 2 := by rw [hC, Lib.size_eq]; simp [low_length]
  have hE : (⟨(discF c t s.data.toList).toArray⟩ : ByteArray) = (⟨#[17]⟩ : ByteArray) ++ A ++ B ++ C ++ s := by
    apply bytes_ext
    rw [hA, hB, hC, Lib.size_eq]
    simp [discF]
  have HE := hid hE
  have HL := hid (fun w0 => since (fun w => refLow_any c (by omega) 1 (by decide) (by decide) w) w0)
  have HT := hid (fun w0 => since (fun w => refTwo_any t (by omega) w) w0)
  have HZ := hid (fun w0 => since (fun w => refTwo_any s.size (by omega) w) w0)
  rw [← hA] at HL
  rw [← hB] at HT
  rw [← hC] at HZ
  have HB := hid (fun W (k : Kept (fun _ => False) (w.alloc (.cells #[.int .i64 (c : Int), .int .i64 (t : Int), .string s] 82)) W) => B0.carry (below_of k) (by simp))
  obtain ⟨b0, b1, b2⟩ := B0
  have HK0 := hid K0
  have D0 := (Kept.refl (fun _ => False) (w.alloc (.cells #[.int .i64 (c : Int), .int .i64 (t : Int), .string s] 82))).drew
  clear hA hB hC hE K0
  go_enter Tryz.func34, Tryz.ntmps34
  go_wp2
  go_region_held (fun W => W.cell? ⟨w.heap.size, 0, none⟩ = some (.int .i64 (c : Int)) ∧ W.cell? ⟨w.heap.size, 1, none⟩ = some (.int .i64 (t : Int)) ∧ W.cell? ⟨w.heap.size, 2, none⟩ = some (.string s)) (first | assumption | exact HB.out _ (by assumption) | go_keep) (first
    | (go_at_call 123; refine (HL.out (w.alloc (.cells #[.int .i64 (c : Int), .int .i64 (t : Int), .string s] 82)) _ (by assumption)).mono ?_; rintro e3 w3 ⟨rfl, hk3⟩)
    | (go_at_call_of 124 (Value.int .i64 (t : Int)); refine (HT.out (w.alloc (.cells #[.int .i64 (c : Int), .int .i64 (t : Int), .string s] 82)) _ (by assumption)).mono ?_; rintro e4 w4 ⟨rfl, hk4⟩)
    | (go_at_call_of 124 (Value.int .i64 (s.size : Int)); refine (HZ.out (w.alloc (.cells #[.int .i64 (c : Int), .int .i64 (t : Int), .string s] 82)) _ (by assumption)).mono ?_; rintro e5 w5 ⟨rfl, hk5⟩))
  all_goals
    go_wp2
    go_ret2
    exact ⟨by rw [HE.out]; rfl, by first | exact HK0.out.trans hk5 | exact HK0.out.trans hk4 | exact HK0.out.trans hk3⟩
set_option maxHeartbeats 400000 in
set_option maxRecDepth 100000 in
theorem refPut_long (c t : Nat) (hc : c ≤ 255) (ht : t ≤ 65535) (s : ByteArray) (hs : s.size ≤ 140737488351232) (hl : 1494 < s.size) (w : World) :
    Calls Tryz.prog 34 #[.agg #[.int .i64 (c : Int), .int .i64 (t : Int), .string s]] w fun e w' => e = .returned (.tuple #[.string ⟨#[]⟩, .int .i64 2]) ∧ Kept (fun _ => False) w w' := by
  obtain ⟨b00, b01, b02⟩ := box3_new w 82 (.int .i64 (c : Int)) (.int .i64 (t : Int)) (.string s)
  go_enter Tryz.func34, Tryz.ntmps34
  go_wp2
  go_ret2
  exact ⟨rfl, (Kept.refl _ _).alloc _⟩

set_option maxHeartbeats 400000 in
set_option maxRecDepth 100000 in
theorem refPut_no (c t : Int) (s : ByteArray) (h : (byteB c && wordB t) = false) (w : World) :
    Calls Tryz.prog 34 #[.agg #[.int .i64 c, .int .i64 t, .string s]] w fun e w' => e = .returned (.tuple #[.string ⟨#[]⟩, .int .i64 1]) ∧ Kept (fun _ => False) w w' := by
  obtain ⟨b00, b01, b02⟩ := box3_new w 82 (.int .i64 c) (.int .i64 t) (.string s)
  have hr : c < 0 ∨ (0 ≤ c ∧ 255 < c) ∨ ((0 ≤ c ∧ c ≤ 255) ∧ t < 0) ∨ ((0 ≤ c ∧ c ≤ 255) ∧ 0 ≤ t ∧ 65535 < t) := by
    have h2 : ¬ ((0 ≤ c ∧ c ≤ 255) ∧ (0 ≤ t ∧ t ≤ 65535)) := by
      intro h3
      simp [byteB, wordB] at h
      omega
    omega
  clear h
  rcases hr with h | ⟨h, h'⟩ | ⟨⟨h, h'⟩, h''⟩ | ⟨⟨h, h'⟩, h'', h3⟩
  all_goals
    go_enter Tryz.func34, Tryz.ntmps34
    go_wp2
    go_ret2
    exact ⟨rfl, (Kept.refl _ _).alloc _⟩

/-- 'Put(d)'. -/
theorem refPut_any (c t : Int) (s : ByteArray) (hs : s.size ≤ 140737488351232) (w : World) :
    Calls Tryz.prog 34 #[.agg #[.int .i64 c, .int .i64 t, .string s]] w fun e w' => e = .returned (.tuple #[.string ⟨(putDiscF c t s.data.toList).1.toArray⟩, .int .i64 (putDiscF c t s.data.toList).2]) ∧ Kept (fun _ => False) w w' := by
  cases h : (byteB c && wordB t) with
  | false =>
    have e : putDiscF c t s.data.toList = ([], 1) := by unfold putDiscF; rw [h]; rfl
    rw [e]
    exact refPut_no c t s h w
  | true =>
    obtain ⟨h1, h2⟩ : byteB c = true ∧ wordB t = true := by simpa using h
    obtain ⟨a, rfl, ha⟩ : ∃ a : Nat, c = (a : Int) ∧ a ≤ 255 := by
      have hr : 0 ≤ c ∧ c ≤ 255 := by simpa [byteB] using h1
      exact ⟨c.toNat, by omega, by omega⟩
    obtain ⟨b, rfl, hb⟩ : ∃ b : Nat, t = (b : Int) ∧ b ≤ 65535 := by
      have hr : 0 ≤ t ∧ t ≤ 65535 := by simpa [wordB] using h2
      exact ⟨t.toNat, by omega, by omega⟩
    by_cases hl : 1494 < s.size
    · have e : putDiscF (a : Int) (b : Int) s.data.toList = ([], 2) := by unfold putDiscF; rw [h, if_pos rfl, if_pos (by rw [← Lib.size_eq]; exact hl)]
      rw [e]
      exact refPut_long a b ha hb s hs hl w
    · have e : putDiscF (a : Int) (b : Int) s.data.toList = (discF a b s.data.toList, 0) := by unfold putDiscF; rw [h, if_pos rfl, if_neg (by rw [← Lib.size_eq]; exact hl), Int.toNat_natCast, Int.toNat_natCast]
      rw [e]
      exact refPut_yes a b ha hb s (by omega) w
end Go.Proofs.YtffnppfoofifgaaGreat
