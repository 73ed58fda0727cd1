/- The contract of the document's own PutGram: a datagram in bytes, or the error; for every datagram whose data is of at most 2^47 bytes. -/
import Derived.Test.YtlimnhlgjjgdeaaRefPpp
import Derived.Test.YtlimnhlgjjgdeaaRefSum
import Derived.Test.YtlimnhlgjjgdeaaPutGram
namespace Go.Proofs.Ytlimnhlgjjgdeaa
open Go.RowKit

/-- The datagram's own box, and nothing turned of what was there. -/
abbrev SG (w : World) (f t : Int) (s : ByteArray) (W : World) : Prop :=
  W.cell? ⟨w.heap.size, 0, none⟩ = some (.int .i64 f) ∧ W.cell? ⟨w.heap.size, 1, none⟩ = some (.int .i64 t) ∧ W.cell? ⟨w.heap.size, 2, none⟩ = some (.string s) ∧ Below w.heap.size w W ∧ w.heap.size < W.heap.size
theorem sg_next {w W W' : World} {f t : Int} {s : ByteArray} (h : SG w f t s W) (hb : Below W.heap.size W W') : SG w f t s W' :=
  ⟨(hb.cell (p := ⟨w.heap.size, 0, none⟩) h.2.2.2.2).trans h.1, (hb.cell (p := ⟨w.heap.size, 1, none⟩) h.2.2.2.2).trans h.2.1, (hb.cell (p := ⟨w.heap.size, 2, none⟩) h.2.2.2.2).trans h.2.2.1, h.2.2.2.1.trans (hb.mono (Nat.le_of_lt h.2.2.2.2)), Nat.lt_of_lt_of_le h.2.2.2.2 hb.size⟩
theorem sg_new (w : World) (f t : Int) (s : ByteArray) : SG w f t s (w.alloc (.cells #[.int .i64 f, .int .i64 t, .string s] 27)) := by
  obtain ⟨h0, h1, h2⟩ := box3_new w 27 (.int .i64 f) (.int .i64 t) (.string s)
  exact ⟨h0, h1, h2, (Below.refl _ _).alloc (Nat.le_refl _) _, by simp⟩
theorem sg_call {w W : World} {f t : Int} {s : ByteArray} {g : Nat} {args : Array Value} {v : Value} (h : SG w f t s W) (hc : ∀ W, Calls Try.prog g args W fun e w' => e = .returned v ∧ Below W.heap.size W w') : Calls Try.prog g args W fun e w' => e = .returned v ∧ SG w f t s w' :=
  (hc W).mono fun _ _ ⟨he, hb⟩ => ⟨he, sg_next h hb⟩

set_option maxHeartbeats 1000000 in
theorem refPutGram_no (f t : Int) (s : ByteArray) (h : (wordB f && wordB t) = false) (w : World) :
    Calls Try.prog 14 #[.agg #[.int .i64 f, .int .i64 t, .string s]] w fun e w' => e = .returned (.tuple #[.string ⟨#[]⟩, .int .i64 1]) ∧ Below w.heap.size w w' := by
  have HG := hide (sg_new w f t s)
  obtain ⟨c0, c1, c2, _, _⟩ := sg_new w f t s
  have hr : f < 0 ∨ (0 ≤ f ∧ 65535 < f) ∨ (0 ≤ f ∧ f ≤ 65535 ∧ t < 0) ∨ (0 ≤ f ∧ f ≤ 65535 ∧ 0 ≤ t ∧ 65535 < t) := by
    have h2 : ¬ ((0 ≤ f ∧ f ≤ 65535) ∧ 0 ≤ t ∧ t ≤ 65535) := by simpa [wordB] using h
    omega
  clear h
  rcases hr with h | ⟨h0, h⟩ | ⟨h0, h1, h⟩ | ⟨h0, h1, h2, h⟩
  all_goals
    go_enter Try.func14, Try.ntmps14
    go_wp2
    go_ret2
    exact ⟨rfl, HG.out.2.2.2.1⟩

set_option maxHeartbeats 1000000 in
theorem refPutGram_long (a b : Nat) (ha : a ≤ 65535) (hb : b ≤ 65535) (s : ByteArray) (hs : s.size ≤ 140737488351232) (hl : 1500 < s.size) (w : World) :
    Calls Try.prog 14 #[.agg #[.int .i64 (a : Int), .int .i64 (b : Int), .string s]] w fun e w' => e = .returned (.tuple #[.string ⟨#[]⟩, .int .i64 2]) ∧ Below w.heap.size w w' := by
  have HG := hide (sg_new w (a : Int) (b : Int) s)
  obtain ⟨c0, c1, c2, _, _⟩ := sg_new w (a : Int) (b : Int) s
  go_enter Try.func14, Try.ntmps14
  go_wp2
  go_ret2
  exact ⟨rfl, HG.out.2.2.2.1⟩

set_option maxHeartbeats 2000000 in
theorem refPutGram_yes (a b : Nat) (ha : a ≤ 65535) (hb : b ≤ 65535) (s : ByteArray) (hs : s.size ≤ 1500) (w : World) :
    Calls Try.prog 14 #[.agg #[.int .i64 (a : Int), .int .i64 (b : Int), .string s]] w fun e w' => e = .returned (.tuple #[.string ⟨(sealF (gramF a b s.data.toList)).toArray⟩, .int .i64 0]) ∧ Below w.heap.size w w' := by
  obtain ⟨LA, hLA⟩ : ∃ L : ByteArray, L = ⟨(low a 2).toArray⟩ := ⟨_, rfl⟩
  obtain ⟨LB, hLB⟩ : ∃ L : ByteArray, L = ⟨(low b 2).toArray⟩ := ⟨_, rfl⟩
  obtain ⟨LS, hLS⟩ : ∃ L : ByteArray, L = ⟨(low s.size 2).toArray⟩ := ⟨_, rfl⟩
  have two : ∀ n, (⟨(low n 2).toArray⟩ : ByteArray).size = 2 := fun n => by rw [Lib.size_eq]; exact low_length _ _
  have zA : LA.size ≤ 2 := by rw [hLA, two]; exact Nat.le_refl _
  have zB : LB.size ≤ 2 := by rw [hLB, two]; exact Nat.le_refl _
  have zS : LS.size ≤ 2 := by rw [hLS, two]; exact Nat.le_refl _
  have h1 := refTwo_any a ha
  have h2 := refTwo_any b hb
  have h3 := refTwo_any s.size (by omega)
  rw [← hLA] at h1
  rw [← hLB] at h2
  rw [← hLS] at h3
  have h4 := refSeal_any (LA ++ LB ++ LS ++ s) (by rw [ByteArray.size_append, ByteArray.size_append, ByteArray.size_append]; omega)
  have e : (LA ++ LB ++ LS ++ s).data.toList = gramF a b s.data.toList := by
    rw [hLA, hLB, hLS]
    unfold gramF
    rw [← Lib.size_eq]
    simp
  rw [e] at h4
  generalize (⟨(sealF (gramF a b s.data.toList)).toArray⟩ : ByteArray) = R at h4
  have H1 := hide h1
  have H2 := hide h2
  have H3 := hide h3
  have H4 := hide h4
  have hS0 : SG w (a : Int) (b : Int) s (w.alloc (.cells #[.int .i64 (a : Int), .int .i64 (b : Int), .string s] 27)).drew := sg_next (sg_new w (a : Int) (b : Int) s) (Below.refl _ _).drew
  have HG := hide hS0
  obtain ⟨c0, c1, c2, _, _⟩ := sg_new w (a : Int) (b : Int) s
  clear h1 h2 h3 h4 e hLA hLB hLS two hS0
  go_enter Try.func14, Try.ntmps14
  go_wp2
  go_region_held (fun W' => W'.cell? ⟨w.heap.size, 0, none⟩ = some (.int .i64 (a : Int)) ∧ W'.cell? ⟨w.heap.size, 1, none⟩ = some (.int .i64 (b : Int)) ∧ W'.cell? ⟨w.heap.size, 2, none⟩ = some (.string s) ∧ Below w.heap.size w W' ∧ w.heap.size < W'.heap.size) (first | assumption | exact HG.out) (first
    | (go_at_call_of 23 (Value.int .i64 (a : Int)); refine (sg_call (w := w) (f := (a : Int)) (t := (b : Int)) (s := s) (by assumption) H1.out).mono ?_; rintro e w2 ⟨rfl, hb2⟩)
    | (go_at_call_of 23 (Value.int .i64 (b : Int)); refine (sg_call (w := w) (f := (a : Int)) (t := (b : Int)) (s := s) (by assumption) H2.out).mono ?_; rintro e w3 ⟨rfl, hb3⟩)
    | (go_at_call_of 23 (Value.int .i64 (s.size : Int)); refine (sg_call (w := w) (f := (a : Int)) (t := (b : Int)) (s := s) (by assumption) H3.out).mono ?_; rintro e w4 ⟨rfl, hb4⟩)
    | (go_at_call 29; refine (sg_call (w := w) (f := (a : Int)) (t := (b : Int)) (s := s) (by assumption) H4.out).mono ?_; rintro e w5 ⟨rfl, hb5⟩))
  all_goals
    go_wp2
    go_ret2
    exact ⟨rfl, hb5.2.2.2.1⟩

theorem refPutGram_any (f t : Int) (s : ByteArray) (hs : s.size ≤ 140737488351232) (w : World) :
    Calls Try.prog 14 #[.agg #[.int .i64 f, .int .i64 t, .string s]] w fun e w' => e = .returned (.tuple #[.string ⟨(putGramF f t s.data.toList).1.toArray⟩, .int .i64 (putGramF f t s.data.toList).2]) ∧ Below w.heap.size w w' := by
  cases h : (wordB f && wordB t) with
  | false =>
    have e : putGramF f t s.data.toList = ([], 1) := by unfold putGramF; rw [h]; rfl
    rw [e]
    exact refPutGram_no f t s h w
  | true =>
    obtain ⟨h1, h2⟩ : wordB f = true ∧ wordB t = true := by simpa using h
    obtain ⟨a, rfl, ha⟩ := wordB_nat h1
    obtain ⟨b, rfl, hb⟩ := wordB_nat h2
    by_cases hl : 1500 < s.size
    · have e : putGramF (a : Int) (b : Int) s.data.toList = ([], 2) := by unfold putGramF; rw [h, if_pos rfl, if_pos (by rw [← Lib.size_eq]; exact hl)]
      rw [e]
      exact refPutGram_long a b ha hb s hs hl w
    · have e : putGramF (a : Int) (b : Int) s.data.toList = (sealF (gramF a b s.data.toList), 0) := by unfold putGramF; rw [h, if_pos rfl, if_neg (by rw [← Lib.size_eq]; exact hl), Int.toNat_natCast, Int.toNat_natCast]
      rw [e]
      exact refPutGram_yes a b ha hb s (by omega) w
end Go.Proofs.Ytlimnhlgjjgdeaa
