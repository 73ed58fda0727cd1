/- The contract of wire.PutGram: a datagram as bytes, or the error; for every datagram whose data has at most 2^47 bytes. -/
import Derived.Test.YtlimnhlgjjgdeaaLayTwo
import Derived.Test.YtlimnhlgjjgdeaaSeal
namespace Go.Proofs.Ytlimnhlgjjgdeaa
open Go.RowKit

def gramF (f t : Nat) (l : List UInt8) : List UInt8 := low f 2 ++ low t 2 ++ low l.length 2 ++ l
def putGramF (f t : Int) (l : List UInt8) : List UInt8 × Int :=
  if (wordB f && wordB t) = true then (if 1500 < l.length then ([], 2) else (sealF (gramF f.toNat t.toNat l), 0)) else ([], 1)
theorem wordB_nat {v : Int} (h : wordB v = true) : ∃ a : Nat, v = (a : Int) ∧ a ≤ 65535 := by
  have hr : 0 ≤ v ∧ v ≤ 65535 := by simpa [wordB] using h
  exact ⟨v.toNat, by omega, by omega⟩

/-- The three cells of a boxed datagram. -/
def Box3 (w : World) (b : Nat) (x y z : Value) : Prop := w.cell? ⟨b, 0, none⟩ = some x ∧ w.cell? ⟨b, 1, none⟩ = some y ∧ w.cell? ⟨b, 2, none⟩ = some z
theorem box3_new (w : World) (t : TypeId) (x y z : Value) : Box3 (w.alloc (.cells #[x, y, z] t)) w.heap.size x y z := by
  have h := World.news_of_block (heap_alloc_new w (.cells #[x, y, z] t))
  have e : ∀ j, (⟨w.heap.size, 0, none⟩ : Addr).add j = ⟨w.heap.size, j, none⟩ := addr_add _
  refine ⟨?_, ?_, ?_⟩
  · have := h 0 x rfl; rw [e] at this; exact this
  · have := h 1 y rfl; rw [e] at this; exact this
  · have := h 2 z rfl; rw [e] at this; exact this
theorem Box3.carry {w w1 : World} {b B : Nat} {x y z : Value} (h : Box3 w b x y z) (hb : Below B w w1) (hlt : b < B) : Box3 w1 b x y z :=
  ⟨(hb.cell (p := ⟨b, 0, none⟩) hlt).trans h.1, (hb.cell (p := ⟨b, 1, none⟩) hlt).trans h.2.1, (hb.cell (p := ⟨b, 2, none⟩) hlt).trans h.2.2⟩

set_option maxHeartbeats 1000000 in
theorem putGram_yes (f t : Nat) (hf : f ≤ 65535) (ht : t ≤ 65535) (s : ByteArray) (hs : s.size ≤ 1500) (w : World) :
    Calls Try.prog 13 #[.agg #[.int .i64 (f : Int), .int .i64 (t : Int), .string s]] w fun e w' => e = .returned (.tuple #[.string ⟨(sealF (gramF f t s.data.toList)).toArray⟩, .int .i64 0]) ∧ Below w.heap.size w w' := by
  have w1 : wordB (f : Int) = true := by simp [wordB]; omega
  have w2 : wordB (t : Int) = true := by simp [wordB]; omega
  have HW1 := hide (isWord_any (f : Int))
  have HW2 := hide (isWord_any (t : Int))
  rw [w1] at HW1
  rw [w2] at HW2
  clear w1 w2
  have HSE : Hid (∀ w, Calls Try.prog 28 #[.string ⟨(gramF f t s.data.toList).toArray⟩] w fun e w' => e = .returned (.string ⟨(sealF (gramF f t s.data.toList)).toArray⟩) ∧ Below w.heap.size w w') := fun w =>
    seal_any ⟨(gramF f t s.data.toList).toArray⟩ (by rw [Lib.size_eq]; simp [gramF, low_length]; omega) w
  obtain ⟨z, hz⟩ : ∃ z : ByteArray, z = ⟨(gramF f t s.data.toList).toArray⟩ := ⟨_, rfl⟩
  generalize (⟨(sealF (gramF f t s.data.toList)).toArray⟩ : ByteArray) = y at HSE
  rw [← hz] at HSE
  have HZ := hide hz
  clear hz
  obtain ⟨i0, hi, hz0, hz1, hz2⟩ := info_parts info5
  have B0 := box3_new w 27 (.int .i64 (f : Int)) (.int .i64 (t : Int)) (.string s)
  obtain ⟨b00, b01, b02⟩ := id B0
  go_enter Try.func13, Try.ntmps13
  go_wp2_with fail
  refine (HW1.out _).mono ?_
  rintro e w1 ⟨rfl, rfl⟩
  go_wp2_with fail
  refine (HW2.out _).mono ?_
  rintro e w2 ⟨rfl, rfl⟩
  go_wp2_with (at_make; refine wpList_make_own _ rfl _ _ 47 rfl (w.heap.size + 1) 5 i0 (.int .u8 0) 1 Try.underlying47 hi hz0 hz1 .i64 .i64 _ (6 + s.size) rfl rfl ?m1 ?m2 ?m3 ?m4 ?_)
  case m1 => omega
  case m2 => rw [hz2]; omega
  case m3 => unfold maxLen; omega
  case m4 => simp
  intro w3 hown3 hg3
  have hb3 : Below (w.heap.size + 1) (w.alloc (.cells #[.int .i64 (f : Int), .int .i64 (t : Int), .string s] 27)) w3 := (Below.refl _ _).grown hg3 (by simp) (fun k hk => by cases hk)
  have B3 := B0.carry hb3 (by omega)
  have s3 : w.heap.size + 1 ≤ w3.heap.size := by have := hb3.size; simp at this; exact this
  have HB3 := hide ((show Below w.heap.size w (w.alloc (.cells #[.int .i64 (f : Int), .int .i64 (t : Int), .string s] 27)) from (Below.refl _ _).alloc (Nat.le_refl _) _).trans (hb3.mono (by omega)))
  obtain ⟨b30, b31, b32⟩ := id B3
  clear hg3 hb3 b00 b01 b02 B0
  go_wp2_with fail
  refine (lay_two (w.heap.size + 1) _ 0 [] f (by omega) _ s3 hown3 (by omega)).mono ?_
  rintro e w4 ⟨v4, rfl, hown4, hb4⟩
  have B4 := B3.carry hb4 (by omega)
  have s4 : w.heap.size + 1 ≤ w4.heap.size := Nat.le_trans s3 hb4.size
  have HB4 := hide (HB3.out.trans (hb4.mono (by omega)))
  obtain ⟨b40, b41, b42⟩ := id B4
  clear hown3 hb4 b30 b31 b32 B3 HB3
  go_wp2_with fail
  refine (lay_two (w.heap.size + 1) _ (0 + 2) _ t (by omega) _ s4 hown4 (by omega)).mono ?_
  rintro e w5 ⟨v5, rfl, hown5, hb5⟩
  have B5 := B4.carry hb5 (by omega)
  have s5 : w.heap.size + 1 ≤ w5.heap.size := Nat.le_trans s4 hb5.size
  have HB5 := hide (HB4.out.trans (hb5.mono (by omega)))
  obtain ⟨b50, b51, b52⟩ := id B5
  clear hown4 hb5 b40 b41 b42 B4 HB4
  go_wp2_with fail
  refine (lay_two (w.heap.size + 1) _ (0 + 2 + 2) _ s.size (by omega) _ s5 hown5 (by omega)).mono ?_
  rintro e w6 ⟨v6, rfl, hown6, hb6⟩
  have B6 := B5.carry hb6 (by omega)
  have s6 : w.heap.size + 1 ≤ w6.heap.size := Nat.le_trans s5 hb6.size
  have HB6 := hide (HB5.out.trans (hb6.mono (by omega)))
  obtain ⟨b60, b61, b62⟩ := id B6
  clear hown5 hb6 b50 b51 b52 B5 HB5
  go_wp2_with (at_builtin; refine Lib.wpList_append_own_string _ rfl _ _ 47 9 rfl (w.heap.size + 1) 5 i0 Try.underlying47 Try.underlying9 hi hz0 hz1 hz2 _ _ _ rfl hown6 s rfl ?c1 ?c2 ?c3 ?_)
  case c1 => unfold maxLen; omega
  case c2 => omega
  case c3 => exact s6
  intro v7 w7 hown7 hg7 _
  have R := append_str s6 hown6 hown7 hg7
  have HB7 := hide (HB6.out.trans (R.2.mono (by omega)))
  have hcv := put_conv R.1
  have ez : (⟨([] ++ low f 2 ++ low t 2 ++ low s.size 2 ++ s.data.toList).toArray⟩ : ByteArray) = z := by
    rw [HZ.out]
    unfold gramF
    rw [List.nil_append, ← Lib.size_eq]
  rw [ez] at hcv
  clear hown6 hown7 hg7 R ez HZ b60 b61 b62 B6 HB6
  go_wp2_with fail
  refine (HSE.out _).mono ?_
  rintro e w8 ⟨rfl, hb8⟩
  go_wp2
  go_ret2
  exact ⟨rfl, below_next HB7.out hb8⟩

set_option maxHeartbeats 400000 in
theorem putGram_long (f t : Nat) (hf : f ≤ 65535) (ht : t ≤ 65535) (s : ByteArray) (hs : s.size ≤ 140737488351232) (hl : 1500 < s.size) (w : World) :
    Calls Try.prog 13 #[.agg #[.int .i64 (f : Int), .int .i64 (t : Int), .string s]] w fun e w' => e = .returned (.tuple #[.string ⟨#[]⟩, .int .i64 2]) ∧ Below w.heap.size w w' := by
  have w1 : wordB (f : Int) = true := by simp [wordB]; omega
  have w2 : wordB (t : Int) = true := by simp [wordB]; omega
  have HW1 := hide (isWord_any (f : Int))
  have HW2 := hide (isWord_any (t : Int))
  rw [w1] at HW1
  rw [w2] at HW2
  clear w1 w2
  obtain ⟨b00, b01, b02⟩ := box3_new w 27 (.int .i64 (f : Int)) (.int .i64 (t : Int)) (.string s)
  go_enter Try.func13, Try.ntmps13
  go_wp2_with fail
  refine (HW1.out _).mono ?_
  rintro e w1 ⟨rfl, rfl⟩
  go_wp2_with fail
  refine (HW2.out _).mono ?_
  rintro e w2 ⟨rfl, rfl⟩
  go_wp2
  go_ret2
  exact ⟨rfl, (Below.refl _ _).alloc (Nat.le_refl _) _⟩

set_option maxHeartbeats 400000 in
theorem putGram_no (f t : Int) (s : ByteArray) (h : (wordB f && wordB t) = false) (w : World) :
    Calls Try.prog 13 #[.agg #[.int .i64 f, .int .i64 t, .string s]] w fun e w' => e = .returned (.tuple #[.string ⟨#[]⟩, .int .i64 1]) ∧ Below w.heap.size w w' := by
  have HW1 := hide (isWord_any f)
  have HW2 := hide (isWord_any t)
  obtain ⟨b00, b01, b02⟩ := box3_new w 27 (.int .i64 f) (.int .i64 t) (.string s)
  cases h1 : wordB f with
  | false =>
    rw [h1] at HW1
    clear h h1
    go_enter Try.func13, Try.ntmps13
    go_wp2_with fail
    refine (HW1.out _).mono ?_
    rintro e w1 ⟨rfl, rfl⟩
    go_wp2
    go_ret2
    exact ⟨rfl, (Below.refl _ _).alloc (Nat.le_refl _) _⟩
  | true =>
    have h2 : wordB t = false := by rw [h1] at h; simpa using h
    rw [h1] at HW1
    rw [h2] at HW2
    clear h h1 h2
    go_enter Try.func13, Try.ntmps13
    go_wp2_with fail
    refine (HW1.out _).mono ?_
    rintro e w1 ⟨rfl, rfl⟩
    go_wp2_with fail
    refine (HW2.out _).mono ?_
    rintro e w2 ⟨rfl, rfl⟩
    go_wp2
    go_ret2
    exact ⟨rfl, (Below.refl _ _).alloc (Nat.le_refl _) _⟩

/-- 'PutGram(d)'. -/
theorem putGram_any (f t : Int) (s : ByteArray) (hs : s.size ≤ 140737488351232) (w : World) :
    Calls Try.prog 13 #[.agg #[.int .i64 f, .int .i64 t, .string s]] w fun e w' => e = .returned (.tuple #[.string ⟨(putGramF f t s.data.toList).1.toArray⟩, .int .i64 (putGramF f t s.data.toList).2]) ∧ Below w.heap.size w w' := by
  cases h : (wordB f && wordB t) with
  | false =>
    have e : putGramF f t s.data.toList = ([], 1) := by unfold putGramF; rw [h]; rfl
    rw [e]
    exact putGram_no f t s h w
  | true =>
    obtain ⟨h1, h2⟩ : wordB f = true ∧ wordB t = true := by simpa using h
    obtain ⟨a, rfl, ha⟩ := wordB_nat h1
    obtain ⟨b, rfl, hb⟩ := wordB_nat h2
    by_cases hl : 1500 < s.size
    · have e : putGramF (a : Int) (b : Int) s.data.toList = ([], 2) := by unfold putGramF; rw [h, if_pos rfl, if_pos (by rw [← Lib.size_eq]; exact hl)]
      rw [e]
      exact putGram_long a b ha hb s hs hl w
    · have e : putGramF (a : Int) (b : Int) s.data.toList = (sealF (gramF a b s.data.toList), 0) := by unfold putGramF; rw [h, if_pos rfl, if_neg (by rw [← Lib.size_eq]; exact hl), Int.toNat_natCast, Int.toNat_natCast]
      rw [e]
      exact putGram_yes a b ha hb s (by omega) w
end Go.Proofs.Ytlimnhlgjjgdeaa
