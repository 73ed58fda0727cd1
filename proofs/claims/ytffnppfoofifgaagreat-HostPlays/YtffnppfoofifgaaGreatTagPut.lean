/- The contract of tag.Put: a packet as bytes, or the error; for every packet whose data has at most 2^47 bytes. -/
import Derived.Test.YtffnppfoofifgaaGreatTagWord
namespace Go.Proofs.YtffnppfoofifgaaGreat
open Go.RowKit

/-- The three cells of a boxed packet. -/
def Box3 (w : World) (b : Nat) (x y z : Value) : Prop := w.cell? ⟨b, 0, none⟩ = some x ∧ w.cell? ⟨b, 1, none⟩ = some y ∧ w.cell? ⟨b, 2, none⟩ = some z
theorem box3_new (w : World) (t : TypeId) (x y z : Value) : Box3 (w.alloc (.cells #[x, y, z] t)) w.heap.size x y z := by
  refine ⟨?_, ?_, ?_⟩ <;> rw [World.cell?_alloc_new] <;> rfl
theorem Box3.carry {w w1 : World} {b B : Nat} {x y z : Value} (h : Box3 w b x y z) (hb : Below B w w1) (hlt : b < B) : Box3 w1 b x y z :=
  ⟨(hb.cell (p := ⟨b, 0, none⟩) hlt).trans h.1, (hb.cell (p := ⟨b, 1, none⟩) hlt).trans h.2.1, (hb.cell (p := ⟨b, 2, none⟩) hlt).trans h.2.2⟩

set_option maxHeartbeats 1000000 in
set_option maxRecDepth 100000 in
theorem putDisc_yes (c t : Nat) (hc : c ≤ 255) (ht : t ≤ 65535) (s : ByteArray) (hs : s.size ≤ 1494) (w : World) :
    Calls Tryz.prog 166 #[.agg #[.int .i64 (c : Int), .int .i64 (t : Int), .string s]] w fun e w' => e = .returned (.tuple #[.string ⟨(discF c t s.data.toList).toArray⟩, .int .i64 0]) ∧ Below w.heap.size w w' := by
  obtain ⟨i0, hi, hz0, hz1, hz2⟩ := info_parts info5
  have hwc : (c : Int) % 256 = (c : Int) := by omega
  have B0 := box3_new w 82 (.int .i64 (c : Int)) (.int .i64 (t : Int)) (.string s)
  obtain ⟨b00, b01, b02⟩ := id B0
  go_enter Tryz.func166, Tryz.ntmps166
  go_wp2_with (at_make; refine wpList_make_own _ rfl _ _ 227 rfl (w.heap.size + 1) 5 i0 (.int .u8 0) 1 Tryz.underlying227 hi hz0 hz1 .i64 .i64 _ (6 + s.size) rfl rfl ?m1 ?m2 ?m3 ?m4 ?_)
  case m1 => omega
  case m2 => rw [hz2]; omega
  case m3 => unfold maxLen; omega
  case m4 => simp
  intro w3 hown3 hg3
  have hb3 : Below (w.heap.size + 1) (w.alloc (.cells #[.int .i64 (c : Int), .int .i64 (t : Int), .string s] 82)) w3 := (Below.refl _ _).grown hg3 (by simp) (fun k hk => by cases hk)
  have B3 := B0.carry hb3 (by omega)
  have s3 : w.heap.size + 1 ≤ w3.heap.size := by have := hb3.size; simp at this; exact this
  have HB3 := hid ((show Below w.heap.size w (w.alloc (.cells #[.int .i64 (c : Int), .int .i64 (t : Int), .string s] 82)) from (Below.refl _ _).alloc (Nat.le_refl _) _).trans (hb3.mono (by omega)))
  obtain ⟨b30, b31, b32⟩ := id B3
  clear hg3 hb3 b00 b01 b02 B0
  go_wp2_with (at_builtin; refine wpList_append_own _ rfl _ _ 227 rfl (w.heap.size + 1) 5 i0 (.int .u8 0) 1 1 Tryz.underlying227 hi hz0 hz1 hz2 rfl (by decide) _ _ _ rfl (hown3.alloc _) ⟨w3.heap.size, 0, none⟩ 2 2 [.int .u8 17, .int .u8 (c : Int)] rfl rfl ?c1 ?c2 ?c3 ?c4 ?c5 ?_)
  case c1 => exact cells_two_new _ _ _ _
  case c2 => intro u hu; simp at hu; rcases hu with rfl | rfl <;> rfl
  case c3 => unfold maxLen; omega
  case c4 => omega
  case c5 => simp; omega
  intro v4 w4 hown4' hg4 _
  obtain ⟨hown4, hb4⟩ := append_two (x := 17) (y := c) (by omega) (by omega) s3 (bs := []) hown3 hown4' hg4
  have B4 := B3.carry hb4 (by omega)
  have s4 : w.heap.size + 1 ≤ w4.heap.size := Nat.le_trans s3 hb4.size
  have HB4 := hid (HB3.out.trans (hb4.mono (by omega)))
  obtain ⟨b40, b41, b42⟩ := id B4
  clear hown3 hb4 b30 b31 b32 B3 HB3 hown4' hg4
  go_wp2_with fail
  refine (putWord_any (w.heap.size + 1) _ (0 + 2) _ t (by omega) _ s4 hown4 (by omega)).mono ?_
  rintro e w5 ⟨v5, rfl, hown5, hb5, _⟩
  have B5 := B4.carry hb5 (by omega)
  have s5 : w.heap.size + 1 ≤ w5.heap.size := Nat.le_trans s4 hb5.size
  have HB5 := hid (HB4.out.trans (hb5.mono (by omega)))
  obtain ⟨b50, b51, b52⟩ := id B5
  clear hown4 hb5 b40 b41 b42 B4 HB4
  go_wp2_with fail
  refine (putWord_any (w.heap.size + 1) _ (0 + 2 + 2) _ s.size (by omega) _ s5 hown5 (by omega)).mono ?_
  rintro e w6 ⟨v6, rfl, hown6, hb6, _⟩
  have B6 := B5.carry hb6 (by omega)
  have s6 : w.heap.size + 1 ≤ w6.heap.size := Nat.le_trans s5 hb6.size
  have HB6 := hid (HB5.out.trans (hb6.mono (by omega)))
  obtain ⟨b60, b61, b62⟩ := id B6
  clear hown5 hb6 b50 b51 b52 B5 HB5
  go_wp2_with (at_builtin; refine Lib.wpList_append_own_string _ rfl _ _ 227 9 rfl (w.heap.size + 1) 5 i0 Tryz.underlying227 Tryz.underlying9 hi hz0 hz1 hz2 _ _ _ rfl hown6 s rfl ?c1 ?c2 ?c3 ?_)
  case c1 => unfold maxLen; omega
  case c2 => omega
  case c3 => exact s6
  intro v7 w7 hown7 hg7 _
  have R := append_str s6 hown6 hown7 hg7
  have HB7 := hid (HB6.out.trans (R.2.mono (by omega)))
  have hcv := put_conv R.1
  have ez : (⟨([] ++ [UInt8.ofNat 17, UInt8.ofNat c] ++ low t 2 ++ low s.size 2 ++ s.data.toList).toArray⟩ : ByteArray) = ⟨(discF c t s.data.toList).toArray⟩ := by
    unfold discF
    rw [low_one c hc, ← Lib.size_eq]
    rfl
  rw [ez] at hcv
  clear hown6 hown7 hg7 R ez b60 b61 b62 B6 HB6
  go_wp2
  go_ret2
  exact ⟨rfl, HB7.out⟩

set_option maxHeartbeats 400000 in
set_option maxRecDepth 100000 in
theorem putDisc_long (c t : Nat) (hc : c ≤ 255) (ht : t ≤ 65535) (s : ByteArray) (hs : s.size ≤ 140737488351232) (hl : 1494 < s.size) (w : World) :
    Calls Tryz.prog 166 #[.agg #[.int .i64 (c : Int), .int .i64 (t : Int), .string s]] w fun e w' => e = .returned (.tuple #[.string ⟨#[]⟩, .int .i64 2]) ∧ Below w.heap.size w w' := by
  obtain ⟨b00, b01, b02⟩ := box3_new w 82 (.int .i64 (c : Int)) (.int .i64 (t : Int)) (.string s)
  go_enter Tryz.func166, Tryz.ntmps166
  go_wp2
  go_ret2
  exact ⟨rfl, (Below.refl _ _).alloc (Nat.le_refl _) _⟩

set_option maxHeartbeats 400000 in
set_option maxRecDepth 100000 in
theorem putDisc_no (c t : Int) (s : ByteArray) (h : (byteB c && wordB t) = false) (w : World) :
    Calls Tryz.prog 166 #[.agg #[.int .i64 c, .int .i64 t, .string s]] w fun e w' => e = .returned (.tuple #[.string ⟨#[]⟩, .int .i64 1]) ∧ Below w.heap.size w w' := by
  obtain ⟨b00, b01, b02⟩ := box3_new w 82 (.int .i64 c) (.int .i64 t) (.string s)
  have hr : c < 0 ∨ (0 ≤ c ∧ 255 < c) ∨ ((0 ≤ c ∧ c ≤ 255) ∧ t < 0) ∨ ((0 ≤ c ∧ c ≤ 255) ∧ 0 ≤ t ∧ 65535 < t) := by
    have h2 : ¬ ((0 ≤ c ∧ c ≤ 255) ∧ (0 ≤ t ∧ t ≤ 65535)) := by
      intro h3
      simp [byteB, wordB] at h
      omega
    omega
  clear h
  rcases hr with h | ⟨h, h'⟩ | ⟨⟨h, h'⟩, h''⟩ | ⟨⟨h, h'⟩, h'', h3⟩
  all_goals
    go_enter Tryz.func166, Tryz.ntmps166
    go_wp2
    go_ret2
    exact ⟨rfl, (Below.refl _ _).alloc (Nat.le_refl _) _⟩

/-- 'Put(d)'. -/
theorem putDisc_any (c t : Int) (s : ByteArray) (hs : s.size ≤ 140737488351232) (w : World) :
    Calls Tryz.prog 166 #[.agg #[.int .i64 c, .int .i64 t, .string s]] w fun e w' => e = .returned (.tuple #[.string ⟨(putDiscF c t s.data.toList).1.toArray⟩, .int .i64 (putDiscF c t s.data.toList).2]) ∧ Below w.heap.size w w' := by
  cases h : (byteB c && wordB t) with
  | false =>
    have e : putDiscF c t s.data.toList = ([], 1) := by unfold putDiscF; rw [h]; rfl
    rw [e]
    exact putDisc_no c t s h w
  | true =>
    obtain ⟨h1, h2⟩ : byteB c = true ∧ wordB t = true := by simpa using h
    obtain ⟨a, rfl, ha⟩ : ∃ a : Nat, c = (a : Int) ∧ a ≤ 255 := by
      have hr : 0 ≤ c ∧ c ≤ 255 := by simpa [byteB] using h1
      exact ⟨c.toNat, by omega, by omega⟩
    obtain ⟨b, rfl, hb⟩ : ∃ b : Nat, t = (b : Int) ∧ b ≤ 65535 := by
      have hr : 0 ≤ t ∧ t ≤ 65535 := by simpa [wordB] using h2
      exact ⟨t.toNat, by omega, by omega⟩
    by_cases hl : 1494 < s.size
    · have e : putDiscF (a : Int) (b : Int) s.data.toList = ([], 2) := by unfold putDiscF; rw [h, if_pos rfl, if_pos (by rw [← Lib.size_eq]; exact hl)]
      rw [e]
      exact putDisc_long a b ha hb s hs hl w
    · have e : putDiscF (a : Int) (b : Int) s.data.toList = (discF a b s.data.toList, 0) := by unfold putDiscF; rw [h, if_pos rfl, if_neg (by rw [← Lib.size_eq]; exact hl), Int.toNat_natCast, Int.toNat_natCast]
      rw [e]
      exact putDisc_yes a b ha hb s (by omega) w
end Go.Proofs.YtffnppfoofifgaaGreat
