/- The walk of StoreShuts: a name is shut behind so many wrong tries, until it is calm. -/
import Derived.Test.YtmbdjgfbhblifaaKsOne
namespace Go.Proofs.Ytmbdjgfbhblifaa
open Go.RowKit

theorem shut_no {limit calm time : Int} {e : En} (h : e.wrong < limit) : shutE limit calm e time = false := by
  unfold shutE
  rw [decide_eq_false_iff_not]
  omega
theorem shut_yes {limit calm time : Int} {e : En} (h1 : 1 ≤ limit) (h2 : limit ≤ e.wrong) (h3 : time - e.last < calm) : shutE limit calm e time = true := by
  unfold shutE
  rw [decide_eq_true_iff]
  omega
theorem shut_over {limit calm time : Int} {e : En} (h : calm ≤ time - e.last) : shutE limit calm e time = false := by
  unfold shutE
  rw [decide_eq_false_iff_not]
  omega
theorem try_shut {limit calm time : Int} {e : En} {good : ByteArray → Bool} (h : shutE limit calm e time = true) : tryE limit calm e good time = (20, e) := by
  unfold tryE
  rw [if_pos h]
theorem try_good {limit calm time : Int} {e : En} {good : ByteArray → Bool} (h : shutE limit calm e time = false) (h2 : good e.secret = true) : tryE limit calm e good time = (0, ⟨e.secret, 0, 0⟩) := by
  unfold tryE
  rw [if_neg (by rw [h]; decide), if_pos h2]
theorem try_bad {limit calm time : Int} {e : En} {good : ByteArray → Bool} (h : shutE limit calm e time = false) (h2 : good e.secret = false) (h3 : e.wrong < 2147483647) : tryE limit calm e good time = (30, ⟨e.secret, e.wrong + 1, time⟩) := by
  unfold tryE
  rw [if_neg (by rw [h]; decide), if_neg (by rw [h2]; decide)]
  unfold moreE
  rw [if_pos h3]

def a1B : ByteArray := ⟨#[97]⟩
def wrB : ByteArray := ⟨#[119, 114, 111, 110, 103]⟩
theorem good_wp : goodS wrB pB = false := by rw [goodS_eq]; decide
theorem few_pB {n t : Int} (h1 : 0 ≤ n) (h2 : n ≤ 1000) (h3 : 0 ≤ t) (h4 : t ≤ 1099511637776) : FewE ⟨pB, n, t⟩ := ⟨by show 1 ≤ 1000000; decide, h1, by show n ≤ 1000000000000; omega, ⟨by show -9223372036854775808 ≤ t; omega, by show t ≤ 9223372036854775807; omega⟩⟩

/-- A law's store of the name a with the secret p, which was wrong n times, last at t. -/
def ShM (w W : World) (b : Nat) (limit calm n t : Int) : Prop := Hid (SMine w W b limit calm (oneA (splitF ⟨#[97]⟩) ⟨⟨#[112]⟩, n, t⟩))

set_option maxHeartbeats 4000000 in
set_option maxRecDepth 100000 in
theorem storeShuts_in (L : Nat) (calm time : Int) (right : Bool) (w : World) (hL : 1 ≤ L ∧ L ≤ 100) (hc : 1 ≤ calm ∧ calm ≤ 1000) (ht : 0 ≤ time ∧ time ≤ 1099511627776) :
    Calls Try.prog 3 #[.int .i64 (L : Int), .int .i64 calm, .int .i64 time, .bool right] w fun e w' => e = .returned (.bool true) ∧ Kept (fun _ => False) w w' := by
  have Ha := hid alive15_any
  have hc' : 0 ≤ calm ∧ calm ≤ 1000000 := ⟨by omega, by omega⟩
  have C1 := hid (new_good (Kept.refl (fun _ => False) w) (L : Int) calm ⟨by omega, by omega, by omega, by omega⟩)
  have C2 : Hid (∀ b W, SMine w W b L calm empA → Calls Try.prog 8 #[.pointer (some ⟨b, 0, none⟩), .string ⟨#[97]⟩, .string ⟨#[112]⟩] W fun e w' => e = .returned (.int .i64 0) ∧ ShM w w' b L calm 0 0) := fun b W h => SMine.set1 (w0 := w) (w := W) (b := b) h a1B pB (by decide) (by decide) (by decide)
  have C3 : Hid (∀ b W (n : Nat) t, n < L → 0 ≤ t → t ≤ time → ShM w W b L calm n t → Calls Try.prog 9 #[.pointer (some ⟨b, 0, none⟩), .string ⟨#[97]⟩, .string ⟨#[119, 114, 111, 110, 103]⟩, .int .i64 time] W fun e w' => e = .returned (.int .i64 30) ∧ ShM w w' b L calm (n + 1) time) := fun b W n t h1 h2 h3 h =>
    SMine.pap1 (w0 := w) (w := W) (b := b) (s := a1B) h.out (by decide) hc' (few_pB (by omega) (by omega) h2 (by omega)) wrB (by decide) time ⟨by omega, by omega⟩ _ (try_bad (shut_no (by show (n : Int) < L; omega)) good_wp (by show (n : Int) < 2147483647; omega))
  have C4 : Hid (∀ b W (n t : Int), ShM w W b L calm n t → Calls Try.prog 10 #[.pointer (some ⟨b, 0, none⟩), .string ⟨#[97]⟩] W fun e w' => e = .returned (.int .i64 n) ∧ ShM w w' b L calm n t) := fun b W n t h => by
    have := h.out.wrong a1B (by decide)
    rw [show (oneA (splitF ⟨#[97]⟩) ⟨⟨#[112]⟩, n, t⟩ : Ab) = oneA (splitF a1B) ⟨⟨#[112]⟩, n, t⟩ from rfl, wrongA_one] at this
    exact this
  have C5 : Hid (∀ b W (t' : Int), time ≤ t' → t' - time < calm → ShM w W b L calm L time → Calls Try.prog 9 #[.pointer (some ⟨b, 0, none⟩), .string ⟨#[97]⟩, .string ⟨#[112]⟩, .int .i64 t'] W fun e w' => e = .returned (.int .i64 20) ∧ ShM w w' b L calm L time) := fun b W t' h1 h2 h =>
    SMine.pap1 (w0 := w) (w := W) (b := b) (s := a1B) h.out (by decide) hc' (few_pB (by omega) (by omega) (by omega) (by omega)) pB (by decide) t' ⟨by omega, by omega⟩ _ (try_shut (shut_yes (by omega) (by show (L : Int) ≤ (L : Int); omega) h2))
  have C6 : Hid (∀ b W, ShM w W b L calm L time → Calls Try.prog 9 #[.pointer (some ⟨b, 0, none⟩), .string ⟨#[97]⟩, .string ⟨#[112]⟩, .int .i64 (time + calm)] W fun e w' => e = .returned (.int .i64 0) ∧ ShM w w' b L calm 0 0) := fun b W h =>
    SMine.pap1 (w0 := w) (w := W) (b := b) (s := a1B) h.out (by decide) hc' (few_pB (by omega) (by omega) (by omega) (by omega)) pB (by decide) (time + calm) ⟨by omega, by omega⟩ _ (try_good (shut_over (by show calm ≤ time + calm - time; omega)) good_pp)
  have C7 : Hid (∀ b W, ShM w W b L calm 0 0 → Calls Try.prog 9 #[.pointer (some ⟨b, 0, none⟩), .string ⟨#[97]⟩, .string ⟨#[112]⟩, .int .i64 time] W fun e w' => e = .returned (.int .i64 0) ∧ ShM w w' b L calm 0 0) := fun b W h =>
    SMine.pap1 (w0 := w) (w := W) (b := b) (s := a1B) h.out (by decide) hc' (few_pB (by omega) (by omega) (by omega) (by omega)) pB (by decide) time ⟨by omega, by omega⟩ _ (try_good (shut_no (by show (0 : Int) < L; omega)) good_pp)
  have C8 : Hid (∀ b W, ShM w W b L calm L time → Calls Try.prog 9 #[.pointer (some ⟨b, 0, none⟩), .string ⟨#[97]⟩, .string ⟨#[113]⟩, .int .i64 (time + calm)] W fun e w' => e = .returned (.int .i64 30) ∧ ShM w w' b L calm (L + 1) (time + calm)) := fun b W h =>
    SMine.pap1 (w0 := w) (w := W) (b := b) (s := a1B) h.out (by decide) hc' (few_pB (by omega) (by omega) (by omega) (by omega)) qB (by decide) (time + calm) ⟨by omega, by omega⟩ _ (try_bad (shut_over (by show calm ≤ time + calm - time; omega)) good_qp (by show (L : Int) < 2147483647; omega))
  have C9 : Hid (∀ b W, ShM w W b L calm (L + 1) (time + calm) → Calls Try.prog 9 #[.pointer (some ⟨b, 0, none⟩), .string ⟨#[97]⟩, .string ⟨#[112]⟩, .int .i64 (time + calm)] W fun e w' => e = .returned (.int .i64 20) ∧ ShM w w' b L calm (L + 1) (time + calm)) := fun b W h =>
    SMine.pap1 (w0 := w) (w := W) (b := b) (s := a1B) h.out (by decide) hc' (few_pB (by omega) (by omega) (by omega) (by omega)) pB (by decide) (time + calm) ⟨by omega, by omega⟩ _ (try_shut (shut_yes (by omega) (by show (L : Int) ≤ (L : Int) + 1; omega) (by show time + calm - (time + calm) < calm; omega)))
  have hz1 : ¬ (L : Int) < 1 := by omega
  have hz2 : ¬ time < 0 := by omega
  have hz3 : ¬ 1099511627776 < time := by omega
  have hw1 : IntKind.i64.wrap (time + calm) = time + calm := by rw [IntKind.wrap_i64]; omega
  have hw2 : IntKind.i64.wrap (time + calm - 1) = time + calm - 1 := by rw [IntKind.wrap_i64]; omega
  have hw3 : IntKind.i64.wrap ((L : Int) + 1) = (L : Int) + 1 := by rw [IntKind.wrap_i64]; omega
  have HT := hid ht
  have HCc := hid hc
  have HL := hid hL
  clear hc' hc ht hL
  go_enter Try.func3, Try.ntmps3
  go_wp2_with fail
  refine C1.out.mono ?_
  rintro e w1 ⟨b, rfl, h1⟩
  have H1 := hid h1
  clear h1 C1
  go_wp2_with fail
  refine (C2.out _ _ H1.out).mono ?_
  rintro e w2 ⟨rfl, h2⟩
  have H2 := hid h2
  clear h2 C2 H1
  go_wp2
  go_loopw [11] (fun vi wr => ∃ (i : Nat) (t : Int), i ≤ L ∧ vi = .int .i64 (i : Int) ∧ (0 ≤ t ∧ t ≤ time) ∧ (0 < i → t = time) ∧ ShM w wr b L calm i t) (fun vi _ => L - (intOf vi).toNat)
  case atStart => exact ⟨0, 0, Nat.zero_le _, rfl, ⟨by omega, HT.out.1⟩, fun h => absurd h (by decide), H2.out⟩
  case round =>
    obtain ⟨i, t, hi, rfl, ⟨ht1, ht2⟩, hti, hS⟩ := hrel
    by_cases hlt : i < L
    · have hlt' : (i : Int) < (L : Int) := by omega
      have hwi : IntKind.i64.wrap ((i : Int) + 1) = (i : Int) + 1 := by rw [IntKind.wrap_i64]; have := HL.out; omega
      have C3' := hid (C3.out b _ i t hlt ht1 ht2 hS)
      clear hS hti ht1 ht2 hi
      go_wp2_with fail
      refine C3'.out.mono ?_
      rintro e w3 ⟨rfl, h3⟩
      have H3 := hid h3
      clear h3 C3'
      go_wp2_with fail
      refine (C4.out _ _ _ _ H3.out).mono ?_
      rintro e w4 ⟨rfl, h4⟩
      have H4 := hid h4
      clear h4 H3
      go_wp2
      go_roundw
      case rel => exact ⟨i + 1, time, by omega, by go_num, ⟨HT.out.1, Int.le_refl _⟩, fun _ => rfl, H4.out⟩
      case measure => simp [intOf]; omega
    · have hlt' : ¬ (i : Int) < (L : Int) := by omega
      obtain rfl : i = L := by omega
      obtain rfl := hti (by have := HL.out; omega)
      have hd1 : t - t < calm := by have := HCc.out; omega
      have hd2 : t + calm - 1 - t < calm := by have := HCc.out; omega
      have hd3 : t ≤ t + calm - 1 := by have := HCc.out; omega
      have H2' := hid (C5.out b _ t (Int.le_refl _) hd1 hS)
      have C5' := hid (fun W h => C5.out b W (t + calm - 1) hd3 hd2 h)
      clear hS hti ht1 ht2 hi hd1 hd2 hd3 hlt hlt' H2 C5
      go_wp2_with fail
      refine H2'.out.mono ?_
      rintro e w3 ⟨rfl, h3⟩
      have H3 := hid h3
      clear h3 H2'
      go_wp2_with fail
      refine (C5'.out _ H3.out).mono ?_
      rintro e w4 ⟨rfl, h4⟩
      have H4 := hid h4
      clear h4 C5' H3
      go_wp2_with fail
      refine (C4.out _ _ _ _ H4.out).mono ?_
      rintro e w5 ⟨rfl, h5⟩
      have H5 := hid h5
      clear h5 H4
      cases right with
      | true =>
        go_wp2_with fail
        refine (Ha.out _).mono ?_
        rintro e w6 ⟨rfl, h6⟩
        have H6 : ShM w w6 b i calm i t := H5.out.out.still h6
        clear h6 H5
        have H6' := hid H6
        clear H6
        go_wp2_with fail
        refine (C6.out _ _ H6'.out).mono ?_
        rintro e w7 ⟨rfl, h7⟩
        have H7 := hid h7
        clear h7 H6'
        go_wp2_with fail
        refine (C4.out _ _ _ _ H7.out).mono ?_
        rintro e w8 ⟨rfl, h8⟩
        have H8 := hid h8
        clear h8 H7
        go_wp2_with fail
        refine (C7.out _ _ H8.out).mono ?_
        rintro e w9 ⟨rfl, h9⟩
        have H9 := hid h9
        clear h9 H8
        go_wp2
        go_ret
        exact ⟨rfl, H9.out.out.kept⟩
      | false =>
        go_wp2_with fail
        refine (Ha.out _).mono ?_
        rintro e w6 ⟨rfl, h6⟩
        have H6 : ShM w w6 b i calm i t := H5.out.out.still h6
        clear h6 H5
        have H6' := hid H6
        clear H6
        go_wp2_with fail
        refine (C8.out _ _ H6'.out).mono ?_
        rintro e w7 ⟨rfl, h7⟩
        have H7 := hid h7
        clear h7 H6'
        go_wp2_with fail
        refine (C9.out _ _ H7.out).mono ?_
        rintro e w8 ⟨rfl, h8⟩
        have H8 := hid h8
        clear h8 H7
        go_wp2_with fail
        refine (C4.out _ _ _ _ H8.out).mono ?_
        rintro e w9 ⟨rfl, h9⟩
        have H9 := hid h9
        clear h9 H8
        go_wp2
        go_ret
        exact ⟨rfl, H9.out.out.kept⟩

set_option maxHeartbeats 2000000 in
set_option maxRecDepth 100000 in
theorem storeShuts_walk (limit calm time : Int) (right : Bool) (w : World) (_ : -9223372036854775808 ≤ limit ∧ limit ≤ 9223372036854775807) (_ : -9223372036854775808 ≤ calm ∧ calm ≤ 9223372036854775807) (_ : -9223372036854775808 ≤ time ∧ time ≤ 9223372036854775807) :
    Calls Try.prog 3 #[.int .i64 limit, .int .i64 calm, .int .i64 time, .bool right] w fun e w' => e = .returned (.bool true) ∧ Below w.heap.size w w' := by
  have fin : ∀ {e : Ending} {w' : World}, (e = .returned (.bool true) ∧ Kept (fun _ => False) w w') → (e = .returned (.bool true) ∧ Below w.heap.size w w') := fun h => ⟨h.1, h.2.below (Nat.le_refl _) (fun i hi => hi.elim)⟩
  by_cases h : (1 ≤ limit ∧ limit ≤ 100) ∧ (1 ≤ calm ∧ calm ≤ 1000) ∧ (0 ≤ time ∧ time ≤ 1099511627776)
  · obtain ⟨h1, h2, h3⟩ := h
    obtain ⟨L, rfl⟩ : ∃ L : Nat, limit = (L : Int) := ⟨limit.toNat, by omega⟩
    exact (storeShuts_in L calm time right w ⟨by omega, by omega⟩ h2 h3).mono fun _ _ h => fin h
  · refine Calls.mono (R := fun e w' => e = .returned (.bool true) ∧ Kept (fun _ => False) w w') ?_ fun _ _ h => fin h
    have Ha := hid alive15_any
    have C1 := hid (new_mine (Kept.refl (fun _ => False) w) limit calm)
    have HH := hid h
    clear h fin
    go_enter Try.func3, Try.ntmps3
    go_wp2_with fail
    refine C1.out.mono ?_
    intro e w1 h1
    rcases h1 with ⟨_, rfl, rfl⟩ | ⟨b, hg, rfl, h1⟩
    · clear HH C1
      go_wp2_with fail
      refine (Ha.out _).mono ?_
      rintro e w2 ⟨rfl, h2⟩
      go_wp2
      go_ret
      exact ⟨rfl, h2⟩
    · have H1 := hid h1
      have HG := hid hg
      clear h1 hg
      by_cases z1 : limit < 1
      · go_wp2_with fail
        refine (Ha.out _).mono ?_
        rintro e w2 ⟨rfl, h2⟩
        go_wp2
        go_ret
        exact ⟨rfl, H1.out.kept.trans h2⟩
      · by_cases z2 : time < 0
        · go_wp2_with fail
          refine (Ha.out _).mono ?_
          rintro e w2 ⟨rfl, h2⟩
          go_wp2
          go_ret
          exact ⟨rfl, H1.out.kept.trans h2⟩
        · have z3 : 1099511627776 < time := by
            have := HH.out
            have := HG.out
            omega
          go_wp2_with fail
          refine (Ha.out _).mono ?_
          rintro e w2 ⟨rfl, h2⟩
          go_wp2
          go_ret
          exact ⟨rfl, H1.out.kept.trans h2⟩
end Go.Proofs.Ytmbdjgfbhblifaa
