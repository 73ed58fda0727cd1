/- The contracts of the document's own Two, Num, PutPpp and GetPpp: what each returns, for every argument of its kind within the bounds that stand in each. -/
import Derived.Test.YtlimnhlgjjgdeaaRefOne
import Derived.Test.YtlimnhlgjjgdeaaPutPpp
import Derived.Test.YtlimnhlgjjgdeaaGetGram
import Derived.Deep.RegionHeld3
namespace Go.Proofs.Ytlimnhlgjjgdeaa
open Go.RowKit

set_option maxHeartbeats 400000 in
theorem refTwo_any (a : Nat) (ha : a ≤ 65535) (w : World) :
    Calls Try.prog 23 #[.int .i64 (a : Int)] w fun e w' => e = .returned (.string ⟨(low a 2).toArray⟩) ∧ Below w.heap.size w w' := by
  have H := hide (refLow_any a (by omega) 2 (by decide) (by decide))
  generalize (⟨(low a 2).toArray⟩ : ByteArray) = L at H
  go_enter Try.func23, Try.ntmps23
  go_wp2_with fail
  refine (H.out _).mono ?_
  rintro e w1 ⟨rfl, hb1⟩
  go_wp2
  go_ret
  exact ⟨rfl, hb1⟩

theorem num_pair (s : ByteArray) (k : Nat) (h : k + 1 < s.size) : numOf ((s.data.toList.drop k).take 2) = s[k].toNat * 256 + s[k + 1].toNat := by
  have h1 : k < s.data.toList.length := by simpa using (show k < s.size by omega)
  have h2 : k + 1 < s.data.toList.length := by simpa using h
  rw [List.drop_eq_getElem_cons h1, List.drop_eq_getElem_cons h2]
  simp [numOf]
  rfl

set_option maxHeartbeats 400000 in
theorem refNum_any (s : ByteArray) (hs : s.size ≤ maxLen) (k : Nat) (h : k + 1 < s.size) (w : World) :
    Calls Try.prog 26 #[.string s, .int .i64 (k : Int)] w fun e w' => e = .returned (.int .i64 (numOf ((s.data.toList.drop k).take 2) : Int)) ∧ Below w.heap.size w w' := by
  unfold maxLen at hs
  rw [num_pair s k h]
  have b0 := s[k].toNat_lt
  have b1 := s[k + 1].toNat_lt
  have x0 := index_at s k (by omega) (k : Int) rfl
  have x1 := index_at s (k + 1) h ((k : Int) + 1) (by omega)
  generalize s[k].toNat = A at b0 x0
  generalize s[k + 1].toNat = B at b1 x1
  have hwr : IntKind.i64.wrap ((k : Int) + 1) = (k : Int) + 1 := by rw [IntKind.wrap_i64]; omega
  go_enter Try.func26, Try.ntmps26
  go_wp2
  go_region
  go_wp2
  go_ret
  exact ⟨ret_int (by omega), (Below.refl _ _).drew⟩

set_option maxHeartbeats 1000000 in
theorem refPutPpp_any (p : Int) (s : ByteArray) (hs : s.size ≤ 140737488351232) (w : World) :
    Calls Try.prog 10 #[.int .i64 p, .string s] w fun e w' => e = .returned (.tuple #[.string ⟨(putPppF p s.data.toList).1.toArray⟩, .int .i64 (putPppF p s.data.toList).2]) ∧ Below w.heap.size w w' := by
  cases hw : wordB p with
  | false =>
    have e : putPppF p s.data.toList = ([], 1) := by unfold putPppF; rw [hw]; rfl
    rw [e]
    have hr : p < 0 ∨ (0 ≤ p ∧ 65535 < p) := by
      have h2 : ¬ (0 ≤ p ∧ p ≤ 65535) := by simpa [wordB] using hw
      omega
    clear e hw
    rcases hr with h | ⟨h0, h⟩
    all_goals
      go_enter Try.func10, Try.ntmps10
      go_wp2
      go_ret2
      exact ⟨rfl, Below.refl _ _⟩
  | true =>
    have hr : 0 ≤ p ∧ p ≤ 65535 := by simpa [wordB] using hw
    obtain ⟨a, rfl⟩ := Int.eq_ofNat_of_zero_le hr.1
    have ha : a ≤ 65535 := by omega
    cases hp : protoB a with
    | false =>
      have e : putPppF (a : Int) s.data.toList = ([], 1) := by unfold putPppF; rw [hw, Int.toNat_natCast, hp]; rfl
      rw [e]
      have hc : a % 2 = 0 ∨ (a % 2 = 1 ∧ a / 256 % 2 = 1) := by
        have h2 : ¬ (a % 2 = 1 ∧ a / 256 % 2 = 0) := by simpa [protoB] using hp
        omega
      clear e hw hp hr
      rcases hc with h | ⟨h0, h⟩
      · have e1 : (a : Int) % 2 = 0 := by omega
        clear h
        go_enter Try.func10, Try.ntmps10
        go_wp2
        go_ret2
        exact ⟨rfl, Below.refl _ _⟩
      · have e1 : (a : Int) % 2 = 1 := by omega
        have e2 : (a : Int) / 256 % 2 = 1 := by omega
        clear h0 h
        go_enter Try.func10, Try.ntmps10
        go_wp2
        go_ret2
        exact ⟨rfl, Below.refl _ _⟩
    | true =>
      have hc : a % 2 = 1 ∧ a / 256 % 2 = 0 := by simpa [protoB] using hp
      have e1 : (a : Int) % 2 = 1 := by omega
      have e2 : (a : Int) / 256 % 2 = 0 := by omega
      by_cases hl : 1492 < s.size
      · have e : putPppF (a : Int) s.data.toList = ([], 2) := by unfold putPppF; rw [hw, Int.toNat_natCast, hp, ← Lib.size_eq, if_pos (show (true && true) = true from rfl), if_pos hl]
        rw [e]
        clear e hw hp hr hc
        go_enter Try.func10, Try.ntmps10
        go_wp2
        go_ret2
        exact ⟨rfl, Below.refl _ _⟩
      · have e : putPppF (a : Int) s.data.toList = (low a 2 ++ s.data.toList, 0) := by unfold putPppF; rw [hw, Int.toNat_natCast, hp, ← Lib.size_eq, if_pos (show (true && true) = true from rfl), if_neg hl]
        rw [e]
        have HT := hide (refTwo_any a ha)
        obtain ⟨L, hL⟩ : ∃ L : ByteArray, L = ⟨(low a 2).toArray⟩ := ⟨_, rfl⟩
        have hLs : L.size ≤ 2 := by rw [hL, Lib.size_eq]; show (low a 2).length ≤ 2; rw [low_length]; exact Nat.le_refl _
        have HR := hide (show (⟨(low a 2 ++ s.data.toList).toArray⟩ : ByteArray) = L ++ s by rw [hL]; apply ByteArray.ext; apply Array.toList_inj.1; simp)
        rw [← hL] at HT
        clear e hw hp hr hc hL
        go_enter Try.func10, Try.ntmps10
        go_wp2_with fail
        refine (HT.out _).mono ?_
        rintro e w1 ⟨rfl, hb1⟩
        go_wp2
        go_ret2
        exact ⟨by rw [HR.out]; rfl, hb1⟩

set_option maxHeartbeats 1000000 in
theorem refGetPpp_any (s : ByteArray) (hs : s.size ≤ maxLen) (w : World) :
    Calls Try.prog 12 #[.string s] w fun e w' => e = .returned (.tuple #[.int .i64 ((getPppF s.data.toList).1 : Int), .string ⟨(getPppF s.data.toList).2.1.toArray⟩, .int .i64 (getPppF s.data.toList).2.2]) ∧ Below w.heap.size w w' := by
  have hsz : s.data.toList.length = s.size := (Lib.size_eq s).symm
  by_cases h2 : s.size < 2
  · have e : getPppF s.data.toList = (0, [], 5) := by unfold getPppF; rw [if_pos (by omega)]
    rw [e]
    clear e hsz
    go_enter Try.func12, Try.ntmps12
    go_wp2
    go_ret3
    exact ⟨rfl, Below.refl _ _⟩
  · have hn := num_pair s 0 (by omega)
    rw [List.drop_zero] at hn
    have b0 := s[0].toNat_lt
    have b1 := s[1].toNat_lt
    have hpb : protoB (numOf (s.data.toList.take 2)) = (decide (s[1].toNat % 2 = 1) && decide (s[0].toNat % 2 = 0)) := by
      rw [hn]
      unfold protoB
      congr 1
      · rw [decide_eq_decide]
        show (s[0].toNat * 256 + s[0 + 1].toNat) % 2 = 1 ↔ s[0 + 1].toNat % 2 = 1
        omega
      · rw [decide_eq_decide]
        show (s[0].toNat * 256 + s[0 + 1].toNat) / 256 % 2 = 0 ↔ s[0].toNat % 2 = 0
        have : s[0 + 1].toNat < 256 := b1
        omega
    have x0 := index_at s 0 (by omega) 0 rfl
    have x1 := index_at s 1 (by omega) 1 rfl
    unfold maxLen at hs
    have HN := hide (refNum_any s (by unfold maxLen; omega) 0 (by omega))
    rw [List.drop_zero] at HN
    by_cases hq : s[1].toNat % 2 = 1 ∧ s[0].toNat % 2 = 0
    · have hpt : protoB (numOf (s.data.toList.take 2)) = true := by rw [hpb]; simp [hq.1, hq.2]
      have q1 : (s[1].toNat : Int) % 2 = 1 := by omega
      have q0 : (s[0].toNat : Int) % 2 = 0 := by omega
      by_cases hl : 1494 < s.size
      · have e : getPppF s.data.toList = (0, [], 2) := by unfold getPppF; rw [if_neg (by omega), if_neg (by rw [hpt]; decide), if_pos (by omega)]
        rw [e]
        generalize s[0].toNat = A at x0 q0 b0
        generalize s[1].toNat = B at x1 q1 b1
        clear e hsz hpt hpb hq hn
        go_enter Try.func12, Try.ntmps12
        go_wp2
        go_ret3
        exact ⟨rfl, Below.refl _ _⟩
      · have e : getPppF s.data.toList = (numOf (s.data.toList.take 2), s.data.toList.drop 2, 0) := by unfold getPppF; rw [if_neg (by omega), if_neg (by rw [hpt]; decide), if_neg (by omega)]
        rw [e]
        have i2 := last_at s 2 (by omega) 2 rfl
        have hE : (⟨(s.data.toList.drop 2).toArray⟩ : ByteArray) = s.extract 2 s.size := by
          apply ByteArray.ext
          apply Array.toList_inj.1
          rw [Lib.extract_data, List.take_of_length_le (by rw [List.length_drop]; omega)]
        have HE := hide hE
        have HN0 : Hid (∀ w, Calls Try.prog 26 #[.string s, .int .i64 0] w fun e w' => e = .returned (.int .i64 (numOf (s.data.toList.take 2) : Int)) ∧ Below w.heap.size w w') := HN.out
        generalize numOf (s.data.toList.take 2) = N at HN0
        generalize s[0].toNat = A at x0 q0 b0
        generalize s[1].toNat = B at x1 q1 b1
        clear e hsz hpt hpb hq hn hE HN
        go_enter Try.func12, Try.ntmps12
        go_wp2
        go_region_with (go_at_call 26; refine (HN0.out _).mono ?_; rintro e w1 ⟨rfl, hb1⟩)
        all_goals
          go_wp2
          go_ret3
          exact ⟨by rw [HE.out]; rfl, (Below.refl _ _).drew.trans (hb1.mono (by simp))⟩
    · have hpf : protoB (numOf (s.data.toList.take 2)) = false := by
        rw [hpb]
        by_cases h1 : s[1].toNat % 2 = 1
        · have h0 : ¬ s[0].toNat % 2 = 0 := fun h => hq ⟨h1, h⟩
          simp [h1, h0]
        · simp [h1]
      have e : getPppF s.data.toList = (0, [], 4) := by unfold getPppF; rw [if_neg (by omega), if_pos hpf]
      rw [e]
      have hcase : s[1].toNat % 2 = 0 ∨ (s[1].toNat % 2 = 1 ∧ s[0].toNat % 2 = 1) := by omega
      clear hpf hpb e hn
      rcases hcase with h | ⟨h, h'⟩
      · have q1 : (s[1].toNat : Int) % 2 = 0 := by omega
        generalize s[0].toNat = A at x0 b0
        generalize s[1].toNat = B at x1 q1 b1
        clear hsz hq h
        go_enter Try.func12, Try.ntmps12
        go_wp2
        go_ret3
        exact ⟨rfl, Below.refl _ _⟩
      · have q1 : (s[1].toNat : Int) % 2 = 1 := by omega
        have q0 : (s[0].toNat : Int) % 2 = 1 := by omega
        generalize s[0].toNat = A at x0 q0 b0
        generalize s[1].toNat = B at x1 q1 b1
        clear hsz hq h h'
        go_enter Try.func12, Try.ntmps12
        go_wp2
        go_ret3
        exact ⟨rfl, Below.refl _ _⟩
end Go.Proofs.Ytlimnhlgjjgdeaa
