/- The contract of wire.GetGram: the datagram of some bytes, or the error; for every string of at most 2^47 bytes. -/
import Derived.Test.YtlimnhlgjjgdeaaUnseal
import Derived.Test.YtlimnhlgjjgdeaaPutGram
import Derived.Deep.RegionWith
namespace Go.Proofs.Ytlimnhlgjjgdeaa
open Go.RowKit

def getGramF (l : List UInt8) : (Nat × Nat × List UInt8) × Int :=
  if (unsealF l).2 ≠ 0 then ((0, 0, []), (unsealF l).2)
  else if (unsealF l).1.length < 6 then ((0, 0, []), 5)
  else if 1500 < numOf (((unsealF l).1.drop 4).take 2) then ((0, 0, []), 2)
  else if numOf (((unsealF l).1.drop 4).take 2) ≠ (unsealF l).1.length - 6 then ((0, 0, []), 4)
  else ((numOf ((unsealF l).1.take 2), numOf (((unsealF l).1.drop 2).take 2), (unsealF l).1.drop 6), 0)
def gramV (g : Nat × Nat × List UInt8) : Value := .agg #[.int .i64 (g.1 : Int), .int .i64 (g.2.1 : Int), .string ⟨g.2.2.toArray⟩]

/-- The three cells of a result of the call's own, none of them frozen. -/
def Own3 (w : World) (b : Nat) (x y z : Value) : Prop := Box3 w b x y z ∧ ∀ j, w.frozen? ⟨b, j, none⟩ = false
theorem own3_new (w : World) (t : TypeId) (x y z : Value) : Own3 (w.alloc (.cells #[x, y, z] t)) w.heap.size x y z :=
  ⟨box3_new w t x y z, fun j => frozen_of_row _ w.heap.size j #[x, y, z] t (heap_alloc_new w _)⟩
theorem Own3.carry {w w1 : World} {b B : Nat} {x y z : Value} (h : Own3 w b x y z) (hb : Below B w w1) (hlt : b < B) : Own3 w1 b x y z :=
  ⟨h.1.carry hb hlt, fun j => (hb.frozen (p := ⟨b, j, none⟩) hlt).trans (h.2 j)⟩

theorem mid_at (s : ByteArray) (k m : Nat) (h : k ≤ m) (h2 : m ≤ s.size) (i j : Int) (hi : i = (k : Int)) (hj : j = (m : Int)) (W : World) :
    (Instr.slice 9 (.string s) (some (.int .i64 i)) (some (.int .i64 j)) none).run Try.prog W = .ok (.string (s.extract k m)) W := by
  subst hi hj
  rw [run_slice_string W 9 s .i64 .i64 (k : Int) (m : Int) Try.underlying9 (by omega) (by omega) (by omega)]
  rfl
theorem last_at (s : ByteArray) (k : Nat) (h : k ≤ s.size) (i : Int) (hi : i = (k : Int)) (W : World) :
    (Instr.slice 9 (.string s) (some (.int .i64 i)) none none).run Try.prog W = .ok (.string (s.extract k s.size)) W := by
  subst hi
  rw [run_slice_string_l W 9 s Try.underlying9 .i64 (k : Int) (by omega) (by omega)]
  rfl

set_option maxHeartbeats 4000000 in
theorem getGram_yes (s y : ByteArray) (hsz : y.size ≤ 140737488351232) (hy6 : 6 ≤ y.size) (n : Nat) (h15 : n ≤ 1500) (hnb : ((n : Int) != (y.size : Int) - 6) = false) (a b : Nat)
    (hu : ∀ w, Calls Try.prog 30 #[.string s] w fun e w' => e = .returned (.tuple #[.string y, .int .i64 0]) ∧ Below w.heap.size w w')
    (h1 : ∀ w, Calls Try.prog 24 #[.string (y.extract 4 6)] w fun e w' => e = .returned (.int .i64 (n : Int)) ∧ w' = w)
    (h2 : ∀ w, Calls Try.prog 24 #[.string (y.extract 0 2)] w fun e w' => e = .returned (.int .i64 (a : Int)) ∧ w' = w)
    (h3 : ∀ w, Calls Try.prog 24 #[.string (y.extract 2 4)] w fun e w' => e = .returned (.int .i64 (b : Int)) ∧ w' = w) (w : World) :
    Calls Try.prog 15 #[.string s] w fun e w' => e = .returned (.tuple #[.agg #[.int .i64 (a : Int), .int .i64 (b : Int), .string (y.extract 6 y.size)], .int .i64 0]) ∧ Below w.heap.size w w' := by
  have HU := hide hu
  have HL1 := hide h1
  have HL2 := hide h2
  have HL3 := hide h3
  clear hu h1 h2 h3
  have hcl : (y.extract 6 y.size).size ≤ 281474976710656 := by rw [ByteArray.size_extract]; omega
  have HC := hide (fun w => clone_any (y.extract 6 y.size) w hcl)
  go_enter Try.func15, Try.ntmps15
  go_wp2_with fail
  refine (HU.out _).mono ?_
  rintro e1 w1 ⟨rfl, hb1⟩
  have hs1 : w.heap.size < w1.heap.size := by have := hb1.size; simp at this; omega
  have O1 := (own3_new w 27 (.int .i64 0) (.int .i64 0) (.string ⟨#[]⟩)).carry hb1 (by simp)
  have O1d : Hid (Own3 w1.drew w.heap.size (.int .i64 0) (.int .i64 0) (.string ⟨#[]⟩)) := O1.carry ((Below.refl w1.heap.size w1).drew) hs1
  have hb0 : Hid (Below w.heap.size w w1) := ((Below.refl _ _).alloc (Nat.le_refl _) _).trans (hb1.mono (by simp))
  clear hb1 O1
  go_wp2_with fail
  refine (HL1.out _).mono ?_
  rintro e2 w2 ⟨rfl, rfl⟩
  go_wp2_with fail
  have i1 := first_at y 2 (by omega) 2 (by rfl)
  have i2 := mid_at y 2 4 (by omega) (by omega) 2 4 (by rfl) (by rfl)
  have i3 := last_at y 6 (by omega) 6 (by rfl)
  clear hnb HL1 HU h15 hcl hsz
  go_region_with (first
    | (go_at_call_of 24 (y.extract 0 2); refine (HL2.out _).mono ?_; rintro e3 w3 ⟨rfl, rfl⟩)
    | (go_at_call_of 24 (y.extract 2 4); refine (HL3.out _).mono ?_; rintro e4 w4 ⟨rfl, rfl⟩)
    | (go_at_call 25; refine (HC.out _).mono ?_; rintro e5 w5 ⟨rfl, hb5⟩; have O5 := O1d.out.carry hb5 hs1; obtain ⟨⟨c0, c1, c2⟩, f0⟩ := O5))
  all_goals
    go_wp2
    refine bodyPost_ret (v := .tuple #[.agg #[.int .i64 (a : Int), .int .i64 (b : Int), .string (y.extract 6 y.size)], .int .i64 0]) (by simp [results, Try.results15, go_sem, c0, c1, c2]) rfl ⟨rfl, ?_⟩
    refine (((?_ : Below w.heap.size w w5).setCell (Nat.le_refl _) _).setCell (Nat.le_refl _) _).setCell (Nat.le_refl _) _
    exact hb0.out.drew.trans (hb5.mono (Nat.le_of_lt hs1))

set_option maxHeartbeats 400000 in
theorem getGram_any (s : ByteArray) (hs : s.size ≤ 140737488351232) (w : World) :
    Calls Try.prog 15 #[.string s] w fun e w' => e = .returned (.tuple #[gramV (getGramF s.data.toList).1, .int .i64 (getGramF s.data.toList).2]) ∧ Below w.heap.size w w' := by
  have HU := hide (unseal_any s hs)
  obtain ⟨x, e, hx⟩ : ∃ x e, unsealF s.data.toList = (x, e) := ⟨_, _, rfl⟩
  have hg : getGramF s.data.toList = if e ≠ 0 then ((0, 0, []), e) else if x.length < 6 then ((0, 0, []), 5) else if 1500 < numOf ((x.drop 4).take 2) then ((0, 0, []), 2)
      else if numOf ((x.drop 4).take 2) ≠ x.length - 6 then ((0, 0, []), 4) else ((numOf (x.take 2), numOf ((x.drop 2).take 2), x.drop 6), 0) := by
    unfold getGramF
    rw [hx]
  rw [hx] at HU
  by_cases he : e ≠ 0
  · rw [if_pos he] at hg
    rw [hg]
    have hne : (e != 0) = true := by simpa using he
    generalize (⟨(x, e).1.toArray⟩ : ByteArray) = y at HU
    clear hg hx he
    go_enter Try.func15, Try.ntmps15
    go_wp2_with fail
    refine (HU.out _).mono ?_
    rintro e1 w1 ⟨rfl, hb1⟩
    have hs1 : w.heap.size < w1.heap.size := by have := hb1.size; simp at this; omega
    obtain ⟨⟨c0, c1, c2⟩, f0⟩ := (own3_new w 27 (.int .i64 0) (.int .i64 0) (.string ⟨#[]⟩)).carry hb1 (by simp)
    have hb0 : Below w.heap.size w w1 := ((Below.refl _ _).alloc (Nat.le_refl _) _).trans (hb1.mono (by simp))
    go_wp2
    exact bodyPost_ret (v := .tuple #[.agg #[.int .i64 0, .int .i64 0, .string ⟨#[]⟩], .int .i64 e]) (by simp [results, Try.results15, go_sem, c0, c1, c2]) rfl ⟨rfl, ((hb0.setCell (Nat.le_refl _) _).setCell (Nat.le_refl _) _).setCell (Nat.le_refl _) _⟩
  · have he0 : e = 0 := by simpa using he
    subst he0
    rw [if_neg he] at hg
    obtain ⟨y, hy⟩ : ∃ y : ByteArray, y = ⟨x.toArray⟩ := ⟨_, rfl⟩
    have hyl : y.data.toList = x := by rw [hy]
    have hys : y.size = x.length := by rw [Lib.size_eq, hyl]
    rw [← hy] at HU
    have hx6 : x.length ≤ s.size := by
      have h2 : (unsealF s.data.toList).1.length ≤ s.data.toList.length := by
        unfold unsealF
        split
        · exact Nat.zero_le _
        · split
          · exact (List.length_take_le' _ _)
          · exact Nat.zero_le _
      rw [hx, ← Lib.size_eq] at h2
      exact h2
    clear hx he
    by_cases h6 : x.length < 6
    · rw [if_pos h6] at hg
      rw [hg]
      have hy6 : y.size < 6 := by omega
      clear hg hy hyl hys h6
      go_enter Try.func15, Try.ntmps15
      go_wp2_with fail
      refine (HU.out _).mono ?_
      rintro e1 w1 ⟨rfl, hb1⟩
      have hs1 : w.heap.size < w1.heap.size := by have := hb1.size; simp at this; omega
      obtain ⟨⟨c0, c1, c2⟩, f0⟩ := (own3_new w 27 (.int .i64 0) (.int .i64 0) (.string ⟨#[]⟩)).carry hb1 (by simp)
      have hb0 : Below w.heap.size w w1 := ((Below.refl _ _).alloc (Nat.le_refl _) _).trans (hb1.mono (by simp))
      go_wp2
      exact bodyPost_ret (v := .tuple #[.agg #[.int .i64 0, .int .i64 0, .string ⟨#[]⟩], .int .i64 5]) (by simp [results, Try.results15, go_sem, c0, c1, c2]) rfl ⟨rfl, ((hb0.setCell (Nat.le_refl _) _).setCell (Nat.le_refl _) _).setCell (Nat.le_refl _) _⟩
    rw [if_neg h6] at hg
    have hy6 : 6 ≤ y.size := by omega
    have HL1 : Hid (∀ w, Calls Try.prog 24 #[.string (y.extract 4 6)] w fun e w' => e = .returned (.int .i64 (numOf ((x.drop 4).take 2) : Int)) ∧ w' = w) := fun w => by
      have h := lift_any (y.extract 4 6) (by rw [ByteArray.size_extract]; omega) w
      rw [Lib.extract_data, hyl] at h
      exact h
    have HL2 : Hid (∀ w, Calls Try.prog 24 #[.string (y.extract 0 2)] w fun e w' => e = .returned (.int .i64 (numOf (x.take 2) : Int)) ∧ w' = w) := fun w => by
      have h := lift_any (y.extract 0 2) (by rw [ByteArray.size_extract]; omega) w
      rw [Lib.extract_data, hyl] at h
      exact h
    have HL3 : Hid (∀ w, Calls Try.prog 24 #[.string (y.extract 2 4)] w fun e w' => e = .returned (.int .i64 (numOf ((x.drop 2).take 2) : Int)) ∧ w' = w) := fun w => by
      have h := lift_any (y.extract 2 4) (by rw [ByteArray.size_extract]; omega) w
      rw [Lib.extract_data, hyl] at h
      exact h
    have hn := numOf_two_lt (x.drop 4)
    have hsz : y.size ≤ 140737488351232 := by omega
    generalize numOf ((x.drop 4).take 2) = n at HL1 hg hn
    by_cases h15 : 1500 < n
    · rw [if_pos h15] at hg
      rw [hg]
      clear hg hy hyl hys h6 HL2 HL3 hx6
      go_enter Try.func15, Try.ntmps15
      go_wp2_with fail
      refine (HU.out _).mono ?_
      rintro e1 w1 ⟨rfl, hb1⟩
      have hs1 : w.heap.size < w1.heap.size := by have := hb1.size; simp at this; omega
      obtain ⟨⟨c0, c1, c2⟩, f0⟩ := (own3_new w 27 (.int .i64 0) (.int .i64 0) (.string ⟨#[]⟩)).carry hb1 (by simp)
      have hb0 : Below w.heap.size w w1 := ((Below.refl _ _).alloc (Nat.le_refl _) _).trans (hb1.mono (by simp))
      go_wp2_with (go_at_call 24; refine (HL1.out _).mono ?_; rintro e2 w2 ⟨rfl, rfl⟩)
      exact bodyPost_ret (v := .tuple #[.agg #[.int .i64 0, .int .i64 0, .string ⟨#[]⟩], .int .i64 2]) (by simp [results, Try.results15, go_sem, c0, c1, c2]) rfl ⟨rfl, ((hb0.setCell (Nat.le_refl _) _).setCell (Nat.le_refl _) _).setCell (Nat.le_refl _) _⟩
    rw [if_neg h15] at hg
    by_cases hne : n ≠ x.length - 6
    · rw [if_pos hne] at hg
      rw [hg]
      have hnb : ((n : Int) != (y.size : Int) - 6) = true := by rw [bne_iff_ne]; omega
      clear hg hy hyl hys h6 HL2 HL3 hx6 hne
      go_enter Try.func15, Try.ntmps15
      go_wp2_with fail
      refine (HU.out _).mono ?_
      rintro e1 w1 ⟨rfl, hb1⟩
      have hs1 : w.heap.size < w1.heap.size := by have := hb1.size; simp at this; omega
      obtain ⟨⟨c0, c1, c2⟩, f0⟩ := (own3_new w 27 (.int .i64 0) (.int .i64 0) (.string ⟨#[]⟩)).carry hb1 (by simp)
      have hb0 : Below w.heap.size w w1 := ((Below.refl _ _).alloc (Nat.le_refl _) _).trans (hb1.mono (by simp))
      go_wp2_with (go_at_call 24; refine (HL1.out _).mono ?_; rintro e2 w2 ⟨rfl, rfl⟩)
      exact bodyPost_ret (v := .tuple #[.agg #[.int .i64 0, .int .i64 0, .string ⟨#[]⟩], .int .i64 4]) (by simp [results, Try.results15, go_sem, c0, c1, c2]) rfl ⟨rfl, ((hb0.setCell (Nat.le_refl _) _).setCell (Nat.le_refl _) _).setCell (Nat.le_refl _) _⟩
    rw [if_neg hne] at hg
    rw [hg]
    have hnb : ((n : Int) != (y.size : Int) - 6) = false := by
      have : n = x.length - 6 := by simpa using hne
      have e2 : (n : Int) = (y.size : Int) - 6 := by omega
      rw [e2]
      simp
    have hz : (⟨(x.drop 6).toArray⟩ : ByteArray) = y.extract 6 y.size := by
      apply ByteArray.ext
      apply Array.toList_inj.1
      rw [Lib.extract_data, hyl, List.take_of_length_le (by simp; omega)]
    unfold gramV
    simp only [hz]
    exact getGram_yes s y hsz hy6 n (by omega) hnb _ _ HU.out HL1.out HL2.out HL3.out w
end Go.Proofs.Ytlimnhlgjjgdeaa
