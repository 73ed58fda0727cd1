/- The walk of the law DigestShows: for every kind, secret, vector, value and cut it returns true (each string of at most 2^47 bytes), where the two tables hold what the program's text lays. -/
import Derived.Test.YtmelphkajkgdjaaDoorAlive2
import Derived.Test.YtmelphkajkgdjaaDoorMask
import Derived.OpenShut
import Derived.Deep.RegionHeld3
namespace Go.Proofs.YtmelphkajkgdjaaDoor
open Go.RowKit

theorem bytes_self (v : ByteArray) : (⟨v.data.toList.toArray⟩ : ByteArray) = v := by rw [Array.toArray_toList]

set_option maxHeartbeats 2000000 in
theorem digestShows_out (k : Int) (s c v : ByteArray) (cut : Int) (hs : s.size ≤ 140737488351232) (hc : c.size ≤ 140737488351232) (hv : v.size ≤ 140737488351232) (w : World) (hT : Tables w)
    (h : 3000 < s.size + c.size + v.size ∨ (s.size + c.size + v.size ≤ 3000 ∧ cut < 0) ∨ (s.size + c.size + v.size ≤ 3000 ∧ 0 ≤ cut ∧ (v.size : Int) / 16 < cut)) :
    Calls Tryd.prog 7 #[.int .i64 k, .string s, .string c, .string v, .int .i64 cut] w fun e w' => e = .returned (.bool true) ∧ Below w.heap.size w w' := by
  have HT := hide hT
  clear hT
  rcases h with h | ⟨h, h1⟩ | ⟨h, h1, h2⟩
  all_goals
    go_enter Tryd.func7, Tryd.ntmps7
    go_wp2_with (go_at_call 9; refine (alive_any _ HT.out).mono ?_; rintro e w3 ⟨rfl, hb3⟩)
    go_ret
    exact ⟨rfl, by assumption⟩

/-- The tables, and nothing turned of what was there. -/
def SD (w W : World) : Prop := Tables W ∧ Below w.heap.size w W
theorem SD.next {w W W' : World} (h : SD w W) (hb : Below W.heap.size W W') : SD w W' := ⟨h.1.next hb, h.2.trans (hb.mono h.2.size)⟩
theorem SD.call {w W : World} {f : Nat} {args : Array Value} {v : Value} (h : SD w W) (hc : ∀ W, Tables W → Calls Tryd.prog f args W fun e w' => e = .returned v ∧ Below W.heap.size W w') : Calls Tryd.prog f args W fun e w' => e = .returned v ∧ SD w w' :=
  (hc W h.1).mono fun _ _ ⟨he, hb⟩ => ⟨he, h.next hb⟩

set_option maxHeartbeats 400000 in
theorem digestShows_in (k : Int) (s c v M : ByteArray) (n K : Nat) (h : s.size + c.size + v.size ≤ 3000) (hn : (n : Int) ≤ (v.size : Int) / 16) (hK : 16 * (n : Int) = (K : Int)) (hKv : K ≤ v.size) (hM1 : M.size ≤ v.size) (hM2 : v.size ≤ M.size)
    (HM : ∀ W, Tables W → Calls Tryd.prog 19 #[.int .i64 k, .string s, .string c, .string v] W fun e w' => e = .returned (.string M) ∧ Below W.heap.size W w')
    (HU : ∀ W, Tables W → Calls Tryd.prog 21 #[.int .i64 k, .string s, .string c, .string M] W fun e w' => e = .returned (.string v) ∧ Below W.heap.size W w')
    (HP : ∀ W, Tables W → Calls Tryd.prog 19 #[.int .i64 k, .string s, .string c, .string (v.extract 0 K)] W fun e w' => e = .returned (.string (M.extract 0 K)) ∧ Below W.heap.size W w')
    (w : World) (hT : Tables w) :
    Calls Tryd.prog 7 #[.int .i64 k, .string s, .string c, .string v, .int .i64 (n : Int)] w fun e w' => e = .returned (.bool true) ∧ Below w.heap.size w w' := by
  have HM := hide HM
  have HU := hide HU
  have HP := hide HP
  have HT := hide hT
  have i1 := first_at v K hKv (K : Int) rfl
  have i2 := first_at M K (by omega) (K : Int) rfl
  have hwr : IntKind.i64.wrap (16 * (n : Int)) = 16 * (n : Int) := by rw [IntKind.wrap_i64]; omega
  have hz0 : (0 : Int) ≤ 16 * (n : Int) := by omega
  have hz1 : 16 * (n : Int) ≤ (v.size : Int) := by omega
  have i3 := first_at v K hKv (16 * (n : Int)) hK
  have i4 := first_at M K (by omega) (16 * (n : Int)) hK
  have hse : M.size = v.size := by omega
  clear hT hM1 hM2 hK
  go_enter Tryd.func7, Tryd.ntmps7
  go_wp2_with fail
  refine (HM.out _ HT.out).mono ?_
  rintro e w1 ⟨rfl, hb1⟩
  have hS1 : SD w w1.drew := ⟨HT.out.next hb1.drew, hb1.drew⟩
  go_wp2
  go_region_held3 (SD w) (assumption) (first
    | (go_at_call 9; refine (SD.call (by assumption) alive_any).mono ?_; rintro e w2 ⟨rfl, hb2⟩)
    | (go_at_call 21; refine (SD.call (by assumption) HU.out).mono ?_; rintro e w3 ⟨rfl, hb3⟩)
    | (go_at_call 19; refine (SD.call (by assumption) HP.out).mono ?_; rintro e w4 ⟨rfl, hb4⟩))
  go_wp2
  go_ret
  exact ⟨rfl, hb4.2⟩

theorem digestShows_walk (k : Int) (s c v : ByteArray) (cut : Int) (_wk : (Lit.int .i64 k).wf = true) (hs : s.size ≤ 140737488351232) (hc : c.size ≤ 140737488351232) (hv : v.size ≤ 140737488351232) (_wc : (Lit.int .i64 cut).wf = true) (w : World) (hT : Tables w) :
    Calls Tryd.prog 7 #[.int .i64 k, .string s, .string c, .string v, .int .i64 cut] w fun e w' => e = .returned (.bool true) ∧ Below w.heap.size w w' := by
  by_cases h1 : 3000 < s.size + c.size + v.size
  · exact digestShows_out k s c v cut hs hc hv w hT (Or.inl h1)
  by_cases h2 : cut < 0
  · exact digestShows_out k s c v cut hs hc hv w hT (Or.inr (Or.inl ⟨by omega, h2⟩))
  by_cases h3 : (v.size : Int) / 16 < cut
  · exact digestShows_out k s c v cut hs hc hv w hT (Or.inr (Or.inr ⟨by omega, by omega, h3⟩))
  obtain ⟨n, rfl⟩ := Int.eq_ofNat_of_zero_le (show 0 ≤ cut by omega)
  have hlen : v.data.toList.length = v.size := (Lib.size_eq v).symm
  have hf := firstF_length k s.data.toList c.data.toList
  obtain ⟨M, hM⟩ : ∃ M : ByteArray, M = ⟨(maskF false (firstF k s.data.toList c.data.toList) s.data.toList v.data.toList).toArray⟩ := ⟨_, rfl⟩
  have hMd : M.data.toList = maskF false (firstF k s.data.toList c.data.toList) s.data.toList v.data.toList := by rw [hM]
  have hMs : M.size = v.size := by rw [Lib.size_eq, hMd, maskF_length _ _ _ _ hf, hlen]
  have hMM : ∀ W, Tables W → Calls Tryd.prog 19 #[.int .i64 k, .string s, .string c, .string v] W fun e w' => e = .returned (.string M) ∧ Below W.heap.size W w' := fun W hT => by rw [hM]; exact mask_any k s c v (by omega) (by omega) (by omega) W hT
  have hUU : ∀ W, Tables W → Calls Tryd.prog 21 #[.int .i64 k, .string s, .string c, .string M] W fun e w' => e = .returned (.string v) ∧ Below W.heap.size W w' := fun W hT => by
    have h := unmask_any k s c M (by omega) (by omega) (by omega) W hT
    rw [hMd, unmask_mask _ _ _ hf, bytes_self] at h
    exact h
  have hPP : ∀ W, Tables W → Calls Tryd.prog 19 #[.int .i64 k, .string s, .string c, .string (v.extract 0 (16 * n))] W fun e w' => e = .returned (.string (M.extract 0 (16 * n))) ∧ Below W.heap.size W w' := fun W hT => by
    have h := mask_any k s c (v.extract 0 (16 * n)) (by omega) (by omega) (by rw [ByteArray.size_extract]; omega) W hT
    have e1 : (v.extract 0 (16 * n)).data.toList = v.data.toList.take (16 * n) := by rw [Lib.extract_data]; simp
    have e2 : M.extract 0 (16 * n) = ⟨((maskF false (firstF k s.data.toList c.data.toList) s.data.toList v.data.toList).take (16 * n)).toArray⟩ := by
      apply ByteArray.ext
      apply Array.toList_inj.1
      rw [Lib.extract_data, hMd]
      simp
    rw [e1, mask_prefix _ _ _ _ hf n (by omega), ← e2] at h
    exact h
  exact digestShows_in k s c v M n (16 * n) (by omega) (by omega) (by omega) (by omega) (by omega) (by omega) hMM hUU hPP w hT
end Go.Proofs.YtmelphkajkgdjaaDoor
