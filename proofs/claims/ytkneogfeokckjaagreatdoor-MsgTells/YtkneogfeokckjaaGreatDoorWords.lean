/- The contract of package digest's inner words: a block of 64 bytes as sixteen numbers. -/
import Derived.Test.YtkneogfeokckjaaGreatDoorMix
import Derived.Lib.Strings
import Derived.Deep.WholeRow
namespace Go.Proofs.YtkneogfeokckjaaGreatDoor
open Go.RowKit

def wordCells (l : List UInt8) (k : Nat) : Array Value := ((List.range 16).map fun j => Value.int .u32 (wordTo l k j : Int)).toArray
theorem wordCells_size (l : List UInt8) (k : Nat) : (wordCells l k).size = 16 := by simp [wordCells]
theorem wordCells_at (l : List UInt8) (k j : Nat) (h : j < 16) : (wordCells l k)[j]? = some (.int .u32 (wordTo l k j : Int)) := by simp [wordCells, h]
theorem wordCells_next (l : List UInt8) (k : Nat) (h : k < 64) : (wordCells l k).setIfInBounds (k / 4) (.int .u32 (wordTo l (k + 1) (k / 4) : Int)) = wordCells l (k + 1) := by
  apply Array.ext_getElem?
  intro j
  rw [Array.getElem?_setIfInBounds]
  by_cases hj : j < 16
  · rw [wordCells_at _ _ _ hj, wordCells_at _ _ _ hj]
    by_cases h4 : k / 4 = j
    · rw [if_pos h4, if_pos (by rw [wordCells_size]; omega), h4]
    · rw [if_neg h4, wordTo_other _ _ _ (by omega)]
  · rw [if_neg (by omega), Array.getElem?_eq_none (by rw [wordCells_size]; omega), Array.getElem?_eq_none (by rw [wordCells_size]; omega)]

abbrev Z16 : Array Value := #[.int .u32 0, .int .u32 0, .int .u32 0, .int .u32 0, .int .u32 0, .int .u32 0, .int .u32 0, .int .u32 0, .int .u32 0, .int .u32 0, .int .u32 0, .int .u32 0, .int .u32 0, .int .u32 0, .int .u32 0, .int .u32 0]
theorem wordCells_zero (l : List UInt8) : wordCells l 0 = Z16 := by
  have h : ∀ j, wordTo l 0 j = 0 := fun j => by simp [wordTo, byteTo]
  unfold wordCells
  simp only [h]
  rfl

theorem wordCells_one (l : List UInt8) (k : Nat) : (wordCells l k).all (·.oneCell') = true := by
  rw [Array.all_eq_true_iff_forall_mem]
  intro u hu
  simp only [wordCells, List.mem_toArray, List.mem_map] at hu
  obtain ⟨j, _, rfl⟩ := hu
  rfl
theorem below_row {w W : World} (hb : Below w.heap.size w W) (cs : Array Value) : Below w.heap.size w (W.setRow w.heap.size cs) :=
  hb.trans ⟨rfl, rfl, rfl, by simp, fun k hk => setRow_other _ _ _ _ (by omega)⟩
theorem words_step (s : ByteArray) (k : Nat) (h : k < s.size) :
    bits .or .u32 (wordTo s.data.toList k (k / 4) : Int) ((s[k].toNat : Int) % 4294967296 * 2 ^ (8 * (k % 4)) % 4294967296) = (wordTo s.data.toList (k + 1) (k / 4) : Int) := by
  have hb := s[k].toNat_lt
  have hg : (s.data.toList.getD k 0).toNat = s[k].toNat := by
    rw [List.getD_eq_getElem?_getD, List.getElem?_eq_getElem (by simpa using h)]
    rfl
  have hw := wordTo_next s.data.toList k
  rw [hg] at hw
  have hlt : s[k].toNat * 2 ^ (8 * (k % 4)) < 4294967296 := by
    have h4 : k % 4 < 4 := Nat.mod_lt _ (by decide)
    have hp : 2 ^ (8 * (k % 4)) ≤ 2 ^ 24 := Nat.pow_le_pow_right (by decide) (by omega)
    exact Nat.lt_of_le_of_lt (Nat.mul_le_mul (show s[k].toNat ≤ 255 by omega) hp) (by decide)
  have e := u32_or_nat (wordTo s.data.toList k (k / 4)) (s[k].toNat * 2 ^ (8 * (k % 4))) (wordTo_lt _ _ _) hlt
  rw [hw] at e
  rw [← e]
  have e5 : (s[k].toNat : Int) * 2 ^ (8 * (k % 4)) = ((s[k].toNat * 2 ^ (8 * (k % 4)) : Nat) : Int) := by rw [Int.natCast_mul, Int.natCast_pow]; rfl
  rw [Int.emod_eq_of_lt (show (0 : Int) ≤ (s[k].toNat : Int) by omega) (by omega), e5, Int.emod_eq_of_lt (Int.natCast_nonneg _) (by omega)]

set_option maxHeartbeats 400000 in
set_option maxRecDepth 100000 in
theorem words_any (s : ByteArray) (hs : s.size = 64) (w : World) :
    Calls Tryz.prog 197 #[.string s] w fun e w' => e = .returned (.agg (wordCells s.data.toList 64)) ∧ Below w.heap.size w w' := by
  go_enter Tryz.func197, Tryz.ntmps197
  go_wp2
  go_loopw [4, 7] (fun _ c wr => ∃ (k : Nat) (u : World), k ≤ 64 ∧ c = .int .i64 (k : Int) ∧ wr = (u.alloc (.cells Z16 250)).alloc (.cells (wordCells s.data.toList k) 250) ∧ u.heap.size = w.heap.size ∧ Below w.heap.size w u)
    (fun _ c _ => 64 - (intOf c).toNat)
  case atStart => exact ⟨0, w, Nat.zero_le _, rfl, by rw [wordCells_zero], rfl, Below.refl _ _⟩
  case round =>
    obtain ⟨k, u, hk, rfl, rfl, hu, hb⟩ := hrel
    have hu1 : (u.alloc (.cells Z16 250)).heap.size = w.heap.size + 1 := by simp [hu]
    by_cases hlt : k < 64
    · have c1 : ((u.alloc (.cells Z16 250)).alloc (.cells (wordCells s.data.toList k) 250)).cell? ⟨w.heap.size + 1, k / 4, none⟩ = some (.int .u32 (wordTo s.data.toList k (k / 4) : Int)) := by
        rw [← hu1, cell_of_row _ _ (k / 4) (wordCells s.data.toList k) _ _ (heap_alloc_new _ _)]
        exact wordCells_at _ _ _ (by omega)
      have HV := hide (words_step s k (by omega))
      have HN := hide (wordCells_next s.data.toList k hlt)
      go_wp2
      go_region
      rw [HV.out, HN.out]
      go_wp2
      go_roundw
      case rel => exact ⟨k + 1, u.drew, by omega, by go_num, rfl, hu, hb.drew⟩
      case measure => simp [intOf]; omega
    · obtain rfl : k = 64 := by omega
      have h1 := heap_alloc_new (u.alloc (.cells Z16 250)) (.cells (wordCells s.data.toList 64) 250)
      have h00 := heap_alloc_new u (.cells Z16 250)
      rw [hu] at h00
      have h0 := (heap_alloc_old (u.alloc (.cells Z16 250)) (.cells (wordCells s.data.toList 64) 250) (r := w.heap.size) (by omega)).trans h00
      rw [hu1] at h1
      have hcs := wordCells_size s.data.toList 64
      have hc1 := wordCells_one s.data.toList 64
      have HB := hide (show Below w.heap.size w ((u.alloc (.cells Z16 250)).alloc (.cells (wordCells s.data.toList 64) 250)) from (hb.alloc (by omega) _).alloc (by omega) _)
      obtain ⟨C, hC⟩ : ∃ C, wordCells s.data.toList 64 = C := ⟨_, rfl⟩
      rw [hC] at h1 h0 hcs hc1 HB ⊢
      have HC := hide hC
      clear hC
      generalize (u.alloc (.cells Z16 250)).alloc (.cells C 250) = W at h1 h0 HB
      have H1 := hide h1
      have H0 := hide h0
      have HCS := hide hcs
      have HC1 := hide hc1
      clear h1 h0 h00 hcs hc1 hlt
      go_wp2_with (first
        | (refine wpList_load_row rfl 250 _ rfl (w.heap.size + 1) rfl 250 C (0, 0) _ H1.out Tryz.underlying250 rfl (by rw [HCS.out]; kernel_rfl) ?_)
        | (refine wpList_store_row rfl 250 _ _ rfl w.heap.size C rfl rfl 250 Z16 H0.out (by rw [HCS.out]; kernel_rfl) (by rw [HCS.out]; rfl) HC1.out ?_))
      refine bodyPost_ret (v := .agg C) ?_ rfl ⟨by rw [HC.out], below_row HB.out C⟩
      exact results_cell_row Tryz.results197 _ _ w.heap.size 250 C (0, 0) _ rfl (setRow_heap _ _ _ _ _ _ H0.out) Tryz.underlying250 rfl (by rw [HCS.out]; kernel_rfl)
end Go.Proofs.YtkneogfeokckjaaGreatDoor
