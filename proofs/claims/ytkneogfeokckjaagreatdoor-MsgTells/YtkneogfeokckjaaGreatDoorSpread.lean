/- The contract of package digest's inner spread: four numbers as sixteen bytes. -/
import Derived.Test.YtkneogfeokckjaaGreatDoorWords
namespace Go.Proofs.YtkneogfeokckjaaGreatDoor
open Go.RowKit

def fourCells (s : Four) : Array Value := #[.int .u32 (s.a : Int), .int .u32 (s.b : Int), .int .u32 (s.c : Int), .int .u32 (s.d : Int)]
theorem fourCells_at (s : Four) (j : Nat) (h : j < 4) : (fourCells s)[j]? = some (.int .u32 (s.at j : Int)) := by
  rcases (show j = 0 ∨ j = 1 ∨ j = 2 ∨ j = 3 by omega) with rfl | rfl | rfl | rfl <;> rfl
def spreadTo (s : Four) (k : Nat) : Array Value := ((List.range 16).map fun i => Value.int .u8 (if i < k then ((s.at (i / 4) / 2 ^ (8 * (i % 4)) % 256 : Nat) : Int) else 0)).toArray
theorem spreadTo_size (s : Four) (k : Nat) : (spreadTo s k).size = 16 := by simp [spreadTo]
theorem spreadTo_one (s : Four) (k : Nat) : (spreadTo s k).all (·.oneCell') = true := by
  rw [Array.all_eq_true_iff_forall_mem]
  intro u hu
  simp only [spreadTo, List.mem_toArray, List.mem_map] at hu
  obtain ⟨j, _, rfl⟩ := hu
  rfl
theorem spreadTo_next (s : Four) (k : Nat) (h : k < 16) : (spreadTo s k).setIfInBounds k (.int .u8 ((s.at (k / 4) : Int) / 2 ^ (8 * (k % 4)) % 256)) = spreadTo s (k + 1) := by
  have e : (s.at (k / 4) : Int) / 2 ^ (8 * (k % 4)) % 256 = ((s.at (k / 4) / 2 ^ (8 * (k % 4)) % 256 : Nat) : Int) := by rw [Int.natCast_emod, Int.natCast_ediv, Int.natCast_pow]; rfl
  rw [e]
  apply Array.ext_getElem?
  intro j
  rw [Array.getElem?_setIfInBounds]
  by_cases hj : j < 16
  · by_cases hk : k = j
    · subst hk
      rw [if_pos rfl, if_pos (by rw [spreadTo_size]; omega)]
      simp [spreadTo, hj]
    · rw [if_neg hk]
      simp only [spreadTo, List.getElem?_toArray, List.getElem?_map, List.getElem?_range hj, Option.map_some]
      by_cases h1 : j < k
      · rw [if_pos h1, if_pos (by omega)]
      · rw [if_neg h1, if_neg (by omega)]
  · rw [if_neg (by omega), Array.getElem?_eq_none (by rw [spreadTo_size]; omega), Array.getElem?_eq_none (by rw [spreadTo_size]; omega)]
abbrev Z16b : Array Value := #[.int .u8 0, .int .u8 0, .int .u8 0, .int .u8 0, .int .u8 0, .int .u8 0, .int .u8 0, .int .u8 0, .int .u8 0, .int .u8 0, .int .u8 0, .int .u8 0, .int .u8 0, .int .u8 0, .int .u8 0, .int .u8 0]
theorem spreadTo_zero (s : Four) : spreadTo s 0 = Z16b := rfl
theorem spreadTo_whole (s : Four) : spreadTo s 16 = (Lib.byteCells (spreadF s)).toArray := by
  unfold spreadTo spreadF Lib.byteCells
  congr 1
  rw [List.map_map]
  apply List.map_congr_left
  intro i hi
  rw [if_pos (List.mem_range.1 hi)]
  simp

theorem cell_past2 (u : World) (c d e : Array Value) (t t2 t3 : TypeId) (j : Nat) : (((u.alloc (.cells c t)).alloc (.cells d t2)).alloc (.cells e t3)).cell? ⟨u.heap.size, j, none⟩ = c[j]? := by
  rw [cell_of_row _ u.heap.size j c t (0, 0) ((heap_alloc_old _ _ (by simp; omega)).trans ((heap_alloc_old _ _ (by simp)).trans (heap_alloc_new u _)))]

set_option maxHeartbeats 400000 in
theorem spread_any (s : Four) (w : World) :
    Calls Tryz.prog 195 #[.agg (fourCells s)] w fun e w' => e = .returned (.agg (Lib.byteCells (spreadF s)).toArray) ∧ Below w.heap.size w w' := by
  rw [← spreadTo_whole]
  obtain ⟨cs, hcs⟩ : ∃ cs, cs = fourCells s := ⟨_, rfl⟩
  have ha : ∀ j, j < 4 → cs[j]? = some (.int .u32 (s.at j : Int)) := fun j h => by rw [hcs]; exact fourCells_at s j h
  rw [← hcs]
  have HA := hide ha
  clear ha hcs
  go_enter Tryz.func195, Tryz.ntmps195
  go_wp2
  go_loopw [4, 5] (fun _ c wr => ∃ k : Nat, k ≤ 16 ∧ c = .int .i64 (k : Int) ∧ wr = ((w.alloc (.cells cs 246)).alloc (.cells Z16b 230)).alloc (.cells (spreadTo s k) 230))
    (fun _ c _ => 16 - (intOf c).toNat)
  case atStart => exact ⟨0, Nat.zero_le _, rfl, rfl⟩
  case round =>
    obtain ⟨k, hk, rfl, rfl⟩ := hrel
    by_cases hlt : k < 16
    · have c1 : (((w.alloc (.cells cs 246)).alloc (.cells Z16b 230)).alloc (.cells (spreadTo s k) 230)).cell? ⟨w.heap.size, k / 4, none⟩ = some (.int .u32 (s.at (k / 4) : Int)) := (cell_past2 w cs Z16b _ _ _ _ (k / 4)).trans (HA.out _ (by omega))
      have c2 : (spreadTo s k)[k]? = some (.int .u8 0) := by simp [spreadTo, hlt]
      have HN := hide (spreadTo_next s k hlt)
      go_wp2
      rw [HN.out]
      go_roundw
      case rel => exact ⟨k + 1, by omega, by go_num, rfl⟩
      case measure => simp [intOf]; omega
    · obtain rfl : k = 16 := by omega
      have hs1 : (w.alloc (.cells cs 246)).heap.size = w.heap.size + 1 := by simp
      have hs2 : ((w.alloc (.cells cs 246)).alloc (.cells Z16b 230)).heap.size = w.heap.size + 2 := by simp
      have h2 := heap_alloc_new ((w.alloc (.cells cs 246)).alloc (.cells Z16b 230)) (.cells (spreadTo s 16) 230)
      rw [hs2] at h2
      have h11 := heap_alloc_new (w.alloc (.cells cs 246)) (.cells Z16b 230)
      rw [hs1] at h11
      have h1 := (heap_alloc_old ((w.alloc (.cells cs 246)).alloc (.cells Z16b 230)) (.cells (spreadTo s 16) 230) (r := w.heap.size + 1) (by omega)).trans h11
      have hcs := spreadTo_size s 16
      have hc1 := spreadTo_one s 16
      have HB := hide (show Below w.heap.size w (((w.alloc (.cells cs 246)).alloc (.cells Z16b 230)).alloc (.cells (spreadTo s 16) 230)) from (((Below.refl _ _).alloc (Nat.le_refl _) _).alloc (by omega) _).alloc (by omega) _)
      obtain ⟨C, hC⟩ : ∃ C, spreadTo s 16 = C := ⟨_, rfl⟩
      rw [hC] at h1 h2 hcs hc1 HB ⊢
      have HC := hide hC
      clear hC
      generalize ((w.alloc (.cells cs 246)).alloc (.cells Z16b 230)).alloc (.cells C 230) = W at h1 h2 HB
      have H1 := hide h1
      have H2 := hide h2
      have HCS := hide hcs
      have HC1 := hide hc1
      clear h1 h2 h11 hcs hc1 hlt hs1 hs2
      go_wp2_with (first
        | (refine wpList_load_row rfl 230 _ rfl (w.heap.size + 2) rfl 230 C (0, 0) _ H2.out Tryz.underlying230 rfl (by rw [HCS.out]; kernel_rfl) ?_)
        | (refine wpList_store_row rfl 230 _ _ rfl (w.heap.size + 1) C rfl rfl 230 Z16b H1.out (by rw [HCS.out]; kernel_rfl) (by rw [HCS.out]; rfl) HC1.out ?_))
      refine bodyPost_ret (v := .agg C) ?_ rfl ⟨by rw [HC.out], HB.out.trans ⟨rfl, rfl, rfl, by simp, fun k hk => setRow_other _ _ _ _ (by omega)⟩⟩
      exact results_cell_row Tryz.results195 _ _ (w.heap.size + 1) 230 C (0, 0) _ rfl (setRow_heap _ _ _ _ _ _ H1.out) Tryz.underlying230 rfl (by rw [HCS.out]; kernel_rfl)
end Go.Proofs.YtkneogfeokckjaaGreatDoor
