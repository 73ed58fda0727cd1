/- slices.SortFunc over sessions, by their numbers: at any number of sessions, by the library's contract. -/
import Derived.Test.YtgaamehjdoakhaaDoorAcNew
import Derived.Test.YtgaamehjdoakhaaDoorAcLaySort
import Derived.Shelf.SlSortCmp.WholeK
namespace Go.Proofs.YtgaamehjdoakhaaDoor
open Go.RowKit

def fit6 (l : List UInt8) : List UInt8 := (l ++ List.replicate 6 0).take 6
theorem fit6_length (l : List UInt8) : (fit6 l).length = 6 := by simp [fit6]
theorem fit6_self {l : List UInt8} (h : l.length = 6) : fit6 l = l := by
  unfold fit6
  rw [List.take_append_of_le_length (by omega), List.take_of_length_le (by omega)]

/-- The nine cells of a session. -/
def snCells (x : Sn) : List Value := Lib.byteCells (fit6 x.mac) ++ [.int .i64 (x.num : Int), .string x.uniq, .bool x.used]
theorem snCells_length (x : Sn) : (snCells x).length = 9 := by simp [snCells, Lib.byteCells_length, fit6_length]
theorem snCells_one (x : Sn) : ∀ v ∈ snCells x, v.oneCell' = true := by
  intro v hv
  unfold snCells at hv
  rcases List.mem_append.1 hv with hv | hv
  · exact Lib.byteCells_one _ v hv
  · simp at hv
    rcases hv with rfl | rfl | rfl <;> rfl
def cmpZ (a b : Int) : Int := if a < b then -1 else if b < a then 1 else 0
def cmpS (x y : Sn) : Int := cmpZ (x.num : Int) (y.num : Int)

set_option maxRecDepth 100000 in
theorem isNaN_any (a : Int) (w : World) : Calls Tryd.prog 53 #[.int .i64 a] w fun e w' => e = .returned (.bool false) ∧ w' = w := by
  go_enter Tryd.func53, Tryd.ntmps53
  go_wp2
  go_ret
  exact ⟨by simp, rfl⟩
set_option maxRecDepth 100000 in
theorem compare_any (a b : Int) (w : World) : Calls Tryd.prog 35 #[.int .i64 a, .int .i64 b] w fun e w' => e = .returned (.int .i64 (cmpZ a b)) ∧ w' = w := by
  unfold cmpZ
  by_cases h1 : a < b
  · rw [if_pos h1]
    go_enter Tryd.func35, Tryd.ntmps35
    go_wp2_with (go_at_call 53; refine (isNaN_any _ _).mono ?_; rintro e w' ⟨rfl, rfl⟩)
    go_ret
    exact ⟨rfl, rfl⟩
  · rw [if_neg h1]
    by_cases h2 : b < a
    · rw [if_pos h2]
      go_enter Tryd.func35, Tryd.ntmps35
      go_wp2_with (go_at_call 53; refine (isNaN_any _ _).mono ?_; rintro e w' ⟨rfl, rfl⟩)
      go_ret
      exact ⟨rfl, rfl⟩
    · rw [if_neg h2]
      go_enter Tryd.func35, Tryd.ntmps35
      go_wp2_with (go_at_call 53; refine (isNaN_any _ _).mono ?_; rintro e w' ⟨rfl, rfl⟩)
      go_ret
      exact ⟨rfl, rfl⟩
theorem two_grow (w : World) (o o' : Obj) : ∃ q os, (w.alloc o).alloc o' = Go.Sort.grow (w.drewN q) os := by
  refine ⟨0, #[o] ++ #[o'], ?_⟩
  rw [Go.Sort.alloc_eq_grow, Go.Sort.alloc_eq_grow, Go.Sort.grow_grow]
  rfl
set_option maxHeartbeats 1000000 in
set_option maxRecDepth 100000 in
theorem order_any (x y : Sn) (w : World) : Calls Tryd.prog 34 #[.agg (snCells x).toArray, .agg (snCells y).toArray] w fun e w' => e = .returned (.int .i64 (cmpS x y)) ∧ ∃ q os, w' = Go.Sort.grow (w.drewN q) os := by
  obtain ⟨x0, x1, x2, x3, x4, x5, hx⟩ := six_cells (fit6_length x.mac)
  obtain ⟨y0, y1, y2, y3, y4, y5, hy⟩ := six_cells (fit6_length y.mac)
  have HC := hid (compare_any (x.num : Int) (y.num : Int))
  unfold snCells cmpS
  rw [hx, hy]
  generalize cmpZ (x.num : Int) (y.num : Int) = Z at *
  go_enter Tryd.func34, Tryd.ntmps34
  go_wp2_with fail
  refine (HC.out _).mono ?_
  rintro e w' ⟨rfl, rfl⟩
  go_wp2
  go_ret
  exact ⟨rfl, two_grow _ _ _⟩

theorem lt_cmp (x y : Sn) : Go.Proofs.ltOf cmpS x y = decide (x.num < y.num) := by
  unfold Go.Proofs.ltOf cmpS cmpZ
  by_cases h1 : (x.num : Int) < (y.num : Int)
  · rw [if_pos h1, decide_eq_true (show x.num < y.num by omega)]
    rfl
  · rw [if_neg h1, decide_eq_false (show ¬ x.num < y.num by omega)]
    split <;> rfl
theorem swo_cmp : Go.Sort.SWO (Go.Proofs.ltOf cmpS) := by
  refine ⟨fun x => ?_, fun x y z h1 h2 => ?_, fun x y z h1 h2 => ?_⟩
  · rw [lt_cmp]; simp
  · rw [lt_cmp, decide_eq_true_eq] at *
    omega
  · rw [lt_cmp, decide_eq_false_iff_not] at *
    omega

theorem onCells_other {w : World} {blk i : Nat} (f : Array Value → Array Value) (h : i ≠ blk) : (Go.Sort.mapBlock w blk f).heap[i]? = w.heap[i]? := by
  unfold Go.Sort.mapBlock
  simp only [Array.getElem?_modify, if_neg (Ne.symm h)]

/-- Behind a sort nothing has turned but the row's own block. -/
theorem sort_kept (w : World) (blk n : Nat) (d : Array Sn) (os : Array Obj) (hi : Inhabited Sn) : Kept (fun i => i = blk) w (@Go.Proofs.sortWorldK Sn hi snCells 9 w blk 0 n d os) := by
  have hs : ∀ f, (Go.Sort.mapBlock (Go.Sort.ahead w n) blk f).heap.size = w.heap.size := fun f => by simp [Go.Sort.mapBlock, Go.Sort.ahead]
  refine ⟨rfl, rfl, rfl, ?_, fun k hk hn => ?_⟩
  · show w.heap.size ≤ ((Go.Sort.mapBlock (Go.Sort.ahead w n) blk _).heap ++ os).size
    rw [Array.size_append, hs]
    omega
  · show ((Go.Sort.mapBlock (Go.Sort.ahead w n) blk _).heap ++ os)[k]? = _
    rw [Array.getElem?_append_left (by rw [hs]; exact hk)]
    exact onCells_other _ hn
end Go.Proofs.YtgaamehjdoakhaaDoor
