/- The walk of the law WireShort: for every frame, datagram and int it returns true, and of what was there nothing has turned (the two data of at most 2^47 bytes each). -/
import Derived.Test.YtijeifgjjmemlabAlive
import Derived.Test.YtijeifgjjmemlabGetEther
import Derived.OpenShut
namespace Go.Proofs.Ytijeifgjjmemlab
open Go.RowKit

theorem ret_bool {a b : Bool} (h : a = b) : Ending.returned (.bool a) = .returned (.bool b) := by rw [h]
theorem unseal_len (l : List UInt8) (h : (unsealF l).2 = 0) : (unsealF l).1.length = l.length - 2 ∧ 2 ≤ l.length := by
  unfold unsealF at h ⊢
  split at h
  · simp at h
  · rename_i h2
    rw [if_neg h2]
    split at h
    · rename_i h3
      rw [if_pos h3]
      refine ⟨?_, by omega⟩
      rw [List.length_take]
      omega
    · simp at h
theorem short_gram (f t : Nat) (m : List UInt8) (k : Nat) (hk : k < (sealF (gramF f t m)).length) (h : (getGramF ((sealF (gramF f t m)).take k)).2 = 0) :
    (getGramF ((sealF (gramF f t m)).take k)).1.2.2.length ≠ m.length := by
  have hl : (sealF (gramF f t m)).length = m.length + 8 := by simp [sealF, gramF, low_length]; omega
  have hlk : ((sealF (gramF f t m)).take k).length = k := by rw [List.length_take]; omega
  generalize (sealF (gramF f t m)).take k = l at h hlk
  unfold getGramF at h ⊢
  split at h
  · rename_i h1
    exact absurd h h1
  · rename_i h1
    have hu := unseal_len l (by simpa using h1)
    rw [if_neg h1]
    split at h
    · simp at h
    · rename_i h2
      rw [if_neg h2]
      split at h
      · simp at h
      · rename_i h3
        rw [if_neg h3]
        split at h
        · simp at h
        · rename_i h4
          rw [if_neg h4]
          show ((unsealF l).1.drop 6).length ≠ m.length
          rw [List.length_drop]
          omega

/-- The two boxes of the law's arguments. -/
def Boxes (w W : World) (xs : Array Value) (f t : Int) (y : ByteArray) : Prop :=
  W.heap[w.heap.size]? = some (.cells xs 34 (0, 0)) ∧ W.heap[w.heap.size + 1]? = some (.cells #[.int .i64 f, .int .i64 t, .string y] 36 (0, 0)) ∧ Below w.heap.size w W ∧ w.heap.size + 1 < W.heap.size
theorem boxes_new (w : World) (xs : Array Value) (f t : Int) (y : ByteArray) : Boxes w ((w.alloc (.cells xs 34)).alloc (.cells #[.int .i64 f, .int .i64 t, .string y] 36)) xs f t y :=
  ⟨(heap_alloc_old (w.alloc (.cells xs 34)) _ (by simp)).trans (heap_alloc_new w _), heap_alloc2_new w _ _, ((Below.refl _ _).alloc (Nat.le_refl _) _).alloc (by simp) _, by simp⟩
theorem Boxes.next {w W W' : World} {xs : Array Value} {f t : Int} {y : ByteArray} (h : Boxes w W xs f t y) (hb : Below W.heap.size W W') : Boxes w W' xs f t y :=
  ⟨(hb.block _ (by have := h.2.2.2; omega)).trans h.1, (hb.block _ h.2.2.2).trans h.2.1, h.2.2.1.trans (hb.mono (by have := h.2.2.2; omega)), Nat.lt_of_lt_of_le h.2.2.2 hb.size⟩
theorem Boxes.more {w W : World} {xs : Array Value} {f t : Int} {y : ByteArray} (h : Boxes w W xs f t y) (o : Obj) : Boxes w (W.alloc o) xs f t y := h.next ((Below.refl _ _).alloc (Nat.le_refl _) _)
theorem Boxes.cells {w W : World} {xs : Array Value} {f t : Int} {y : ByteArray} (h : Boxes w W xs f t y) :
    W.cell? ⟨w.heap.size + 1, 0, none⟩ = some (.int .i64 f) ∧ W.cell? ⟨w.heap.size + 1, 1, none⟩ = some (.int .i64 t) ∧ W.cell? ⟨w.heap.size + 1, 2, none⟩ = some (.string y) :=
  ⟨cell_of_row W _ 0 _ _ _ h.2.1, cell_of_row W _ 1 _ _ _ h.2.1, cell_of_row W _ 2 _ _ _ h.2.1⟩
theorem Boxes.data {w W : World} {xs : Array Value} {f t : Int} {y x : ByteArray} (h : Boxes w W xs f t y) (hx : xs[13]? = some (.string x)) : W.cell? ⟨w.heap.size, 13, none⟩ = some (.string x) :=
  (cell_of_row W _ 13 _ _ _ h.1).trans hx

set_option maxHeartbeats 1000000 in
theorem wireShort_out (xs : Array Value) (x : ByteArray) (h13 : xs[13]? = some (.string x)) (f t : Int) (y : ByteArray) (c : Int) (hx : x.size ≤ 140737488351232) (hy : y.size ≤ 140737488351232)
    (h : 3100 < x.size + y.size ∨ c < 0) (w : World) :
    Calls Try.prog 6 #[.agg xs, .agg #[.int .i64 f, .int .i64 t, .string y], .int .i64 c] w fun e w' => e = .returned (.bool true) ∧ Below w.heap.size w w' := by
  have B0 := boxes_new w xs f t y
  have c13 := B0.data h13
  obtain ⟨c0, c1, c2⟩ := B0.cells
  have HB := hide B0
  clear B0 h13
  by_cases hl : 3100 < x.size + y.size
  · go_enter Try.func6, Try.ntmps6
    go_wp2_with (go_at_call 8; refine (alive_any _).mono ?_; rintro e w3 ⟨rfl, hb3⟩)
    go_ret
    exact ⟨rfl, (HB.out.next hb3).2.2.1⟩
  · have hc : c < 0 := by omega
    clear h
    go_enter Try.func6, Try.ntmps6
    go_wp2_with (go_at_call 8; refine (alive_any _).mono ?_; rintro e w3 ⟨rfl, hb3⟩)
    go_ret
    exact ⟨rfl, (HB.out.next hb3).2.2.1⟩
set_option maxHeartbeats 2000000 in
theorem wireShort_1no (xs : Array Value) (hxs : xs.size = 14) (x : ByteArray) (h13 : xs[13]? = some (.string x)) (f t : Int) (y : ByteArray) (c : Nat) (hl : x.size + y.size ≤ 3100) (z1 : ByteArray) (e1 : Int)
    (hE : ∀ w, Calls Try.prog 12 #[.agg xs] w fun e w' => e = .returned (.tuple #[.string z1, .int .i64 e1]) ∧ Below w.heap.size w w') (he1 : (e1 == 0) = false)
    (z2 : ByteArray) (e2 : Int) (he2 : (e2 != 0) = true)
    (hG : ∀ w, Calls Try.prog 14 #[.agg #[.int .i64 f, .int .i64 t, .string y]] w fun e w' => e = .returned (.tuple #[.string z2, .int .i64 e2]) ∧ Below w.heap.size w w') (w : World) :
    Calls Try.prog 6 #[.agg xs, .agg #[.int .i64 f, .int .i64 t, .string y], .int .i64 (c : Int)] w fun e w' => e = .returned (.bool true) ∧ Below w.heap.size w w' := by
  have B0 := boxes_new w xs f t y
  have c13 := B0.data h13
  obtain ⟨c0, c1, c2⟩ := B0.cells
  have HB := hide B0
  have HE := hide hE
  have HG := hide hG
  clear B0 h13 hE hG
  go_enter Try.func6, Try.ntmps6
  go_wp2_with (refine wpList_load_row rfl 34 _ rfl w.heap.size rfl 34 xs (0, 0) _ HB.out.1 Try.underlying34 rfl (by rw [hxs]; kernel_rfl) ?_)
  refine (HE.out _).mono ?_
  rintro e w1 ⟨rfl, hb1⟩
  have HB1 := hide (HB.out.next hb1)
  clear hb1 c13 c0 c1 c2
  go_wp2_with (refine wpList_load_row rfl 36 _ rfl (w.heap.size + 1) rfl 36 _ (0, 0) _ HB1.out.2.1 Try.underlying36 rfl (by kernel_rfl) ?_)
  refine (HG.out _).mono ?_
  rintro e w5 ⟨rfl, hb5⟩
  have HB5 := hide (HB1.out.next hb5)
  clear hb5
  go_wp2_with (go_at_call 8; refine (alive_any _).mono ?_; rintro e w6 ⟨rfl, hb6⟩)
  go_ret
  exact ⟨rfl, (HB5.out.next hb6).2.2.1⟩

set_option maxHeartbeats 2000000 in
theorem wireShort_1ok (xs : Array Value) (hxs : xs.size = 14) (x : ByteArray) (h13 : xs[13]? = some (.string x)) (f t : Int) (y : ByteArray) (c : Nat) (hl : x.size + y.size ≤ 3100) (z1 : ByteArray) (e1 : Int)
    (hE : ∀ w, Calls Try.prog 12 #[.agg xs] w fun e w' => e = .returned (.tuple #[.string z1, .int .i64 e1]) ∧ Below w.heap.size w w') (he1 : (e1 == 0) = false)
    (z2 : ByteArray) (hz2 : 0 < z2.size) (hz2b : z2.size ≤ 4000) (K : Nat) (hK : K < z2.size) (hKc : (c : Int) % (z2.size : Int) = (K : Int))
    (hG : ∀ w, Calls Try.prog 14 #[.agg #[.int .i64 f, .int .i64 t, .string y]] w fun e w' => e = .returned (.tuple #[.string z2, .int .i64 0]) ∧ Below w.heap.size w w')
    (a b : Nat) (dd : ByteArray) (e3 : Int) (hR : ∀ w, Calls Try.prog 15 #[.string (z2.extract 0 K)] w fun e w' => e = .returned (.tuple #[.agg #[.int .i64 (a : Int), .int .i64 (b : Int), .string dd], .int .i64 e3]) ∧ Below w.heap.size w w')
    (hdd : (e3 != 0) = true ∨ ((e3 != 0) = false ∧ (dd.toList == y.toList) = false)) (w : World) :
    Calls Try.prog 6 #[.agg xs, .agg #[.int .i64 f, .int .i64 t, .string y], .int .i64 (c : Int)] w fun e w' => e = .returned (.bool true) ∧ Below w.heap.size w w' := by
  have HK := hide hR
  clear hR
  have B0 := boxes_new w xs f t y
  have c13 := B0.data h13
  obtain ⟨c0, c1, c2⟩ := B0.cells
  have HB := hide B0
  have HE := hide hE
  have HG := hide hG
  clear B0 h13 hE hG
  go_enter Try.func6, Try.ntmps6
  go_wp2_with (refine wpList_load_row rfl 34 _ rfl w.heap.size rfl 34 xs (0, 0) _ HB.out.1 Try.underlying34 rfl (by rw [hxs]; kernel_rfl) ?_)
  refine (HE.out _).mono ?_
  rintro e w1 ⟨rfl, hb1⟩
  have HB1 := hide (HB.out.next hb1)
  clear hb1 c13 c0 c1 c2
  go_wp2_with (refine wpList_load_row rfl 36 _ rfl (w.heap.size + 1) rfl 36 _ (0, 0) _ HB1.out.2.1 Try.underlying36 rfl (by kernel_rfl) ?_)
  refine (HG.out _).mono ?_
  rintro e w5 ⟨rfl, hb5⟩
  have HB5 := hide (HB1.out.next hb5)
  clear hb5
  go_wp2_with fail
  refine (HK.out _).mono ?_
  rintro e w6 ⟨rfl, hb6⟩
  have HB6 := hide ((HB5.out.next hb6).more (.cells #[.int .i64 (a : Int), .int .i64 (b : Int), .string dd] 36))
  clear hb6
  go_wp2_with fail
  refine (alive_any _).mono ?_
  rintro e w7 ⟨rfl, hb7⟩
  have HB7 := hide (HB6.out.next hb7)
  obtain ⟨d0, d1, d2⟩ := HB7.out.cells
  obtain ⟨g0, g1, g2⟩ := (box3_new w6 36 (.int .i64 (a : Int)) (.int .i64 (b : Int)) (.string dd)).carry hb7 (by simp)
  rcases hdd with h3 | ⟨h3, h4⟩
  · go_wp2
    go_ret
    exact ⟨rfl, HB7.out.2.2.1⟩
  · go_wp2
    all_goals
      go_ret
      exact ⟨rfl, HB7.out.2.2.1⟩

set_option maxHeartbeats 2000000 in
theorem wireShort_2no (xs : Array Value) (hxs : xs.size = 14) (x : ByteArray) (h13 : xs[13]? = some (.string x)) (f t : Int) (y : ByteArray) (c : Nat) (hl : x.size + y.size ≤ 3100) (z1 : ByteArray) (e1 : Int)
    (hE : ∀ w, Calls Try.prog 12 #[.agg xs] w fun e w' => e = .returned (.tuple #[.string z1, .int .i64 e1]) ∧ Below w.heap.size w w') (he1 : e1 = 0) (hz1 : 14 ≤ z1.size) (hc : 14 ≤ c)
    (z2 : ByteArray) (e2 : Int) (he2 : (e2 != 0) = true)
    (hG : ∀ w, Calls Try.prog 14 #[.agg #[.int .i64 f, .int .i64 t, .string y]] w fun e w' => e = .returned (.tuple #[.string z2, .int .i64 e2]) ∧ Below w.heap.size w w') (w : World) :
    Calls Try.prog 6 #[.agg xs, .agg #[.int .i64 f, .int .i64 t, .string y], .int .i64 (c : Int)] w fun e w' => e = .returned (.bool true) ∧ Below w.heap.size w w' := by
  subst he1
  have B0 := boxes_new w xs f t y
  have c13 := B0.data h13
  obtain ⟨c0, c1, c2⟩ := B0.cells
  have HB := hide B0
  have HE := hide hE
  have HG := hide hG
  clear B0 h13 hE hG
  go_enter Try.func6, Try.ntmps6
  go_wp2_with (refine wpList_load_row rfl 34 _ rfl w.heap.size rfl 34 xs (0, 0) _ HB.out.1 Try.underlying34 rfl (by rw [hxs]; kernel_rfl) ?_)
  refine (HE.out _).mono ?_
  rintro e w1 ⟨rfl, hb1⟩
  have HB1 := hide (HB.out.next hb1)
  clear hb1 c13 c0 c1 c2
  go_wp2_with (refine wpList_load_row rfl 36 _ rfl (w.heap.size + 1) rfl 36 _ (0, 0) _ HB1.out.2.1 Try.underlying36 rfl (by kernel_rfl) ?_)
  refine (HG.out _).mono ?_
  rintro e w5 ⟨rfl, hb5⟩
  have HB5 := hide (HB1.out.next hb5)
  clear hb5
  go_wp2_with (go_at_call 8; refine (alive_any _).mono ?_; rintro e w6 ⟨rfl, hb6⟩)
  go_ret
  exact ⟨rfl, (HB5.out.next hb6).2.2.1⟩

set_option maxHeartbeats 2000000 in
theorem wireShort_2ok (xs : Array Value) (hxs : xs.size = 14) (x : ByteArray) (h13 : xs[13]? = some (.string x)) (f t : Int) (y : ByteArray) (c : Nat) (hl : x.size + y.size ≤ 3100) (z1 : ByteArray) (e1 : Int)
    (hE : ∀ w, Calls Try.prog 12 #[.agg xs] w fun e w' => e = .returned (.tuple #[.string z1, .int .i64 e1]) ∧ Below w.heap.size w w') (he1 : e1 = 0) (hz1 : 14 ≤ z1.size) (hc : 14 ≤ c)
    (z2 : ByteArray) (hz2 : 0 < z2.size) (hz2b : z2.size ≤ 4000) (K : Nat) (hK : K < z2.size) (hKc : (c : Int) % (z2.size : Int) = (K : Int))
    (hG : ∀ w, Calls Try.prog 14 #[.agg #[.int .i64 f, .int .i64 t, .string y]] w fun e w' => e = .returned (.tuple #[.string z2, .int .i64 0]) ∧ Below w.heap.size w w')
    (a b : Nat) (dd : ByteArray) (e3 : Int) (hR : ∀ w, Calls Try.prog 15 #[.string (z2.extract 0 K)] w fun e w' => e = .returned (.tuple #[.agg #[.int .i64 (a : Int), .int .i64 (b : Int), .string dd], .int .i64 e3]) ∧ Below w.heap.size w w')
    (hdd : (e3 != 0) = true ∨ ((e3 != 0) = false ∧ (dd.toList == y.toList) = false)) (w : World) :
    Calls Try.prog 6 #[.agg xs, .agg #[.int .i64 f, .int .i64 t, .string y], .int .i64 (c : Int)] w fun e w' => e = .returned (.bool true) ∧ Below w.heap.size w w' := by
  subst he1
  have HK := hide hR
  clear hR
  have B0 := boxes_new w xs f t y
  have c13 := B0.data h13
  obtain ⟨c0, c1, c2⟩ := B0.cells
  have HB := hide B0
  have HE := hide hE
  have HG := hide hG
  clear B0 h13 hE hG
  go_enter Try.func6, Try.ntmps6
  go_wp2_with (refine wpList_load_row rfl 34 _ rfl w.heap.size rfl 34 xs (0, 0) _ HB.out.1 Try.underlying34 rfl (by rw [hxs]; kernel_rfl) ?_)
  refine (HE.out _).mono ?_
  rintro e w1 ⟨rfl, hb1⟩
  have HB1 := hide (HB.out.next hb1)
  clear hb1 c13 c0 c1 c2
  go_wp2_with (refine wpList_load_row rfl 36 _ rfl (w.heap.size + 1) rfl 36 _ (0, 0) _ HB1.out.2.1 Try.underlying36 rfl (by kernel_rfl) ?_)
  refine (HG.out _).mono ?_
  rintro e w5 ⟨rfl, hb5⟩
  have HB5 := hide (HB1.out.next hb5)
  clear hb5
  go_wp2_with fail
  refine (HK.out _).mono ?_
  rintro e w6 ⟨rfl, hb6⟩
  have HB6 := hide ((HB5.out.next hb6).more (.cells #[.int .i64 (a : Int), .int .i64 (b : Int), .string dd] 36))
  clear hb6
  go_wp2_with fail
  refine (alive_any _).mono ?_
  rintro e w7 ⟨rfl, hb7⟩
  have HB7 := hide (HB6.out.next hb7)
  obtain ⟨d0, d1, d2⟩ := HB7.out.cells
  obtain ⟨g0, g1, g2⟩ := (box3_new w6 36 (.int .i64 (a : Int)) (.int .i64 (b : Int)) (.string dd)).carry hb7 (by simp)
  rcases hdd with h3 | ⟨h3, h4⟩
  · go_wp2
    go_ret
    exact ⟨rfl, HB7.out.2.2.1⟩
  · go_wp2
    all_goals
      go_ret
      exact ⟨rfl, HB7.out.2.2.1⟩

set_option maxHeartbeats 2000000 in
theorem wireShort_3no (xs : Array Value) (hxs : xs.size = 14) (x : ByteArray) (h13 : xs[13]? = some (.string x)) (f t : Int) (y : ByteArray) (c : Nat) (hl : x.size + y.size ≤ 3100) (z1 : ByteArray) (e1 : Int)
    (hE : ∀ w, Calls Try.prog 12 #[.agg xs] w fun e w' => e = .returned (.tuple #[.string z1, .int .i64 e1]) ∧ Below w.heap.size w w') (he1 : e1 = 0) (hz1 : 14 ≤ z1.size) (hc : c < 14)
    (z2 : ByteArray) (e2 : Int) (he2 : (e2 != 0) = true)
    (hG : ∀ w, Calls Try.prog 14 #[.agg #[.int .i64 f, .int .i64 t, .string y]] w fun e w' => e = .returned (.tuple #[.string z2, .int .i64 e2]) ∧ Below w.heap.size w w') (w : World) :
    Calls Try.prog 6 #[.agg xs, .agg #[.int .i64 f, .int .i64 t, .string y], .int .i64 (c : Int)] w fun e w' => e = .returned (.bool true) ∧ Below w.heap.size w w' := by
  subst he1
  have B0 := boxes_new w xs f t y
  have c13 := B0.data h13
  obtain ⟨c0, c1, c2⟩ := B0.cells
  have HB := hide B0
  have HE := hide hE
  have HG := hide hG
  clear B0 h13 hE hG
  go_enter Try.func6, Try.ntmps6
  go_wp2_with (refine wpList_load_row rfl 34 _ rfl w.heap.size rfl 34 xs (0, 0) _ HB.out.1 Try.underlying34 rfl (by rw [hxs]; kernel_rfl) ?_)
  refine (HE.out _).mono ?_
  rintro e w1 ⟨rfl, hb1⟩
  have HB1 := hide (HB.out.next hb1)
  clear hb1 c13 c0 c1 c2
  go_wp2_with fail
  refine (getEther_short (z1.extract 0 c) (by rw [ByteArray.size_extract]; omega) _).mono ?_
  rintro e w2 ⟨rfl, hb2⟩
  have HB2 := hide ((HB1.out.next hb2).more (.cells Z 34))
  clear hb2
  go_wp2_with (refine wpList_load_row rfl 36 _ rfl (w.heap.size + 1) rfl 36 _ (0, 0) _ HB2.out.2.1 Try.underlying36 rfl (by kernel_rfl) ?_)
  refine (HG.out _).mono ?_
  rintro e w5 ⟨rfl, hb5⟩
  have HB5 := hide (HB2.out.next hb5)
  clear hb5
  go_wp2_with (go_at_call 8; refine (alive_any _).mono ?_; rintro e w6 ⟨rfl, hb6⟩)
  go_ret
  exact ⟨rfl, (HB5.out.next hb6).2.2.1⟩

set_option maxHeartbeats 2000000 in
theorem wireShort_3ok (xs : Array Value) (hxs : xs.size = 14) (x : ByteArray) (h13 : xs[13]? = some (.string x)) (f t : Int) (y : ByteArray) (c : Nat) (hl : x.size + y.size ≤ 3100) (z1 : ByteArray) (e1 : Int)
    (hE : ∀ w, Calls Try.prog 12 #[.agg xs] w fun e w' => e = .returned (.tuple #[.string z1, .int .i64 e1]) ∧ Below w.heap.size w w') (he1 : e1 = 0) (hz1 : 14 ≤ z1.size) (hc : c < 14)
    (z2 : ByteArray) (hz2 : 0 < z2.size) (hz2b : z2.size ≤ 4000) (K : Nat) (hK : K < z2.size) (hKc : (c : Int) % (z2.size : Int) = (K : Int))
    (hG : ∀ w, Calls Try.prog 14 #[.agg #[.int .i64 f, .int .i64 t, .string y]] w fun e w' => e = .returned (.tuple #[.string z2, .int .i64 0]) ∧ Below w.heap.size w w')
    (a b : Nat) (dd : ByteArray) (e3 : Int) (hR : ∀ w, Calls Try.prog 15 #[.string (z2.extract 0 K)] w fun e w' => e = .returned (.tuple #[.agg #[.int .i64 (a : Int), .int .i64 (b : Int), .string dd], .int .i64 e3]) ∧ Below w.heap.size w w')
    (hdd : (e3 != 0) = true ∨ ((e3 != 0) = false ∧ (dd.toList == y.toList) = false)) (w : World) :
    Calls Try.prog 6 #[.agg xs, .agg #[.int .i64 f, .int .i64 t, .string y], .int .i64 (c : Int)] w fun e w' => e = .returned (.bool true) ∧ Below w.heap.size w w' := by
  subst he1
  have HK := hide hR
  clear hR
  have B0 := boxes_new w xs f t y
  have c13 := B0.data h13
  obtain ⟨c0, c1, c2⟩ := B0.cells
  have HB := hide B0
  have HE := hide hE
  have HG := hide hG
  clear B0 h13 hE hG
  go_enter Try.func6, Try.ntmps6
  go_wp2_with (refine wpList_load_row rfl 34 _ rfl w.heap.size rfl 34 xs (0, 0) _ HB.out.1 Try.underlying34 rfl (by rw [hxs]; kernel_rfl) ?_)
  refine (HE.out _).mono ?_
  rintro e w1 ⟨rfl, hb1⟩
  have HB1 := hide (HB.out.next hb1)
  clear hb1 c13 c0 c1 c2
  go_wp2_with fail
  refine (getEther_short (z1.extract 0 c) (by rw [ByteArray.size_extract]; omega) _).mono ?_
  rintro e w2 ⟨rfl, hb2⟩
  have HB2 := hide ((HB1.out.next hb2).more (.cells Z 34))
  clear hb2
  go_wp2_with (refine wpList_load_row rfl 36 _ rfl (w.heap.size + 1) rfl 36 _ (0, 0) _ HB2.out.2.1 Try.underlying36 rfl (by kernel_rfl) ?_)
  refine (HG.out _).mono ?_
  rintro e w5 ⟨rfl, hb5⟩
  have HB5 := hide (HB2.out.next hb5)
  clear hb5
  go_wp2_with fail
  refine (HK.out _).mono ?_
  rintro e w6 ⟨rfl, hb6⟩
  have HB6 := hide ((HB5.out.next hb6).more (.cells #[.int .i64 (a : Int), .int .i64 (b : Int), .string dd] 36))
  clear hb6
  go_wp2_with fail
  refine (alive_any _).mono ?_
  rintro e w7 ⟨rfl, hb7⟩
  have HB7 := hide (HB6.out.next hb7)
  obtain ⟨d0, d1, d2⟩ := HB7.out.cells
  obtain ⟨g0, g1, g2⟩ := (box3_new w6 36 (.int .i64 (a : Int)) (.int .i64 (b : Int)) (.string dd)).carry hb7 (by simp)
  rcases hdd with h3 | ⟨h3, h4⟩
  · go_wp2
    go_ret
    exact ⟨rfl, HB7.out.2.2.1⟩
  · go_wp2
    all_goals
      go_ret
      exact ⟨rfl, HB7.out.2.2.1⟩

theorem gram_fits (g : Nat × Nat × List UInt8) (y : ByteArray) (e : Int) (h : e = 0 → g.2.2.length ≠ y.size) : (e != 0) = true ∨ ((e != 0) = false ∧ (((⟨g.2.2.toArray⟩ : ByteArray)).toList == y.toList) = false) := by
  by_cases he : e = 0
  · right
    refine ⟨by simp [he], ?_⟩
    rw [beq_eq_false_iff_ne]
    intro hc
    apply h he
    have h2 : ∀ s : ByteArray, s.toList = s.data.toList := fun s => by
      obtain ⟨⟨l⟩⟩ := s
      simp
    rw [h2, h2] at hc
    rw [Lib.size_eq, ← hc]
  · left
    simpa using he

theorem wireShort_walk (d s : List UInt8) (hd : d.length = 6) (hs : s.length = 6) (ty : Int) (x : ByteArray) (f t : Int) (y : ByteArray) (c : Int) (hx : x.size ≤ 140737488351232) (hy : y.size ≤ 140737488351232) (w : World) :
    Calls Try.prog 6 #[.agg (ethCells d s ty x).toArray, .agg #[.int .i64 f, .int .i64 t, .string y], .int .i64 c] w fun e w' => e = .returned (.bool true) ∧ Below w.heap.size w w' := by
  have h13 : (ethCells d s ty x).toArray[13]? = some (.string x) := by rw [List.getElem?_toArray]; exact eth_data d s ty x hd hs
  have hxs : (ethCells d s ty x).toArray.size = 14 := by simp [ethCells, Lib.byteCells, hd, hs]
  by_cases hout : 3100 < x.size + y.size ∨ c < 0
  · exact wireShort_out _ x h13 f t y c hx hy hout w
  obtain ⟨n, rfl⟩ := Int.eq_ofNat_of_zero_le (show 0 ≤ c by omega)
  have hl : x.size + y.size ≤ 3100 := by omega
  have hE := putEther_any d s hd hs ty x
  have hG := putGram_any f t y hy
  have hz1 : (putEtherF d s ty x.data.toList).2 = 0 → 14 ≤ (⟨(putEtherF d s ty x.data.toList).1.toArray⟩ : ByteArray).size := by
    intro h0
    rw [Lib.size_eq]
    unfold putEtherF at h0 ⊢
    split at h0
    · rename_i h1
      rw [if_pos h1]
      split at h0
      · simp at h0
      · rename_i h2
        rw [if_neg h2]
        simp [hd, hs, low_length]
        omega
    · simp at h0
  generalize (⟨(putEtherF d s ty x.data.toList).1.toArray⟩ : ByteArray) = z1 at hE hz1
  generalize (putEtherF d s ty x.data.toList).2 = e1 at hE hz1
  have tailno : ∀ (z2 : ByteArray) (e2 : Int), (e2 != 0) = true → (∀ w, Calls Try.prog 14 #[.agg #[.int .i64 f, .int .i64 t, .string y]] w fun e w' => e = .returned (.tuple #[.string z2, .int .i64 e2]) ∧ Below w.heap.size w w') →
      Calls Try.prog 6 #[.agg (ethCells d s ty x).toArray, .agg #[.int .i64 f, .int .i64 t, .string y], .int .i64 (n : Int)] w fun e w' => e = .returned (.bool true) ∧ Below w.heap.size w w' := by
    intro z2 e2 he2 hG2
    by_cases he1 : e1 = 0
    · by_cases hc : n < 14
      · exact wireShort_3no _ hxs x h13 f t y n hl z1 e1 hE he1 (hz1 he1) hc z2 e2 he2 hG2 w
      · exact wireShort_2no _ hxs x h13 f t y n hl z1 e1 hE he1 (hz1 he1) (by omega) z2 e2 he2 hG2 w
    · exact wireShort_1no _ hxs x h13 f t y n hl z1 e1 hE (by simpa using he1) z2 e2 he2 hG2 w
  cases hw : (wordB f && wordB t) with
  | false =>
    have e : putGramF f t y.data.toList = ([], 1) := by unfold putGramF; rw [hw]; rfl
    rw [e] at hG
    exact tailno _ _ rfl hG
  | true =>
    obtain ⟨h1, h2⟩ : wordB f = true ∧ wordB t = true := by simpa using hw
    obtain ⟨a, rfl, ha⟩ := wordB_nat h1
    obtain ⟨b, rfl, hb⟩ := wordB_nat h2
    by_cases hly : 1500 < y.size
    · have e : putGramF (a : Int) (b : Int) y.data.toList = ([], 2) := by unfold putGramF; rw [hw, if_pos rfl, if_pos (by rw [← Lib.size_eq]; exact hly)]
      rw [e] at hG
      exact tailno _ _ rfl hG
    · have e : putGramF (a : Int) (b : Int) y.data.toList = (sealF (gramF a b y.data.toList), 0) := by unfold putGramF; rw [hw, if_pos rfl, if_neg (by rw [← Lib.size_eq]; exact hly), Int.toNat_natCast, Int.toNat_natCast]
      rw [e] at hG
      have hlz : (sealF (gramF a b y.data.toList)).length = y.size + 8 := by rw [Lib.size_eq]; simp [sealF, gramF, low_length]; omega
      obtain ⟨z2, hz2⟩ : ∃ z2 : ByteArray, z2 = ⟨(sealF (gramF a b y.data.toList)).toArray⟩ := ⟨_, rfl⟩
      have hzl : z2.data.toList = sealF (gramF a b y.data.toList) := by rw [hz2]
      have hzs : z2.size = y.size + 8 := by rw [Lib.size_eq, hzl, hlz]
      have hG2 : ∀ w, Calls Try.prog 14 #[.agg #[.int .i64 (a : Int), .int .i64 (b : Int), .string y]] w fun e w' => e = .returned (.tuple #[.string z2, .int .i64 0]) ∧ Below w.heap.size w w' := by
        rw [hz2]
        exact hG
      have hK : n % z2.size < z2.size := Nat.mod_lt _ (by omega)
      have hKc : (n : Int) % (z2.size : Int) = ((n % z2.size : Nat) : Int) := by omega
      generalize n % z2.size = K at hK hKc
      have hd2 : (z2.extract 0 K).data.toList = (sealF (gramF a b y.data.toList)).take K := by rw [Lib.extract_data, hzl]; simp
      have hR := getGram_any (z2.extract 0 K) (by rw [ByteArray.size_extract]; omega)
      rw [hd2] at hR
      have hfit := gram_fits (getGramF ((sealF (gramF a b y.data.toList)).take K)).1 y (getGramF ((sealF (gramF a b y.data.toList)).take K)).2 (fun h0 => by
        rw [Lib.size_eq]
        exact short_gram a b y.data.toList K (by omega) h0)
      by_cases he1 : e1 = 0
      · by_cases hc : n < 14
        · exact wireShort_3ok _ hxs x h13 a b y n hl z1 e1 hE he1 (hz1 he1) hc z2 (by omega) (by omega) K hK hKc hG2 _ _ _ _ hR hfit w
        · exact wireShort_2ok _ hxs x h13 a b y n hl z1 e1 hE he1 (hz1 he1) (by omega) z2 (by omega) (by omega) K hK hKc hG2 _ _ _ _ hR hfit w
      · exact wireShort_1ok _ hxs x h13 a b y n hl z1 e1 hE (by simpa using he1) z2 (by omega) (by omega) K hK hKc hG2 _ _ _ _ hR hfit w
end Go.Proofs.Ytijeifgjjmemlab
