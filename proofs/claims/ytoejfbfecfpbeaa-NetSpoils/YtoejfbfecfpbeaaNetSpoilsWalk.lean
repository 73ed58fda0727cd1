/- The law NetSpoils: it returns true for every text and numbers, and leaves what was there. -/
import Derived.Test.YtoejfbfecfpbeaaNextCall
import Derived.Test.YtoejfbfecfpbeaaSpoil
namespace Go.Proofs.Ytoejfbfecfpbeaa
open Go.RowKit

theorem bytes_ext {a b : ByteArray} (h : a.data.toList = b.data.toList) : a = b := by
  cases a
  cases b
  congr
  exact Array.toList_inj.1 h

theorem spoilB_back {x : ByteArray} {q : Nat} (hq : q < x.size) (y : UInt8) : spoilB (spoilB x q y) q y = x := by
  have hl : x.data.toList.length = x.size := (Lib.size_eq x).symm
  have hc := spoilB_cell hq y q hq
  rw [if_pos rfl] at hc
  apply bytes_ext
  show (spoilB x q y).data.toList.set q ((spoilB x q y).data.toList.getD q 0 ^^^ y) = _
  rw [hc, UInt8.xor_assoc, UInt8.xor_self, UInt8.xor_zero]
  show (x.data.toList.set q _).set q _ = _
  rw [List.set_set]
  have : x.data.toList.getD q 0 = x.data.toList[q]'(by omega) := by
    rw [List.getD_eq_getElem?_getD, List.getElem?_eq_getElem (by omega)]
    rfl
  rw [this, List.set_getElem_self]

theorem spoilB_ne {x : ByteArray} {q : Nat} (hq : q < x.size) {y : UInt8} (hy : 1 ≤ y.toNat) : spoilB x q y ≠ x := by
  intro e
  have hc := spoilB_cell hq y q hq
  rw [if_pos rfl, e] at hc
  have h2 : y = 0 := by
    have h3 := congrArg (fun z => x.data.toList.getD q 0 ^^^ z) hc
    simp only [← UInt8.xor_assoc, UInt8.xor_self, UInt8.zero_xor] at h3
    exact h3.symm
  rw [h2] at hy
  simp at hy

theorem send_one (x : ByteArray) : sendS s0 1 2 x = ⟨[⟨1, 2, x, 1⟩], [⟨1, 2, 1, 0⟩], []⟩ := by rfl
def oneS (x : ByteArray) : NetSt := ⟨[⟨1, 2, x, 1⟩], [⟨1, 2, 1, 0⟩], []⟩
theorem spoil_one (x : ByteArray) (q : Nat) (y : UInt8) : spoilS (oneS x) 0 q y = oneS (spoilB x q y) := rfl

set_option maxHeartbeats 1000000 in
theorem netSpoils_out (x : ByteArray) (at' by' : Int) (h : x.size < 1 ∨ 1500 < x.size ∨ by' < 1 ∨ 255 < by') (w : World) : Calls Try.prog 8 #[.string x, .int .i64 at', .int .i64 by'] w fun e w' => e = .returned (.bool true) ∧ Below w.heap.size w w' := by
  have Ha := hid alive_any
  by_cases h1 : x.size < 1
  · have h1z : (x.size : Int) < 1 := by omega
    clear h h1
    go_enter Try.func8, Try.ntmps8
    go_wp2_with (go_at_call 9; refine (Ha.out _).mono ?_; rintro e w' ⟨rfl, hk⟩)
    go_ret
    exact ⟨rfl, hk.below (Nat.le_refl _) (fun _ h => h.elim)⟩
  · by_cases h2 : 1500 < x.size
    · have h1z : ¬ (x.size : Int) < 1 := by omega
      have h2z : (1500 : Int) < (x.size : Int) := by omega
      clear h h1 h2
      go_enter Try.func8, Try.ntmps8
      go_wp2_with (go_at_call 9; refine (Ha.out _).mono ?_; rintro e w' ⟨rfl, hk⟩)
      go_ret
      exact ⟨rfl, hk.below (Nat.le_refl _) (fun _ h => h.elim)⟩
    · have h1z : ¬ (x.size : Int) < 1 := by omega
      have h2z : ¬ (1500 : Int) < (x.size : Int) := by omega
      by_cases h3 : by' < 1
      · clear h h1 h2
        go_enter Try.func8, Try.ntmps8
        go_wp2_with (go_at_call 9; refine (Ha.out _).mono ?_; rintro e w' ⟨rfl, hk⟩)
        go_ret
        exact ⟨rfl, hk.below (Nat.le_refl _) (fun _ h => h.elim)⟩
      · have h4 : 255 < by' := by omega
        clear h h1 h2
        go_enter Try.func8, Try.ntmps8
        go_wp2_with (go_at_call 9; refine (Ha.out _).mono ?_; rintro e w' ⟨rfl, hk⟩)
        go_ret
        exact ⟨rfl, hk.below (Nat.le_refl _) (fun _ h => h.elim)⟩

set_option maxHeartbeats 2000000 in
set_option maxRecDepth 100000 in
theorem netSpoils_in (x : ByteArray) (at' : Int) (y : UInt8) (h1 : 1 ≤ x.size) (h2 : x.size ≤ 1500) (hy : 1 ≤ y.toNat) (w : World) : Calls Try.prog 8 #[.string x, .int .i64 at', .int .i64 (y.toNat : Int)] w fun e w' => e = .returned (.bool true) ∧ Below w.heap.size w w' := by
  have Ha := hid alive_any
  have hyl := y.toNat_lt
  have C1 := hid (fun W b (h : Mine w W b s0) => h.call (fun S1 h => send_in (k := 1) (i := 2) (x := x) h good0 (by decide) in1 in2 (by omega)))
  rw [send_one] at C1
  change Hid (∀ W b, Mine w W b s0 → Calls _ _ _ _ fun e w' => e = _ ∧ Mine w w' b (oneS x)) at C1
  obtain ⟨q, hq⟩ : ∃ q : Nat, at' % (x.size : Int) = (q : Int) := ⟨(at' % (x.size : Int)).toNat, by have := Int.emod_nonneg at' (show (x.size : Int) ≠ 0 by omega); omega⟩
  have hql : q < x.size := by have := Int.emod_lt_of_pos at' (show (0 : Int) < (x.size : Int) by omega); omega
  have C2 : Hid (∀ z : ByteArray, z.size = x.size → ∀ S W b, NetAt S W b (oneS z) → Calls Try.prog 19 #[.pointer (some ⟨b, 0, none⟩), .int .i64 0, .int .i64 at', .int .i64 (y.toNat : Int)] W fun e w' => e = .returned (.int .i64 0) ∧ Next S W w' b (oneS (spoilB z q y))) := fun z hz S W b h => by
    have := spoil_ok h 0 (by show 0 < 1; decide) at' y hy (by show 0 < z.size; omega) (by show z.size ≤ 1000000; omega)
    have e : (at' % ((getG (oneS z).grams 0).data.size : Int)).toNat = q := by
      show (at' % (z.size : Int)).toNat = q
      rw [hz, hq]
      rfl
    rw [e, spoil_one] at this
    exact this
  have C3 : Hid (∀ z S W b, NetAt S W b (oneS z) → Calls Try.prog 23 #[.pointer (some ⟨b, 0, none⟩), .int .i64 0] W fun e w' => e = .returned (.tuple #[.agg #[.int .i64 1, .int .i64 2, .string z], .int .i64 0]) ∧ Kept (fun _ => False) W w') := fun z S W b h => peek_ok h 0 (by show 0 < 1; decide)
  have hsz := spoilB_size x q y
  have hne := spoilB_ne hql hy
  have hbk := spoilB_back hql y
  have C2a := hid (C2.out x rfl)
  have C2b := hid (C2.out (spoilB x q y) hsz)
  rw [hbk] at C2b
  have Hm := hid (mine_new w)
  have h1z : ¬ (x.size : Int) < 1 := by omega
  have h2z : ¬ (1500 : Int) < (x.size : Int) := by omega
  have h3z : ¬ (y.toNat : Int) < 1 := by omega
  have h4z : ¬ (255 : Int) < (y.toNat : Int) := by omega
  have Hsz := hid (show ((spoilB x q y).size : Int) = (x.size : Int) by rw [hsz])
  clear C2 hbk hq hql h1 h2 hy hsz
  generalize spoilB x q y = x1 at *
  have Hne := hid hne
  clear hne
  go_enter Try.func8, Try.ntmps8
  go_wp2_with (go_at_call 10; refine (new_any _).mono ?_; rintro e w1 ⟨rfl, rfl⟩)
  refine (C1.out _ _ Hm.out).mono ?_
  rintro e w2 ⟨rfl, hm2⟩
  have Hm2 := hid hm2
  clear hm2 C1 Hm
  go_wp2_with fail
  refine (Hm2.out.call (fun S1 h => C2a.out S1 _ _ h)).mono ?_
  rintro e w3 ⟨rfl, hm3⟩
  have Hm3 := hid hm3
  clear hm3 C2a Hm2
  go_wp2_with fail
  refine (Hm3.out.call0 (fun S1 h => C3.out _ S1 _ _ h)).mono ?_
  rintro e w4 ⟨rfl, hm4⟩
  obtain ⟨S4, hn4, hD4, hb4⟩ := Mine.split hm4 (.cells #[.int .i64 1, .int .i64 2, .string x1] 39)
  have Hn4 := hid hn4
  have Hbel := hid hb4
  have Hbox : Hid (∀ W, Kept S4 (w4.alloc (.cells #[.int .i64 1, .int .i64 2, .string x1] 39)) W → W.cell? ⟨w4.heap.size, 2, none⟩ = some (.string x1)) := fun W h => (h.cell (p := ⟨w4.heap.size, 2, none⟩) (by simp) hD4).trans (by simp)
  clear hm4 Hm3 hn4 hD4 hb4
  go_wp2_with fail
  refine (Hn4.out.call (fun S1 h => C2b.out S1 _ _ h)).mono ?_
  rintro e w5 ⟨rfl, hn5⟩
  have Hn5 := hid hn5
  clear hn5 C2b Hn4
  go_wp2_with fail
  refine (Hn5.out.call0 (fun S1 h => C3.out _ S1 _ _ h)).mono ?_
  rintro e w6 ⟨rfl, hn6⟩
  have Hk6 := hid (hn6.kept.alloc (.cells #[.int .i64 1, .int .i64 2, .string x] 39))
  have Hbox2 : Hid (∀ W, Kept (fun _ => False) (w6.alloc (.cells #[.int .i64 1, .int .i64 2, .string x] 39)) W → W.cell? ⟨w6.heap.size, 2, none⟩ = some (.string x)) := fun W h => (h.cell (p := ⟨w6.heap.size, 2, none⟩) (by simp) id).trans (by simp)
  clear hn6 C3 Hn5
  go_wp2_with fail
  refine (Ha.out _).mono ?_
  rintro e w7 ⟨rfl, hk7⟩
  have Hk7 := hid (Hk6.out.andThen hk7 (fun _ _ h => h.elim))
  have q1 := Hbox.out _ Hk7.out
  have q2 := Hbox2.out _ hk7
  have hlne : (x1.toList == x.toList) = false := by
    rw [beq_eq_false_iff_ne, ByteArray.toList_eq, ByteArray.toList_eq]
    exact fun e => Hne.out (bytes_ext e)
  have hlne2 : ¬ (x1.toList = x.toList) := by simpa using hlne
  have hsz := Hsz.out
  clear hk7 Hk6 Hbox Hbox2
  go_wp2
  go_ret
  exact ⟨by simp, Hbel.out _ Hk7.out⟩

theorem netSpoils_walk (x : ByteArray) (at' by' : Int) (w : World) (_ha : In64 at') (_hb : In64 by') : Calls Try.prog 8 #[.string x, .int .i64 at', .int .i64 by'] w fun e w' => e = .returned (.bool true) ∧ Below w.heap.size w w' := by
  by_cases h : x.size < 1 ∨ 1500 < x.size ∨ by' < 1 ∨ 255 < by'
  · exact netSpoils_out x at' by' h w
  · obtain ⟨y, hy⟩ : ∃ y : UInt8, by' = (y.toNat : Int) := ⟨UInt8.ofNat by'.toNat, by
      rw [UInt8.toNat_ofNat_of_lt' (by show by'.toNat < 256; omega)]
      omega⟩
    subst hy
    exact netSpoils_in x at' y (by omega) (by omega) (by omega) w

end Go.Proofs.Ytoejfbfecfpbeaa
