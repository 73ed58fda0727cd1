/- The law NetCuts: it returns true for every two numbers, and leaves what was there. -/
import Derived.Test.YtoejfbfecfpbeabSendPlain
import Derived.Test.YtoejfbfecfpbeabNextCall
namespace Go.Proofs.Ytoejfbfecfpbeab
open Go.RowKit

theorem left_all {s : NetSt} (hG : Good s) {k i : Int} (h : sentS s k i + 1 < 20000) : leftG s k i = s.grams := by
  unfold leftG
  refine List.filter_eq_self.2 (fun y hy => ?_)
  have ht := (hG.ok y hy).turn.1
  unfold oldG
  have : ¬ (20000 ≤ sentS s k i + 1 - y.turn) := by omega
  simp [this]

/-- What is counted both ways. -/
structure CutInv (s : NetSt) (T : Nat) (cuts : List (Int × Int)) (a l c d : Int) (len : Nat) : Prop where
  good : Good s
  few : s.tals.length ≤ T
  cuts : s.cuts = cuts
  sent12 : sentS s 1 2 = a
  lost12 : lostS s 1 2 = l
  sent21 : sentS s 2 1 = c
  lost21 : lostS s 2 1 = d
  len : s.grams.length = len

section
variable {s : NetSt} {T : Nat} {cuts : List (Int × Int)} {a l c d : Int} {len : Nat}

theorem CutInv.open12 (h : CutInv s T [] a l c d len) (ha : a ≤ 1000) (hl : l ≤ 1000) (hn : len < 600) (x : ByteArray) : CutInv (sendS s 1 2 x) (T + 3) [] (a + 1) l c d (len + 1) := by
  have hS : Small s 1 2 := ⟨by rw [h.sent12]; omega, by rw [h.lost12]; omega⟩
  have hL := left_all h.good (k := 1) (i := 2) (by rw [h.sent12]; omega)
  have hsh : shutG s 1 2 = false := by
    unfold shutG isCut
    rw [h.cuts, hL, h.len]
    simp
    omega
  refine ⟨h.good.send in1 in2 x, by have := tals_send s 1 2 x; have := h.few; omega, by rw [send_cuts hS, h.cuts], ?_, ?_, ?_, ?_, ?_⟩
  · rw [send_sent hS, if_pos ⟨rfl, rfl⟩, h.sent12]
  · rw [send_lost h.good hS, if_pos ⟨rfl, rfl⟩, h.lost12, hL, hsh]
    simp
  · rw [send_sent hS, if_neg (by omega), h.sent21]
  · rw [send_lost h.good hS, if_neg (by omega), h.lost21]
  · rw [send_grams hS, hsh, if_neg (by simp), hL, List.length_append, h.len]
    rfl

theorem CutInv.shut12 (h : CutInv s T [(1, 2)] a l c d len) (ha : a ≤ 1000) (hl : l ≤ 1000) (x : ByteArray) : CutInv (sendS s 1 2 x) (T + 3) [(1, 2)] (a + 1) (l + 1) c d len := by
  have hS : Small s 1 2 := ⟨by rw [h.sent12]; omega, by rw [h.lost12]; omega⟩
  have hL := left_all h.good (k := 1) (i := 2) (by rw [h.sent12]; omega)
  have hsh : shutG s 1 2 = true := by
    unfold shutG isCut
    rw [h.cuts]
    simp
  refine ⟨h.good.send in1 in2 x, by have := tals_send s 1 2 x; have := h.few; omega, by rw [send_cuts hS, h.cuts], ?_, ?_, ?_, ?_, ?_⟩
  · rw [send_sent hS, if_pos ⟨rfl, rfl⟩, h.sent12]
  · rw [send_lost h.good hS, if_pos ⟨rfl, rfl⟩, h.lost12, hL, hsh]
    simp
  · rw [send_sent hS, if_neg (by omega), h.sent21]
  · rw [send_lost h.good hS, if_neg (by omega), h.lost21]
  · rw [send_grams hS, hsh, if_pos rfl, hL, h.len]

theorem CutInv.open21 (h : CutInv s T [(1, 2)] a l c d len) (hc : c ≤ 1000) (hd : d ≤ 1000) (hn : len < 600) (x : ByteArray) : CutInv (sendS s 2 1 x) (T + 3) [(1, 2)] a l (c + 1) d (len + 1) := by
  have hS : Small s 2 1 := ⟨by rw [h.sent21]; omega, by rw [h.lost21]; omega⟩
  have hL := left_all h.good (k := 2) (i := 1) (by rw [h.sent21]; omega)
  have hsh : shutG s 2 1 = false := by
    unfold shutG isCut
    rw [h.cuts, hL, h.len]
    simp
    omega
  refine ⟨h.good.send in2 in1 x, by have := tals_send s 2 1 x; have := h.few; omega, by rw [send_cuts hS, h.cuts], ?_, ?_, ?_, ?_, ?_⟩
  · rw [send_sent hS, if_neg (by omega), h.sent12]
  · rw [send_lost h.good hS, if_neg (by omega), h.lost12]
  · rw [send_sent hS, if_pos ⟨rfl, rfl⟩, h.sent21]
  · rw [send_lost h.good hS, if_pos ⟨rfl, rfl⟩, h.lost21, hL, hsh]
    simp
  · rw [send_grams hS, hsh, if_neg (by simp), hL, List.length_append, h.len]
    rfl

theorem CutInv.cut (h : CutInv s T [] a l c d len) : CutInv (cutS s 1 2 true) T [(1, 2)] a l c d len :=
  ⟨⟨h.good.ok, h.good.sent, h.good.lost, h.good.few⟩, h.few, by unfold cutS; rw [h.cuts]; rfl, h.sent12, h.lost12, h.sent21, h.lost21, h.len⟩
theorem CutInv.mend (h : CutInv s T [(1, 2)] a l c d len) : CutInv (cutS s 1 2 false) T [] a l c d len :=
  ⟨⟨h.good.ok, h.good.sent, h.good.lost, h.good.few⟩, h.few, by unfold cutS; rw [h.cuts]; rfl, h.sent12, h.lost12, h.sent21, h.lost21, h.len⟩
end

theorem cutInv0 : CutInv s0 0 [] 0 0 0 0 0 := ⟨good0, by decide, rfl, rfl, rfl, rfl, rfl, rfl⟩

theorem netCuts_out (n m : Int) (hn : n < 0 ∨ 50 < n ∨ m < 0 ∨ 50 < m) (w : World) : Calls Try.prog 3 #[.int .i64 n, .int .i64 m] w fun e w' => e = .returned (.bool true) ∧ Below w.heap.size w w' := by
  have Ha := hid alive_any
  by_cases h1 : n < 0
  · clear hn
    go_enter Try.func3, Try.ntmps3
    go_wp2_with (go_at_call 4; refine (Ha.out _).mono ?_; rintro e w' ⟨rfl, hk⟩)
    go_ret
    exact ⟨rfl, hk.below (Nat.le_refl _) (fun _ h => h.elim)⟩
  · by_cases h2 : 50 < n
    · clear hn
      go_enter Try.func3, Try.ntmps3
      go_wp2_with (go_at_call 4; refine (Ha.out _).mono ?_; rintro e w' ⟨rfl, hk⟩)
      go_ret
      exact ⟨rfl, hk.below (Nat.le_refl _) (fun _ h => h.elim)⟩
    · by_cases h3 : m < 0
      · clear hn
        go_enter Try.func3, Try.ntmps3
        go_wp2_with (go_at_call 4; refine (Ha.out _).mono ?_; rintro e w' ⟨rfl, hk⟩)
        go_ret
        exact ⟨rfl, hk.below (Nat.le_refl _) (fun _ h => h.elim)⟩
      · have h4 : 50 < m := by omega
        clear hn
        go_enter Try.func3, Try.ntmps3
        go_wp2_with (go_at_call 4; refine (Ha.out _).mono ?_; rintro e w' ⟨rfl, hk⟩)
        go_ret
        exact ⟨rfl, hk.below (Nat.le_refl _) (fun _ h => h.elim)⟩

/-- The law's net, and its two boxes, at W0. -/
def NetBox (w : World) : World := ((w.alloc (.cells #[.slice none 0 0, .map none, .map none] 42)).alloc (.cells #[.int .i64 1, .int .i64 2] 26)).alloc (.cells #[.int .i64 2, .int .i64 1] 26)

theorem netBox_at (w : World) : NetAt (fun i => i = w.heap.size) (NetBox w) w.heap.size s0 := ((new_at w).alloc _).alloc _

theorem netBox_cells (w W : World) (h : Kept (fun i => i = w.heap.size) (NetBox w) W) :
    W.cell? ⟨w.heap.size + 1, 0, none⟩ = some (.int .i64 1) ∧ W.cell? ⟨w.heap.size + 1, 1, none⟩ = some (.int .i64 2) ∧ W.cell? ⟨w.heap.size + 1 + 1, 0, none⟩ = some (.int .i64 2) ∧ W.cell? ⟨w.heap.size + 1 + 1, 1, none⟩ = some (.int .i64 1) := by
  have hs : (NetBox w).heap.size = w.heap.size + 1 + 1 + 1 := by unfold NetBox; simp
  refine ⟨(h.cell (p := ⟨w.heap.size + 1, 0, none⟩) (by rw [hs]; show w.heap.size + 1 < _; omega) (by show ¬ (w.heap.size + 1 = _); omega)).trans ?_, (h.cell (p := ⟨w.heap.size + 1, 1, none⟩) (by rw [hs]; show w.heap.size + 1 < _; omega) (by show ¬ (w.heap.size + 1 = _); omega)).trans ?_, (h.cell (p := ⟨w.heap.size + 1 + 1, 0, none⟩) (by rw [hs]; show w.heap.size + 1 + 1 < _; omega) (by show ¬ (w.heap.size + 1 + 1 = _); omega)).trans ?_, (h.cell (p := ⟨w.heap.size + 1 + 1, 1, none⟩) (by rw [hs]; show w.heap.size + 1 + 1 < _; omega) (by show ¬ (w.heap.size + 1 + 1 = _); omega)).trans ?_⟩
  all_goals unfold NetBox
  all_goals go_simp

theorem netBox_below (w W : World) (h : Kept (fun i => i = w.heap.size) (NetBox w) W) : Below w.heap.size w W :=
  Kept.below (S := fun _ => False) (((((Kept.refl (fun _ => False) w).alloc _).alloc _).alloc _).andThen h (fun i hi e => by omega)) (Nat.le_refl _) (fun _ h => h.elim)

set_option maxHeartbeats 2000000 in
set_option maxRecDepth 100000 in
theorem netCuts_in (n m : Nat) (hn : n ≤ 50) (hm : m ≤ 50) (w : World) : Calls Try.prog 3 #[.int .i64 (n : Int), .int .i64 (m : Int)] w fun e w' => e = .returned (.bool true) ∧ Below w.heap.size w w' := by
  have Ha := hid alive_any
  have CS : Hid (∀ (k i : Int) s T cuts a l c d len W, In64 k → In64 i → CutInv s T cuts a l c d len → T ≤ 1000 → Next (fun i => i = w.heap.size) (NetBox w) W w.heap.size s → Calls Try.prog 6 #[.pointer (some ⟨w.heap.size, 0, none⟩), .agg #[.int .i64 k, .int .i64 i, .string ⟨#[]⟩]] W fun e w' => e = .returned (.int .i64 0) ∧ Next (fun i => i = w.heap.size) (NetBox w) w' w.heap.size (sendS s k i ⟨#[]⟩)) :=
    fun k i s T cuts a l c d len W hk hi h hT hN => hN.call (fun S1 hA => send_in hA h.good (by have := h.few; omega) hk hi (by decide))
  have H0 : Hid (Next (fun i => i = w.heap.size) (NetBox w) (NetBox w) w.heap.size s0) := (netBox_at w).next
  have HB := hid (netBox_cells w)
  have HL := hid (netBox_below w)
  have h1 : (0 : Int) ≤ (n : Int) := by omega
  have h2 : (n : Int) ≤ 50 := by omega
  have h3 : (0 : Int) ≤ (m : Int) := by omega
  have h4 : (m : Int) ≤ 50 := by omega
  go_enter Try.func3, Try.ntmps3
  go_wp2_with (go_at_call 5; refine (new_any _).mono ?_; rintro e w1 ⟨rfl, rfl⟩)
  go_loopw [8] (fun vi wr => ∃ (j : Nat) (s : NetSt), j ≤ n ∧ vi = .int .i64 (j : Int) ∧ Hid (CutInv s (3 * j) [] j 0 0 0 j ∧ Next (fun i => i = w.heap.size) (NetBox w) wr w.heap.size s)) (fun vi _ => n - (intOf vi).toNat)
  case atStart => exact ⟨0, s0, Nat.zero_le _, rfl, cutInv0, H0.out⟩
  case round =>
    obtain ⟨j, s, hj, rfl, HI⟩ := hrel
    clear H0
    by_cases hlt : j < n
    · have hltz : (j : Int) < (n : Int) := by omega
      go_wp2_with fail
      refine (CS.out 1 2 s _ _ _ _ _ _ _ _ in1 in2 HI.out.1 (by omega) HI.out.2).mono ?_
      rintro e w5 ⟨rfl, hm5⟩
      have R := hid (And.intro (HI.out.1.open12 (by omega) (by omega) (by omega) ⟨#[]⟩) hm5)
      clear hm5 HI
      go_wp2
      exact ⟨⟨j + 1, _, hlt, by go_num, R.out⟩, by simp [intOf]; omega⟩
    · obtain rfl : j = n := by omega
      obtain ⟨hI, hN⟩ := HI.out
      have C1 := hid (hN.call (fun S1 hA => cut_any (k := 1) (i := 2) hA in1 in2 (by rw [hI.cuts]; decide)))
      obtain ⟨b0, b1, b2, b3⟩ := HB.out _ hN.kept
      have HC := hid hI.cut
      clear hI hN HI hlt
      go_wp2_with fail
      refine C1.out.mono ?_
      rintro e w3 ⟨rfl, hm3⟩
      have Hm3 := hid hm3
      clear hm3 C1 b0 b1 b2 b3
      go_wp2
      go_loopw [9] (fun vi wr => ∃ (t : Nat) (s : NetSt), t ≤ m ∧ vi = .int .i64 (t : Int) ∧ Hid (CutInv s (3 * j + 6 * t) [(1, 2)] (j + t) t t 0 (j + t) ∧ Next (fun i => i = w.heap.size) (NetBox w) wr w.heap.size s)) (fun vi _ => m - (intOf vi).toNat)
      case atStart => exact ⟨0, _, Nat.zero_le _, rfl, by simpa using HC.out, Hm3.out⟩
      case round =>
        obtain ⟨t, s2, ht, rfl, HI2⟩ := hrel
        clear Hm3 HC
        by_cases hlt2 : t < m
        · have hltz2 : (t : Int) < (m : Int) := by omega
          have R1 := hid (HI2.out.1.shut12 (by omega) (by omega) ⟨#[]⟩)
          go_wp2_with fail
          refine (CS.out 1 2 s2 _ _ _ _ _ _ _ _ in1 in2 HI2.out.1 (by omega) HI2.out.2).mono ?_
          rintro e w5 ⟨rfl, hm5⟩
          have Hm5 := hid hm5
          clear hm5 HI2
          go_wp2_with fail
          refine (CS.out 2 1 _ _ _ _ _ _ _ _ _ in2 in1 R1.out (by omega) Hm5.out).mono ?_
          rintro e w6 ⟨rfl, hm6⟩
          have R2 := hid (R1.out.open21 (by omega) (by omega) (by omega) ⟨#[]⟩)
          have Hm6 := hid hm6
          clear hm6 R1 Hm5
          go_wp2
          refine ⟨⟨t + 1, _, hlt2, by go_num, ?_, Hm6.out⟩, by simp [intOf]; omega⟩
          have := R2.out
          have e1 : ((j : Int) + (t : Int) + 1) = (j : Int) + ((t + 1 : Nat) : Int) := by omega
          have e2 : (t : Int) + 1 = ((t + 1 : Nat) : Int) := by omega
          have e3 : 3 * j + 6 * t + 3 + 3 = 3 * j + 6 * (t + 1) := by omega
          rw [e1, e2, e3] at this
          exact this
        · obtain rfl : t = m := by omega
          obtain ⟨hI, hN⟩ := HI2.out
          have C2 := hid (hN.call (fun S1 hA => mend_any (k := 1) (i := 2) hA in1 in2))
          obtain ⟨b0, b1, b2, b3⟩ := HB.out _ hN.kept
          have HC := hid hI.mend
          clear hI hN HI2 hlt2
          go_wp2_with fail
          refine C2.out.mono ?_
          rintro e w4 ⟨rfl, hm4⟩
          have Hm4 := hid hm4
          clear hm4 C2 b0 b1 b2 b3
          go_wp2_with fail
          refine (CS.out 1 2 _ _ _ _ _ _ _ _ _ in1 in2 HC.out (by omega) Hm4.out).mono ?_
          rintro e w5 ⟨rfl, hm5⟩
          have R := hid (HC.out.open12 (by omega) (by omega) (by omega) ⟨#[]⟩)
          have Hm5 := hid hm5
          clear hm5 HC Hm4 CS
          generalize sendS _ 1 2 _ = sF at *
          go_wp2_with fail
          refine (Ha.out _).mono ?_
          rintro e w6 ⟨rfl, hk6⟩
          have Hm6 := hid (Hm5.out.still0 hk6)
          clear hk6 Hm5
          have P1 := hid (Hm6.out.callS (fun S1 h => len_any h))
          have P2 := hid (fun W (h : Next (fun i => i = w.heap.size) (NetBox w) W w.heap.size sF) => h.call0 (fun S1 h => sent_any h in1 in2))
          have P3 := hid (fun W (h : Next (fun i => i = w.heap.size) (NetBox w) W w.heap.size sF) => h.call0 (fun S1 h => lost_any h in1 in2))
          have P4 := hid (fun W (h : Next (fun i => i = w.heap.size) (NetBox w) W w.heap.size sF) => h.call0 (fun S1 h => sent_any h in2 in1))
          have P5 := hid (fun W (h : Next (fun i => i = w.heap.size) (NetBox w) W w.heap.size sF) => h.call0 (fun S1 h => lost_any h in2 in1))
          rw [R.out.len] at P1
          rw [R.out.sent12] at P2
          rw [R.out.lost12] at P3
          rw [R.out.sent21] at P4
          rw [R.out.lost21] at P5
          unfold keyV at P2 P3 P4 P5
          clear R
          go_wp2_with fail
          refine P1.out.mono ?_
          rintro e w' ⟨rfl, rfl⟩
          obtain ⟨b0, b1, b2, b3⟩ := HB.out _ Hm6.out.kept
          go_wp2_with fail
          refine (P2.out _ Hm6.out).mono ?_
          rintro e w7 ⟨rfl, hm7⟩
          have Hm7 := hid hm7
          clear hm7 b0 b1 b2 b3 Hm6
          obtain ⟨b0, b1, b2, b3⟩ := HB.out _ Hm7.out.kept
          go_wp2_with fail
          refine (P3.out _ Hm7.out).mono ?_
          rintro e w8 ⟨rfl, hm8⟩
          have Hm8 := hid hm8
          clear hm8 b0 b1 b2 b3 Hm7
          obtain ⟨b0, b1, b2, b3⟩ := HB.out _ Hm8.out.kept
          go_wp2_with fail
          refine (P4.out _ Hm8.out).mono ?_
          rintro e w9 ⟨rfl, hm9⟩
          have Hm9 := hid hm9
          clear hm9 b0 b1 b2 b3 Hm8
          obtain ⟨b0, b1, b2, b3⟩ := HB.out _ Hm9.out.kept
          go_wp2_with fail
          refine (P5.out _ Hm9.out).mono ?_
          rintro e w10 ⟨rfl, hm10⟩
          have Hm10 := hid hm10
          clear hm10 b0 b1 b2 b3 Hm9
          go_wp2
          go_ret
          exact ⟨by simp, HL.out _ Hm10.out.kept⟩

theorem netCuts_walk (n m : Int) (w : World) (_hn : In64 n) (_hm : In64 m) : Calls Try.prog 3 #[.int .i64 n, .int .i64 m] w fun e w' => e = .returned (.bool true) ∧ Below w.heap.size w w' := by
  by_cases h : n < 0 ∨ 50 < n ∨ m < 0 ∨ 50 < m
  · exact netCuts_out n m h w
  · obtain ⟨k, rfl⟩ : ∃ k : Nat, n = (k : Int) := ⟨n.toNat, by omega⟩
    obtain ⟨l, rfl⟩ : ∃ l : Nat, m = (l : Int) := ⟨m.toNat, by omega⟩
    exact netCuts_in k l (by omega) (by omega) w

end Go.Proofs.Ytoejfbfecfpbeab
