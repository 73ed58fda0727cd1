/- The law NetAges: it returns true for every number and bool, and leaves what was there. -/
import Derived.Test.YtoejfbfecfpbeaaSendPlain
import Derived.Test.YtoejfbfecfpbeaaNetOps2
namespace Go.Proofs.Ytoejfbfecfpbeaa
open Go.RowKit

def oldB : ByteArray := ⟨#[111, 108, 100]⟩
def old1 : Gr := ⟨1, 2, oldB, 1⟩
def toI (other : Bool) : Int := if other then 3 else 2

/-- Behind j sends to a pair that is cut. -/
structure Aged (other : Bool) (j : Nat) (s : NetSt) : Prop where
  good : Good s
  few : s.tals.length ≤ 3 * j + 10
  cuts : s.cuts = [(1, 2), (1, 3)]
  grams : s.grams = if !other && decide (20000 ≤ j) then [] else [old1]
  sent : sentS s 1 (toI other) = (j : Int) + (if other then 0 else 1)
  lost : lostS s 1 (toI other) = (j : Int) + (if !other && decide (20000 ≤ j) then 1 else 0)

theorem in_to (other : Bool) : In64 (toI other) := by
  cases other
  · exact in2
  · unfold In64 toI; simp

theorem aged_step {other : Bool} {j : Nat} {s : NetSt} (h : Aged other j s) (hj : j < 20100) : Aged other (j + 1) (sendS s 1 (toI other) ⟨#[]⟩) := by
  have hS : Small s 1 (toI other) := ⟨by rw [h.sent]; split <;> omega, by rw [h.lost]; split <;> omega⟩
  have hsh : shutG s 1 (toI other) = true := by
    unfold shutG isCut
    rw [h.cuts]
    cases other <;> simp [toI]
  have hle : leftG s 1 (toI other) = if !other && decide (20000 ≤ j + 1) then [] else [old1] := by
    unfold leftG
    rw [h.grams, h.sent]
    cases other
    · by_cases h1 : 20000 ≤ j
      · have h2 : 20000 ≤ j + 1 := by omega
        simp [h1, h2]
      · by_cases h2 : 20000 ≤ j + 1
        · simp [h1, h2, oldG, old1, toI]
          omega
        · simp [h1, h2, oldG, old1, toI]
          omega
    · simp [oldG, old1, toI]
  refine ⟨h.good.send in1 (in_to other) _, ?_, ?_, ?_, ?_, ?_⟩
  · have h1 := tals_send s 1 (toI other) ⟨#[]⟩
    have h2 := h.few
    omega
  · rw [send_cuts hS, h.cuts]
  · rw [send_grams hS, hsh, if_pos rfl, hle]
  · rw [send_sent hS, if_pos ⟨rfl, rfl⟩, h.sent]
    simp
    omega
  · rw [send_lost h.good hS, if_pos ⟨rfl, rfl⟩, h.lost, hsh, hle, h.grams]
    cases other
    · by_cases h1 : 20000 ≤ j
      · have h2 : 20000 ≤ j + 1 := by omega
        simp [h1, h2]
      · by_cases h2 : 20000 ≤ j + 1
        · simp [h1, h2]
        · simp [h1, h2]
    · simp

def sOld : NetSt := sendS s0 1 2 oldB
def sA : NetSt := cutS (cutS sOld 1 2 true) 1 3 true
theorem sOld_is : sOld = ⟨[old1], [⟨1, 2, 1, 0⟩], []⟩ := by rfl
theorem in3 : In64 3 := by unfold In64; omega

theorem aged_start (other : Bool) : Aged other 0 sA := by
  have hG : Good sOld := good0.send in1 in2 oldB
  have e : sA = ⟨[old1], [⟨1, 2, 1, 0⟩], [(1, 2), (1, 3)]⟩ := by rfl
  refine ⟨⟨hG.ok, hG.sent, hG.lost, hG.few⟩, ?_, ?_, ?_, ?_, ?_⟩
  · rw [e]
    simp
  · rw [e]
  · rw [e]
    simp
  · rw [e]
    cases other <;> rfl
  · rw [e]
    cases other <;> rfl

theorem netAges_out (n : Int) (other : Bool) (hn : n < 0 ∨ 20100 < n) (w : World) : Calls Try.prog 5 #[.int .i64 n, .bool other] w fun e w' => e = .returned (.bool true) ∧ Below w.heap.size w w' := by
  have Ha := hid alive_any
  by_cases h1 : n < 0
  · clear hn
    go_enter Try.func5, Try.ntmps5
    go_wp2_with (go_at_call 9; refine (Ha.out _).mono ?_; rintro e w' ⟨rfl, hk⟩)
    go_ret
    exact ⟨rfl, hk.below (Nat.le_refl _) (fun _ h => h.elim)⟩
  · have h2 : 20100 < n := by omega
    clear hn
    go_enter Try.func5, Try.ntmps5
    go_wp2_with (go_at_call 9; refine (Ha.out _).mono ?_; rintro e w' ⟨rfl, hk⟩)
    go_ret
    exact ⟨rfl, hk.below (Nat.le_refl _) (fun _ h => h.elim)⟩

set_option maxHeartbeats 2000000 in
set_option maxRecDepth 100000 in
theorem netAges_in (n : Nat) (other : Bool) (hn : n ≤ 20100) (w : World) : Calls Try.prog 5 #[.int .i64 (n : Int), .bool other] w fun e w' => e = .returned (.bool true) ∧ Below w.heap.size w w' := by
  have Ha := hid alive_any
  have hGo : Good sOld := good0.send in1 in2 oldB
  have C1 := hid (fun W b (h : Mine w W b s0) => h.call (fun S1 h => send_in (k := 1) (i := 2) (x := oldB) h good0 (by decide) in1 in2 (by decide)))
  have C2 := hid (fun W b (h : Mine w W b sOld) => h.call (fun S1 h => cut_any (k := 1) (i := 2) h in1 in2 (by rw [sOld_is]; decide)))
  have C3 := hid (fun W b (h : Mine w W b (cutS sOld 1 2 true)) => h.call (fun S1 h => cut_any (k := 1) (i := 3) h in1 in3 (by rw [sOld_is]; decide)))
  change Hid (∀ W b, Mine w W b s0 → Calls _ _ _ _ fun e w' => e = _ ∧ Mine w w' b sOld) at C1
  change Hid (∀ W b, Mine w W b (cutS sOld 1 2 true) → Calls _ _ _ _ fun e w' => e = _ ∧ Mine w w' b sA) at C3
  have HA0 := hid (aged_start other)
  have CS := hid (fun (j : Nat) s W b (hj : j < 20100) (hA : Aged other j s) (h : Mine w W b s) => h.call (fun S1 h => send_in (k := 1) (i := toI other) (x := ⟨#[]⟩) h hA.good (by have := hA.few; omega) in1 (in_to other) (by decide)))
  have Hm := hid (mine_new w)
  unfold oldB at C1
  clear hGo
  generalize sA = t3 at *
  generalize cutS sOld 1 2 true = t2 at *
  generalize sOld = t1 at *
  have hnz : (0 : Int) ≤ (n : Int) := by omega
  go_enter Try.func5, Try.ntmps5
  go_wp2_with (go_at_call 10; refine (new_any _).mono ?_; rintro e w1 ⟨rfl, rfl⟩)
  refine (C1.out _ _ Hm.out).mono ?_
  rintro e w2 ⟨rfl, hm2⟩
  have Hm2 := hid hm2
  clear hm2 C1 Hm
  go_wp2_with fail
  refine (C2.out _ _ Hm2.out).mono ?_
  rintro e w3 ⟨rfl, hm3⟩
  have Hm3 := hid hm3
  clear hm3 C2 Hm2
  go_wp2_with fail
  refine (C3.out _ _ Hm3.out).mono ?_
  rintro e w4 ⟨rfl, hm4⟩
  have Hm4 := hid hm4
  clear hm4 C3 Hm3
  go_upto_if 32 with fail
  go_cut [6] (fun v6 wx => v6 = .int .i64 (toI other) ∧ wx = w4)
  case first =>
    cases other <;> (go_wp2; go_meet; exact ⟨rfl, rfl⟩)
  case rest =>
    obtain ⟨rfl, rfl⟩ := hcut
    go_wp2
    go_loopw [7] (fun vi wr => ∃ (j : Nat) (s : NetSt), j ≤ n ∧ vi = .int .i64 (j : Int) ∧ Hid (Aged other j s ∧ Mine w wr w.heap.size s)) (fun vi _ => n - (intOf vi).toNat)
    case atStart => exact ⟨0, t3, Nat.zero_le _, rfl, HA0.out, Hm4.out⟩
    case round =>
      obtain ⟨j, s, hj, rfl, HI⟩ := hrel
      clear HA0 Hm4
      by_cases hlt : j < n
      · have hltz : (j : Int) < (n : Int) := by omega
        go_wp2_with fail
        refine (CS.out j s _ _ (by omega) HI.out.1 HI.out.2).mono ?_
        rintro e w5 ⟨rfl, hm5⟩
        have R := hid (⟨aged_step HI.out.1 (by omega), hm5⟩ : Aged other (j + 1) _ ∧ Mine w w5 w.heap.size _)
        clear hm5 HI
        go_wp2
        exact ⟨⟨j + 1, _, hlt, by go_num, R.out⟩, by simp [intOf]; omega⟩
      · obtain rfl : j = n := by omega
        clear CS
        have hbel : Hid (∀ W, Kept (fun _ => False) w W → Below w.heap.size w W) := fun W h => h.below (Nat.le_refl _) (fun _ h => h.elim)
        obtain ⟨hA, hM⟩ := HI.out
        have HM := hid hM
        by_cases hc : other = false ∧ 20000 ≤ j
        · obtain ⟨rfl, hjn⟩ := hc
          have hgr : s.grams = [] := by rw [hA.grams]; simp [hjn]
          have hlo : lostS s 1 2 = (j : Int) + 1 := by have := hA.lost; simpa [hjn, toI] using this
          have P1 := hid (HM.out.call0 (fun S1 h => peek_no (.pointer (some ⟨w.heap.size, 0, none⟩)) 0 3 (by decide) (place_bad h 0 (Or.inr (by rw [hgr]; simp)))))
          have P2 := hid (fun W (h : Mine w W w.heap.size s) => h.callS (fun S1 h => len_any h))
          have P3 := hid (fun W (h : Mine w W w.heap.size s) => h.call0 (fun S1 h => lost_any h in1 in2))
          rw [hgr] at P2
          rw [hlo] at P3
          unfold ansV g0 at P1
          unfold keyV at P3
          have hjz : (20000 : Int) ≤ (j : Int) := by omega
          clear hA hM HI hgr hlo HM hlt
          simp only [List.length_nil] at P2
          go_wp2_with fail
          refine P1.out.mono ?_
          rintro e w6 ⟨rfl, hm6⟩
          have Hm6 := hid (hm6.still ((Kept.refl (fun _ => False) w6).alloc (.cells #[.int .i64 0, .int .i64 0, .string ⟨#[]⟩] 39)))
          clear hm6 P1
          go_wp2_with fail
          refine (Ha.out _).mono ?_
          rintro e w7 ⟨rfl, hk7⟩
          have Hm7 := hid (Hm6.out.still hk7)
          clear hk7 Hm6
          go_wp2_with fail
          refine (P2.out _ Hm7.out).mono ?_
          rintro e w8 ⟨rfl, rfl⟩
          go_wp2_with fail
          refine (P3.out _ Hm7.out).mono ?_
          rintro e w9 ⟨rfl, hm9⟩
          have Hm9 := hid hm9
          clear hm9 Hm7 P3 P2
          go_wp2
          go_ret
          exact ⟨by simp, hbel.out _ Hm9.out.kept⟩
        · have hgr : s.grams = [old1] := by
            rw [hA.grams, if_neg]
            intro h
            simp at h
            exact hc h
          have P1 := hid (HM.out.call0 (fun S1 h => peek_ok h 0 (by rw [hgr]; decide)))
          have P2 := hid (fun W (h : Mine w W w.heap.size s) => h.callS (fun S1 h => len_any h))
          rw [hgr] at P1 P2
          have e1 : ansV (getG [old1] 0) 0 = .tuple #[.agg #[.int .i64 1, .int .i64 2, .string ⟨#[111, 108, 100]⟩], .int .i64 0] := by rfl
          rw [e1] at P1
          simp only [List.length_singleton] at P2
          have hbox : Hid (∀ W6 W : World, Kept (fun _ => False) (W6.alloc (.cells #[.int .i64 1, .int .i64 2, .string ⟨#[111, 108, 100]⟩] 39)) W → W.cell? ⟨W6.heap.size, 2, none⟩ = some (.string ⟨#[111, 108, 100]⟩)) := fun W6 W h =>
            (h.cell (p := ⟨W6.heap.size, 2, none⟩) (by simp) id).trans (by simp)
          have htest : ((!other) && decide ((20000 : Int) ≤ (j : Int))) = false := by
            cases other
            · have : ¬ ((20000 : Int) ≤ (j : Int)) := fun h => hc ⟨rfl, by omega⟩
              simp [this]
            · rfl
          clear hA hM HI hgr HM hlt e1
          go_wp2_with fail
          refine P1.out.mono ?_
          rintro e w6 ⟨rfl, hm6⟩
          have Hm6 := hid (hm6.still ((Kept.refl (fun _ => False) w6).alloc (.cells #[.int .i64 1, .int .i64 2, .string ⟨#[111, 108, 100]⟩] 39)))
          have HB6 := hid (hbox.out w6)
          clear hm6 P1 hbox
          cases other with
          | true =>
            go_wp2_with fail
            refine (Ha.out _).mono ?_
            rintro e w7 ⟨rfl, hk7⟩
            have b2 := HB6.out _ hk7
            have Hm7 := hid (Hm6.out.still hk7)
            clear hk7 Hm6
            go_wp2_with fail
            refine (P2.out _ Hm7.out).mono ?_
            rintro e w8 ⟨rfl, rfl⟩
            go_wp2
            go_ret
            exact ⟨rfl, hbel.out _ Hm7.out.kept⟩
          | false =>
            have hjz : ¬ ((20000 : Int) ≤ (j : Int)) := fun h => hc ⟨rfl, by omega⟩
            clear htest
            go_wp2_with fail
            refine (Ha.out _).mono ?_
            rintro e w7 ⟨rfl, hk7⟩
            have b2 := HB6.out _ hk7
            have Hm7 := hid (Hm6.out.still hk7)
            clear hk7 Hm6
            go_wp2_with fail
            refine (P2.out _ Hm7.out).mono ?_
            rintro e w8 ⟨rfl, rfl⟩
            go_wp2
            go_ret
            exact ⟨rfl, hbel.out _ Hm7.out.kept⟩

theorem netAges_walk (n : Int) (other : Bool) (w : World) (_hn : In64 n) : Calls Try.prog 5 #[.int .i64 n, .bool other] w fun e w' => e = .returned (.bool true) ∧ Below w.heap.size w w' := by
  by_cases h : n < 0 ∨ 20100 < n
  · exact netAges_out n other h w
  · obtain ⟨k, rfl⟩ : ∃ k : Nat, n = (k : Int) := ⟨n.toNat, by omega⟩
    exact netAges_in k other (by omega) w

end Go.Proofs.Ytoejfbfecfpbeaa
