/- The law AutoEnds: it returns true for every two numbers and every list, and leaves what was there. -/
import Derived.Test.YtfilfagnljpgcaaAuKit
import Derived.Test.YtfilfagnljpgcaaAuTime
import Derived.Test.YtfilfagnljpgcaaAuArgs
namespace Go.Proofs.Ytfilfagnljpgcaa
open Go.RowKit

theorem AMine.timeBy {w W : World} {b : Nat} {c : Au} (h : AMine w W b c) : Calls Try.prog 11 #[.pointer (some ⟨b, 0, none⟩)] W fun en w' => ∃ v, en = .returned v ∧ AMine w w' b (timeF c).2 ∧ OwnI w' W.heap.size v (timeF c).1 ∧ Kept (fun i => i = b) W w' :=
  (time_any b c h.good W h.auto).mono fun _ _ ⟨v, e1, ha, ho, hk⟩ => ⟨v, e1, h.turn ha h.good.time hk, ho, hk⟩

theorem waits_iff {c : Au} : waitsF c = true ↔ 4 ≤ c.st ∧ c.st ≤ 8 := by simp [waitsF]
theorem time_more {c : Au} (hg : GoodA c) (hw : waitsF c = true) (h0 : 0 < c.ct) : (timeF c).2.ct = c.ct - 1 := by
  obtain ⟨cf, tm, st, ct⟩ := c
  unfold timeF
  rw [hw, if_pos rfl, if_pos h0]
  have h1 := waits_iff.1 hw
  simp only at h1 h0
  have hc : st = 4 ∨ st = 5 ∨ st = 6 ∨ st = 7 ∨ st = 8 := by omega
  have e9 : max (ct - 1) 0 = ct - 1 := Int.max_eq_left (by omega)
  rcases hc with rfl | rfl | rfl | rfl | rfl
  · rw [show doF ⟨cf, tm, 4, ct⟩ 4 = ([9], ⟨cf, tm, 4, max (ct - 1) 0⟩) from by kernel_rfl]; exact e9
  · rw [show doF ⟨cf, tm, 5, ct⟩ 4 = ([9], ⟨cf, tm, 5, max (ct - 1) 0⟩) from by kernel_rfl]; exact e9
  · rw [show doF ⟨cf, tm, 6, ct⟩ 4 = ([6], ⟨cf, tm, 6, max (ct - 1) 0⟩) from by kernel_rfl]; exact e9
  · rw [show doF ⟨cf, tm, 7, ct⟩ 4 = ([6], ⟨cf, tm, 6, max (ct - 1) 0⟩) from by kernel_rfl]; exact e9
  · rw [show doF ⟨cf, tm, 8, ct⟩ 4 = ([6], ⟨cf, tm, 8, max (ct - 1) 0⟩) from by kernel_rfl]; exact e9
theorem time_last {c : Au} (hw : waitsF c = true) (h0 : ¬ 0 < c.ct) : waitsF (timeF c).2 = false := by
  obtain ⟨cf, tm, st, ct⟩ := c
  unfold timeF
  rw [hw, if_pos rfl, if_neg h0]
  have h1 := waits_iff.1 hw
  simp only at h1 h0
  have hc : st = 4 ∨ st = 5 ∨ st = 6 ∨ st = 7 ∨ st = 8 := by omega
  rcases hc with rfl | rfl | rfl | rfl | rfl
  · exact (show waitsF (doF ⟨cf, tm, 4, ct⟩ 5).2 = false from by kernel_rfl)
  · exact (show waitsF (doF ⟨cf, tm, 5, ct⟩ 5).2 = false from by kernel_rfl)
  · exact (show waitsF (doF ⟨cf, tm, 6, ct⟩ 5).2 = false from by kernel_rfl)
  · exact (show waitsF (doF ⟨cf, tm, 7, ct⟩ 5).2 = false from by kernel_rfl)
  · exact (show waitsF (doF ⟨cf, tm, 8, ct⟩ 5).2 = false from by kernel_rfl)
theorem time_none {c : Au} (hw : waitsF c = false) : timeF c = ([], c) := by unfold timeF; rw [hw]; simp

/-- Behind i of n timeouts. -/
def EndIn (c : Au) (n i : Nat) : Prop := waitsF c = false ∨ c.ct + i + 1 = n
theorem EndIn.step {c : Au} {n i : Nat} (hg : GoodA c) (h : EndIn c n i) : EndIn (timeF c).2 n (i + 1) := by
  cases hw : waitsF c with
  | false => rw [time_none hw]; exact Or.inl hw
  | true =>
    rcases h with h | h
    · rw [hw] at h; cases h
    · by_cases h0 : 0 < c.ct
      · refine Or.inr ?_
        rw [time_more hg hw h0]
        omega
      · exact Or.inl (time_last hw h0)
theorem EndIn.end {c : Au} {n : Nat} (hg : GoodA c) (h : EndIn c n n) : waitsF c = false := by
  rcases h with h | h
  · exact h
  · have := hg.ct1
    omega

set_option maxHeartbeats 2000000 in
set_option maxRecDepth 100000 in
theorem autoEnds_bad (cf tm : Int) (v : Value) (w : World) (h : ¬ (1 ≤ cf ∧ cf ≤ 20 ∧ 1 ≤ tm ∧ tm ≤ 20)) : Calls Try.prog 3 #[.int .i64 cf, .int .i64 tm, v] w fun e w' => e = .returned (.bool true) ∧ Below w.heap.size w w' := by
  have HN := hid (new_bad cf tm h w)
  have HA := hid (alive_any w)
  clear h
  go_enter Try.func3, Try.ntmps3
  go_wp2_with (first
    | (go_at_call 7; refine HN.out.mono ?_; rintro e w' ⟨rfl, hw⟩; rw [hw]; clear hw w')
    | (go_at_call 8; refine HA.out.mono ?_; rintro e w' ⟨rfl, hk⟩))
  go_ret
  exact ⟨rfl, below_of hk⟩

set_option maxHeartbeats 2000000 in
set_option maxRecDepth 100000 in
theorem autoEnds_long (cf tm : Int) (p : Option Addr) (n cap : Nat) (w : World) (h1 : 1 ≤ cf ∧ cf ≤ 20) (h2 : 1 ≤ tm ∧ tm ≤ 20) (hn : 300 < n) : Calls Try.prog 3 #[.int .i64 cf, .int .i64 tm, .slice p n cap] w fun e w' => e = .returned (.bool true) ∧ Below w.heap.size w w' := by
  have HN := hid (mine_new cf tm h1 h2 w w (Kept.refl _ _))
  have hz : (300 : Int) < (n : Int) := by omega
  clear h1 h2
  go_enter Try.func3, Try.ntmps3
  go_wp2_with fail
  refine HN.out.mono ?_
  rintro e w1 ⟨b, rfl, hm, hk⟩
  have HK := hid hk
  clear HN hm hk
  go_wp2_with fail
  refine (alive_any _).mono ?_
  rintro e w2 ⟨rfl, hk2⟩
  go_wp2
  go_ret
  exact ⟨rfl, below_of (HK.out.trans hk2)⟩

set_option maxHeartbeats 4000000 in
set_option maxRecDepth 100000 in
theorem autoEnds_in (cf tm : Int) (v : Value) (l : List Int) (w : World) (h1 : 1 ≤ cf ∧ cf ≤ 20) (h2 : 1 ≤ tm ∧ tm ≤ 20) (hv : IntsAt w v l) (h64 : ∀ x ∈ l, In64 x) (hn : l.length ≤ 300) : Calls Try.prog 3 #[.int .i64 cf, .int .i64 tm, v] w fun e w' => e = .returned (.bool true) ∧ Below w.heap.size w w' := by
  have HN := hid (mine_new cf tm h1 h2 w w (Kept.refl _ _))
  have HV := hid (fun W' (hk : Kept (fun _ => False) w W') => (hv.kept hk).form)
  obtain ⟨p, cap, rfl, _⟩ := hv.form
  have H64 := hid h64
  have hz : ¬ (300 : Int) < (l.length : Int) := by omega
  clear h1 h2 hv h64
  go_enter Try.func3, Try.ntmps3
  go_wp2_with fail
  refine HN.out.mono ?_
  rintro e w1 ⟨b, rfl, hm, hk⟩
  have H1 := hid hm
  clear HN hm hk
  go_wp2_with fail
  go_loopw [9] (fun vi wr => ∃ (j : Nat) (c : Au), j ≤ l.length ∧ vi = .int .i64 (j : Int) ∧ Hid (AMine w wr b c)) (fun vi _ => l.length - (intOf vi).toNat)
  case atStart => exact ⟨0, _, Nat.zero_le _, rfl, H1.out⟩
  case round =>
    obtain ⟨j, c, hj, rfl, HI⟩ := hrel
    clear H1
    by_cases hlt : j < l.length
    · have hltz : (j : Int) < (l.length : Int) := by omega
      obtain ⟨x, hx⟩ : ∃ x, l[j]? = some x := ⟨l[j], by simp [hlt]⟩
      obtain ⟨p', cap', ev, hc⟩ := HV.out wr HI.out.kept
      simp only [Value.slice.injEq, true_and] at ev
      obtain ⟨rfl, rfl⟩ := ev
      obtain ⟨g, o, rfl, hcap, hcell⟩ := hc j x hx
      have HX := hid (H64.out x (List.mem_of_getElem? hx))
      clear hx hc
      go_wp2_with fail
      refine (HI.out.doBy x HX.out).mono ?_
      rintro e w2 ⟨v2, rfl, hm, _, _⟩
      have H2 := hid hm
      clear hm HI
      go_wp2
      exact ⟨⟨j + 1, _, hlt, by go_num, H2.out⟩, by simp [intOf]; omega⟩
    · obtain rfl : j = l.length := by omega
      have hltz : ¬ (l.length : Int) < (l.length : Int) := by omega
      have hg := HI.out.good
      obtain ⟨n, hn1⟩ : ∃ n : Nat, c.ct + 1 = (n : Int) := ⟨(c.ct + 1).toNat, by have := hg.ct1; omega⟩
      have hn2 : n ≤ 21 := by have := hg.ct2; omega
      have hw : IntKind.i64.wrap (c.ct + 1) = (n : Int) := by rw [IntKind.wrap_i64]; have := hg.ct1; omega
      have E0 : Hid (EndIn c n 0) := Or.inr (by omega)
      have hct1 := hg.ct1
      have hct2 := hg.ct2
      clear hg
      go_wp2_with fail
      refine HI.out.countBy.mono ?_
      rintro e w2 ⟨rfl, hw2⟩
      rw [hw2]
      clear hw2 w2
      go_wp2_with fail
      clear hw hn1 hct1 hct2
      go_loopw [11] (fun vi wr => ∃ (i : Nat) (c : Au), i ≤ n ∧ vi = .int .i64 (i : Int) ∧ Hid (AMine w wr b c ∧ EndIn c n i)) (fun vi _ => n - (intOf vi).toNat)
      case atStart => exact ⟨0, c, Nat.zero_le _, rfl, HI.out, E0.out⟩
      case round =>
        obtain ⟨i, c, hi, rfl, HJ⟩ := hrel
        clear HI E0
        by_cases hilt : i < n
        · have hiz : (i : Int) < (n : Int) := by omega
          have R := hid (HJ.out.2.step HJ.out.1.good)
          go_wp2_with fail
          refine HJ.out.1.timeBy.mono ?_
          rintro e w3 ⟨v3, rfl, hm, _, _⟩
          have H3 := hid hm
          clear hm HJ
          go_wp2
          exact ⟨⟨i + 1, _, hilt, by go_num, H3.out, R.out⟩, by simp [intOf]; omega⟩
        · obtain rfl : i = n := by omega
          have hiz : ¬ (i : Int) < (i : Int) := by omega
          have hwf := HJ.out.2.end HJ.out.1.good
          have HT := hid (time_none hwf)
          go_wp2_with fail
          refine (alive_any _).mono ?_
          rintro e w3 ⟨rfl, hk3⟩
          have H3 := hid (HJ.out.1.still hk3)
          clear hk3 HJ
          have HW := hid H3.out.waitsBy
          rw [hwf] at HW
          clear hwf
          go_wp2_with fail
          refine HW.out.mono ?_
          rintro e w4 ⟨rfl, hw4⟩
          rw [hw4]
          clear hw4 w4 HW
          have HTT := hid H3.out.timeBy
          rw [HT.out] at HTT
          go_wp2_with fail
          refine HTT.out.mono ?_
          rintro e w4 ⟨v4, rfl, hm, ho, _⟩
          obtain ⟨p4, c4, rfl⟩ := ho.slice
          have HK := hid hm.kept
          clear hm ho HTT H3 HT
          go_wp2
          go_ret
          exact ⟨rfl, below_of HK.out⟩

theorem autoEnds_walk (cf tm : Int) (v : Value) (l : List Int) (w : World) (_ : In64 cf) (_ : In64 tm) (hv : IntsAt w v l ∧ ∀ x ∈ l, In64 x) : Calls Try.prog 3 #[.int .i64 cf, .int .i64 tm, v] w fun e w' => e = .returned (.bool true) ∧ Below w.heap.size w w' := by
  by_cases h : 1 ≤ cf ∧ cf ≤ 20 ∧ 1 ≤ tm ∧ tm ≤ 20
  · by_cases hl : l.length ≤ 300
    · exact autoEnds_in cf tm v l w ⟨h.1, h.2.1⟩ h.2.2 hv.1 hv.2 hl
    · obtain ⟨p, cap, rfl, _⟩ := hv.1.form
      exact autoEnds_long cf tm p l.length cap w ⟨h.1, h.2.1⟩ h.2.2 (by omega)
  · exact autoEnds_bad cf tm v w h
end Go.Proofs.Ytfilfagnljpgcaa
