/- The law NetOrder: it returns true for every list of texts, and leaves what was there. -/
import Derived.Test.YtoejfbfecfpbeaaSendPlain
import Derived.Test.YtoejfbfecfpbeaaNextCall
import Derived.Test.YtoejfbfecfpbeaaNetStrs
import Derived.Deep.QuietTactic
import Derived.BigQuiet
namespace Go.Proofs.Ytoejfbfecfpbeaa
open Go.RowKit

theorem left_few {s : NetSt} (hG : Good s) {k i : Int} (h : sentS s k i + 1 < 20000) : leftG s k i = s.grams := by
  unfold leftG
  refine List.filter_eq_self.2 (fun y hy => ?_)
  have ht := (hG.ok y hy).turn.1
  unfold oldG
  have : ¬ (20000 ≤ sentS s k i + 1 - y.turn) := by omega
  simp [this]

/-- Each text in its own datagram, from its own node. -/
def ordG (l : List ByteArray) : List Gr := l.mapIdx (fun i x => ⟨(i : Int), 2, x, 1⟩)

theorem ordG_snoc (l : List ByteArray) (x : ByteArray) : ordG (l ++ [x]) = ordG l ++ [⟨(l.length : Int), 2, x, 1⟩] := by
  unfold ordG
  rw [List.mapIdx_append]
  simp

theorem ordG_at {l : List ByteArray} {j : Nat} {x : ByteArray} (h : l[j]? = some x) : (ordG l)[j]? = some ⟨(j : Int), 2, x, 1⟩ := by
  unfold ordG
  rw [List.getElem?_mapIdx, h]
  rfl

theorem ordG_length (l : List ByteArray) : (ordG l).length = l.length := by simp [ordG]

/-- j texts are sent. -/
structure Ord (l : List ByteArray) (j : Nat) (s : NetSt) : Prop where
  good : Good s
  few : s.tals.length ≤ 3 * j
  cuts : s.cuts = []
  new : ∀ k : Int, (j : Int) ≤ k → sentS s k 2 = 0 ∧ lostS s k 2 = 0
  grams : s.grams = ordG (l.take j)

theorem ord0 (l : List ByteArray) : Ord l 0 s0 := ⟨good0, by decide, rfl, fun _ _ => ⟨rfl, rfl⟩, by simp [ordG, s0]⟩

theorem ord_step {l : List ByteArray} {j : Nat} {s : NetSt} {x : ByteArray} (h : Ord l j s) (hx : l[j]? = some x) (hj : j < 100) : Ord l (j + 1) (sendS s (j : Int) 2 x) := by
  obtain ⟨h1, h2⟩ := h.new (j : Int) (Int.le_refl _)
  have hS : Small s (j : Int) 2 := ⟨by rw [h1]; omega, by rw [h2]; omega⟩
  have hL := left_few h.good (k := (j : Int)) (i := 2) (by rw [h1]; omega)
  have hlen : (l.take j).length = j := by
    have := (List.getElem?_eq_some_iff.1 hx).1
    rw [List.length_take]
    omega
  have hsh : shutG s (j : Int) 2 = false := by
    unfold shutG isCut
    rw [h.cuts, hL, h.grams, ordG_length, hlen]
    simp
    omega
  have hin : In64 (j : Int) := by unfold In64; omega
  refine ⟨h.good.send hin in2 x, by have := tals_send s (j : Int) 2 x; have := h.few; omega, by rw [send_cuts hS, h.cuts], fun k hk => ?_, ?_⟩
  · obtain ⟨h3, h4⟩ := h.new k (by omega)
    rw [send_sent hS, send_lost h.good hS, if_neg (by omega), if_neg (by omega)]
    exact ⟨h3, h4⟩
  · rw [send_grams hS, hsh, if_neg (by simp), hL, h.grams, h1, List.take_add_one, hx]
    simp only [Option.toList]
    rw [ordG_snoc, hlen]
    rfl

theorem StrsAt.slice {W : World} {v : Value} {l : List ByteArray} (h : StrsAt W v l) : ∃ p cap, v = .slice p l.length cap := by
  rcases h with ⟨rfl, p, cap, rfl⟩ | ⟨g, o, cap, rfl, _⟩
  · exact ⟨p, cap, rfl⟩
  · exact ⟨_, cap, rfl⟩

theorem StrsAt.at {W : World} {p : Option Addr} {n cap : Nat} {l : List ByteArray} (h : StrsAt W (.slice p n cap) l) {j : Nat} {x : ByteArray} (hj : l[j]? = some x) : ∃ g o, p = some ⟨g, o, none⟩ ∧ n ≤ cap ∧ W.cell? ⟨g, o + j, none⟩ = some (.string x) := by
  rcases h with ⟨rfl, _⟩ | ⟨g, o, cap', e, hle, _, hc⟩
  · simp at hj
  · simp only [Value.slice.injEq] at e
    obtain ⟨rfl, rfl, rfl⟩ := e
    exact ⟨g, o, rfl, hle, hc j x hj⟩

theorem drop_get {L : List Gr} {t : Nat} {y : Gr} (h : L[t]? = some y) : getG (L.drop t) 0 = y := by
  unfold getG
  simp [h]

set_option maxHeartbeats 1000000 in
theorem netOrder_long (v : Value) (l : List ByteArray) (hl : 100 < l.length) (w : World) (hv : StrsAt w v l) : Calls Try.prog 7 #[v] w fun e w' => e = .returned (.bool true) ∧ Below w.heap.size w w' := by
  have Ha := hid alive_any
  obtain ⟨p, cap, rfl⟩ := hv.slice
  have hlz : (100 : Int) < (l.length : Int) := by omega
  clear hv hl
  go_enter Try.func7, Try.ntmps7
  go_wp2_with (go_at_call 9; refine (Ha.out _).mono ?_; rintro e w' ⟨rfl, hk⟩)
  go_ret
  exact ⟨rfl, hk.below (Nat.le_refl _) (fun _ h => h.elim)⟩

set_option maxHeartbeats 2000000 in
set_option maxRecDepth 100000 in
theorem netOrder_in (v : Value) (l : List ByteArray) (hl : l.length ≤ 100) (w : World) (hv : StrsAt w v l) : Calls Try.prog 7 #[v] w fun e w' => e = .returned (.bool true) ∧ Below w.heap.size w w' := by
  have Ha := hid alive_any
  obtain ⟨p, cap, rfl⟩ := hv.slice
  have Hat : Hid (∀ (j : Nat) (x : ByteArray), l[j]? = some x → ∀ W, Kept (fun _ => False) w W → ∃ g o, p = some ⟨g, o, none⟩ ∧ l.length ≤ cap ∧ W.cell? ⟨g, o + j, none⟩ = some (.string x)) := fun j x hj W hW => by
    obtain ⟨g, o, h1, h2, h3⟩ := hv.at hj
    exact ⟨g, o, h1, h2, (hW.cell (lt_of_cell h3) id).trans h3⟩
  have hlz : (l.length : Int) ≤ 100 := by omega
  have hbel : Hid (∀ W, Kept (fun _ => False) w W → Below w.heap.size w W) := fun W h => h.below (Nat.le_refl _) (fun _ h => h.elim)
  have CS : Hid (∀ (j : Nat) (x : ByteArray) s W b, j < 100 → x.size ≤ 1500 → Ord l j s → Mine w W b s → Calls Try.prog 11 #[.pointer (some ⟨b, 0, none⟩), .agg #[.int .i64 (j : Int), .int .i64 2, .string x]] W fun e w' => e = .returned (.int .i64 0) ∧ Mine w w' b (sendS s (j : Int) 2 x)) :=
    fun j x s W b hj hx hO hM => hM.call (fun S1 hA => send_in hA hO.good (by have := hO.few; omega) (by unfold In64; omega) in2 (by omega))
  have CD : Hid (∀ (t : Nat) (x : ByteArray) s W b, l[t]? = some x → s.grams = (ordG l).drop t → Mine w W b s → Calls Try.prog 13 #[.pointer (some ⟨b, 0, none⟩), .int .i64 0] W fun e w' => e = .returned (.tuple #[.agg #[.int .i64 (t : Int), .int .i64 2, .string x], .int .i64 0]) ∧ Mine w w' b { s with grams := (ordG l).drop (t + 1) }) := fun t x s W b hx hg hM => by
    have hlt := (List.getElem?_eq_some_iff.1 hx).1
    have := hM.call (fun S1 hA => deliver_ok hA 0 (by rw [hg, List.length_drop, ordG_length]; omega))
    rw [hg, drop_get (ordG_at hx), List.eraseIdx_zero, List.tail_drop] at this
    exact this
  have CE : Hid (∀ s W b, s.grams = [] → Mine w W b s → Calls Try.prog 13 #[.pointer (some ⟨b, 0, none⟩), .int .i64 0] W fun e w' => e = .returned (.tuple #[.agg #[.int .i64 0, .int .i64 0, .string ⟨#[]⟩], .int .i64 3]) ∧ Mine w w' b s) := fun s W b hg hM =>
    hM.call0 (fun S1 h => deliver_no (.pointer (some ⟨b, 0, none⟩)) 0 3 (by decide) (place_bad h 0 (Or.inr (by rw [hg]; simp))))
  have Hm := hid (mine_new w)
  clear hv
  go_enter Try.func7, Try.ntmps7
  go_wp2_with (go_at_call 10; refine (new_any _).mono ?_; rintro e w1 ⟨rfl, rfl⟩)
  go_loopw [4] (fun vi wr => ∃ (j : Nat) (s : NetSt), j ≤ l.length ∧ vi = .int .i64 (j : Int) ∧ Hid (Ord l j s ∧ Mine w wr w.heap.size s)) (fun vi _ => l.length - (intOf vi).toNat)
  case atStart => exact ⟨0, s0, Nat.zero_le _, rfl, ord0 l, Hm.out⟩
  case round =>
    obtain ⟨j, s, hj, rfl, HI⟩ := hrel
    clear Hm
    by_cases hlt : j < l.length
    · have hltz : (j : Int) < (l.length : Int) := by omega
      obtain ⟨x, hx⟩ : ∃ x, l[j]? = some x := ⟨l[j], by simp [hlt]⟩
      obtain ⟨g, o, rfl, hcap, hc⟩ := Hat.out j x hx wr HI.out.2.kept
      have Hx := hid hx
      clear hx
      by_cases hx5 : 1500 < x.size
      · have hx5z : (1500 : Int) < (x.size : Int) := by omega
        have HK := hid HI.out.2.kept
        clear HI
        go_wp2_with fail
        refine (Ha.out _).mono ?_
        rintro e w5 ⟨rfl, hk5⟩
        have HK5 := hid (HK.out.trans hk5)
        clear hk5
        go_wp2
        go_ret
        exact ⟨rfl, hbel.out _ HK5.out⟩
      · have hx5z : ¬ (1500 : Int) < (x.size : Int) := by omega
        go_wp2_with fail
        refine (CS.out j x s _ _ (by omega) (by omega) HI.out.1 HI.out.2).mono ?_
        rintro e w5 ⟨rfl, hm5⟩
        have R := hid (And.intro (ord_step HI.out.1 Hx.out (by omega)) hm5)
        clear hm5 HI hc
        go_wp2
        exact ⟨⟨j + 1, _, hlt, by go_num, R.out⟩, by simp [intOf]; omega⟩
    · obtain rfl : j = l.length := by omega
      have hst : Hid (s.grams = (ordG l).drop 0 ∧ Mine w wr w.heap.size s) := ⟨by rw [HI.out.1.grams, List.take_of_length_le (Nat.le_refl _), List.drop_zero], HI.out.2⟩
      clear HI CS hlt
      go_wp2
      go_loopw [5] (fun vi wr => ∃ (t : Nat) (s : NetSt), t ≤ l.length ∧ vi = .int .i64 (t : Int) ∧ Hid (s.grams = (ordG l).drop t ∧ Mine w wr w.heap.size s)) (fun vi _ => l.length - (intOf vi).toNat)
      case atStart => exact ⟨0, s, Nat.zero_le _, rfl, hst.out⟩
      case round =>
        obtain ⟨t, s2, ht, rfl, HI⟩ := hrel
        clear hst
        by_cases hlt : t < l.length
        · have hltz : (t : Int) < (l.length : Int) := by omega
          obtain ⟨x, hx⟩ : ∃ x, l[t]? = some x := ⟨l[t], by simp [hlt]⟩
          go_wp2_with fail
          refine (CD.out t x s2 _ _ hx HI.out.1 HI.out.2).mono ?_
          rintro e w5 ⟨rfl, hm5⟩
          obtain ⟨g, o, rfl, hcap, hc⟩ := Hat.out t x hx _ (hm5.kept.alloc (.cells #[.int .i64 (t : Int), .int .i64 2, .string x] 39))
          have Hm5 := hid (hm5.still (((Kept.refl (fun _ => False) w5).alloc (.cells #[.int .i64 (t : Int), .int .i64 2, .string x] 39))))
          clear hm5 HI hx
          go_wp2
          go_quiet (fail)
          go_wp2
          exact ⟨⟨t + 1, { s2 with grams := (ordG l).drop (t + 1) }, hlt, by go_num, rfl, Hm5.out.still ((Kept.refl _ _).drewN _)⟩, by simp [intOf]; omega⟩
        · obtain rfl : t = l.length := by omega
          have hg : s2.grams = [] := by rw [HI.out.1, List.drop_of_length_le (by rw [ordG_length]; exact Nat.le_refl _)]
          have P1 := hid (CE.out s2 wr w.heap.size hg HI.out.2)
          have P2 := hid (fun W (h : Mine w W w.heap.size s2) => h.callS (fun S1 h => len_any h))
          rw [hg] at P2
          simp only [List.length_nil] at P2
          clear HI CD CE hg Hat
          go_wp2_with fail
          refine P1.out.mono ?_
          rintro e w5 ⟨rfl, hm5⟩
          have Hm5 := hid (hm5.still ((Kept.refl (fun _ => False) w5).alloc (.cells #[.int .i64 0, .int .i64 0, .string ⟨#[]⟩] 39)))
          clear hm5 P1
          go_wp2_with fail
          refine (Ha.out _).mono ?_
          rintro e w6 ⟨rfl, hk6⟩
          have Hm6 := hid (Hm5.out.still hk6)
          clear hk6 Hm5
          go_wp2_with fail
          refine (P2.out _ Hm6.out).mono ?_
          rintro e w7 ⟨rfl, rfl⟩
          go_wp2
          go_ret
          exact ⟨by simp, hbel.out _ Hm6.out.kept⟩

theorem netOrder_walk (v : Value) (l : List ByteArray) (w : World) (hv : StrsAt w v l) : Calls Try.prog 7 #[v] w fun e w' => e = .returned (.bool true) ∧ Below w.heap.size w w' := by
  by_cases h : 100 < l.length
  · exact netOrder_long v l h w hv
  · exact netOrder_in v l (by omega) w hv

end Go.Proofs.Ytoejfbfecfpbeaa
