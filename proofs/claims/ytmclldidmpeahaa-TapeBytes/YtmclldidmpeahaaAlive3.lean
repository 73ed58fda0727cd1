/- The laws' alive of layer 3: it returns true, and leaves what was there. -/
import Derived.Test.YtmclldidmpeahaaTick
import Derived.Test.YtmclldidmpeahaaTapeNew
namespace Go.Proofs.Ytmclldidmpeahaa
open Go.RowKit

theorem next_at (b : Nat) (p : Option Addr) (cap : Nat) (rest : List Int) (asked n : Nat) (r : Int) (hn : 1 ≤ n) (hn2 : n ≤ 9223372036854775807) (ha : asked ≤ 1000000) (hr : drawn rest asked (n : Int) = r) (w : World) (h : IsTape w b p cap rest asked) :
    Calls Try.prog 14 #[.pointer (some ⟨b, 0, none⟩), .int .i64 (n : Int)] w fun e w' => e = .returned (.int .i64 r) ∧ (∃ p' cap', IsTape w' b p' cap' rest.tail (askedOn rest asked) ∧ ∀ i, onTape p' rest.tail i → onTape p rest i) ∧ Kept (fun i => i = b) w w' := by
  rw [← hr]
  exact next_any b p cap rest asked n hn hn2 ha w h

theorem clock_new {n b i : Nat} {m : Option Nat} (hb : n ≤ b) (hm : ∀ j, m = some j → n ≤ j) (hi : i < n) (h : ofClock b m i) : False := by
  rcases h with rfl | h
  · omega
  · have := hm i h
    omega

theorem two_in_order {S : List Tm} {a b : Tm} (hp : S.Perm [a, b]) (hO : InOrder S) (hab : Ahead b a) : S = [b, a] := by
  have hl := hp.length_eq
  match S, hl with
  | [x, y], _ =>
    have hx : x ∈ [a, b] := hp.mem_iff.1 (by simp)
    have hO' : ¬ Ahead y x := (List.pairwise_cons.1 hO).1 y (by simp)
    simp at hx
    rcases hx with rfl | rfl
    · have h1 : [y].Perm [b] := hp.cons_inv
      have h2 : y = b := by simpa using h1
      subst h2
      exact absurd hab hO'
    · have h1 : [x, y].Perm [x, a] := hp.trans (List.Perm.swap x a [])
      have h2 : y = a := by simpa using h1.cons_inv
      rw [h2]

set_option maxHeartbeats 2000000 in
set_option maxRecDepth 100000 in
theorem alive_any (w : World) : Calls Try.prog 8 #[] w fun e w' => e = .returned (.bool true) ∧ Kept (fun _ => False) w w' := by
  go_enter Try.func8, Try.ntmps8
  go_wp2_with fail
  have hk0 : Kept (fun _ => False) w (w.alloc (.cells #[.int .i64 300, .int .i64 (-1)] 3)) := (Kept.refl _ w).alloc _
  refine (show Calls Try.prog 10 #[.slice (some ⟨w.heap.size, 0, none⟩) 2 2] _ _ from (new_some ⟨w.heap.size, 0, none⟩ 2 [300, -1] (by simp) _ (by
    intro j u hj
    have := cells_two_new w (.int .i64 300) (.int .i64 (-1)) 3 j u hj
    exact this)).mono ?_)
  rintro e w1 ⟨tb, p, cap, rfl, htb, hp, ht, hk1⟩
  have Hk1 := hid (hk0.trans hk1)
  have htb' : w.heap.size ≤ tb := by simp at htb; omega
  clear hk0 hk1 htb hp
  go_wp2_with fail
  refine (show Calls Try.prog 14 #[.pointer (some ⟨tb, 0, none⟩), .int .i64 256] w1 _ from (next_at tb p cap [300, -1] 0 256 44 (by decide) (by decide) (by decide) (by decide) w1 ht)).mono ?_
  rintro e w2 ⟨rfl, ⟨p2, cap2, ht2, _⟩, hk2⟩
  have Hk2 := hid (Hk1.out.andThen hk2 (fun i hi e => by omega))
  clear hk2 ht Hk1
  go_wp2_with fail
  refine (show Calls Try.prog 14 #[.pointer (some ⟨tb, 0, none⟩), .int .i64 10] w2 _ from (next_at tb p2 cap2 [-1] 0 10 9 (by decide) (by decide) (by decide) (by decide) w2 ht2)).mono ?_
  rintro e w3 ⟨rfl, ⟨p3, cap3, ht3, _⟩, hk3⟩
  have Hk3 := hid (Hk2.out.andThen hk3 (fun i hi e => by omega))
  clear hk3 ht2 Hk2
  go_wp2_with fail
  refine (show Calls Try.prog 14 #[.pointer (some ⟨tb, 0, none⟩), .int .i64 10] w3 _ from (next_at tb p3 cap3 [] 0 10 7 (by decide) (by decide) (by decide) (by decide) w3 ht3)).mono ?_
  rintro e w4 ⟨rfl, _, hk4⟩
  have Hk4 := hid (Hk3.out.andThen hk4 (fun i hi e => by omega))
  clear hk4 ht3 Hk3
  go_wp2_with fail
  refine (newClock_any w4).mono ?_
  rintro e w5 ⟨rfl, hc5, hk5, _⟩
  obtain ⟨kb, hkb⟩ : ∃ kb, kb = w4.heap.size := ⟨_, rfl⟩
  rw [← hkb] at hc5 ⊢
  have hkw : w.heap.size ≤ kb := by rw [hkb]; exact Hk4.out.size
  have Hk5 := hid (Hk4.out.trans hk5)
  clear hk5 hkb Hk4
  go_wp2_with fail
  refine (show Calls Try.prog 18 #[.pointer (some ⟨kb, 0, none⟩), .agg #[.int .i64 1, .int .i64 1], .int .i64 5] w5 _ from set_new kb 0 0 1 1 5 (by unfold In64; omega) (by unfold In64; omega) (by decide) (by decide) (by decide) (by decide) (by decide) (by decide) w5 hc5).mono ?_
  rintro e w6 ⟨rfl, mb, hmb, hc6, hk6⟩
  have hc6' : IsClock w6 kb (some mb) 0 1 [⟨1, 1, 5, 1⟩] := hc6
  have hmw : w.heap.size ≤ mb := Nat.le_trans Hk5.out.size hmb
  have Hk6 := hid (Hk5.out.andThen hk6 (fun i hi e => clock_new hkw (fun j hj => by cases hj) hi e))
  clear hk6 hc5 hc6 Hk5 hmb
  go_wp2_with fail
  refine (show Calls Try.prog 18 #[.pointer (some ⟨kb, 0, none⟩), .agg #[.int .i64 1, .int .i64 2], .int .i64 3] w6 _ from set_in kb mb 0 1 [⟨1, 1, 5, 1⟩] 1 2 3 (by unfold In64; omega) (by unfold In64; omega) (by decide) (by decide) (Or.inr (by decide)) (by decide) (by decide) (by decide) (by decide) (by decide) w6 hc6').mono ?_
  rintro e w7 ⟨rfl, hc7, hk7⟩
  have hc7' : IsClock w7 kb (some mb) 0 2 [⟨1, 1, 5, 1⟩, ⟨1, 2, 3, 2⟩] := hc7
  have Hk7 := hid (Hk6.out.andThen hk7 (fun i hi e => clock_new hkw (fun j hj => by cases hj; exact hmw) hi e))
  clear hk7 hc6' hc7 Hk6
  go_wp2_with fail
  refine (show Calls Try.prog 20 #[.pointer (some ⟨kb, 0, none⟩), .int .i64 5] w7 _ from tick_any kb mb 0 2 5 5 rfl [⟨1, 1, 5, 1⟩, ⟨1, 2, 3, 2⟩] (by intro t ht; simp at ht; rcases ht with rfl | rfl <;> unfold In64 <;> simp) (by decide) (by decide) (by decide) (by decide) (by decide) (by decide) w7 hc7').mono ?_
  rintro e w8 ⟨v, S, rfl, hS, hO, hrow, hc8, hk8⟩
  have hk9 : Kept (fun _ => False) w w8 := Hk7.out.andThen hk8 (fun i hi e => clock_new hkw (fun j hj => by cases hj; exact hmw) hi e)
  have hSe : S = [⟨1, 2, 3, 2⟩, ⟨1, 1, 5, 1⟩] := two_in_order hS hO (Or.inl (by decide))
  subst hSe
  obtain ⟨g, cap8, rfl, ⟨q0, q1, q2, q3⟩, _, _⟩ := row_two hrow
  have Hn := hid (now_any kb (some mb) 5 2 _ w8 hc8)
  clear hrow hS hO hk8 Hk7 hc7' hc8
  go_wp2_with (go_at_call 22; refine Hn.out.mono ?_; rintro e w' ⟨rfl, rfl⟩)
  go_ret
  exact ⟨rfl, hk9⟩
end Go.Proofs.Ytmclldidmpeahaa
