/- An automaton of a law's own; alive. -/
import Derived.Test.YtfilfagnljpgcaaAuDo
namespace Go.Proofs.Ytfilfagnljpgcaa
open Go.RowKit

/-- A law's own automaton, made behind w; nothing of w has turned. -/
structure AMine (w W : World) (b : Nat) (c : Au) : Prop where
  auto : AutoIn W b c
  good : GoodA c
  lo : w.heap.size ≤ b
  kept : Kept (fun _ => False) w W

section
variable {w W W' : World} {b : Nat} {c : Au}
theorem AMine.still (h : AMine w W b c) (hk : Kept (fun _ => False) W W') : AMine w W' b c := ⟨h.auto.kept0 hk, h.good, h.lo, h.kept.trans hk⟩
theorem AMine.turn (h : AMine w W b c) {c' : Au} (ha : AutoIn W' b c') (hg : GoodA c') (hk : Kept (fun i => i = b) W W') : AMine w W' b c' := ⟨ha, hg, h.lo, h.kept.andThen hk (fun i hi e => by have := h.lo; omega)⟩
theorem AMine.doBy (h : AMine w W b c) (e : Int) (he : In64 e) : Calls Try.prog 9 #[.pointer (some ⟨b, 0, none⟩), .int .i64 e] W fun en w' => ∃ v, en = .returned v ∧ AMine w w' b (doF c e).2 ∧ OwnI w' W.heap.size v (doF c e).1 ∧ Kept (fun i => i = b) W w' :=
  (do_any b c h.good e he W h.auto).mono fun _ _ ⟨v, e1, ha, ho, hk⟩ => ⟨v, e1, h.turn ha (h.good.do e) hk, ho, hk⟩
theorem AMine.stateBy (h : AMine w W b c) : Calls Try.prog 13 #[.pointer (some ⟨b, 0, none⟩)] W fun e w' => e = .returned (.int .i64 c.st) ∧ w' = W := state_any b c h.good W h.auto
theorem AMine.countBy (h : AMine w W b c) : Calls Try.prog 10 #[.pointer (some ⟨b, 0, none⟩)] W fun e w' => e = .returned (.int .i64 c.ct) ∧ w' = W := count_any b c h.good W h.auto
theorem AMine.waitsBy (h : AMine w W b c) : Calls Try.prog 12 #[.pointer (some ⟨b, 0, none⟩)] W fun e w' => e = .returned (.bool (waitsF c)) ∧ w' = W := waits_any b c h.good W h.auto
end
theorem mine_new (cf tm : Int) (h1 : 1 ≤ cf ∧ cf ≤ 20) (h2 : 1 ≤ tm ∧ tm ≤ 20) (w w0 : World) (hk0 : Kept (fun _ => False) w0 w) : Calls Try.prog 7 #[.int .i64 cf, .int .i64 tm] w fun e w' => ∃ b, e = .returned (.tuple #[.pointer (some ⟨b, 0, none⟩), .int .i64 0]) ∧ AMine w0 w' b (newA cf tm) ∧ Kept (fun _ => False) w w' :=
  (new_any cf tm h1 h2 w).mono fun _ _ ⟨e1, ha, hk⟩ => ⟨_, e1, ⟨ha, GoodA.new h1 h2, hk0.size, hk0.trans hk⟩, hk⟩

theorem below_of {w w' : World} (h : Kept (fun _ => False) w w') : Below w.heap.size w w' := h.below (Nat.le_refl _) (fun _ h => h.elim)

set_option maxHeartbeats 4000000 in
set_option maxRecDepth 100000 in
theorem alive_any (w : World) : Calls Try.prog 8 #[] w fun e w' => e = .returned (.bool true) ∧ Kept (fun _ => False) w w' := by
  have HX := hid (next_any 2 2 ⟨by decide, by decide⟩ ⟨by decide, by decide⟩ w)
  rw [show nextF 2 2 = (6, [4, 6]) from by kernel_rfl] at HX
  go_enter Try.func8, Try.ntmps8
  go_wp2_with fail
  refine HX.out.mono ?_
  rintro e w1 ⟨v, rfl, ho, hk1⟩
  obtain ⟨p, cap, rfl, hc⟩ := ho.form
  obtain ⟨g, rfl, hcap, _⟩ := hc 0 4 rfl
  clear hc
  have HO := hid ho
  have HN := hid (mine_new 2 1 (by decide) (by decide) w1 w hk1)
  clear ho HX hk1
  go_wp2_with fail
  refine HN.out.mono ?_
  rintro e w2 ⟨b, rfl, hm, hk2⟩
  have H2 := hid hm
  have HO2 := hid (HO.out.kept0 hk2)
  clear HN hm HO
  go_wp2_with fail
  refine (H2.out.doBy 2 ⟨by decide, by decide⟩).mono ?_
  rintro e w3 ⟨v3, rfl, hm, _, hk3⟩
  rw [show (doF (newA 2 1) 2).2 = ⟨2, 1, 1, 0⟩ from by kernel_rfl] at hm
  have H3 := hid hm
  have HO3 := hid (H2.out.auto.own HO2.out hk3)
  clear hm H2 HO2 hk3
  go_wp2_with fail
  refine (H3.out.doBy 0 ⟨by decide, by decide⟩).mono ?_
  rintro e w4 ⟨v4, rfl, hm, _, hk4⟩
  rw [show (doF ⟨2, 1, 1, 0⟩ 0).2 = ⟨2, 1, 6, 1⟩ from by kernel_rfl] at hm
  have H4 := hid hm
  have HO4 := hid (H3.out.auto.own HO3.out hk4)
  clear hm H3 HO3 hk4
  obtain ⟨p', cap', ev, hc⟩ := HO4.out.form
  simp only [Value.slice.injEq] at ev
  obtain ⟨rfl, _, rfl⟩ := ev
  obtain ⟨g', eg, _, q0⟩ := hc 0 4 rfl
  obtain ⟨g'', eg', _, q1⟩ := hc 1 6 rfl
  simp only [Option.some.injEq, Addr.mk.injEq, and_true] at eg eg'
  subst eg
  subst eg'
  clear hc
  have HC := hid H4.out.countBy
  have HS := hid H4.out.stateBy
  have HW := hid H4.out.waitsBy
  rw [show waitsF ⟨2, 1, 6, 1⟩ = true from by kernel_rfl] at HW
  simp only [] at HC HS
  have HK := hid H4.out.kept
  clear H4 HO4
  go_wp2_with (first
    | (go_at_call 10; refine HC.out.mono ?_; rintro e w' ⟨rfl, hw⟩; rw [hw]; clear hw w')
    | (go_at_call 13; refine HS.out.mono ?_; rintro e w' ⟨rfl, hw⟩; rw [hw]; clear hw w')
    | (go_at_call 12; refine HW.out.mono ?_; rintro e w' ⟨rfl, hw⟩; rw [hw]; clear hw w'))
  go_ret
  exact ⟨rfl, HK.out⟩
end Go.Proofs.Ytfilfagnljpgcaa
