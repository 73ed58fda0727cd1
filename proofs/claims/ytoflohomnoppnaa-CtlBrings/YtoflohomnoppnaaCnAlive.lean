/- The laws' alive: a first call whose answer the document fixes. -/
import Derived.Test.YtoflohomnoppnaaCnNew
import Derived.Test.YtoflohomnoppnaaCnOut
import Derived.Test.YtoflohomnoppnaaCnTake
import Derived.Test.YtoflohomnoppnaaCnEq
namespace Go.Proofs.Ytoflohomnoppnaa
open Go.RowKit

/-- The cells of the one item of a row. -/
theorem own_one {w : World} {base : Nat} {v : Value} {i : Ite} (h : OwnI w base v [i]) : ∃ g cap, v = .slice (some ⟨g, 0, none⟩) 1 cap ∧ w.cell? ⟨g, 0, none⟩ = some (.int .i64 i.ns) ∧ w.cell? ⟨g, 1, none⟩ = some (.int .i64 i.nr) ∧ w.cell? ⟨g, 2, none⟩ = some (.string i.body) ∧ base ≤ g := by
  obtain ⟨g, cap, rfl, hb, hc, hm, hcell, hf⟩ := h.lies (List.cons_ne_nil _ _)
  exact ⟨g, cap, rfl, hcell 0 (by simp), hcell 1 (by simp), hcell 2 (by simp), hb⟩
theorem own_none {α : Type} {enc : α → List Value} {k : Nat} {e : TypeId} {w : World} {base : Nat} {v : Value} (h : OwnG enc k e w base v []) : ∃ p cap, v = .slice p 0 cap := own_slice h
def bX : ByteArray := ⟨#[120]⟩
def bY : ByteArray := ⟨#[121]⟩
def al0 : Cn := newN 4 10 2 5 65535
def al1 : Cn := (giveN al0 bX).1
def al2 : Cn := (giveN al1 bY).1
def al3 : Cn := (outN al2).1
def al4 : Cn := (takeN al3 ⟨65535, 0, ⟨#[]⟩⟩).1
def al5 : Cn := (outN al4).1
theorem al_g0 : GoodN al0 := good_newN (by kernel_rfl)
theorem al_g1 : GoodN al1 := good_giveN al_g0 _
theorem al_g2 : GoodN al2 := good_giveN al_g1 _
theorem al_g3 : GoodN al3 := good_outN al_g2
theorem al_g4 : GoodN al4 := good_takeN al_g3 _
theorem al_r1 : (giveN al0 bX).2 = 0 := by kernel_rfl
theorem al_r2 : (giveN al1 bY).2 = 0 := by kernel_rfl
theorem al_r3 : (outN al2).2 = [⟨65535, 65535, bX⟩] := by kernel_rfl
theorem al_r4 : (takeN al3 ⟨65535, 0, ⟨#[]⟩⟩).2 = [] := by kernel_rfl
theorem al_r5 : (outN al4).2 = [⟨0, 65535, bY⟩] := by kernel_rfl

set_option maxHeartbeats 8000000 in
set_option maxRecDepth 100000 in
theorem aliveN_any (w : World) : Calls Try.prog 9 #[] w fun e w' => e = .returned (.bool true) ∧ Kept (fun _ => False) w w' := by
  have HNew := hid (new_any 4 10 2 5 65535 w)
  have HS1 := hid (fun W b vw vf (h : CnIn W b al0 vw vf) => send_any h al_g0 bX)
  have HS2 := hid (fun W b vw vf (h : CnIn W b al1 vw vf) => send_any h al_g1 bY)
  have HO1 := hid (fun W b vw vf (h : CnIn W b al2 vw vf) => out_any h al_g2)
  have HT := hid (fun W b vw vf (h : CnIn W b al3 vw vf) => take_any h al_g3 ⟨65535, 0, ⟨#[]⟩⟩)
  have HO2 := hid (fun W b vw vf (h : CnIn W b al4 vw vf) => out_any h al_g4)
  have E1 := ite_eql (i := ⟨65535, 65535, bX⟩) (j := ⟨65535, 65535, bX⟩) ⟨by decide, by decide, by decide⟩ ⟨by decide, by decide, by decide⟩
  have E2 := ite_eql (i := ⟨0, 65535, bY⟩) (j := ⟨0, 65535, bY⟩) ⟨by decide, by decide, by decide⟩ ⟨by decide, by decide, by decide⟩
  rw [show sameI ⟨65535, 65535, bX⟩ ⟨65535, 65535, bX⟩ = true by kernel_rfl] at E1
  rw [show sameI ⟨0, 65535, bY⟩ ⟨0, 65535, bY⟩ = true by kernel_rfl] at E2
  have HB1 := hid (fun W => before_any 65535 0 W)
  have HB2 := hid (fun W => before_any 0 32768 W)
  rw [show beforeN 65535 0 = true by kernel_rfl] at HB1
  rw [show beforeN 0 32768 = false by kernel_rfl] at HB2
  rw [al_r1] at HS1
  rw [al_r2] at HS2
  rw [al_r3] at HO1
  rw [al_r5] at HO2
  unfold TakeP at HT
  rw [al_r4] at HT
  unfold iteV at E1 E2 HT
  dsimp only at E1 E2 HT
  unfold bX at HS1 E1
  unfold bY at HS2 E2
  go_enter Try.func9, Try.ntmps9
  go_wp2_with fail
  refine (HNew.out).mono ?_
  rintro e w1 (⟨h0, _⟩ | ⟨-, b, rfl, hc0, hb, hk1⟩)
  · exact absurd h0 (by decide)
  go_wp2_with fail
  refine (HS1.out _ _ _ _ hc0).mono ?_
  rintro e w2 ⟨rfl, vw2, hn2⟩
  go_wp2_with fail
  refine (HS2.out _ _ _ _ hn2.mem).mono ?_
  rintro e w3 ⟨rfl, vw3, hn3⟩
  go_wp2_with fail
  refine (HO1.out _ _ _ _ hn3.mem).mono ?_
  rintro e w4 ⟨vo4, vw4, vf4, rfl, hn4, ho4⟩
  go_wp2_with fail
  refine (HT.out _ _ _ _ hn4.mem).mono ?_
  rintro e w5 ⟨vo5, vw5, vf5, rfl, hn5, ho5, -⟩
  go_wp2_with fail
  refine (HO2.out _ _ _ _ hn5.mem).mono ?_
  rintro e w6 ⟨vo6, vw6, vf6, rfl, hn6, ho6⟩
  have hA := hn6.own (hn5.own ho4 (fun i hi => hn4.mem.unlikeI ho4 hi)) (fun i hi => hn5.mem.unlikeI (hn5.own ho4 (fun i hi => hn4.mem.unlikeI ho4 hi)) hi)
  obtain ⟨ga, ca, rfl, a0, a1, a2, -⟩ := own_one hA
  obtain ⟨gb, cb, rfl, b0, b1, b2, -⟩ := own_one ho6
  obtain ⟨p5, c5, rfl⟩ := own_none ho5
  have hkk := (((hn2.trans hn3).trans hn4).trans hn5).trans hn6
  have HK : Hid (Kept (fun _ => False) w w6) := hk1.andThen hkk.kept (fun i hi s => by
    rcases s with rfl | s | s
    · omega
    · cases s
    · cases s)
  unfold bX at a2
  unfold bY at b2
  clear hA ho4 ho5 ho6 hn2 hn3 hn4 hn5 hn6 hkk hc0 hk1 HNew HS1 HS2 HO1 HT HO2
  dsimp only at a0 a1 a2 b0 b1 b2
  go_wp2_with fail
  refine (HB1.out _).mono ?_
  rintro e w7 ⟨rfl, hq⟩
  rw [hq]
  clear hq w7
  go_wp2_with fail
  refine (HB2.out _).mono ?_
  rintro e w7 ⟨rfl, hq⟩
  rw [hq]
  clear hq w7
  go_wp2
  go_returns
  exact ⟨rfl, HK.out⟩
end Go.Proofs.Ytoflohomnoppnaa
