/- The contracts of the closure in Net.loseOld. -/
import Derived.Test.YtegofkpiipomfaaNetCount
import Derived.DeepKeys
import Derived.Deep.RegionWith
namespace Go.Proofs.Ytegofkpiipomfaa
open Go.RowKit

theorem key_eq {k i k' i' : Int} (hk : In64 k) (hi : In64 i) (hk' : In64 k') (hi' : In64 i') (W : World) : (Op.equalIn 10000 48 (.agg #[.int .i64 k, .int .i64 i]) (.agg #[.int .i64 k', .int .i64 i'])).run Try.prog W = .ok (decide (k = k' ∧ i = i')) W := by
  have hkt : Try.prog.keyTypeAt 2 48 = true := by kernel_rfl
  have h : ∀ {k i : Int}, In64 k → In64 i → Try.prog.keyLits 2 48 [.int .i64 k, .int .i64 i] = some [.int .i64 k, .int .i64 i] := fun hk hi => by
    simp [Program.keyLits, Try.underlying48, cellsKey, cellsInt, Try.underlying3, wf64 hk, wf64 hi]
  have hf : ∀ k i : Int, (Value.agg #[.int .i64 k, .int .i64 i]).formed Try.prog 48 = true := fun k i => by simp [Value.formed, Try.underlying48, cellsKey]
  obtain ⟨r, hr, hiff⟩ := run_equalIn_deep (P := Try.prog) 9998 2 48 hkt W 2 2 (.agg #[.int .i64 k, .int .i64 i]) (.agg #[.int .i64 k', .int .i64 i']) _ _ (hf _ _) (hf _ _) (h hk hi) (h hk' hi')
  have hr' : (Op.equalIn 10000 48 (.agg #[.int .i64 k, .int .i64 i]) (.agg #[.int .i64 k', .int .i64 i'])).run Try.prog W = .ok r W := hr
  rw [hr']
  congr 1
  rw [Bool.eq_iff_iff, hiff]
  simp

theorem key_eql {k i k' i' : Int} (hk : In64 k) (hi : In64 i) (hk' : In64 k') (hi' : In64 i') (W : World) : (binOp .eql 48 (.agg #[.int .i64 k, .int .i64 i]) (.agg #[.int .i64 k', .int .i64 i'])).run Try.prog W = .ok (.bool (decide (k = k' ∧ i = i'))) W := by
  have h := key_eq hk hi hk' hi' W
  generalize decide (k = k' ∧ i = i') = q at *
  simp only [binOp]
  simp [Op.equal, Op.maxDepth, h]

/-- Is it too old? -/
def oldG (k i sent : Int) (x : Gr) : Bool := decide ((x.src = k ∧ x.dst = i) ∧ 20000 ≤ sent - x.turn)

/-- A datagram whose numbers are ints. -/
structure GrOk (x : Gr) : Prop where
  src : In64 x.src
  dst : In64 x.dst
  turn : Cnt x.turn

/-- The boxes that the closure holds. -/
def Boxes (w : World) (pb sb : Nat) (k i sent : Int) : Prop := w.cell? ⟨pb, 0, none⟩ = some (.int .i64 k) ∧ w.cell? ⟨pb, 1, none⟩ = some (.int .i64 i) ∧ w.cell? ⟨sb, 0, none⟩ = some (.int .i64 sent)

set_option maxHeartbeats 1000000 in
set_option maxRecDepth 100000 in
theorem lose_fn (pb sb : Nat) {k i sent : Int} (hk : In64 k) (hi : In64 i) (hs : Cnt sent) (x : Gr) (hx : GrOk x) (w : World) (hb : Boxes w pb sb k i sent) :
    Calls Try.prog 39 #[grV x, .pointer (some ⟨pb, 0, none⟩), .pointer (some ⟨sb, 0, none⟩)] w fun e w' => e = .returned (.bool (oldG k i sent x)) ∧ Kept (fun _ => False) w w' := by
  obtain ⟨b0, b1, b2⟩ := hb
  have hp := lt_of_cell b0
  have hsb := lt_of_cell b2
  simp only at hp hsb
  have hq := fun W => key_eql hx.src hx.dst hk hi W
  obtain ⟨hx1, hx2, ht1, ht2⟩ := hx
  obtain ⟨hs1, hs2⟩ := hs
  have Hp := hid pair_any
  have g0 : ∀ W, Kept (fun _ => False) w W → W.cell? ⟨pb, 0, none⟩ = some (.int .i64 k) ∧ W.cell? ⟨pb, 1, none⟩ = some (.int .i64 i) ∧ W.cell? ⟨sb, 0, none⟩ = some (.int .i64 sent) := fun W h => ⟨(h.cell (p := ⟨pb, 0, none⟩) hp id).trans b0, (h.cell (p := ⟨pb, 1, none⟩) hp id).trans b1, (h.cell (p := ⟨sb, 0, none⟩) hsb id).trans b2⟩
  have c0 := fun o => (g0 _ ((Kept.refl _ w).alloc o)).1
  have c1 := fun o => (g0 _ ((Kept.refl _ w).alloc o)).2.1
  have c2 := fun o => (g0 _ ((Kept.refl _ w).alloc o)).2.2
  obtain ⟨f, t, d, n⟩ := x
  simp only at *
  have Hbox : Hid (∀ W, Kept (fun _ => False) (w.alloc (.cells #[.int .i64 f, .int .i64 t, .string d, .int .i64 n] 56)) W → W.cell? ⟨w.heap.size, 0, none⟩ = some (.int .i64 f) ∧ W.cell? ⟨w.heap.size, 1, none⟩ = some (.int .i64 t) ∧ W.cell? ⟨w.heap.size, 2, none⟩ = some (.string d) ∧ W.cell? ⟨w.heap.size, 3, none⟩ = some (.int .i64 n)) := fun W h =>
    ⟨(h.cell (p := ⟨w.heap.size, 0, none⟩) (by simp) id).trans (by simp), (h.cell (p := ⟨w.heap.size, 1, none⟩) (by simp) id).trans (by simp), (h.cell (p := ⟨w.heap.size, 2, none⟩) (by simp) id).trans (by simp), (h.cell (p := ⟨w.heap.size, 3, none⟩) (by simp) id).trans (by simp)⟩
  have G0 := hid g0
  have e : oldG k i sent ⟨f, t, d, n⟩ = (decide (f = k ∧ t = i) && decide (20000 ≤ sent - n)) := by
    unfold oldG
    rw [Bool.decide_and]
  rw [e]
  clear g0 e hp hsb b0 b1 b2
  unfold grV
  generalize decide (f = k ∧ t = i) = q at *
  have Hcall : Hid (∀ w, Calls Try.prog 25 #[.agg #[.int .i64 f, .int .i64 t, .string d, .int .i64 n]] w fun e w' => e = .returned (.agg #[.int .i64 f, .int .i64 t]) ∧ Kept (fun _ => False) w w') := fun w => pair_any ⟨f, t, d, n⟩ w
  clear Hp
  cases q with
  | false =>
    rw [Bool.false_and]
    go_enter Try.func39, Try.ntmps39
    go_wp2
    first
    | (go_region_with (first
      | (go_at_call 25; refine (Hcall.out _).mono ?_; rintro e w' ⟨rfl, hk1⟩; have hk2 := ((Kept.refl (fun _ => False) _).drew).trans hk1; obtain ⟨z0, z1, z2⟩ := G0.out _ (((Kept.refl (fun _ => False) w).alloc _).trans hk2); obtain ⟨y0, y1, y2, y3⟩ := Hbox.out _ hk2)))
    | fail
    all_goals go_wp2
    all_goals go_ret
    all_goals exact ⟨rfl, ((Kept.refl (fun _ => False) w).alloc _).trans hk2⟩
  | true =>
    rw [Bool.true_and]
    go_enter Try.func39, Try.ntmps39
    go_wp2
    go_region_held3 (fun W => W.cell? ⟨pb, 0, none⟩ = some (.int .i64 k) ∧ W.cell? ⟨pb, 1, none⟩ = some (.int .i64 i) ∧ W.cell? ⟨sb, 0, none⟩ = some (.int .i64 sent) ∧ W.cell? ⟨w.heap.size, 0, none⟩ = some (.int .i64 f) ∧ W.cell? ⟨w.heap.size, 1, none⟩ = some (.int .i64 t) ∧ W.cell? ⟨w.heap.size, 2, none⟩ = some (.string d) ∧ W.cell? ⟨w.heap.size, 3, none⟩ = some (.int .i64 n)) (first | assumption | go_keep) (first
      | (go_at_call 25; refine (Hcall.out _).mono ?_; rintro e w' ⟨rfl, hk1⟩; have hk2 := ((Kept.refl (fun _ => False) _).drew).trans hk1; obtain ⟨z0, z1, z2⟩ := G0.out _ (((Kept.refl (fun _ => False) w).alloc _).trans hk2); obtain ⟨y0, y1, y2, y3⟩ := Hbox.out _ hk2))
    all_goals go_wp2
    all_goals go_ret
    all_goals exact ⟨by have hsub : IntKind.i64.wrap (sent - n) = sent - n := (by rw [IntKind.wrap_i64]; omega); simp [hsub], ((Kept.refl (fun _ => False) w).alloc _).trans hk2⟩

end Go.Proofs.Ytegofkpiipomfaa
