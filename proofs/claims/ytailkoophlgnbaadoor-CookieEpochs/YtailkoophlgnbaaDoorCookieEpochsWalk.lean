/- The walk of the law CookieEpochs: for every secret, card, service, time and number of ticks it returns true (each string of at most 2^47 bytes), where the two tables hold what the program's text lays. -/
import Derived.Test.YtailkoophlgnbaaDoorCkAlive
import Derived.OpenShut
namespace Go.Proofs.YtailkoophlgnbaaDoor
open Go.RowKit

set_option maxHeartbeats 1000000 in
theorem cookieEpochs_out (s v : ByteArray) (m : List UInt8) (t d : Int) (w : World) (hT : Tables w) (hs : s.size ≤ 140737488351232) (hv : v.size ≤ 140737488351232)
    (h : 3000 < s.size + v.size ∨ (s.size + v.size ≤ 3000 ∧ d < 0) ∨ (s.size + v.size ≤ 3000 ∧ 63 < d) ∨ (s.size + v.size ≤ 3000 ∧ 0 ≤ d ∧ d ≤ 63 ∧ 4611686018427387904 < t) ∨ (s.size + v.size ≤ 3000 ∧ 0 ≤ d ∧ d ≤ 63 ∧ t < -4611686018427387904)) :
    Calls Tryd.prog 5 #[.string s, .agg (Lib.byteCells m).toArray, .string v, .int .i64 t, .int .i64 d] w fun r w' => r = .returned (.bool true) ∧ Below w.heap.size w w' := by
  have HS := hide (SK.first (m := m) hT)
  have HA : Ans 7 #[] (.bool true) := ⟨alive_any⟩
  generalize (Lib.byteCells m).toArray = xs at HS ⊢
  clear hT
  rcases h with h | ⟨h, h1⟩ | ⟨h, h1⟩ | ⟨h, h1, h2, h3⟩ | ⟨h, h1, h2, h3⟩
  all_goals
    go_enter Tryd.func5, Tryd.ntmps5
    go_wp2_with fail
    refine (SK.ans HS.out HA).mono ?_
    rintro e w2 ⟨rfl, hb2⟩
    go_wp2
    go_ret
    exact ⟨rfl, hb2.2.2⟩

/-- What the calls answer. -/
structure EIn (w : World) (m : List UInt8) (s v X0 X1 : ByteArray) (t d e0 e1 e2 : Int) (x0 x1 x2 x3 x4 x5 : Value) : Prop where
  hs : s.size + v.size ≤ 3000
  t1 : -4611686018427387904 ≤ t
  t2 : t ≤ 4611686018427387904
  d1 : 0 ≤ d
  d2 : d ≤ 63
  six : ∀ W, SK w w.heap.size m W → Six W w.heap.size x0 x1 x2 x3 x4 x5
  first : SK w w.heap.size m (w.alloc (.cells #[x0, x1, x2, x3, x4, x5] 23))
  al : Ans 7 #[] (.bool true)
  mk0 : Ans 8 #[.string s, .agg #[x0, x1, x2, x3, x4, x5], .string v, .int .i64 t] (.string X0)
  mk1 : Ans 8 #[.string s, .agg #[x0, x1, x2, x3, x4, x5], .string v, .int .i64 (t + d)] (.string X1)
  ep0 : Ans 12 #[.int .i64 t] (.int .i64 e0)
  ep1 : Ans 12 #[.int .i64 (t + d)] (.int .i64 e1)
  ep2 : Ans 12 #[.int .i64 (t + 64)] (.int .i64 e2)
  f1 : -9223372036854775808 ≤ e0
  f2 : e0 ≤ 4611686018427387904
  g2 : e2 = e0 + 1

set_option maxHeartbeats 2000000 in
theorem cookieEpochs_same {w : World} {m : List UInt8} {s v X0 : ByteArray} {t d e0 e2 : Int} {x0 x1 x2 x3 x4 x5 : Value} (I : EIn w m s v X0 X0 t d e0 e0 e2 x0 x1 x2 x3 x4 x5) :
    Calls Tryd.prog 5 #[.string s, .agg #[x0, x1, x2, x3, x4, x5], .string v, .int .i64 t, .int .i64 d] w fun r w' => r = .returned (.bool true) ∧ Below w.heap.size w w' := by
  have HI := hide I
  have hs := I.hs
  have t1 := I.t1
  have t2 := I.t2
  have d1 := I.d1
  have d2 := I.d2
  have f1 := I.f1
  have f2 := I.f2
  have g2 := I.g2
  subst g2
  clear I
  have h0 : ∀ W, SK w w.heap.size m W → W.cell? ⟨w.heap.size, 0, none⟩ = some x0 := fun W h => (HI.out.six W h).c0
  have h1 : ∀ W, SK w w.heap.size m W → W.cell? ⟨w.heap.size, 1, none⟩ = some x1 := fun W h => (HI.out.six W h).c1
  have h2 : ∀ W, SK w w.heap.size m W → W.cell? ⟨w.heap.size, 2, none⟩ = some x2 := fun W h => (HI.out.six W h).c2
  have h3 : ∀ W, SK w w.heap.size m W → W.cell? ⟨w.heap.size, 3, none⟩ = some x3 := fun W h => (HI.out.six W h).c3
  have h4 : ∀ W, SK w w.heap.size m W → W.cell? ⟨w.heap.size, 4, none⟩ = some x4 := fun W h => (HI.out.six W h).c4
  have h5 : ∀ W, SK w w.heap.size m W → W.cell? ⟨w.heap.size, 5, none⟩ = some x5 := fun W h => (HI.out.six W h).c5
  have hw : IntKind.i64.wrap (t + d) = t + d := by rw [IntKind.wrap_i64]; omega
  have al := HI.out.al
  have mk0 := HI.out.mk0
  have mk1 := HI.out.mk1
  go_enter Tryd.func5, Tryd.ntmps5
  go_wp2_with fail
  refine (SK.ans HI.out.first HI.out.ep0).mono ?_
  rintro e w1 ⟨rfl, hS1⟩
  go_wp2_with fail
  refine (SK.ans hS1 HI.out.ep1).mono ?_
  rintro e w2 ⟨rfl, hS2⟩
  go_wp2_with fail
  refine (SK.ans hS2 HI.out.ep2).mono ?_
  rintro e w3 ⟨rfl, hS3⟩
  go_wp2
  have hS4 := hS3.drew
  go_region_held3 (SK w w.heap.size m) (assumption) ((refine (SK.ans (by assumption) (by assumption)).mono ?_; rintro e w2 ⟨rfl, hb2⟩))
  all_goals
    go_wp2
    go_ret
    exact ⟨rfl, SK.below' (by assumption)⟩

set_option maxHeartbeats 2000000 in
theorem cookieEpochs_next {w : World} {m : List UInt8} {s v X0 X1 : ByteArray} {t d e0 e2 : Int} {x0 x1 x2 x3 x4 x5 : Value} (I : EIn w m s v X0 X1 t d e0 (e0 + 1) e2 x0 x1 x2 x3 x4 x5) :
    Calls Tryd.prog 5 #[.string s, .agg #[x0, x1, x2, x3, x4, x5], .string v, .int .i64 t, .int .i64 d] w fun r w' => r = .returned (.bool true) ∧ Below w.heap.size w w' := by
  have HI := hide I
  have hs := I.hs
  have t1 := I.t1
  have t2 := I.t2
  have d1 := I.d1
  have d2 := I.d2
  have f1 := I.f1
  have f2 := I.f2
  have g2 := I.g2
  subst g2
  clear I
  have h0 : ∀ W, SK w w.heap.size m W → W.cell? ⟨w.heap.size, 0, none⟩ = some x0 := fun W h => (HI.out.six W h).c0
  have h1 : ∀ W, SK w w.heap.size m W → W.cell? ⟨w.heap.size, 1, none⟩ = some x1 := fun W h => (HI.out.six W h).c1
  have h2 : ∀ W, SK w w.heap.size m W → W.cell? ⟨w.heap.size, 2, none⟩ = some x2 := fun W h => (HI.out.six W h).c2
  have h3 : ∀ W, SK w w.heap.size m W → W.cell? ⟨w.heap.size, 3, none⟩ = some x3 := fun W h => (HI.out.six W h).c3
  have h4 : ∀ W, SK w w.heap.size m W → W.cell? ⟨w.heap.size, 4, none⟩ = some x4 := fun W h => (HI.out.six W h).c4
  have h5 : ∀ W, SK w w.heap.size m W → W.cell? ⟨w.heap.size, 5, none⟩ = some x5 := fun W h => (HI.out.six W h).c5
  have hw : IntKind.i64.wrap (t + d) = t + d := by rw [IntKind.wrap_i64]; omega
  have al := HI.out.al
  have hne : (e0 != e0 + 1) = true := by simp; omega
  go_enter Tryd.func5, Tryd.ntmps5
  go_wp2_with fail
  refine (SK.ans HI.out.first HI.out.ep0).mono ?_
  rintro e w1 ⟨rfl, hS1⟩
  go_wp2_with fail
  refine (SK.ans hS1 HI.out.ep1).mono ?_
  rintro e w2 ⟨rfl, hS2⟩
  go_wp2_with fail
  refine (SK.ans hS2 HI.out.ep2).mono ?_
  rintro e w3 ⟨rfl, hS3⟩
  go_wp2
  have hS4 := hS3.drew
  refine wp_region_held_drew (S := SK w w.heap.size m) (by kernel_rfl) hS4 (fun hSd => ?_)
  refine wpAnyH_ready (rs := [0]) (by kernel_rfl) (by simp) ?_
  refine AllReadyH.cons rfl (fun K hK => ?_) AllReadyH.nil
  go_simp
  refine (SK.ans (by assumption) (by assumption)).mono ?_
  rintro e y0 ⟨rfl, z0⟩
  refine hK.out _ _ z0 (fun _ => ?_)
  clear hK K
  try simp only [List.getElem_toArray]
  try simp only [List.getElem_cons_succ]
  try simp only [List.getElem_cons_zero]
  try simp only [Act.put]
  try simp only [List.setIfInBounds_toArray]
  try simp only [List.set_cons_succ]
  try simp only [List.set_cons_zero]
  refine wpAnyH_take (i := 1) (v := ?_) rfl (by kernel_rfl) (by kernel_rfl) (by kernel_rfl) (fun _ _ _ h => h) (Or.inl ⟨by kernel_rfl, fun W hSW => by go_simp; try with_reducible rfl⟩) (by assumption) ?_
  try simp only [List.getElem_toArray]
  try simp only [List.getElem_cons_succ]
  try simp only [List.getElem_cons_zero]
  try simp only [Act.put]
  try simp only [List.setIfInBounds_toArray]
  try simp only [List.set_cons_succ]
  try simp only [List.set_cons_zero]
  refine wpAnyH_take (i := 2) (v := ?_) rfl (by kernel_rfl) (by kernel_rfl) (by kernel_rfl) (fun _ _ _ h => h) (Or.inl ⟨by kernel_rfl, fun W hSW => by go_simp; try with_reducible rfl⟩) (by assumption) ?_
  try simp only [List.getElem_toArray]
  try simp only [List.getElem_cons_succ]
  try simp only [List.getElem_cons_zero]
  try simp only [Act.put]
  try simp only [List.setIfInBounds_toArray]
  try simp only [List.set_cons_succ]
  try simp only [List.set_cons_zero]
  refine wpAnyH_take (i := 3) (v := ?_) rfl (by kernel_rfl) (by kernel_rfl) (by kernel_rfl) (fun _ _ _ h => h) (Or.inl ⟨by kernel_rfl, fun W hSW => by go_simp; try with_reducible rfl⟩) (by assumption) ?_
  try simp only [List.getElem_toArray]
  try simp only [List.getElem_cons_succ]
  try simp only [List.getElem_cons_zero]
  try simp only [Act.put]
  try simp only [List.setIfInBounds_toArray]
  try simp only [List.set_cons_succ]
  try simp only [List.set_cons_zero]
  refine wpAnyH_take (i := 4) (v := .bool true) rfl (by kernel_rfl) (by kernel_rfl) (by kernel_rfl) (fun _ _ _ h => h) (Or.inl ⟨by kernel_rfl, fun W hSW => by go_simp; try with_reducible rfl⟩) (by assumption) ?_
  try simp only [List.getElem_toArray]
  try simp only [List.getElem_cons_succ]
  try simp only [List.getElem_cons_zero]
  try simp only [Act.put]
  try simp only [List.setIfInBounds_toArray]
  try simp only [List.set_cons_succ]
  try simp only [List.set_cons_zero]
  refine wpAnyH_take (i := 5) (v := .bool true) rfl (by kernel_rfl) (by kernel_rfl) (by kernel_rfl) (fun _ _ _ h => h) (Or.inl ⟨by kernel_rfl, fun W hSW => by go_simp; try with_reducible rfl⟩) (by assumption) ?_
  try simp only [List.getElem_toArray]
  try simp only [List.getElem_cons_succ]
  try simp only [List.getElem_cons_zero]
  try simp only [Act.put]
  try simp only [List.setIfInBounds_toArray]
  try simp only [List.set_cons_succ]
  try simp only [List.set_cons_zero]
  refine wpAnyH_take (i := 6) rfl (by kernel_rfl) (by kernel_rfl) (by kernel_rfl) (fun _ _ _ h => h) (Or.inr ⟨by kernel_rfl, rfl⟩) (by assumption) ?_
  try simp only [List.getElem_toArray]
  try simp only [List.getElem_cons_succ]
  try simp only [List.getElem_cons_zero]
  try simp only [Act.put]
  try simp only [List.setIfInBounds_toArray]
  try simp only [List.set_cons_succ]
  try simp only [List.set_cons_zero]
  refine wpAnyH_take (i := 7) rfl (by kernel_rfl) (by kernel_rfl) (by kernel_rfl) (fun _ _ _ h => h) (Or.inr ⟨by kernel_rfl, rfl⟩) (by assumption) ?_
  try simp only [List.getElem_toArray]
  try simp only [List.getElem_cons_succ]
  try simp only [List.getElem_cons_zero]
  try simp only [Act.put]
  try simp only [List.setIfInBounds_toArray]
  try simp only [List.set_cons_succ]
  try simp only [List.set_cons_zero]
  refine wpAnyH_take (i := 8) rfl (by kernel_rfl) (by kernel_rfl) (by kernel_rfl) (fun _ _ _ h => h) (Or.inr ⟨by kernel_rfl, rfl⟩) (by assumption) ?_
  try simp only [List.getElem_toArray]
  try simp only [List.getElem_cons_succ]
  try simp only [List.getElem_cons_zero]
  try simp only [Act.put]
  try simp only [List.setIfInBounds_toArray]
  try simp only [List.set_cons_succ]
  try simp only [List.set_cons_zero]
  refine wpAnyH_take (i := 9) rfl (by kernel_rfl) (by kernel_rfl) (by kernel_rfl) (fun _ _ _ h => h) (Or.inr ⟨by kernel_rfl, rfl⟩) (by assumption) ?_
  try simp only [List.getElem_toArray]
  try simp only [List.getElem_cons_succ]
  try simp only [List.getElem_cons_zero]
  try simp only [Act.put]
  try simp only [List.setIfInBounds_toArray]
  try simp only [List.set_cons_succ]
  try simp only [List.set_cons_zero]
  refine wpAnyH_take (i := 10) rfl (by kernel_rfl) (by kernel_rfl) (by kernel_rfl) (fun _ _ _ h => h) (Or.inr ⟨by kernel_rfl, rfl⟩) (by assumption) ?_
  try simp only [List.getElem_toArray]
  try simp only [List.getElem_cons_succ]
  try simp only [List.getElem_cons_zero]
  try simp only [Act.put]
  try simp only [List.setIfInBounds_toArray]
  try simp only [List.set_cons_succ]
  try simp only [List.set_cons_zero]
  refine wpAnyH_take (i := 11) rfl (by kernel_rfl) (by kernel_rfl) (by kernel_rfl) (fun _ _ _ h => h) (Or.inr ⟨by kernel_rfl, rfl⟩) (by assumption) ?_
  try simp only [List.getElem_toArray]
  try simp only [List.getElem_cons_succ]
  try simp only [List.getElem_cons_zero]
  try simp only [Act.put]
  try simp only [List.setIfInBounds_toArray]
  try simp only [List.set_cons_succ]
  try simp only [List.set_cons_zero]
  refine wpAnyH_take (i := 12) rfl (by kernel_rfl) (by kernel_rfl) (by kernel_rfl) (fun _ _ _ h => h) (Or.inr ⟨by kernel_rfl, rfl⟩) (by assumption) ?_
  try simp only [List.getElem_toArray]
  try simp only [List.getElem_cons_succ]
  try simp only [List.getElem_cons_zero]
  try simp only [Act.put]
  try simp only [List.setIfInBounds_toArray]
  try simp only [List.set_cons_succ]
  try simp only [List.set_cons_zero]
  refine wpAnyH_take (i := 13) rfl (by kernel_rfl) (by kernel_rfl) (by kernel_rfl) (fun _ _ _ h => h) (Or.inr ⟨by kernel_rfl, rfl⟩) (by assumption) ?_
  try simp only [List.getElem_toArray]
  try simp only [List.getElem_cons_succ]
  try simp only [List.getElem_cons_zero]
  try simp only [Act.put]
  try simp only [List.setIfInBounds_toArray]
  try simp only [List.set_cons_succ]
  try simp only [List.set_cons_zero]
  refine wpAnyH_take (i := 14) rfl (by kernel_rfl) (by kernel_rfl) (by kernel_rfl) (fun _ _ _ h => h) (Or.inr ⟨by kernel_rfl, rfl⟩) (by assumption) ?_
  try simp only [List.getElem_toArray]
  try simp only [List.getElem_cons_succ]
  try simp only [List.getElem_cons_zero]
  try simp only [Act.put]
  try simp only [List.setIfInBounds_toArray]
  try simp only [List.set_cons_succ]
  try simp only [List.set_cons_zero]
  refine wpAnyH_take (i := 15) rfl (by kernel_rfl) (by kernel_rfl) (by kernel_rfl) (fun _ _ _ h => h) (Or.inr ⟨by kernel_rfl, rfl⟩) (by assumption) ?_
  try simp only [List.getElem_toArray]
  try simp only [List.getElem_cons_succ]
  try simp only [List.getElem_cons_zero]
  try simp only [Act.put]
  try simp only [List.setIfInBounds_toArray]
  try simp only [List.set_cons_succ]
  try simp only [List.set_cons_zero]
  refine wpAnyH_take (i := 16) rfl (by kernel_rfl) (by kernel_rfl) (by kernel_rfl) (fun _ _ _ h => h) (Or.inr ⟨by kernel_rfl, rfl⟩) (by assumption) ?_
  try simp only [List.getElem_toArray]
  try simp only [List.getElem_cons_succ]
  try simp only [List.getElem_cons_zero]
  try simp only [Act.put]
  try simp only [List.setIfInBounds_toArray]
  try simp only [List.set_cons_succ]
  try simp only [List.set_cons_zero]
  refine wpAnyH_take (i := 17) rfl (by kernel_rfl) (by kernel_rfl) (by kernel_rfl) (fun _ _ _ h => h) (Or.inr ⟨by kernel_rfl, rfl⟩) (by assumption) ?_
  try simp only [List.getElem_toArray]
  try simp only [List.getElem_cons_succ]
  try simp only [List.getElem_cons_zero]
  try simp only [Act.put]
  try simp only [List.setIfInBounds_toArray]
  try simp only [List.set_cons_succ]
  try simp only [List.set_cons_zero]
  refine wpAnyH_take (i := 18) rfl (by kernel_rfl) (by kernel_rfl) (by kernel_rfl) (fun _ _ _ h => h) (Or.inr ⟨by kernel_rfl, rfl⟩) (by assumption) ?_
  try simp only [List.getElem_toArray]
  try simp only [List.getElem_cons_succ]
  try simp only [List.getElem_cons_zero]
  try simp only [Act.put]
  try simp only [List.setIfInBounds_toArray]
  try simp only [List.set_cons_succ]
  try simp only [List.set_cons_zero]
  refine wpAnyH_take (i := 19) (v := .bool true) rfl (by kernel_rfl) (by kernel_rfl) (by kernel_rfl) (fun _ _ _ h => h) (Or.inl ⟨by kernel_rfl, fun W hSW => by go_simp; try with_reducible rfl⟩) (by assumption) ?_
  try simp only [List.getElem_toArray]
  try simp only [List.getElem_cons_succ]
  try simp only [List.getElem_cons_zero]
  try simp only [Act.put]
  try simp only [List.setIfInBounds_toArray]
  try simp only [List.set_cons_succ]
  try simp only [List.set_cons_zero]
  refine wpAnyH_take (i := 20) (v := .bool true) rfl (by kernel_rfl) (by kernel_rfl) (by kernel_rfl) (fun _ _ _ h => h) (Or.inl ⟨by kernel_rfl, fun W hSW => by go_simp; try with_reducible rfl⟩) (by assumption) ?_
  try simp only [List.getElem_toArray]
  try simp only [List.getElem_cons_succ]
  try simp only [List.getElem_cons_zero]
  try simp only [Act.put]
  try simp only [List.setIfInBounds_toArray]
  try simp only [List.set_cons_succ]
  try simp only [List.set_cons_zero]
  refine wpAnyH_take (i := 21) (v := .bool true) rfl (by kernel_rfl) (by kernel_rfl) (by kernel_rfl) (fun _ _ _ h => h) (Or.inl ⟨by kernel_rfl, fun W hSW => by go_simp; try with_reducible rfl⟩) (by assumption) ?_
  try simp only [List.getElem_toArray]
  try simp only [List.getElem_cons_succ]
  try simp only [List.getElem_cons_zero]
  try simp only [Act.put]
  try simp only [List.setIfInBounds_toArray]
  try simp only [List.set_cons_succ]
  try simp only [List.set_cons_zero]
  refine wpAnyH_done (by kernel_rfl) ?_ _
  go_wp2
  go_ret
  exact ⟨rfl, SK.below' (by assumption)⟩

theorem cookieEpochs_walk (s : ByteArray) (m : List UInt8) (v : ByteArray) (t d : Int) (hs : s.size ≤ 140737488351232) (hm : m.length = 6) (hv : v.size ≤ 140737488351232) (wt : (Lit.int .i64 t).wf = true) (wd : (Lit.int .i64 d).wf = true) (w : World) (hT : Tables w) :
    Calls Tryd.prog 5 #[.string s, .agg (Lib.byteCells m).toArray, .string v, .int .i64 t, .int .i64 d] w fun r w' => r = .returned (.bool true) ∧ Below w.heap.size w w' := by
  obtain ⟨ht1, ht2⟩ := bounds_i64 wt
  obtain ⟨hd1, hd2⟩ := bounds_i64 wd
  by_cases g1 : 3000 < s.size + v.size
  · exact cookieEpochs_out s v m t d w hT hs hv (Or.inl g1)
  by_cases g2 : d < 0
  · exact cookieEpochs_out s v m t d w hT hs hv (Or.inr (Or.inl ⟨by omega, g2⟩))
  by_cases g3 : 63 < d
  · exact cookieEpochs_out s v m t d w hT hs hv (Or.inr (Or.inr (Or.inl ⟨by omega, g3⟩)))
  by_cases g4 : 4611686018427387904 < t
  · exact cookieEpochs_out s v m t d w hT hs hv (Or.inr (Or.inr (Or.inr (Or.inl ⟨by omega, by omega, by omega, g4⟩))))
  by_cases g5 : t < -4611686018427387904
  · exact cookieEpochs_out s v m t d w hT hs hv (Or.inr (Or.inr (Or.inr (Or.inr ⟨by omega, by omega, by omega, g5⟩))))
  have HS := SK.first (m := m) hT
  have M0 := fun W h => make_any s v m hm t (by omega) (by omega) W h
  have M1 := fun W h => make_any s v m hm (t + d) (by omega) (by omega) W h
  have E0 := fun (W : World) (_ : Tables W) => epoch_any t W
  have E1 := fun (W : World) (_ : Tables W) => epoch_any (t + d) W
  have E2 := fun (W : World) (_ : Tables W) => epoch_any (t + 64) W
  obtain ⟨x0, x1, x2, x3, x4, x5, hx⟩ := six hm
  have hh := fun (W : World) (h : SK w w.heap.size m W) => h.six hx
  rw [hx] at M0 M1 HS ⊢
  unfold makeF at M0 M1
  have h2 : (t + 64) / 64 = t / 64 + 1 := by omega
  rcases (show (t + d) / 64 = t / 64 ∨ (t + d) / 64 = t / 64 + 1 by omega) with h | h
  · rw [h] at M1 E1
    exact cookieEpochs_same ⟨by omega, by omega, by omega, by omega, by omega, hh, HS, ⟨alive_any⟩, ⟨M0⟩, ⟨M1⟩, ⟨E0⟩, ⟨E1⟩, ⟨E2⟩, by omega, by omega, h2⟩
  · rw [h] at M1 E1
    exact cookieEpochs_next ⟨by omega, by omega, by omega, by omega, by omega, hh, HS, ⟨alive_any⟩, ⟨M0⟩, ⟨M1⟩, ⟨E0⟩, ⟨E1⟩, ⟨E2⟩, by omega, by omega, h2⟩
end Go.Proofs.YtailkoophlgnbaaDoor
