/- The contracts of the program's store: New, Wrong, Len, isShut, wrongAt; and a try as a plain function. -/
import Derived.Test.YtmbdjgfbhblifaaDoorKsMem
import Derived.Test.YtmbdjgfbhblifaaDoorSameS
import Derived.BigQuiet
namespace Go.Proofs.YtmbdjgfbhblifaaDoor
open Go.RowKit

def In64 (x : Int) : Prop := -9223372036854775808 ≤ x ∧ x ≤ 9223372036854775807
/-- A store whose numbers are small. -/
def FewA (A : Ab) : Prop := A.n ≤ 1000 ∧ ∀ q e, A.look q = some e → e.secret.size ≤ 1000000 ∧ 0 ≤ e.wrong ∧ e.wrong ≤ 1000000000000 ∧ In64 e.last
theorem fitS {s : ByteArray} (hs : s.size ≤ 1000000) : FitW (splitF s) := by
  have := splitF_size s
  unfold FitW maxLen
  omega
/-- A wrong try more. -/
def moreE (e : En) (time : Int) : En := ⟨e.secret, if e.wrong < 2147483647 then e.wrong + 1 else e.wrong, time⟩
/-- A try at the program's store. -/
def tryP (limit calm : Int) (A : Ab) (full : ByteArray) (good : ByteArray → Bool) (time : Int) : Int × Ab :=
  match A.look (splitF full) with
  | none => (30, A)
  | some e => if shutE limit calm e time = true then (20, A) else if good e.secret = true then (0, putA A (splitF full) ⟨e.secret, 0, 0⟩) else (30, putA A (splitF full) (moreE e time))

section
variable {w : World} {base b : Nat} {m : Option Nat} {limit calm : Int} {A : Ab}

theorem rec_field (a : ByteArray) (x y : Int) (W : World) : (Instr.field 54 (.agg #[.string a, .int .i64 x, .int .i64 y]) 1).run Tryd.prog W = .ok (.int .i64 x) W := by kernel_rfl
/-- What New leaves. -/
def KNew (limit calm : Int) (w : World) (e : Ending) (w' : World) : Prop :=
  (¬ (0 ≤ limit ∧ limit ≤ 100 ∧ 1 ≤ calm ∧ calm ≤ 1000) ∧ e = .returned (.tuple #[.pointer none, .int .i64 1]) ∧ w' = w) ∨
  ((0 ≤ limit ∧ limit ≤ 100 ∧ 1 ≤ calm ∧ calm ≤ 1000) ∧ e = .returned (.tuple #[.pointer (some ⟨w.heap.size, 0, none⟩), .int .i64 0]) ∧ w'.heap.size = w.heap.size + 1 ∧ Kept (fun _ => False) w w' ∧ ∀ base, KsIn w' base w.heap.size none limit calm empA)
set_option maxHeartbeats 1000000 in
set_option maxRecDepth 100000 in
theorem new_any (limit calm : Int) (w : World) : Calls Tryd.prog 6 #[.int .i64 limit, .int .i64 calm] w (KNew limit calm w) := by
  by_cases h1 : limit < 0
  · go_enter Tryd.func6, Tryd.ntmps6
    go_wp2
    go_ret2
    exact Or.inl ⟨by omega, rfl, rfl⟩
  · by_cases h2 : 100 < limit
    · go_enter Tryd.func6, Tryd.ntmps6
      go_wp2
      go_ret2
      exact Or.inl ⟨by omega, rfl, rfl⟩
    · by_cases h3 : calm < 1
      · go_enter Tryd.func6, Tryd.ntmps6
        go_wp2
        go_ret2
        exact Or.inl ⟨by omega, rfl, rfl⟩
      · by_cases h4 : 1000 < calm
        · go_enter Tryd.func6, Tryd.ntmps6
          go_wp2
          go_ret2
          exact Or.inl ⟨by omega, rfl, rfl⟩
        · go_enter Tryd.func6, Tryd.ntmps6
          go_wp2
          go_ret2
          exact Or.inr ⟨by omega, rfl, by simp, (Kept.refl _ w).alloc _, fun base => ⟨heap_alloc_new w _, fun _ => rfl, fun mb e => by cases e⟩⟩

set_option maxHeartbeats 1000000 in
set_option maxRecDepth 100000 in
theorem wrong_any (h : KsIn w base b m limit calm A) (s : ByteArray) (hs : s.size ≤ 1000000) :
    Calls Tryd.prog 15 #[.pointer (some ⟨b, 0, none⟩), .string s] w fun e w' => e = .returned (.int .i64 (wrongA A s)) ∧ Kept (fun _ => False) w w' := by
  have hq := fitS hs
  have HS := hid (fun W => split_any s (by omega) W)
  have q2 : ∀ W, Kept (fun _ => False) w W → W.cell? ⟨b, 2, none⟩ = some (.map m) := fun W hk => (h.kept0 hk).c2
  have q3 : ∀ W, Kept (fun _ => False) w W → (Instr.lookup 31 (.map m) (.agg #[.string (splitF s).1, .string (splitF s).2]) false).run Tryd.prog W = .ok (lookV (A.look (splitF s))) W := fun W hk => (h.kept0 hk).look1 hq
  have e0 : wrongA A s = ((A.look (splitF s)).getD en0).wrong := by
    unfold wrongA
    cases A.look (splitF s) <;> rfl
  rw [e0]
  unfold lookV recV at q3
  generalize (A.look (splitF s)).getD en0 = E at *
  generalize (splitF s).1 = n at *
  generalize (splitF s).2 = r at *
  clear h hq e0 hs
  have q4 := fun W => rec_field E.secret E.wrong E.last W
  go_enter Tryd.func15, Tryd.ntmps15
  go_wp2_with fail
  refine wp_region_held_drew (S := Kept (fun _ => False) w) (by kernel_rfl) ((Kept.refl _ w).drew) (fun hSd => ?_)
  refine wpAnyH_take (i := 0) (v := ?_) rfl (by kernel_rfl) (by kernel_rfl) (by kernel_rfl) (fun _ _ _ h => h) (Or.inl ⟨by kernel_rfl, fun W hSW => by go_simp; try with_reducible rfl⟩) (by assumption) ?_
  try simp only [List.getElem_toArray]
  try simp only [List.getElem_cons_succ]
  try simp only [List.getElem_cons_zero]
  try simp only [Act.put]
  try simp only [List.setIfInBounds_toArray]
  try simp only [List.set_cons_succ]
  try simp only [List.set_cons_zero]
  refine wpAnyH_take (i := 1) (v := ?_) rfl (by kernel_rfl) (by kernel_rfl) (by kernel_rfl) (fun _ _ _ h => h) (Or.inl ⟨by kernel_rfl, fun W hSW => by go_simp; try with_reducible rfl⟩) (by assumption) ?_
  try simp only [List.getElem_toArray]
  try simp only [List.getElem_cons_succ]
  try simp only [List.getElem_cons_zero]
  try simp only [Act.put]
  try simp only [List.setIfInBounds_toArray]
  try simp only [List.set_cons_succ]
  try simp only [List.set_cons_zero]
  refine wpAnyH_take (i := 2) (v := ?_) rfl (by kernel_rfl) (by kernel_rfl) (by kernel_rfl) (fun _ _ _ h => h) (Or.inl ⟨by kernel_rfl, fun W hSW => by go_simp; try with_reducible rfl⟩) (by assumption) ?_
  try simp only [List.getElem_toArray]
  try simp only [List.getElem_cons_succ]
  try simp only [List.getElem_cons_zero]
  try simp only [Act.put]
  try simp only [List.setIfInBounds_toArray]
  try simp only [List.set_cons_succ]
  try simp only [List.set_cons_zero]
  refine wpAnyH_take (i := 3) (v := ?_) rfl (by kernel_rfl) (by kernel_rfl) (by kernel_rfl) (fun _ _ _ h => h) (Or.inl ⟨by kernel_rfl, fun W hSW => by go_simp; try with_reducible rfl⟩) (by assumption) ?_
  try simp only [List.getElem_toArray]
  try simp only [List.getElem_cons_succ]
  try simp only [List.getElem_cons_zero]
  try simp only [Act.put]
  try simp only [List.setIfInBounds_toArray]
  try simp only [List.set_cons_succ]
  try simp only [List.set_cons_zero]
  refine wpAnyH_take (i := 4) (v := ?_) rfl (by kernel_rfl) (by kernel_rfl) (by kernel_rfl) (fun _ _ _ h => h) (Or.inl ⟨by kernel_rfl, fun W hSW => by go_simp; try with_reducible rfl⟩) (by assumption) ?_
  try simp only [List.getElem_toArray]
  try simp only [List.getElem_cons_succ]
  try simp only [List.getElem_cons_zero]
  try simp only [Act.put]
  try simp only [List.setIfInBounds_toArray]
  try simp only [List.set_cons_succ]
  try simp only [List.set_cons_zero]
  refine wpAnyH_ready (rs := [5]) (by kernel_rfl) (by simp) ?_
  refine AllReadyH.cons rfl (fun K hK => ?_) AllReadyH.nil
  go_simp
  refine (HS.out _).mono ?_
  rintro e w1 ⟨rfl, hk1⟩
  have hk2 : Kept (fun _ => False) w w1 := (Kept.refl (fun _ => False) w).drew.trans hk1
  refine hK.out _ _ (hk2) (fun _ => ?_)
  clear hK K
  try simp only [List.getElem_toArray]
  try simp only [List.getElem_cons_succ]
  try simp only [List.getElem_cons_zero]
  try simp only [Act.put]
  try simp only [List.setIfInBounds_toArray]
  try simp only [List.set_cons_succ]
  try simp only [List.set_cons_zero]
  refine wpAnyH_take (i := 6) (v := ?_) rfl (by kernel_rfl) (by kernel_rfl) (by kernel_rfl) (fun _ _ _ h => h) (Or.inl ⟨by kernel_rfl, fun W hSW => by go_simp; try with_reducible rfl⟩) (by assumption) ?_
  try simp only [List.getElem_toArray]
  try simp only [List.getElem_cons_succ]
  try simp only [List.getElem_cons_zero]
  try simp only [Act.put]
  try simp only [List.setIfInBounds_toArray]
  try simp only [List.set_cons_succ]
  try simp only [List.set_cons_zero]
  refine wpAnyH_take (i := 7) (v := ?_) rfl (by kernel_rfl) (by kernel_rfl) (by kernel_rfl) (fun _ _ _ h => h) (Or.inl ⟨by kernel_rfl, fun W hSW => by go_simp; try with_reducible rfl⟩) (by assumption) ?_
  try simp only [List.getElem_toArray]
  try simp only [List.getElem_cons_succ]
  try simp only [List.getElem_cons_zero]
  try simp only [Act.put]
  try simp only [List.setIfInBounds_toArray]
  try simp only [List.set_cons_succ]
  try simp only [List.set_cons_zero]
  refine wpAnyH_take (i := 8) (v := ?_) rfl (by kernel_rfl) (by kernel_rfl) (by kernel_rfl) (fun _ _ _ h => h) (Or.inl ⟨by kernel_rfl, fun W hSW => by go_simp; try with_reducible rfl⟩) (by assumption) ?_
  try simp only [List.getElem_toArray]
  try simp only [List.getElem_cons_succ]
  try simp only [List.getElem_cons_zero]
  try simp only [Act.put]
  try simp only [List.setIfInBounds_toArray]
  try simp only [List.set_cons_succ]
  try simp only [List.set_cons_zero]
  refine wpAnyH_done (by kernel_rfl) ?_ _
  go_wp2
  go_ret
  exact ⟨rfl, hk2⟩

set_option maxHeartbeats 1000000 in
set_option maxRecDepth 100000 in
theorem len_any (h : KsIn w base b m limit calm A) : Calls Tryd.prog 17 #[.pointer (some ⟨b, 0, none⟩)] w fun e w' => e = .returned (.int .i64 (A.n : Int)) ∧ w' = w := by
  have c2 := h.c2
  have hl := fun ty => h.len ty
  clear h
  go_enter Tryd.func17, Tryd.ntmps17
  go_wp2
  go_ret
  exact ⟨rfl, rfl⟩

set_option maxHeartbeats 2000000 in
set_option maxRecDepth 100000 in
theorem isShut_any (h : KsIn w base b m limit calm A) (hc : 0 ≤ calm ∧ calm ≤ 1000000) (k : En) (hk : In64 k.last) (time : Int) (ht : In64 time) :
    Calls Tryd.prog 32 #[.pointer (some ⟨b, 0, none⟩), recV k, .int .i64 time] w fun e w' => e = .returned (.bool (shutE limit calm k time)) ∧ Kept (fun _ => False) w w' := by
  obtain ⟨ks, kw, kl⟩ := k
  obtain ⟨hb1, hb2⟩ := hk
  obtain ⟨ht1, ht2⟩ := ht
  obtain ⟨hc1, hc2⟩ := hc
  simp only at hb1 hb2
  have B3 : Hid ((w.alloc (.cells #[.string ks, .int .i64 kw, .int .i64 kl] 54)).heap[w.heap.size]? = some (.cells #[.string ks, .int .i64 kw, .int .i64 kl] 54 (0, 0))) := heap_alloc_new w _
  have K1 := hid ((Kept.refl (fun _ => False) w).alloc (.cells #[.string ks, .int .i64 kw, .int .i64 kl] 54))
  have H1 := hid (h.kept0 K1.out)
  unfold shutE recV
  simp only
  clear h
  have fin : ∀ q : Bool, decide (limit ≠ 0 ∧ limit ≤ kw ∧ time - kl < calm) = q → Calls Tryd.prog 32 #[.pointer (some ⟨b, 0, none⟩), .agg #[.string ks, .int .i64 kw, .int .i64 kl], .int .i64 time] w fun e w' => e = .returned (.bool q) ∧ Kept (fun _ => False) w w' := by
    intro q hq
    have HQ := hid hq
    clear hq
    go_enter Tryd.func32, Tryd.ntmps32
    go_upto_region 1 with fail
    generalize w.alloc (.cells #[.string ks, .int .i64 kw, .int .i64 kl] 54) = W at *
    have m1 : W.cell? ⟨w.heap.size, 1, none⟩ = some (.int .i64 kw) := by simp [World.cell?, B3.out]
    have m2 : W.cell? ⟨w.heap.size, 2, none⟩ = some (.int .i64 kl) := by simp [World.cell?, B3.out]
    have q0 := H1.out.c0
    have q1 := H1.out.c1
    by_cases e0 : limit = 0
    · have e0' : (limit == 0) = true := by simp [e0]
      have hq : q = false := by rw [← HQ.out]; simp [e0]
      subst hq
      clear HQ e0
      go_quiet (fail)
      go_wp2
      go_ret
      exact ⟨rfl, K1.out.drewN _⟩
    · have e0' : (limit == 0) = false := by simpa using e0
      by_cases e1 : kw < limit
      · have hq : q = false := by rw [← HQ.out]; simp; intro _ h; omega
        subst hq
        clear HQ e0
        go_quiet (fail)
        go_wp2
        go_ret
        exact ⟨rfl, K1.out.drewN _⟩
      · by_cases e2 : time < kl
        · have hq : q = true := by rw [← HQ.out]; simp; exact ⟨e0, by omega, by omega⟩
          subst hq
          clear HQ e0
          go_quiet (fail)
          go_wp2
          go_quiet (fail)
          go_wp2
          go_ret
          exact ⟨rfl, (K1.out.drewN _).drewN _⟩
        · obtain ⟨T, hT⟩ : ∃ T, T = IntKind.u64.wrap time := ⟨_, rfl⟩
          obtain ⟨L, hL⟩ : ∃ L, L = IntKind.u64.wrap kl := ⟨_, rfl⟩
          have hw3 : IntKind.u64.wrap (T - L) = time - kl := by rw [hT, hL]; simp only [IntKind.wrap_u64]; omega
          have hw4 : IntKind.u64.wrap calm = calm := by rw [IntKind.wrap_u64]; omega
          replace hT := hT.symm
          replace hL := hL.symm
          by_cases e3 : time - kl < calm
          · have hq : q = true := by rw [← HQ.out]; simp; exact ⟨e0, by omega, by omega⟩
            subst hq
            clear HQ e0
            go_quiet (fail)
            go_wp2
            go_quiet (fail)
            go_wp2
            go_ret
            exact ⟨rfl, (K1.out.drewN _).drewN _⟩
          · have hq : q = false := by rw [← HQ.out]; simp; intro _ _; omega
            subst hq
            clear HQ e0
            go_quiet (fail)
            go_wp2
            go_quiet (fail)
            go_wp2
            go_ret
            exact ⟨congrArg (fun t => Ending.returned (Value.bool t)) (show (decide (time < kl) || decide (time - kl < calm)) = false by simp [e2, e3]), (K1.out.drewN _).drewN _⟩
  exact fin _ rfl

set_option maxHeartbeats 2000000 in
set_option maxRecDepth 100000 in
theorem wrongAt_any (k : En) (hk : 0 ≤ k.wrong ∧ k.wrong ≤ 1000000000000) (time : Int) (w : World) :
    Calls Tryd.prog 33 #[recV k, .int .i64 time] w fun e w' => e = .returned (recV (moreE k time)) ∧ Kept (fun _ => False) w w' := by
  obtain ⟨ks, kw, kl⟩ := k
  simp only at hk
  have hw1 : IntKind.i64.wrap (kw + 1) = kw + 1 := by rw [IntKind.wrap_i64]; omega
  have K1 := hid (((Kept.refl (fun _ => False) w).alloc (.cells #[.string ks, .int .i64 kw, .int .i64 kl] 54)))
  unfold recV moreE
  simp only
  by_cases h : kw < 2147483647
  · rw [if_pos h]
    go_enter Tryd.func33, Tryd.ntmps33
    go_wp2
    refine bodyPost_ret (v := .agg #[.string ks, .int .i64 (kw + 1), .int .i64 time]) (by simp [results, Tryd.results33, go_sem]) rfl ⟨rfl, ?_⟩
    first
    | exact ((Kept.refl _ w).alloc _).alloc _
    | exact (((Kept.refl _ w).alloc _).alloc _).setCell (Or.inl (by simp)) _
    | trace_state
  · rw [if_neg h]
    go_enter Tryd.func33, Tryd.ntmps33
    go_wp2
    refine bodyPost_ret (v := .agg #[.string ks, .int .i64 kw, .int .i64 time]) (by simp [results, Tryd.results33, go_sem]) rfl ⟨rfl, ?_⟩
    first
    | exact ((Kept.refl _ w).alloc _).alloc _
    | exact (((Kept.refl _ w).alloc _).alloc _).setCell (Or.inl (by simp)) _
    | trace_state
end
end Go.Proofs.YtmbdjgfbhblifaaDoor
