/- A literal of a map of rows: each operation hands on what holds; what is there at the end. -/
import Derived.Test.YtcmdfcdmfdheeaaAuLit
namespace Go.Proofs.Ytcmdfcdmfdheeaa
open Go.RowKit

def also (L : Nat → Bool) (i : Nat) : Nat → Bool := fun j => if j = i then true else L j
theorem also_old {L : Nat → Bool} {i j : Nat} (h : also L i j = true) (hj : j ≠ i) : L j = true := by simpa [also, hj] using h

section
variable {w0 w w' : World} {N : Nat} {ds : List Deferred} {sps : List Sp} {L : Nat → Bool} {a : Act} {i : Nat} {q : Sp}

theorem Came.put (h : Came w0 N ds sps L a w) (F : Fits sps N) (hi : sps[i]? = some q) (hL : L i = false) (hk : q.kind ≠ 4) (hw : Kept (fun _ => False) w w') {v : Value}
    (h1 : q.kind = 1 → v = keyV q.r.s q.r.e) (h2 : q.kind = 2 → OwnI w' w0.heap.size v q.r.acts) (h3 : q.kind = 3 → ∃ u, v = .agg #[.int .i64 q.r.n, u] ∧ OwnI w' w0.heap.size u q.r.acts) : Came w0 N ds sps (also L i) (a.put (some q.dst) v) w' := by
  have hlt : q.dst < a.tmps.size := by
    rw [h.size]
    have := F.ok q (List.mem_of_getElem? hi)
    unfold Sp.ok at this
    simp only [Bool.and_eq_true, decide_eq_true_eq] at this
    exact this.1.1.1.1
  have hself := slot_put a v hlt
  have hold : ∀ (j : Nat) (p : Sp), sps[j]? = some p → j ≠ i → p.kind ≠ 4 → slot (a.put (some q.dst) v) p.dst = slot a p.dst := fun j p hp hj hp4 => slot_put_ne a v (Ne.symm (F.ssa j i p q hp hi hj hp4 hk))
  refine ⟨h.kept.trans hw, by rw [size_put]; exact h.size, by rw [defers_put]; exact h.defers, fun j p hp hl hk1 => ?_, fun j p hp hl hk2 => ?_, fun j p hp hl hk3 => ?_⟩
  · by_cases hj : j = i
    · subst hj
      rw [hi] at hp
      cases hp
      rw [hself]
      exact h1 hk1
    · rw [hold j p hp hj (by omega)]
      exact h.key j p hp (also_old hl hj) hk1
  · by_cases hj : j = i
    · subst hj
      rw [hi] at hp
      cases hp
      rw [hself]
      exact h2 hk2
    · rw [hold j p hp hj (by omega)]
      exact (h.list j p hp (also_old hl hj) hk2).kept0 hw
  · by_cases hj : j = i
    · subst hj
      rw [hi] at hp
      cases hp
      rw [hself]
      exact h3 hk3
    · rw [hold j p hp hj (by omega)]
      obtain ⟨u, e, ho⟩ := h.entry j p hp (also_old hl hj) hk3
      exact ⟨u, e, ho.kept0 hw⟩

theorem Made.put {n mb : Nat} {M : List (Value × Value)} (h : Made w0 sps L a w (n + 1) mb M) (F : Fits sps N) (hs : a.tmps.size = N) (hi : sps[i]? = some q) (hL : L i = false) (hk : q.kind ≠ 4) (hw : Kept (fun _ => False) w w') {v : Value}
    (hm : (q.kind = 0 ∨ 5 ≤ q.kind) → v = .map (some mb)) : Made w0 sps (also L i) (a.put (some q.dst) v) w' n mb M := by
  have hlt : q.dst < a.tmps.size := by
    rw [hs]
    have := F.ok q (List.mem_of_getElem? hi)
    unfold Sp.ok at this
    simp only [Bool.and_eq_true, decide_eq_true_eq] at this
    exact this.1.1.1.1
  refine ⟨h.lo, h.assoc.same (hw.block mb h.assoc.lt id), by have := h.room; omega, fun j p hp hl hk0 => ?_, fun j p hp hl hk4 => ?_, fun p hp => ?_⟩
  · by_cases hj : j = i
    · subst hj
      rw [hi] at hp
      cases hp
      rw [slot_put a v hlt]
      exact hm hk0
    · rw [slot_put_ne a v (Ne.symm (F.ssa j i p q hp hi hj (by omega) hk))]
      exact h.maps j p hp (also_old hl hj) hk0
  · by_cases hj : j = i
    · subst hj
      rw [hi] at hp
      cases hp
      exact absurd hk4 hk
    · obtain ⟨u, e, ho⟩ := h.ins j p hp (also_old hl hj) hk4
      exact ⟨u, e, ho.kept0 hw⟩
  · obtain ⟨j, p', e1, e2, e3, e4⟩ := h.only p hp
    exact ⟨j, p', e1, by unfold also; split <;> simp_all, e3, e4⟩

/-- An entry is put into the map. -/
theorem Came.ins {mb : Nat} (h : Came w0 N ds sps L a w) (hi : sps[i]? = some q) (hk : q.kind = 4) (hm : ∃ es c, w.heap[mb]? = some (.map es c)) (hlo : w0.heap.size ≤ mb) (hw : Kept (fun k => k = mb) w w') : Came w0 N ds sps (also L i) a w' := by
  have hown : ∀ {v : Value} {l : List Int}, OwnI w w0.heap.size v l → OwnI w' w0.heap.size v l := fun ho => ho.kept hw (fun j hj e => by
    subst e
    obtain ⟨⟨cur, h1⟩, _⟩ := ho.block hj
    obtain ⟨es, c, h2⟩ := hm
    rw [h1] at h2
    cases h2)
  have hne : ∀ (j : Nat) (p : Sp), sps[j]? = some p → p.kind ≠ 4 → j ≠ i := fun j p hp hp4 e => by
    subst e
    rw [hi] at hp
    cases hp
    exact hp4 hk
  refine ⟨h.kept.andThen hw (fun j hj e => by omega), h.size, h.defers, fun j p hp hl hk1 => ?_, fun j p hp hl hk2 => ?_, fun j p hp hl hk3 => ?_⟩
  · exact h.key j p hp (also_old hl (hne j p hp (by omega))) hk1
  · exact hown (h.list j p hp (also_old hl (hne j p hp (by omega))) hk2)
  · obtain ⟨u, e, ho⟩ := h.entry j p hp (also_old hl (hne j p hp (by omega))) hk3
    exact ⟨u, e, hown ho⟩

def Phase (w0 : World) (sps : List Sp) (n : Nat) (L : Nat → Bool) (a : Act) (w : World) : Prop :=
  (L 0 = false ∧ ∀ (i : Nat) (q : Sp), sps[i]? = some q → L i = true → 1 ≤ q.kind ∧ q.kind ≤ 3) ∨ (L 0 = true ∧ ∃ mb M, Made w0 sps L a w n mb M)
theorem Phase.put {n : Nat} (h : Phase w0 sps (n + 1) L a w) (F : Fits sps N) (hs : a.tmps.size = N) (hi : sps[i]? = some q) (hL : L i = false) (h0 : i ≠ 0) (hk1 : 1 ≤ q.kind) (hk3 : q.kind ≤ 3) (hw : Kept (fun _ => False) w w') (v : Value) : Phase w0 sps n (also L i) (a.put (some q.dst) v) w' := by
  have e0 : also L i 0 = L 0 := by simp [also, h0.symm]
  rcases h with ⟨hz, hall⟩ | ⟨hz, mb, M, hM⟩
  · refine Or.inl ⟨e0.trans hz, fun j p hp hl => ?_⟩
    by_cases hj : j = i
    · subst hj
      rw [hi] at hp
      cases hp
      exact ⟨hk1, hk3⟩
    · exact hall j p hp (also_old hl hj)
  · exact Or.inr ⟨e0.trans hz, mb, M, hM.put F hs hi hL (by omega) hw (fun h => by omega)⟩

theorem step_value {P : Program} {ops : Array Oper} {Q : Exit → Act → World → Prop} {K : Act → World → Prop} {o : Oper} {v : Value} (ho : ops[i]? = some o) (hg : o.guard = none) (hr : (execOp a.eval o).run P w = .ok (.value v) w') (h : K (a.put o.dst v) w') : wpOp P ops Q i K a w := by
  unfold wpOp
  rw [ho]
  simp only [Region.wanted, hg, if_true]
  left
  unfold Oper.wp
  rw [hr]
  exact h
theorem step_skip' {P : Program} {ops : Array Oper} {Q : Exit → Act → World → Prop} {K : Act → World → Prop} {o : Oper} (ho : ops[i]? = some o) (hg : o.guard = none) (hr : (execOp a.eval o).run P w = .ok .skip w') (h : K (a.put o.dst undef) w') : wpOp P ops Q i K a w := by
  unfold wpOp
  rw [ho]
  simp only [Region.wanted, hg, if_true]
  left
  unfold Oper.wp
  rw [hr]
  exact h
end

theorem parts_eval' (a : Act) (zs : List Int) : (((zs.zipIdx 0).map fun x => (x.2, Operand.const (Value.int .i64 x.1))).toArray.map fun (i, x) => (i, a.eval x)) = (((zs.map (Value.int .i64)).zipIdx 0).map fun x => (x.2, x.1)).toArray := by
  have h := parts_eval a ((zs.zipIdx 0).map fun x => (x.2, Operand.const (Value.int .i64 x.1))).toArray .i64 zs rfl
  rw [← h]

set_option maxHeartbeats 1000000 in
theorem lit_step {sps : List Sp} {N : Nat} (F : Fits sps N) (h0 : ∃ q, sps[0]? = some q ∧ q.kind = 0 ∧ q.dst = 1) (pos : String) (w0 : World) (ds : List Deferred) (Q : Exit → Act → World → Prop) (n : Nat) (L : Nat → Bool) (a : Act) (w : World) (i : Nat) (o : Oper)
    (hI : LitInv w0 N ds sps (n + 1) L a w) (ho : ((sps.map (Sp.oper pos)).toArray)[i]? = some o) (hL : L i = false) (he : ∀ e ∈ o.after, Region.binds .any e = true → L e.on = true) :
    wpOp Try.prog (sps.map (Sp.oper pos)).toArray Q i (fun a' w' => LitInv w0 N ds sps n (also L i) a' w') a w := by
  obtain ⟨q, hq, rfl⟩ : ∃ q, sps[i]? = some q ∧ q.oper pos = o := by
    rw [List.getElem?_toArray, List.getElem?_map] at ho
    cases hq : sps[i]? with
    | none => rw [hq] at ho; cases ho
    | some q => rw [hq] at ho; exact ⟨q, rfl, Option.some.inj ho⟩
  have hok := F.ok q (List.mem_of_getElem? hq)
  have hqi := F.num i q hq
  obtain ⟨⟨kind, qi, dst, x, y, z, ix, iy, iz, r⟩, hqq⟩ : ∃ q', q' = q := ⟨q, rfl⟩
  subst hqq
  simp only at hqi
  subst hqi
  unfold Sp.ok at hok
  simp only [Bool.and_eq_true, decide_eq_true_eq] at hok
  obtain ⟨⟨⟨⟨hlt, haf⟩, h64s⟩, h64e⟩, hkd⟩ := hok
  have hb : ∀ e ∈ (Sp.mk kind qi dst x y z ix iy iz r).after, L e.on = true := fun e hem => he e hem (by
    rw [Array.all_eq_true_iff_forall_mem] at haf
    have := haf e hem
    simp only [Bool.and_eq_true] at this
    exact this.2)
  obtain ⟨hnn, hC, hD⟩ := hI
  have hnn' : n ≤ sps.length := by omega
  obtain ⟨qm, hqm0, hqm1, hqm2⟩ := h0
  have hi0 : kind ≠ 0 → qi ≠ 0 := fun hk e => by
    subst e
    rw [hq] at hqm0
    cases hqm0
    exact hk hqm1
  match kind, hq, ho, he, haf, hb, hkd, hi0 with
  | 0, hq, ho, he, haf, hb, hkd, hi0 =>
    simp only [beq_iff_eq] at hkd
    subst hkd
    refine step_value (v := .map (some w.heap.size)) (w' := w.alloc (.map #[] 0)) ho rfl (by simp [execOp, Sp.oper, Sp.op, run_makeMap]) ?_
    have hw : Kept (fun _ => False) w (w.alloc (.map #[] 0)) := (Kept.refl _ w).alloc _
    refine ⟨hnn', hC.put F hq hL (by simp) hw (fun h => by cases h) (fun h => by cases h) (fun h => by cases h), Or.inr ⟨by simp [also], w.heap.size, [], ?_⟩⟩
    rcases hD with ⟨hz, hall⟩ | ⟨hz, _⟩
    · refine ⟨hC.kept.size, Assoc.made w _ _, by simpa using hnn', fun j p hp hl hk0 => ?_, fun j p hp hl hk4 => ?_, fun p hp => by cases hp⟩
      · by_cases hj : j = 0
        · subst hj
          rw [hq] at hp
          cases hp
          exact slot_put a _ (by rw [hC.size]; exact hlt)
        · have := hall j p hp (also_old hl hj)
          omega
      · by_cases hj : j = 0
        · subst hj
          rw [hq] at hp
          cases hp
          cases hk4
        · have := hall j p hp (also_old hl hj)
          omega
    · rw [hL] at hz
      cases hz
  | 1, hq, ho, he, haf, hb, hkd, hi0 =>
    refine step_value (v := keyV r.s r.e) (w' := w) ho rfl (by simp [execOp, Sp.oper, Sp.op, Act.eval, build_key]) ?_
    exact ⟨hnn', hC.put F hq hL (by simp) (Kept.refl _ w) (fun _ => rfl) (fun h => by cases h) (fun h => by cases h), Phase.put hD F hC.size hq hL (hi0 (by simp)) (by simp) (by simp) (Kept.refl _ w) _⟩
  | 2, hq, ho, he, haf, hb, hkd, hi0 =>
    simp only [Bool.and_eq_true, decide_eq_true_eq] at hkd
    refine step_value (v := .slice (some ⟨w.heap.size, 0, none⟩) r.acts.length r.acts.length) (w' := w.alloc (.cells (intCells r.acts).toArray 3)) ho rfl ?_ ?_
    · have e := parts_eval' a r.acts
      have e2 := build_list r.acts hkd.1 hkd.2 w
      rw [← e] at e2
      simp only [execOp, Sp.oper, Sp.op]
      simp only [Sem.run_bind, e2, Result.andThen_ok]
      rfl
    · have hw : Kept (fun _ => False) w (w.alloc (.cells (intCells r.acts).toArray 3)) := (Kept.refl _ w).alloc _
      exact ⟨hnn', hC.put F hq hL (by simp) hw (fun h => by cases h) (fun _ => own_new r.acts hkd.2 w _ hC.kept.size) (fun h => by cases h), Phase.put hD F hC.size hq hL (hi0 (by simp)) (by simp) (by simp) hw _⟩
  | 3, hq, ho, he, haf, hb, hkd, hi0 =>
    obtain ⟨u, hu, hou⟩ : ∃ u, a.eval (listOp r.acts y) = u ∧ OwnI w w0.heap.size u r.acts := by
      cases hr : r.acts with
      | nil => exact ⟨_, rfl, OwnI.nil _ _⟩
      | cons x0 xs =>
        simp only [hr] at hkd
        obtain ⟨p, hp, hp1, hp2, hp3⟩ := wrote_of hkd
        have hLp : L iy = true := hb ⟨iy, .data⟩ (by simp [Sp.after, hr])
        have := hC.list iy p hp hLp hp1
        rw [hp2, hp3, hr] at this
        exact ⟨_, rfl, this⟩
    obtain ⟨pu, cu, rfl⟩ := hou.slice
    refine step_value (v := .agg #[.int .i64 r.n, .slice pu r.acts.length cu]) (w' := w) ho rfl ?_ ?_
    · simp only [execOp, Sp.oper, Sp.op]
      have e2 := build_entry r.n pu r.acts.length cu w
      rw [← hu] at e2
      simp only [List.map_toArray, List.map_cons, List.map_nil, Sem.run_bind]
      rw [show a.eval (.const (.int .i64 r.n)) = .int .i64 r.n from rfl, e2, hu]
      rfl
    · exact ⟨hnn', hC.put F hq hL (by simp) (Kept.refl _ w) (fun h => by cases h) (fun h => by cases h) (fun _ => ⟨_, rfl, hou⟩), Phase.put hD F hC.size hq hL (hi0 (by simp)) (by simp) (by simp) (Kept.refl _ w) _⟩
  | 4, hq, ho, he, haf, hb, hkd, hi0 =>
    simp only [Bool.and_eq_true, beq_iff_eq] at hkd
    obtain ⟨⟨⟨rfl, rfl⟩, hw1⟩, hw2⟩ := hkd
    obtain ⟨p1, hp1, hp1k, hp1d, hp1r⟩ := wrote_of hw1
    obtain ⟨p2, hp2, hp2k, hp2d, hp2r⟩ := wrote_of hw2
    have hL0 : L 0 = true := hb ⟨0, .data⟩ (by simp [Sp.after])
    have hL1 : L iy = true := hb ⟨iy, .data⟩ (by simp [Sp.after])
    have hL2 : L iz = true := hb ⟨iz, .data⟩ (by simp [Sp.after])
    rcases hD with ⟨hz, _⟩ | ⟨_, mb, M, hM⟩
    · rw [hL0] at hz
      cases hz
    · have e1 := hC.key iy p1 hp1 hL1 hp1k
      obtain ⟨u, e2, hou⟩ := hC.entry iz p2 hp2 hL2 hp2k
      have e0 := hM.maps 0 qm hqm0 hL0 (Or.inl hqm1)
      rw [hp1d, hp1r] at e1
      rw [hp2d, hp2r] at e2
      rw [hp2r] at hou
      rw [hqm2] at e0
      obtain ⟨kl, hkl⟩ := key_reads (in64_of h64s) (in64_of h64e)
      have hfar : ∀ p ∈ M, p.1 ≠ keyV r.s r.e := fun p hp e => by
        obtain ⟨j, q', h1, h2, h3, h4⟩ := hM.only p hp
        have hj : j ≠ qi := fun e => by
          subst e
          rw [hL] at h2
          cases h2
        exact F.keys j qi q' _ h1 hq hj h3 rfl (h4.symm.trans e)
      obtain ⟨w', hrun, hA, hT⟩ := hM.assoc.store (e := 119) keyLaw Try.underlying121 (by have := hM.room; have := F.small; unfold maxLen; omega) (val := .agg #[.int .i64 r.n, u]) hkl (Or.inl ⟨List.Perm.refl M, hfar⟩)
      have hk : Kept (fun k => k = mb) w w' := (Kept.refl _ w).grown hT.grown (fun j hj => Or.inr (Option.some.inj hj).symm)
      refine step_skip' (w' := w') ho rfl ?_ ?_
      · simp only [execOp, Sp.oper, Sp.op, Act.eval]
        rw [show a.tmps.getD 1 undef = .map (some mb) from e0, show a.tmps.getD y undef = keyV r.s r.e from e1, show a.tmps.getD z undef = .agg #[.int .i64 r.n, u] from e2]
        simp only [Sem.run_bind, hrun, Result.andThen_ok]
        rfl
      · have hmap : ∃ es c, w.heap[mb]? = some (.map es c) := by
          obtain ⟨es, c, h1, _⟩ := hM.assoc
          exact ⟨es, c, h1⟩
        have hown : ∀ {v : Value} {l : List Int}, OwnI w w0.heap.size v l → OwnI w' w0.heap.size v l := fun ho => ho.kept hk (fun j hj e => by
          subst e
          obtain ⟨⟨cur, h1⟩, _⟩ := ho.block hj
          obtain ⟨es, c, h2⟩ := hmap
          rw [h1] at h2
          cases h2)
        refine ⟨hnn', hC.ins hq rfl hmap hM.lo hk, Or.inr ⟨by simp [also, hL0], mb, _, hM.lo, hA, by have := hM.room; simp; omega, fun j p hp hl hk0 => ?_, fun j p hp hl hk4 => ?_, fun p hp => ?_⟩⟩
        · refine hM.maps j p hp (also_old hl (fun e => ?_)) hk0
          subst e
          rw [hq] at hp
          cases hp
          simp at hk0
        · by_cases hj : j = qi
          · subst hj
            rw [hq] at hp
            cases hp
            exact ⟨u, List.mem_cons_self .., hown hou⟩
          · obtain ⟨u', h1, h2⟩ := hM.ins j p hp (also_old hl hj) hk4
            exact ⟨u', List.mem_cons_of_mem _ h1, hown h2⟩
        · rcases List.mem_cons.1 hp with rfl | hp
          · exact ⟨qi, _, hq, by simp [also], rfl, rfl⟩
          · obtain ⟨j, p', h1, h2, h3, h4⟩ := hM.only p hp
            exact ⟨j, p', h1, by unfold also; split <;> simp_all, h3, h4⟩
  | 5, hq, ho, he, haf, hb, hkd, hi0 =>
    simp only [Bool.and_eq_true, beq_iff_eq] at hkd
    obtain ⟨rfl, rfl⟩ := hkd
    have hpos : 0 < qi := by have := hi0 (by simp); omega
    have hL0 : L 0 = true := hb ⟨0, .data⟩ (by simp [Sp.after, hpos])
    rcases hD with ⟨hz, _⟩ | ⟨_, mb, M, hM⟩
    · rw [hL0] at hz
      cases hz
    · have e0 := hM.maps 0 qm hqm0 hL0 (Or.inl hqm1)
      rw [hqm2] at e0
      refine step_value (v := .map (some mb)) (w' := w) ho rfl ?_ ?_
      · simp only [execOp, Sp.oper, Sp.op, Act.eval]
        rw [show a.tmps.getD 1 undef = .map (some mb) from e0]
        rfl
      · exact ⟨hnn', hC.put F hq hL (by simp) (Kept.refl _ w) (fun h => by cases h) (fun h => by cases h) (fun h => by cases h), Or.inr ⟨by simp [also, hL0], mb, M, hM.put F hC.size hq hL (by simp) (Kept.refl _ w) (fun _ => rfl)⟩⟩
  | 6, hq, ho, he, haf, hb, hkd, hi0 =>
    have hpos : 0 < qi := by have := hi0 (by simp); omega
    have hL0 : L 0 = true := hb ⟨0, .phase⟩ (by simp [Sp.after, hpos])
    have hLx : L ix = true := hb ⟨ix, .data⟩ (by simp [Sp.after])
    rcases hD with ⟨hz, _⟩ | ⟨_, mb, M, hM⟩
    · rw [hL0] at hz
      cases hz
    · simp only at hkd
      split at hkd
      · rename_i p hp
        simp only [Bool.and_eq_true, beq_iff_eq] at hkd
        have e0 := hM.maps ix p hp hLx (Or.inr (by omega))
        rw [hkd.2] at e0
        refine step_value (v := .map (some mb)) (w' := w) ho rfl ?_ ?_
        · simp only [execOp, Sp.oper, Sp.op, Act.eval]
          rw [show a.tmps.getD x undef = .map (some mb) from e0]
          rfl
        · exact ⟨hnn', hC.put F hq hL (by simp) (Kept.refl _ w) (fun h => by cases h) (fun h => by cases h) (fun h => by cases h), Or.inr ⟨by simp [also, hL0], mb, M, hM.put F hC.size hq hL (by simp) (Kept.refl _ w) (fun _ => rfl)⟩⟩
      · cases hkd
  | k + 7, hq, ho, he, haf, hb, hkd, hi0 => simp at hkd

/-- What a literal leaves: a map in a block of its own, an entry for each row, no other. -/
def LitIs (w0 w : World) (v : Value) (rs : List Rw) : Prop :=
  ∃ mb M, v = .map (some mb) ∧ w0.heap.size ≤ mb ∧ Assoc w Try.prog 124 mb M ∧ (∀ r ∈ rs, ∃ u, (keyV r.s r.e, .agg #[.int .i64 r.n, u]) ∈ M ∧ OwnI w w0.heap.size u r.acts) ∧ ∀ p ∈ M, ∃ r ∈ rs, p.1 = keyV r.s r.e

theorem lit_region (pos : String) (rs : List Rw) (N : Nat) (hok : okB (litSps rs) N = true) (hap : apartB (litSps rs) = true) (hrs : ((litSps rs).filter (fun q => q.kind == 4)).map (·.r) = rs) (hlast : (litSps rs).any (fun q => q.kind == 6 && q.dst == 0) = true)
    {Q : Exit → Act → World → Prop} {id : Nat} {a : Act} {w : World} (hN : a.tmps.size = N) (hQ : ∀ a' w', Kept (fun _ => False) w w' → a'.tmps.size = N → a'.defers = a.defers → (∃ v, slot a' 0 = v ∧ LitIs w w' v rs) → Q .normal a' w') :
    (Code.region id (litOps pos rs) true).wp Try.prog Q a w := by
  have F := fits_of hok hap
  have hsz : (litOps pos rs).size = (litSps rs).length := by simp [litOps]
  have hget : ∀ (i : Nat) (o : Oper), (litOps pos rs)[i]? = some o → ∃ q, (litSps rs)[i]? = some q ∧ q.oper pos = o := fun i o ho => by
    unfold litOps at ho
    rw [List.getElem?_toArray, List.getElem?_map] at ho
    cases hq : (litSps rs)[i]? with
    | none => rw [hq] at ho; cases ho
    | some q => rw [hq] at ho; exact ⟨q, rfl, Option.some.inj ho⟩
  refine wp_region_inv (fun n L a' w' => LitInv w N a.defers (litSps rs) n L a' w') (by kernel_rfl) ?_ ?_ ?_ ?_
  · intro i o ho e hem
    obtain ⟨q, hq, rfl⟩ := hget i o ho
    have h1 := F.ok q (List.mem_of_getElem? hq)
    have h2 := F.num i q hq
    unfold Sp.ok at h1
    simp only [Bool.and_eq_true, decide_eq_true_eq] at h1
    have h3 := h1.1.1.1.2
    rw [Array.all_eq_true_iff_forall_mem] at h3
    have h4 := h3 e hem
    simp only [Bool.and_eq_true, decide_eq_true_eq] at h4
    omega
  · intro n L a' w' i o hI ho hL he
    exact lit_step F ⟨_, rfl, rfl, rfl⟩ pos w a.defers Q n L a' w' i o hI ho hL he
  · intro n L a' w' hI hall
    rw [hsz] at hall
    obtain ⟨_, hC, hD⟩ := hI
    have h0 : L 0 = true := hall 0 (by simp [litSps])
    rcases hD with ⟨hz, _⟩ | ⟨_, mb, M, hM⟩
    · rw [h0] at hz
      cases hz
    · refine hQ a' w' hC.kept hC.size hC.defers ⟨_, rfl, mb, M, ?_, hM.lo, hM.assoc, fun r hr => ?_, fun p hp => ?_⟩
      · obtain ⟨q, hq, hqk⟩ := List.any_eq_true.1 hlast
        simp only [Bool.and_eq_true, beq_iff_eq] at hqk
        obtain ⟨i, hi⟩ := List.mem_iff_getElem?.1 hq
        have := hM.maps i q hi (hall i (List.getElem?_eq_some_iff.1 hi).1) (Or.inr (by omega))
        rw [hqk.2] at this
        exact this
      · rw [← hrs] at hr
        obtain ⟨q, hq, rfl⟩ := List.mem_map.1 hr
        rw [List.mem_filter] at hq
        obtain ⟨i, hi⟩ := List.mem_iff_getElem?.1 hq.1
        exact hM.ins i q hi (hall i (List.getElem?_eq_some_iff.1 hi).1) (by simpa using hq.2)
      · obtain ⟨i, q, h1, h2, h3, h4⟩ := hM.only p hp
        refine ⟨q.r, ?_, h4⟩
        rw [← hrs]
        exact List.mem_map.2 ⟨q, List.mem_filter.2 ⟨List.mem_of_getElem? h1, by simp [h3]⟩, rfl⟩
  · intro L hL
    rw [hsz] at hL ⊢
    have hno : ∀ (i : Nat) (q : Sp), (litSps rs)[i]? = some q → L i = true → False := fun i q hq hl => by
      rw [hL i (List.getElem?_eq_some_iff.1 hq).1] at hl
      cases hl
    exact ⟨Nat.le_refl _, ⟨(Kept.refl _ w).drew, hN, rfl, fun i q hq hl => (hno i q hq hl).elim, fun i q hq hl => (hno i q hq hl).elim, fun i q hq hl => (hno i q hq hl).elim⟩, Or.inl ⟨hL 0 (by simp [litSps]), fun i q hq hl => (hno i q hq hl).elim⟩⟩
end Go.Proofs.Ytcmdfcdmfdheeaa
