/- A literal of a map of rows (two ints as the key, an int as the element), made in a region that draws its order: whatever order is drawn, the map has one entry for each row. (Written by gen_avlit.py.) -/
import Derived.Test.YtkneogfeokckjaaGreatDoorProg
import Derived.Test.YtkneogfeokckjaaGreatDoorAuInv
import Derived.Test.YtkneogfeokckjaaGreatDoorAssoc
import Derived.Test.YtkneogfeokckjaaGreatDoorKept
import Derived.WalkKit
import Derived.WalkSpells
import Derived.WalkLawsBesides
import Derived.DeepKeys4
import Derived.Great.BuildSlice
namespace Go.Proofs.YtkneogfeokckjaaGreatDoor.AvLit
open Go.RowKit
open Go.Maps (Keyed)

def In64 (x : Int) : Prop := -9223372036854775808 ≤ x ∧ x ≤ 9223372036854775807
def keyV (k i : Int) : Value := .agg #[.int .i64 k, .int .i64 i]
theorem keyV_inj {k i k' i' : Int} (h : keyV k i = keyV k' i') : k = k' ∧ i = i' := by
  unfold keyV at h
  simp at h
  exact h
theorem laidOutT : laidOutB Tryz.prog = true := by kernel_rfl
theorem keyLaw : Keyed Tryz.prog 240 := Keyed.of_law (deep_law_laid laidOutT (m := 5) (by decide) (of_decide_eq_true (by kernel_rfl)) (by kernel_rfl) (by kernel_rfl))
theorem zeroEn (w : World) : (zeroValue 3).run Tryz.prog w = .ok (.int .i64 0) w := by kernel_rfl
theorem typesPos : ∃ n, Tryz.prog.types.size = n + 1 := ⟨Tryz.prog.types.size - 1, by have : 0 < Tryz.prog.types.size := of_decide_eq_true (by kernel_rfl); omega⟩
theorem keyTypeKey : Tryz.prog.keyType 240 = true := by kernel_rfl
theorem cellsKey : Tryz.prog.cellsOf 240 = 2 := by kernel_rfl
theorem cellsIntA : Tryz.prog.cellsOf 3 = 1 := by kernel_rfl
theorem wf64 {x : Int} (h : In64 x) : (Lit.int .i64 x).wf = true := WalkArith.wf_i64 h
theorem key_reads {k i : Int} (hk : In64 k) (hi : In64 i) : ∃ l, keyOf Tryz.prog 240 (keyV k i) = some l := by
  obtain ⟨n, hn⟩ := typesPos
  refine ⟨.string (keyBytes [.int .i64 k, .int .i64 i]), ?_⟩
  unfold keyOf keyV
  rw [hn]
  simp [Tryz.underlying240, keyTypeKey, cellsKey, cellsIntA, Value.formed, Value.cells, Program.keyLits, Tryz.underlying3, wf64 hk, wf64 hi]

/-! ### The operations of such a literal -/
/-- A row. -/
structure Rw where
  s : Int
  e : Int
  n : Int

/-- An operation: 0 the map, 1 a key, 2 a list, 3 an entry, 4 its insert, 5 and 6 the map handed on. x, y, z: the slots that it reads; iy, iz, ix: who writes them. -/
structure Sp where
  kind : Nat
  i : Nat
  dst : Nat
  x : Nat
  y : Nat
  z : Nat
  ix : Nat
  iy : Nat
  iz : Nat
  r : Rw

def Sp.op (q : Sp) : Op :=
  match q.kind with
  | 0 => .makeMap 237 none
  | 1 => .build 240 #[(0, .const (.int .i64 q.r.s)), (1, .const (.int .i64 q.r.e))]
  | 4 => .insert 237 (.tmp q.x) (.tmp q.y) (.const (.int .i64 q.r.n))
  | 5 => .move (.tmp q.x)
  | _ => .assign (.tmp q.x)

def Sp.after (q : Sp) : Array Edge :=
  match q.kind with
  | 4 => #[⟨q.ix, .data⟩, ⟨q.iy, .data⟩]
  | 5 => ((List.range q.i).map fun j => ⟨j, .data⟩).toArray
  | 6 => (⟨q.ix, .data⟩ :: (List.range q.i).map fun j => (⟨j, .phase⟩ : Edge)).toArray
  | _ => #[]

def Sp.oper (pos : String) (q : Sp) : Oper :=
  { dst := match q.kind with | 4 => none | _ => some q.dst, op := q.op, type := match q.kind with | 1 => 240 | 4 => 0 | _ => 237, pos := pos, after := q.after, guard := none }

def r0 : Rw := ⟨0, 0, 0⟩
def litGo : List Rw → Nat → Nat → List Sp
  | [], i, t => [⟨5, i, t, 1, 0, 0, 0, 0, 0, r0⟩, ⟨6, i + 1, 0, t, 0, 0, i, 0, 0, r0⟩]
  | r :: rs, i, t => ⟨1, i, t, 0, 0, 0, 0, 0, 0, r⟩ :: ⟨4, i + 1, 0, 1, t, 0, 0, i, 0, r⟩ :: litGo rs (i + 2) (t + 1)
def litSps (rs : List Rw) : List Sp := ⟨0, 0, 1, 0, 0, 0, 0, 0, 0, r0⟩ :: litGo rs 1 2
def litOps (pos : String) (rs : List Rw) : Array Oper := ((litSps rs).map (Sp.oper pos)).toArray

/-! ### What a literal's operations keep to -/
def rEq (p q : Rw) : Bool := decide (p.s = q.s) && decide (p.e = q.e) && decide (p.n = q.n)
theorem rEq_iff {p q : Rw} (h : rEq p q = true) : p = q := by
  obtain ⟨a, b, c⟩ := p
  obtain ⟨a', b', c'⟩ := q
  simp only [rEq, Bool.and_eq_true, decide_eq_true_eq] at h
  obtain ⟨⟨rfl, rfl⟩, rfl⟩ := h
  rfl

def in64B (x : Int) : Bool := decide (-9223372036854775808 ≤ x) && decide (x ≤ 9223372036854775807)
/-- The operation j writes the slot t, is of the kind k, and of the row r. -/
def wrote (sps : List Sp) (j k t : Nat) (r : Rw) : Bool := match sps[j]? with | some p => p.kind == k && p.dst == t && rEq p.r r | none => false
def Sp.ok (sps : List Sp) (N : Nat) (q : Sp) : Bool :=
  decide (q.dst < N) && q.after.all (fun e => decide (e.on < q.i) && Region.binds .any e) && in64B q.r.s && in64B q.r.e &&
  (match q.kind with
  | 0 => q.i == 0
  | 1 => true
  | 4 => q.ix == 0 && q.x == 1 && wrote sps q.iy 1 q.y q.r
  | 5 => q.ix == 0 && q.x == 1
  | 6 => match sps[q.ix]? with | some p => p.kind == 5 && p.dst == q.x | none => false
  | _ => false)

def okB (sps : List Sp) (N : Nat) : Bool := sps.all (Sp.ok sps N) && (sps.map (·.i) == List.range sps.length) && decide (sps.length ≤ 1000)
def apartB (sps : List Sp) : Bool := decide (sps.Pairwise fun p q => p.kind = 4 ∨ q.kind = 4 ∨ p.dst ≠ q.dst) && decide (sps.Pairwise fun p q => p.kind = 4 → q.kind = 4 → ¬ (p.r.s = q.r.s ∧ p.r.e = q.r.e))

theorem pair_of {sps : List Sp} {R : Sp → Sp → Prop} (hs : ∀ p q, R p q → R q p) (h : sps.Pairwise R) {i j : Nat} {p q : Sp} (hp : sps[i]? = some p) (hq : sps[j]? = some q) (hij : i ≠ j) : R p q := by
  obtain ⟨hi, rfl⟩ := List.getElem?_eq_some_iff.1 hp
  obtain ⟨hj, rfl⟩ := List.getElem?_eq_some_iff.1 hq
  have hh := List.pairwise_iff_getElem.1 h
  rcases Nat.lt_or_gt_of_ne hij with h1 | h1
  · exact hh i j hi hj h1
  · exact hs _ _ (hh j i hj hi h1)

/-- The same, in words. -/
structure Fits (sps : List Sp) (N : Nat) : Prop where
  ok : ∀ q ∈ sps, Sp.ok sps N q = true
  num : ∀ (i : Nat) (q : Sp), sps[i]? = some q → q.i = i
  small : sps.length ≤ 1000
  ssa : ∀ (i j : Nat) (p q : Sp), sps[i]? = some p → sps[j]? = some q → i ≠ j → p.kind ≠ 4 → q.kind ≠ 4 → p.dst ≠ q.dst
  keys : ∀ (i j : Nat) (p q : Sp), sps[i]? = some p → sps[j]? = some q → i ≠ j → p.kind = 4 → q.kind = 4 → keyV p.r.s p.r.e ≠ keyV q.r.s q.r.e

theorem fits_of {sps : List Sp} {N : Nat} (h : okB sps N = true) (h' : apartB sps = true) : Fits sps N := by
  simp only [okB, apartB, Bool.and_eq_true, List.all_eq_true, decide_eq_true_eq] at h h'
  obtain ⟨⟨h1, h2⟩, h3⟩ := h
  have h2' := eq_of_beq h2
  refine ⟨h1, fun i q hq => ?_, h3, fun i j p q hp hq hij hk hk' => ?_, fun i j p q hp hq hij hk hk' e => ?_⟩
  · have e1 : (sps.map (·.i))[i]? = some q.i := by rw [List.getElem?_map, hq]; rfl
    rw [h2'] at e1
    have hi := (List.getElem?_eq_some_iff.1 hq).1
    rw [List.getElem?_range hi] at e1
    exact (Option.some.inj e1).symm
  · rcases pair_of (fun p q h => by rcases h with h | h | h; exact Or.inr (Or.inl h); exact Or.inl h; exact Or.inr (Or.inr (Ne.symm h))) h'.1 hp hq hij with h | h | h
    · exact absurd h hk
    · exact absurd h hk'
    · exact h
  · exact pair_of (R := fun p q => p.kind = 4 → q.kind = 4 → ¬ (p.r.s = q.r.s ∧ p.r.e = q.r.e)) (fun p q h a b e => h b a ⟨e.1.symm, e.2.symm⟩) h'.2 hp hq hij hk hk' (keyV_inj e)

theorem wrote_of {sps : List Sp} {j k t : Nat} {r : Rw} (h : wrote sps j k t r = true) : ∃ p, sps[j]? = some p ∧ p.kind = k ∧ p.dst = t ∧ p.r = r := by
  unfold wrote at h
  split at h
  · rename_i p hp
    simp only [Bool.and_eq_true, beq_iff_eq] at h
    exact ⟨p, hp, h.1.1, h.1.2, rEq_iff h.2⟩
  · cases h
theorem in64_of {x : Int} (h : in64B x = true) : In64 x := by simpa [in64B, In64] using h

/-! ### What each operation does -/
theorem build_key (s e : Int) (w : World) : (Instr.build 240 #[(0, .int .i64 s), (1, .int .i64 e)]).run Tryz.prog w = .ok (keyV s e) w := run_build w _ _ _ (by kernel_rfl)
def slot (a : Act) (t : Nat) : Value := a.tmps.getD t undef
theorem slot_put (a : Act) {d : Nat} (v : Value) (h : d < a.tmps.size) : slot (a.put (some d) v) d = v := by simp [slot, Act.put, h]
theorem slot_put_ne (a : Act) {d t : Nat} (v : Value) (h : d ≠ t) : slot (a.put (some d) v) t = slot a t := by
  unfold slot Act.put
  simp only [Array.getD_eq_getD_getElem?]
  rw [Array.getElem?_setIfInBounds_ne h]
theorem size_put (a : Act) (d : Option Nat) (v : Value) : (a.put d v).tmps.size = a.tmps.size := by cases d <;> simp [Act.put]
theorem defers_put (a : Act) (d : Option Nat) (v : Value) : (a.put d v).defers = a.defers := by cases d <;> rfl

/-! ### What holds while they come up -/
/-- Of those that have come up (L): keys, lists and entries lie in their slots; nothing that was there has turned. -/
structure Came (w0 : World) (N : Nat) (ds : List Deferred) (sps : List Sp) (L : Nat → Bool) (a : Act) (w : World) : Prop where
  kept : Kept (fun _ => False) w0 w
  size : a.tmps.size = N
  defers : a.defers = ds
  key : ∀ (i : Nat) (q : Sp), sps[i]? = some q → L i = true → q.kind = 1 → slot a q.dst = keyV q.r.s q.r.e

/-- The map has been made, in block mb: its entries are M. -/
structure Made (w0 : World) (sps : List Sp) (L : Nat → Bool) (a : Act) (w : World) (n mb : Nat) (M : List (Value × Value)) : Prop where
  lo : w0.heap.size ≤ mb
  assoc : Assoc w Tryz.prog 240 mb M
  room : M.length + n ≤ sps.length
  maps : ∀ (i : Nat) (q : Sp), sps[i]? = some q → L i = true → (q.kind = 0 ∨ 5 ≤ q.kind) → slot a q.dst = .map (some mb)
  ins : ∀ (i : Nat) (q : Sp), sps[i]? = some q → L i = true → q.kind = 4 → (keyV q.r.s q.r.e, .int .i64 q.r.n) ∈ M
  only : ∀ p ∈ M, ∃ (i : Nat) (q : Sp), sps[i]? = some q ∧ L i = true ∧ q.kind = 4 ∧ p.1 = keyV q.r.s q.r.e

def LitInv (w0 : World) (N : Nat) (ds : List Deferred) (sps : List Sp) (n : Nat) (L : Nat → Bool) (a : Act) (w : World) : Prop :=
  n ≤ sps.length ∧ Came w0 N ds sps L a w ∧ ((L 0 = false ∧ ∀ (i : Nat) (q : Sp), sps[i]? = some q → L i = true → q.kind = 1) ∨ (L 0 = true ∧ ∃ mb M, Made w0 sps L a w n mb M))
def also (L : Nat → Bool) (i : Nat) : Nat → Bool := fun j => if j = i then true else L j
theorem also_old {L : Nat → Bool} {i j : Nat} (h : also L i j = true) (hj : j ≠ i) : L j = true := by simpa [also, hj] using h

section
variable {w0 w w' : World} {N : Nat} {ds : List Deferred} {sps : List Sp} {L : Nat → Bool} {a : Act} {i : Nat} {q : Sp}

theorem Came.put (h : Came w0 N ds sps L a w) (F : Fits sps N) (hi : sps[i]? = some q) (hL : L i = false) (hk : q.kind ≠ 4) (hw : Kept (fun _ => False) w w') {v : Value}
    (h1 : q.kind = 1 → v = keyV q.r.s q.r.e) : Came w0 N ds sps (also L i) (a.put (some q.dst) v) w' := by
  have hlt : q.dst < a.tmps.size := by
    rw [h.size]
    have := F.ok q (List.mem_of_getElem? hi)
    unfold Sp.ok at this
    simp only [Bool.and_eq_true, decide_eq_true_eq] at this
    exact this.1.1.1.1
  have hself := slot_put a v hlt
  have hold : ∀ (j : Nat) (p : Sp), sps[j]? = some p → j ≠ i → p.kind ≠ 4 → slot (a.put (some q.dst) v) p.dst = slot a p.dst := fun j p hp hj hp4 => slot_put_ne a v (Ne.symm (F.ssa j i p q hp hi hj hp4 hk))
  refine ⟨h.kept.trans hw, by rw [size_put]; exact h.size, by rw [defers_put]; exact h.defers, fun j p hp hl hk1 => ?_⟩
  by_cases hj : j = i
  · subst hj
    rw [hi] at hp
    cases hp
    rw [hself]
    exact h1 hk1
  · rw [hold j p hp hj (by omega)]
    exact h.key j p hp (also_old hl hj) hk1

theorem Made.put {n mb : Nat} {M : List (Value × Value)} (h : Made w0 sps L a w (n + 1) mb M) (F : Fits sps N) (hs : a.tmps.size = N) (hi : sps[i]? = some q) (hL : L i = false) (hk : q.kind ≠ 4) (hw : Kept (fun _ => False) w w') {v : Value}
    (hm : (q.kind = 0 ∨ 5 ≤ q.kind) → v = .map (some mb)) : Made w0 sps (also L i) (a.put (some q.dst) v) w' n mb M := by
  have hlt : q.dst < a.tmps.size := by
    rw [hs]
    have := F.ok q (List.mem_of_getElem? hi)
    unfold Sp.ok at this
    simp only [Bool.and_eq_true, decide_eq_true_eq] at this
    exact this.1.1.1.1
  refine ⟨h.lo, h.assoc.same (hw.block mb h.assoc.lt id), by have := h.room; omega, fun j p hp hl hk0 => ?_, fun j p hp hl hk4 => ?_, fun p hp => ?_⟩
  · by_cases hj : j = i
    · subst hj
      rw [hi] at hp
      cases hp
      rw [slot_put a v hlt]
      exact hm hk0
    · rw [slot_put_ne a v (Ne.symm (F.ssa j i p q hp hi hj (by omega) hk))]
      exact h.maps j p hp (also_old hl hj) hk0
  · by_cases hj : j = i
    · subst hj
      rw [hi] at hp
      cases hp
      exact absurd hk4 hk
    · exact h.ins j p hp (also_old hl hj) hk4
  · obtain ⟨j, p', e1, e2, e3, e4⟩ := h.only p hp
    exact ⟨j, p', e1, by unfold also; split <;> simp_all, e3, e4⟩

/-- An entry is put into the map. -/
theorem Came.ins {mb : Nat} (h : Came w0 N ds sps L a w) (hi : sps[i]? = some q) (hk : q.kind = 4) (hlo : w0.heap.size ≤ mb) (hw : Kept (fun k => k = mb) w w') : Came w0 N ds sps (also L i) a w' := by
  have hne : ∀ (j : Nat) (p : Sp), sps[j]? = some p → p.kind ≠ 4 → j ≠ i := fun j p hp hp4 e => by
    subst e
    rw [hi] at hp
    cases hp
    exact hp4 hk
  exact ⟨h.kept.andThen hw (fun j hj e => by omega), h.size, h.defers, fun j p hp hl hk1 => h.key j p hp (also_old hl (hne j p hp (by omega))) hk1⟩

def Phase (w0 : World) (sps : List Sp) (n : Nat) (L : Nat → Bool) (a : Act) (w : World) : Prop :=
  (L 0 = false ∧ ∀ (i : Nat) (q : Sp), sps[i]? = some q → L i = true → q.kind = 1) ∨ (L 0 = true ∧ ∃ mb M, Made w0 sps L a w n mb M)
theorem Phase.put {n : Nat} (h : Phase w0 sps (n + 1) L a w) (F : Fits sps N) (hs : a.tmps.size = N) (hi : sps[i]? = some q) (hL : L i = false) (h0 : i ≠ 0) (hk1 : q.kind = 1) (hw : Kept (fun _ => False) w w') (v : Value) : Phase w0 sps n (also L i) (a.put (some q.dst) v) w' := by
  have e0 : also L i 0 = L 0 := by simp [also, h0.symm]
  rcases h with ⟨hz, hall⟩ | ⟨hz, mb, M, hM⟩
  · refine Or.inl ⟨e0.trans hz, fun j p hp hl => ?_⟩
    by_cases hj : j = i
    · subst hj
      rw [hi] at hp
      cases hp
      exact hk1
    · exact hall j p hp (also_old hl hj)
  · exact Or.inr ⟨e0.trans hz, mb, M, hM.put F hs hi hL (by omega) hw (fun h => by omega)⟩

theorem step_value {P : Program} {ops : Array Oper} {Q : Exit → Act → World → Prop} {K : Act → World → Prop} {o : Oper} {v : Value} (ho : ops[i]? = some o) (hg : o.guard = none) (hr : (execOp a.eval o).run P w = .ok (.value v) w') (h : K (a.put o.dst v) w') : wpOp P ops Q i K a w := by
  unfold wpOp
  rw [ho]
  simp only [Region.wanted, hg, if_true]
  left
  unfold Oper.wp
  rw [hr]
  exact h
theorem step_skip' {P : Program} {ops : Array Oper} {Q : Exit → Act → World → Prop} {K : Act → World → Prop} {o : Oper} (ho : ops[i]? = some o) (hg : o.guard = none) (hr : (execOp a.eval o).run P w = .ok .skip w') (h : K (a.put o.dst undef) w') : wpOp P ops Q i K a w := by
  unfold wpOp
  rw [ho]
  simp only [Region.wanted, hg, if_true]
  left
  unfold Oper.wp
  rw [hr]
  exact h
end

set_option maxHeartbeats 1000000 in
theorem lit_step {sps : List Sp} {N : Nat} (F : Fits sps N) (h0 : ∃ q, sps[0]? = some q ∧ q.kind = 0 ∧ q.dst = 1) (pos : String) (w0 : World) (ds : List Deferred) (Q : Exit → Act → World → Prop) (n : Nat) (L : Nat → Bool) (a : Act) (w : World) (i : Nat) (o : Oper)
    (hI : LitInv w0 N ds sps (n + 1) L a w) (ho : ((sps.map (Sp.oper pos)).toArray)[i]? = some o) (hL : L i = false) (he : ∀ e ∈ o.after, Region.binds .any e = true → L e.on = true) :
    wpOp Tryz.prog (sps.map (Sp.oper pos)).toArray Q i (fun a' w' => LitInv w0 N ds sps n (also L i) a' w') a w := by
  obtain ⟨q, hq, rfl⟩ : ∃ q, sps[i]? = some q ∧ q.oper pos = o := by
    rw [List.getElem?_toArray, List.getElem?_map] at ho
    cases hq : sps[i]? with
    | none => rw [hq] at ho; cases ho
    | some q => rw [hq] at ho; exact ⟨q, rfl, Option.some.inj ho⟩
  have hok := F.ok q (List.mem_of_getElem? hq)
  have hqi := F.num i q hq
  obtain ⟨⟨kind, qi, dst, x, y, z, ix, iy, iz, r⟩, hqq⟩ : ∃ q', q' = q := ⟨q, rfl⟩
  subst hqq
  simp only at hqi
  subst hqi
  unfold Sp.ok at hok
  simp only [Bool.and_eq_true, decide_eq_true_eq] at hok
  obtain ⟨⟨⟨⟨hlt, haf⟩, h64s⟩, h64e⟩, hkd⟩ := hok
  have hb : ∀ e ∈ (Sp.mk kind qi dst x y z ix iy iz r).after, L e.on = true := fun e hem => he e hem (by
    rw [Array.all_eq_true_iff_forall_mem] at haf
    have := haf e hem
    simp only [Bool.and_eq_true] at this
    exact this.2)
  obtain ⟨hnn, hC, hD⟩ := hI
  have hnn' : n ≤ sps.length := by omega
  obtain ⟨qm, hqm0, hqm1, hqm2⟩ := h0
  have hi0 : kind ≠ 0 → qi ≠ 0 := fun hk e => by
    subst e
    rw [hq] at hqm0
    cases hqm0
    exact hk hqm1
  match kind, hq, ho, he, haf, hb, hkd, hi0 with
  | 0, hq, ho, he, haf, hb, hkd, hi0 =>
    simp only [beq_iff_eq] at hkd
    subst hkd
    refine step_value (v := .map (some w.heap.size)) (w' := w.alloc (.map #[] 0)) ho rfl (by simp [execOp, Sp.oper, Sp.op, run_makeMap]) ?_
    have hw : Kept (fun _ => False) w (w.alloc (.map #[] 0)) := (Kept.refl _ w).alloc _
    refine ⟨hnn', hC.put F hq hL (by simp) hw (fun h => by cases h), Or.inr ⟨by simp [also], w.heap.size, [], ?_⟩⟩
    rcases hD with ⟨hz, hall⟩ | ⟨hz, _⟩
    · refine ⟨hC.kept.size, Assoc.made w _ _, by simpa using hnn', fun j p hp hl hk0 => ?_, fun j p hp hl hk4 => ?_, fun p hp => by cases hp⟩
      · by_cases hj : j = 0
        · subst hj
          rw [hq] at hp
          cases hp
          exact slot_put a _ (by rw [hC.size]; exact hlt)
        · have := hall j p hp (also_old hl hj)
          omega
      · by_cases hj : j = 0
        · subst hj
          rw [hq] at hp
          cases hp
          cases hk4
        · have := hall j p hp (also_old hl hj)
          omega
    · rw [hL] at hz
      cases hz
  | 1, hq, ho, he, haf, hb, hkd, hi0 =>
    refine step_value (v := keyV r.s r.e) (w' := w) ho rfl (by simp [execOp, Sp.oper, Sp.op, Act.eval, build_key]) ?_
    exact ⟨hnn', hC.put F hq hL (by simp) (Kept.refl _ w) (fun _ => rfl), Phase.put hD F hC.size hq hL (hi0 (by simp)) rfl (Kept.refl _ w) _⟩
  | 4, hq, ho, he, haf, hb, hkd, hi0 =>
    simp only [Bool.and_eq_true, beq_iff_eq] at hkd
    obtain ⟨⟨rfl, rfl⟩, hw1⟩ := hkd
    obtain ⟨p1, hp1, hp1k, hp1d, hp1r⟩ := wrote_of hw1
    have hL0 : L 0 = true := hb ⟨0, .data⟩ (by simp [Sp.after])
    have hL1 : L iy = true := hb ⟨iy, .data⟩ (by simp [Sp.after])
    rcases hD with ⟨hz, _⟩ | ⟨_, mb, M, hM⟩
    · rw [hL0] at hz
      cases hz
    · have e1 := hC.key iy p1 hp1 hL1 hp1k
      have e0 := hM.maps 0 qm hqm0 hL0 (Or.inl hqm1)
      rw [hp1d, hp1r] at e1
      rw [hqm2] at e0
      obtain ⟨kl, hkl⟩ := key_reads (in64_of h64s) (in64_of h64e)
      have hfar : ∀ p ∈ M, p.1 ≠ keyV r.s r.e := fun p hp e => by
        obtain ⟨j, q', h1, h2, h3, h4⟩ := hM.only p hp
        have hj : j ≠ qi := fun e => by
          subst e
          rw [hL] at h2
          cases h2
        exact F.keys j qi q' _ h1 hq hj h3 rfl (h4.symm.trans e)
      obtain ⟨w', hrun, hA, hT⟩ := hM.assoc.store (e := 3) keyLaw Tryz.underlying237 (by have := hM.room; have := F.small; unfold maxLen; omega) (val := .int .i64 r.n) hkl (Or.inl ⟨List.Perm.refl M, hfar⟩)
      have hk : Kept (fun k => k = mb) w w' := (Kept.refl _ w).grown hT.grown (fun j hj => Or.inr (Option.some.inj hj).symm)
      refine step_skip' (w' := w') ho rfl ?_ ?_
      · simp only [execOp, Sp.oper, Sp.op, Act.eval]
        rw [show a.tmps.getD 1 undef = .map (some mb) from e0, show a.tmps.getD y undef = keyV r.s r.e from e1]
        simp only [Sem.run_bind, hrun, Result.andThen_ok]
        rfl
      · refine ⟨hnn', hC.ins hq rfl hM.lo hk, Or.inr ⟨by simp [also, hL0], mb, _, hM.lo, hA, by have := hM.room; simp; omega, fun j p hp hl hk0 => ?_, fun j p hp hl hk4 => ?_, fun p hp => ?_⟩⟩
        · refine hM.maps j p hp (also_old hl (fun e => ?_)) hk0
          subst e
          rw [hq] at hp
          cases hp
          simp at hk0
        · by_cases hj : j = qi
          · subst hj
            rw [hq] at hp
            cases hp
            exact List.mem_cons_self ..
          · exact List.mem_cons_of_mem _ (hM.ins j p hp (also_old hl hj) hk4)
        · rcases List.mem_cons.1 hp with rfl | hp
          · exact ⟨qi, _, hq, by simp [also], rfl, rfl⟩
          · obtain ⟨j, p', h1, h2, h3, h4⟩ := hM.only p hp
            exact ⟨j, p', h1, by unfold also; split <;> simp_all, h3, h4⟩
  | 5, hq, ho, he, haf, hb, hkd, hi0 =>
    simp only [Bool.and_eq_true, beq_iff_eq] at hkd
    obtain ⟨rfl, rfl⟩ := hkd
    have hpos : 0 < qi := by have := hi0 (by simp); omega
    have hL0 : L 0 = true := hb ⟨0, .data⟩ (by simp [Sp.after, hpos])
    rcases hD with ⟨hz, _⟩ | ⟨_, mb, M, hM⟩
    · rw [hL0] at hz
      cases hz
    · have e0 := hM.maps 0 qm hqm0 hL0 (Or.inl hqm1)
      rw [hqm2] at e0
      refine step_value (v := .map (some mb)) (w' := w) ho rfl ?_ ?_
      · simp only [execOp, Sp.oper, Sp.op, Act.eval]
        rw [show a.tmps.getD 1 undef = .map (some mb) from e0]
        rfl
      · exact ⟨hnn', hC.put F hq hL (by simp) (Kept.refl _ w) (fun h => by cases h), Or.inr ⟨by simp [also, hL0], mb, M, hM.put F hC.size hq hL (by simp) (Kept.refl _ w) (fun _ => rfl)⟩⟩
  | 6, hq, ho, he, haf, hb, hkd, hi0 =>
    have hpos : 0 < qi := by have := hi0 (by simp); omega
    have hL0 : L 0 = true := hb ⟨0, .phase⟩ (by simp [Sp.after, hpos])
    have hLx : L ix = true := hb ⟨ix, .data⟩ (by simp [Sp.after])
    rcases hD with ⟨hz, _⟩ | ⟨_, mb, M, hM⟩
    · rw [hL0] at hz
      cases hz
    · simp only at hkd
      split at hkd
      · rename_i p hp
        simp only [Bool.and_eq_true, beq_iff_eq] at hkd
        have e0 := hM.maps ix p hp hLx (Or.inr (by omega))
        rw [hkd.2] at e0
        refine step_value (v := .map (some mb)) (w' := w) ho rfl ?_ ?_
        · simp only [execOp, Sp.oper, Sp.op, Act.eval]
          rw [show a.tmps.getD x undef = .map (some mb) from e0]
          rfl
        · exact ⟨hnn', hC.put F hq hL (by simp) (Kept.refl _ w) (fun h => by cases h), Or.inr ⟨by simp [also, hL0], mb, M, hM.put F hC.size hq hL (by simp) (Kept.refl _ w) (fun _ => rfl)⟩⟩
      · cases hkd
  | 2, hq, ho, he, haf, hb, hkd, hi0 => simp at hkd
  | 3, hq, ho, he, haf, hb, hkd, hi0 => simp at hkd
  | k + 7, hq, ho, he, haf, hb, hkd, hi0 => simp at hkd

/-- What a literal leaves: a map in a block of its own, an entry for each row, no other. -/
def LitIs (w0 w : World) (v : Value) (rs : List Rw) : Prop :=
  ∃ mb M, v = .map (some mb) ∧ w0.heap.size ≤ mb ∧ Assoc w Tryz.prog 240 mb M ∧ (∀ r ∈ rs, (keyV r.s r.e, .int .i64 r.n) ∈ M) ∧ ∀ p ∈ M, ∃ r ∈ rs, p.1 = keyV r.s r.e

theorem lit_region (pos : String) (rs : List Rw) (N : Nat) (hok : okB (litSps rs) N = true) (hap : apartB (litSps rs) = true) (hrs : ((litSps rs).filter (fun q => q.kind == 4)).map (·.r) = rs) (hlast : (litSps rs).any (fun q => q.kind == 6 && q.dst == 0) = true)
    {Q : Exit → Act → World → Prop} {id : Nat} {a : Act} {w : World} (hN : a.tmps.size = N) (hQ : ∀ a' w', Kept (fun _ => False) w w' → a'.tmps.size = N → a'.defers = a.defers → (∃ v, slot a' 0 = v ∧ LitIs w w' v rs) → Q .normal a' w') :
    (Code.region id (litOps pos rs) true).wp Tryz.prog Q a w := by
  have F := fits_of hok hap
  have hsz : (litOps pos rs).size = (litSps rs).length := by simp [litOps]
  have hget : ∀ (i : Nat) (o : Oper), (litOps pos rs)[i]? = some o → ∃ q, (litSps rs)[i]? = some q ∧ q.oper pos = o := fun i o ho => by
    unfold litOps at ho
    rw [List.getElem?_toArray, List.getElem?_map] at ho
    cases hq : (litSps rs)[i]? with
    | none => rw [hq] at ho; cases ho
    | some q => rw [hq] at ho; exact ⟨q, rfl, Option.some.inj ho⟩
  refine wp_region_inv (fun n L a' w' => LitInv w N a.defers (litSps rs) n L a' w') (by kernel_rfl) ?_ ?_ ?_ ?_
  · intro i o ho e hem
    obtain ⟨q, hq, rfl⟩ := hget i o ho
    have h1 := F.ok q (List.mem_of_getElem? hq)
    have h2 := F.num i q hq
    unfold Sp.ok at h1
    simp only [Bool.and_eq_true, decide_eq_true_eq] at h1
    have h3 := h1.1.1.1.2
    rw [Array.all_eq_true_iff_forall_mem] at h3
    have h4 := h3 e hem
    simp only [Bool.and_eq_true, decide_eq_true_eq] at h4
    omega
  · intro n L a' w' i o hI ho hL he
    exact lit_step F ⟨_, rfl, rfl, rfl⟩ pos w a.defers Q n L a' w' i o hI ho hL he
  · intro n L a' w' hI hall
    rw [hsz] at hall
    obtain ⟨_, hC, hD⟩ := hI
    have h0 : L 0 = true := hall 0 (by simp [litSps])
    rcases hD with ⟨hz, _⟩ | ⟨_, mb, M, hM⟩
    · rw [h0] at hz
      cases hz
    · refine hQ a' w' hC.kept hC.size hC.defers ⟨_, rfl, mb, M, ?_, hM.lo, hM.assoc, fun r hr => ?_, fun p hp => ?_⟩
      · obtain ⟨q, hq, hqk⟩ := List.any_eq_true.1 hlast
        simp only [Bool.and_eq_true, beq_iff_eq] at hqk
        obtain ⟨i, hi⟩ := List.mem_iff_getElem?.1 hq
        have := hM.maps i q hi (hall i (List.getElem?_eq_some_iff.1 hi).1) (Or.inr (by omega))
        rw [hqk.2] at this
        exact this
      · rw [← hrs] at hr
        obtain ⟨q, hq, rfl⟩ := List.mem_map.1 hr
        rw [List.mem_filter] at hq
        obtain ⟨i, hi⟩ := List.mem_iff_getElem?.1 hq.1
        exact hM.ins i q hi (hall i (List.getElem?_eq_some_iff.1 hi).1) (by simpa using hq.2)
      · obtain ⟨i, q, h1, h2, h3, h4⟩ := hM.only p hp
        refine ⟨q.r, ?_, h4⟩
        rw [← hrs]
        exact List.mem_map.2 ⟨q, List.mem_filter.2 ⟨List.mem_of_getElem? h1, by simp [h3]⟩, rfl⟩
  · intro L hL
    rw [hsz] at hL ⊢
    have hno : ∀ (i : Nat) (q : Sp), (litSps rs)[i]? = some q → L i = true → False := fun i q hq hl => by
      rw [hL i (List.getElem?_eq_some_iff.1 hq).1] at hl
      cases hl
    exact ⟨Nat.le_refl _, ⟨(Kept.refl _ w).drew, hN, rfl, fun i q hq hl => (hno i q hq hl).elim⟩, Or.inl ⟨hL 0 (by simp [litSps]), fun i q hq hl => (hno i q hq hl).elim⟩⟩

def lengthsR : List Rw := [⟨0, 39, 0⟩, ⟨0, 0, 2⟩, ⟨0, 2, 2⟩, ⟨0, 9, 2⟩, ⟨0, 10, 2⟩, ⟨0, 14, 2⟩, ⟨0, 29, 2⟩, ⟨0, 32, 2⟩, ⟨0, 3, 4⟩, ⟨0, 15, 4⟩, ⟨0, 19, 4⟩, ⟨0, 24, 4⟩, ⟨0, 5, 8⟩, ⟨0, 13, 16⟩, ⟨0, 1, (-1)⟩, ⟨0, 7, (-1)⟩, ⟨0, 11, (-1)⟩, ⟨0, 26, (-1)⟩, ⟨0, 27, (-1)⟩, ⟨0, 28, (-1)⟩, ⟨0, 30, (-1)⟩, ⟨0, 31, (-1)⟩, ⟨0, 33, (-1)⟩, ⟨0, 34, (-1)⟩, ⟨0, 35, (-1)⟩, ⟨0, 36, (-1)⟩]
set_option maxHeartbeats 4000000 in
set_option maxRecDepth 100000 in
theorem lengths_any (w : World) : Calls Tryz.prog 188 #[] w fun e w' => ∃ v, e = .returned v ∧ LitIs w w' v lengthsR ∧ Kept (fun _ => False) w w' := by
  go_enter Tryz.func188, Tryz.ntmps188
  go_wp2
  refine lit_region "length.go:24" lengthsR 29 (by kernel_rfl) (by kernel_rfl) (by kernel_rfl) (by kernel_rfl) (by rfl) ?_
  rintro ⟨tm, df⟩ w' hk hs hd ⟨v, hv, hl⟩
  simp only at hs hd
  subst hd
  go_wp2
  refine bodyPost_ret (v := v) ?_ rfl ⟨v, rfl, hl, hk⟩
  simp [results, Tryz.results188, go_sem]
  simpa [slot, Array.getD_eq_getD_getElem?] using hv
end Go.Proofs.YtkneogfeokckjaaGreatDoor.AvLit
