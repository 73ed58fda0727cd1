/- A literal of a map of rows (a state and an event as the key; the next state and a list of actions), made in a region that draws its order: whatever order is drawn, the map has one entry for each row. -/
import Derived.Test.YtcmdfcdmfdheeaaProg
import Derived.Test.YtcmdfcdmfdheeaaAuInv
import Derived.Test.YtcmdfcdmfdheeaaAssoc
import Derived.Test.YtcmdfcdmfdheeaaKept
import Derived.WalkKit
import Derived.WalkSpells
import Derived.WalkLawsBesides
import Derived.DeepKeys4
import Derived.Great.BuildSlice
namespace Go.Proofs.Ytcmdfcdmfdheeaa
open Go.RowKit
open Go.Maps (Keyed)

def In64 (x : Int) : Prop := -9223372036854775808 ≤ x ∧ x ≤ 9223372036854775807
def keyV (k i : Int) : Value := .agg #[.int .i64 k, .int .i64 i]
theorem keyV_inj {k i k' i' : Int} (h : keyV k i = keyV k' i') : k = k' ∧ i = i' := by
  unfold keyV at h
  simp at h
  exact h
theorem laidOutT : laidOutB Try.prog = true := by kernel_rfl
theorem keyLaw : Keyed Try.prog 124 := Keyed.of_law (deep_law_laid laidOutT (m := 5) (by decide) (of_decide_eq_true (by kernel_rfl)) (by kernel_rfl) (by kernel_rfl))
theorem zeroEn (w : World) : (zeroValue 119).run Try.prog w = .ok (.agg #[.int .i64 0, .slice none 0 0]) w := by kernel_rfl
theorem typesPos : ∃ n, Try.prog.types.size = n + 1 := ⟨Try.prog.types.size - 1, by have : 0 < Try.prog.types.size := of_decide_eq_true (by kernel_rfl); omega⟩
theorem keyTypeKey : Try.prog.keyType 124 = true := by kernel_rfl
theorem cellsKey : Try.prog.cellsOf 124 = 2 := by kernel_rfl
theorem cellsIntA : Try.prog.cellsOf 3 = 1 := by kernel_rfl
theorem wf64 {x : Int} (h : In64 x) : (Lit.int .i64 x).wf = true := WalkArith.wf_i64 h
theorem key_reads {k i : Int} (hk : In64 k) (hi : In64 i) : ∃ l, keyOf Try.prog 124 (keyV k i) = some l := by
  obtain ⟨n, hn⟩ := typesPos
  refine ⟨.string (keyBytes [.int .i64 k, .int .i64 i]), ?_⟩
  unfold keyOf keyV
  rw [hn]
  simp [Try.underlying124, keyTypeKey, cellsKey, cellsIntA, Value.formed, Value.cells, Program.keyLits, Try.underlying3, wf64 hk, wf64 hi]

/-! ### Lists of ints of a call's own -/
def intCells (l : List Int) : List Value := l.map (Value.int .i64)
theorem intCells_one (l : List Int) : ∀ u ∈ intCells l, u.oneCell' = true := by
  intro u hu
  obtain ⟨x, _, rfl⟩ := List.mem_map.1 hu
  rfl
def OwnI (w : World) (base : Nat) (v : Value) (l : List Int) : Prop := w.ownsRow base 3 1 v l.length (intCells l)
theorem OwnI.nil (w : World) (base : Nat) : OwnI w base (.slice none 0 0) [] := ⟨rfl, Or.inl ⟨rfl, rfl⟩⟩
theorem OwnI.slice {w : World} {base : Nat} {v : Value} {l : List Int} (h : OwnI w base v l) : ∃ p cap, v = .slice p l.length cap := by
  rcases h.2 with ⟨rfl, h0⟩ | ⟨g, cap, cur, rfl, _⟩
  · exact ⟨none, 0, by rw [h0]⟩
  · exact ⟨_, cap, rfl⟩
theorem OwnI.kept {S : Nat → Prop} {w w' : World} {base : Nat} {v : Value} {l : List Int} (h : OwnI w base v l) (hk : Kept S w w') (hS : ∀ i, v.ownBlock = some i → ¬ S i) : OwnI w' base v l := by
  rcases h.2 with ⟨rfl, h0⟩ | ⟨g, cap, cur, rfl, hb, hg, r⟩
  · exact ⟨h.1, Or.inl ⟨rfl, h0⟩⟩
  · exact ⟨h.1, Or.inr ⟨g, cap, cur, rfl, hb, (hk.block g (Array.getElem?_eq_some_iff.1 hg).1 (hS g rfl)).trans hg, r⟩⟩
theorem OwnI.kept0 {w w' : World} {base : Nat} {v : Value} {l : List Int} (h : OwnI w base v l) (hk : Kept (fun _ => False) w w') : OwnI w' base v l := h.kept hk (fun _ _ => id)
theorem OwnI.block {w : World} {base i : Nat} {v : Value} {l : List Int} (h : OwnI w base v l) (hi : v.ownBlock = some i) : (∃ cur, w.heap[i]? = some (.cells cur 3 (0, 0))) ∧ base ≤ i := by
  rcases h.2 with ⟨rfl, h0⟩ | ⟨g, cap, cur, rfl, hb, hg, r⟩
  · cases hi
  · have : g = i := by simpa [Value.ownBlock] using hi
    subst this
    exact ⟨⟨cur, hg⟩, hb⟩
theorem OwnI.mono {w : World} {base base' : Nat} {v : Value} {l : List Int} (h : OwnI w base v l) (hb : base' ≤ base) : OwnI w base' v l := by
  rcases h.2 with ⟨rfl, h0⟩ | ⟨g, cap, cur, rfl, h1, r⟩
  · exact ⟨h.1, Or.inl ⟨rfl, h0⟩⟩
  · exact ⟨h.1, Or.inr ⟨g, cap, cur, rfl, Nat.le_trans hb h1, r⟩⟩

/-! ### The operations of such a literal -/
/-- A row. -/
structure Rw where
  s : Int
  e : Int
  n : Int
  acts : List Int

/-- An operation: 0 the map, 1 a key, 2 a list, 3 an entry, 4 its insert, 5 and 6 the map handed on. x, y, z: the slots that it reads; iy, iz, ix: who writes them. -/
structure Sp where
  kind : Nat
  i : Nat
  dst : Nat
  x : Nat
  y : Nat
  z : Nat
  ix : Nat
  iy : Nat
  iz : Nat
  r : Rw

def listOp (acts : List Int) (y : Nat) : Operand := match acts with | [] => .const (.slice none 0 0) | _ :: _ => .tmp y
def Sp.op (q : Sp) : Op :=
  match q.kind with
  | 0 => .makeMap 121 none
  | 1 => .build 124 #[(0, .const (.int .i64 q.r.s)), (1, .const (.int .i64 q.r.e))]
  | 2 => .buildSlice 61 q.r.acts.length ((q.r.acts.zipIdx 0).map fun x => (x.2, Operand.const (Value.int .i64 x.1))).toArray
  | 3 => .build 119 #[(0, .const (.int .i64 q.r.n)), (1, listOp q.r.acts q.y)]
  | 4 => .insert 121 (.tmp q.x) (.tmp q.y) (.tmp q.z)
  | 5 => .move (.tmp q.x)
  | _ => .assign (.tmp q.x)

def Sp.after (q : Sp) : Array Edge :=
  match q.kind with
  | 3 => match q.r.acts with | [] => #[] | _ :: _ => #[⟨q.iy, .data⟩]
  | 4 => #[⟨q.ix, .data⟩, ⟨q.iy, .data⟩, ⟨q.iz, .data⟩]
  | 5 => ((List.range q.i).map fun j => ⟨j, .data⟩).toArray
  | 6 => (⟨q.ix, .data⟩ :: (List.range q.i).map fun j => (⟨j, .phase⟩ : Edge)).toArray
  | _ => #[]

def Sp.oper (pos : String) (q : Sp) : Oper :=
  { dst := match q.kind with | 4 => none | _ => some q.dst, op := q.op, type := match q.kind with | 1 => 124 | 2 => 61 | 3 => 119 | 4 => 0 | _ => 121, pos := pos, after := q.after, guard := none }

def r0 : Rw := ⟨0, 0, 0, []⟩
def litGo : List Rw → Nat → Nat → List Sp
  | [], i, t => [⟨5, i, t, 1, 0, 0, 0, 0, 0, r0⟩, ⟨6, i + 1, 0, t, 0, 0, i, 0, 0, r0⟩]
  | r :: rs, i, t =>
    match r.acts with
    | [] => ⟨1, i, t, 0, 0, 0, 0, 0, 0, r⟩ :: ⟨3, i + 1, t + 1, 0, 0, 0, 0, 0, 0, r⟩ :: ⟨4, i + 2, 0, 1, t, t + 1, 0, i, i + 1, r⟩ :: litGo rs (i + 3) (t + 2)
    | _ :: _ => ⟨1, i, t, 0, 0, 0, 0, 0, 0, r⟩ :: ⟨2, i + 1, t + 1, 0, 0, 0, 0, 0, 0, r⟩ :: ⟨3, i + 2, t + 2, 0, t + 1, 0, 0, i + 1, 0, r⟩ :: ⟨4, i + 3, 0, 1, t, t + 2, 0, i, i + 2, r⟩ :: litGo rs (i + 4) (t + 3)
def litSps (rs : List Rw) : List Sp := ⟨0, 0, 1, 0, 0, 0, 0, 0, 0, r0⟩ :: litGo rs 1 2
def litOps (pos : String) (rs : List Rw) : Array Oper := ((litSps rs).map (Sp.oper pos)).toArray

/-! ### What a literal's operations keep to -/
def rEq (p q : Rw) : Bool := decide (p.s = q.s) && decide (p.e = q.e) && decide (p.n = q.n) && decide (p.acts = q.acts)
theorem rEq_iff {p q : Rw} (h : rEq p q = true) : p = q := by
  obtain ⟨a, b, c, d⟩ := p
  obtain ⟨a', b', c', d'⟩ := q
  simp only [rEq, Bool.and_eq_true, decide_eq_true_eq] at h
  obtain ⟨⟨⟨rfl, rfl⟩, rfl⟩, rfl⟩ := h
  rfl

def in64B (x : Int) : Bool := decide (-9223372036854775808 ≤ x) && decide (x ≤ 9223372036854775807)
/-- The operation j writes the slot t, is of the kind k, and of the row r. -/
def wrote (sps : List Sp) (j k t : Nat) (r : Rw) : Bool := match sps[j]? with | some p => p.kind == k && p.dst == t && rEq p.r r | none => false
def Sp.ok (sps : List Sp) (N : Nat) (q : Sp) : Bool :=
  decide (q.dst < N) && q.after.all (fun e => decide (e.on < q.i) && Region.binds .any e) && in64B q.r.s && in64B q.r.e &&
  (match q.kind with
  | 0 => q.i == 0
  | 1 => true
  | 2 => decide (0 < q.r.acts.length) && decide (q.r.acts.length ≤ 1000)
  | 3 => match q.r.acts with | [] => true | _ :: _ => wrote sps q.iy 2 q.y q.r
  | 4 => q.ix == 0 && q.x == 1 && wrote sps q.iy 1 q.y q.r && wrote sps q.iz 3 q.z q.r
  | 5 => q.ix == 0 && q.x == 1
  | 6 => match sps[q.ix]? with | some p => p.kind == 5 && p.dst == q.x | none => false
  | _ => false)

def okB (sps : List Sp) (N : Nat) : Bool := sps.all (Sp.ok sps N) && (sps.map (·.i) == List.range sps.length) && decide (sps.length ≤ 1000)
def apartB (sps : List Sp) : Bool := decide (sps.Pairwise fun p q => p.kind = 4 ∨ q.kind = 4 ∨ p.dst ≠ q.dst) && decide (sps.Pairwise fun p q => p.kind = 4 → q.kind = 4 → ¬ (p.r.s = q.r.s ∧ p.r.e = q.r.e))

theorem pair_of {sps : List Sp} {R : Sp → Sp → Prop} (hs : ∀ p q, R p q → R q p) (h : sps.Pairwise R) {i j : Nat} {p q : Sp} (hp : sps[i]? = some p) (hq : sps[j]? = some q) (hij : i ≠ j) : R p q := by
  obtain ⟨hi, rfl⟩ := List.getElem?_eq_some_iff.1 hp
  obtain ⟨hj, rfl⟩ := List.getElem?_eq_some_iff.1 hq
  have hh := List.pairwise_iff_getElem.1 h
  rcases Nat.lt_or_gt_of_ne hij with h1 | h1
  · exact hh i j hi hj h1
  · exact hs _ _ (hh j i hj hi h1)

/-- The same, in words. -/
structure Fits (sps : List Sp) (N : Nat) : Prop where
  ok : ∀ q ∈ sps, Sp.ok sps N q = true
  num : ∀ (i : Nat) (q : Sp), sps[i]? = some q → q.i = i
  small : sps.length ≤ 1000
  ssa : ∀ (i j : Nat) (p q : Sp), sps[i]? = some p → sps[j]? = some q → i ≠ j → p.kind ≠ 4 → q.kind ≠ 4 → p.dst ≠ q.dst
  keys : ∀ (i j : Nat) (p q : Sp), sps[i]? = some p → sps[j]? = some q → i ≠ j → p.kind = 4 → q.kind = 4 → keyV p.r.s p.r.e ≠ keyV q.r.s q.r.e

theorem fits_of {sps : List Sp} {N : Nat} (h : okB sps N = true) (h' : apartB sps = true) : Fits sps N := by
  simp only [okB, apartB, Bool.and_eq_true, List.all_eq_true, decide_eq_true_eq] at h h'
  obtain ⟨⟨h1, h2⟩, h3⟩ := h
  have h2' := eq_of_beq h2
  refine ⟨h1, fun i q hq => ?_, h3, fun i j p q hp hq hij hk hk' => ?_, fun i j p q hp hq hij hk hk' e => ?_⟩
  · have e1 : (sps.map (·.i))[i]? = some q.i := by rw [List.getElem?_map, hq]; rfl
    rw [h2'] at e1
    have hi := (List.getElem?_eq_some_iff.1 hq).1
    rw [List.getElem?_range hi] at e1
    exact (Option.some.inj e1).symm
  · rcases pair_of (fun p q h => by rcases h with h | h | h; exact Or.inr (Or.inl h); exact Or.inl h; exact Or.inr (Or.inr (Ne.symm h))) h'.1 hp hq hij with h | h | h
    · exact absurd h hk
    · exact absurd h hk'
    · exact h
  · exact pair_of (R := fun p q => p.kind = 4 → q.kind = 4 → ¬ (p.r.s = q.r.s ∧ p.r.e = q.r.e)) (fun p q h a b e => h b a ⟨e.1.symm, e.2.symm⟩) h'.2 hp hq hij hk hk' (keyV_inj e)

theorem wrote_of {sps : List Sp} {j k t : Nat} {r : Rw} (h : wrote sps j k t r = true) : ∃ p, sps[j]? = some p ∧ p.kind = k ∧ p.dst = t ∧ p.r = r := by
  unfold wrote at h
  split at h
  · rename_i p hp
    simp only [Bool.and_eq_true, beq_iff_eq] at h
    exact ⟨p, hp, h.1.1, h.1.2, rEq_iff h.2⟩
  · cases h
theorem in64_of {x : Int} (h : in64B x = true) : In64 x := by simpa [in64B, In64] using h

/-! ### What each operation does -/
theorem build_key (s e : Int) (w : World) : (Instr.build 124 #[(0, .int .i64 s), (1, .int .i64 e)]).run Try.prog w = .ok (keyV s e) w := run_build w _ _ _ (by kernel_rfl)
theorem build_entry (n : Int) (p : Option Addr) (l c : Nat) (w : World) : (Instr.build 119 #[(0, .int .i64 n), (1, .slice p l c)]).run Try.prog w = .ok (.agg #[.int .i64 n, .slice p l c]) w := run_build w _ _ _ (by kernel_rfl)
theorem info3 : (Try.prog.info? 3).map (fun i => (i.zero, i.size, i.bytes)) = some (some (.int .i64 0), 1, 8) := by kernel_rfl
theorem build_list (zs : List Int) (h0 : 0 < zs.length) (h1 : zs.length ≤ 1000) (w : World) : (Instr.buildSlice 61 zs.length (((zs.map (Value.int .i64)).zipIdx 0).map fun x => (x.2, x.1)).toArray).run Try.prog w = .ok (.slice (some ⟨w.heap.size, 0, none⟩) zs.length zs.length) (w.alloc (.cells (intCells zs).toArray 3)) := by
  obtain ⟨i0, hi, hz0, hz1, hz2⟩ := info_parts info3
  refine run_buildSlice w 61 3 zs.length _ _ i0 (.int .i64 0) Try.underlying61 hi hz0 (by rw [hz1]; omega) (by rw [hz1]; omega) ?_
  rw [hz1]
  exact Great.fill_flat _ _ (fun v hv => by obtain ⟨n, _, rfl⟩ := List.mem_map.1 hv; rfl) (by simp)
theorem own_new (zs : List Int) (h1 : zs.length ≤ 1000) (w : World) (base : Nat) (hb : base ≤ w.heap.size) : OwnI (w.alloc (.cells (intCells zs).toArray 3)) base (.slice (some ⟨w.heap.size, 0, none⟩) zs.length zs.length) zs :=
  ⟨by simp [intCells], Or.inr ⟨w.heap.size, zs.length, (intCells zs).toArray, rfl, hb, heap_alloc_new w _, Nat.le_refl _, by unfold maxLen; omega, by simp [intCells], by rw [List.toList_toArray]; exact List.take_of_length_le (by simp [intCells])⟩⟩

def slot (a : Act) (t : Nat) : Value := a.tmps.getD t undef
theorem slot_put (a : Act) {d : Nat} (v : Value) (h : d < a.tmps.size) : slot (a.put (some d) v) d = v := by simp [slot, Act.put, h]
theorem slot_put_ne (a : Act) {d t : Nat} (v : Value) (h : d ≠ t) : slot (a.put (some d) v) t = slot a t := by
  unfold slot Act.put
  simp only [Array.getD_eq_getD_getElem?]
  rw [Array.getElem?_setIfInBounds_ne h]
theorem size_put (a : Act) (d : Option Nat) (v : Value) : (a.put d v).tmps.size = a.tmps.size := by cases d <;> simp [Act.put]
theorem defers_put (a : Act) (d : Option Nat) (v : Value) : (a.put d v).defers = a.defers := by cases d <;> rfl

/-! ### What holds while they come up -/
/-- Of those that have come up (L): keys, lists and entries lie in their slots; nothing that was there has turned. -/
structure Came (w0 : World) (N : Nat) (ds : List Deferred) (sps : List Sp) (L : Nat → Bool) (a : Act) (w : World) : Prop where
  kept : Kept (fun _ => False) w0 w
  size : a.tmps.size = N
  defers : a.defers = ds
  key : ∀ (i : Nat) (q : Sp), sps[i]? = some q → L i = true → q.kind = 1 → slot a q.dst = keyV q.r.s q.r.e
  list : ∀ (i : Nat) (q : Sp), sps[i]? = some q → L i = true → q.kind = 2 → OwnI w w0.heap.size (slot a q.dst) q.r.acts
  entry : ∀ (i : Nat) (q : Sp), sps[i]? = some q → L i = true → q.kind = 3 → ∃ v, slot a q.dst = .agg #[.int .i64 q.r.n, v] ∧ OwnI w w0.heap.size v q.r.acts

/-- The map has been made, in block mb: its entries are M. -/
structure Made (w0 : World) (sps : List Sp) (L : Nat → Bool) (a : Act) (w : World) (n mb : Nat) (M : List (Value × Value)) : Prop where
  lo : w0.heap.size ≤ mb
  assoc : Assoc w Try.prog 124 mb M
  room : M.length + n ≤ sps.length
  maps : ∀ (i : Nat) (q : Sp), sps[i]? = some q → L i = true → (q.kind = 0 ∨ 5 ≤ q.kind) → slot a q.dst = .map (some mb)
  ins : ∀ (i : Nat) (q : Sp), sps[i]? = some q → L i = true → q.kind = 4 → ∃ v, (keyV q.r.s q.r.e, .agg #[.int .i64 q.r.n, v]) ∈ M ∧ OwnI w w0.heap.size v q.r.acts
  only : ∀ p ∈ M, ∃ (i : Nat) (q : Sp), sps[i]? = some q ∧ L i = true ∧ q.kind = 4 ∧ p.1 = keyV q.r.s q.r.e

def LitInv (w0 : World) (N : Nat) (ds : List Deferred) (sps : List Sp) (n : Nat) (L : Nat → Bool) (a : Act) (w : World) : Prop :=
  n ≤ sps.length ∧ Came w0 N ds sps L a w ∧ ((L 0 = false ∧ ∀ (i : Nat) (q : Sp), sps[i]? = some q → L i = true → 1 ≤ q.kind ∧ q.kind ≤ 3) ∨ (L 0 = true ∧ ∃ mb M, Made w0 sps L a w n mb M))
end Go.Proofs.Ytcmdfcdmfdheeaa
