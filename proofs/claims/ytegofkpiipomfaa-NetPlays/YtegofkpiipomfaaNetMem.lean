/- A net in memory: its three cells, the row of what is on its way, the map of what was counted, the map of what is cut. -/
import Derived.Test.YtegofkpiipomfaaGramRow
import Derived.Test.YtegofkpiipomfaaTally
namespace Go.Proofs.Ytegofkpiipomfaa
open Go.RowKit
open Go.Maps (Keyed)

def cutV (p : Int × Int) : Value × Value := (keyV p.1 p.2, .agg #[])

theorem zeroCut (w : World) : (zeroValue 73).run Try.prog w = .ok (.agg #[]) w := by kernel_rfl

/-- The pairs that the map m holds (m: none, or its block), in some order. -/
def CutsIn (w : World) (m : Option Nat) (cs : List (Int × Int)) : Prop :=
  match m with
  | none => cs = []
  | some b => Assoc w Try.prog 48 b (cs.map cutV)

def isCut (cs : List (Int × Int)) (k i : Int) : Bool := decide ((k, i) ∈ cs)
def dropC (cs : List (Int × Int)) (k i : Int) : List (Int × Int) := cs.filter (fun p => !decide (p = (k, i)))

theorem cutV_iff {k i : Int} {p : Int × Int} : p = (k, i) ↔ (cutV p).1 = keyV k i := by
  obtain ⟨a, b⟩ := p
  unfold cutV keyV
  simp

theorem CutsIn.look {w : World} {m : Option Nat} {cs : List (Int × Int)} (h : CutsIn w m cs) {k i : Int} (hk : In64 k) (hi : In64 i) :
    (Instr.lookup 33 (.map m) (keyV k i) true).run Try.prog w = .ok (.tuple #[.agg #[], .bool (isCut cs k i)]) w := by
  obtain ⟨l, hl⟩ := key_reads hk hi
  cases m with
  | none =>
    have h' : cs = [] := h
    subst h'
    exact Maps.look_nil true keyLaw Try.underlying33 (zeroCut w) hl
  | some b =>
    have h' : Assoc w Try.prog 48 b (cs.map cutV) := h
    rcases h'.look true keyLaw Try.underlying33 (zeroCut w) hl with ⟨h1, h2⟩ | ⟨v, h1, h2⟩
    · have hf : isCut cs k i = false := by
        unfold isCut
        rw [decide_eq_false_iff_not]
        exact fun hm => h1 _ (List.mem_map.2 ⟨_, hm, rfl⟩) rfl
      rw [hf, h2]
      rfl
    · obtain ⟨p, hp, e⟩ := List.mem_map.1 h1
      obtain ⟨e1, e2⟩ := Prod.mk.inj e
      have hf : isCut cs k i = true := by
        unfold isCut
        rw [decide_eq_true_eq, ← (cutV_iff (p := p)).2 (by unfold cutV; exact e1)]
        exact hp
      rw [hf, h2, ← e2]
      rfl

theorem cuts_strike (cs : List (Int × Int)) (hA : (cs.map cutV).Pairwise (fun p q => p.1 ≠ q.1)) (k i : Int) : Strikes (cs.map cutV) (keyV k i) ((dropC cs k i).map cutV) := by
  induction cs with
  | nil => exact Or.inl ⟨by simp [dropC], by simp [dropC]⟩
  | cons a r ih =>
    rw [List.map_cons] at hA
    obtain ⟨h1, h2⟩ := List.pairwise_cons.1 hA
    by_cases e : a = (k, i)
    · have e1 : dropC (a :: r) k i = r := by
        rw [dropC, List.filter_cons, if_neg (by simp [e])]
        refine List.filter_eq_self.2 (fun t ht => ?_)
        have : t ≠ (k, i) := fun e2 => h1 (cutV t) (List.mem_map.2 ⟨t, ht, rfl⟩) (by rw [e, e2])
        simp [this]
      rw [e1]
      exact Or.inr ⟨.agg #[], by rw [List.map_cons, e]; exact List.Perm.refl _⟩
    · have e1 : dropC (a :: r) k i = a :: dropC r k i := by simp [dropC, e]
      rw [e1]
      rcases ih h2 with ⟨hp, hn⟩ | ⟨v, hp⟩
      · refine Or.inl ⟨by simpa using hp.cons (cutV a), fun p hp' => ?_⟩
        rcases List.mem_cons.1 hp' with rfl | hp'
        · exact fun e2 => e (cutV_iff.2 e2)
        · exact hn p hp'
      · exact Or.inr ⟨v, by simpa using (hp.cons (cutV a)).trans (List.Perm.swap _ _ _)⟩

theorem CutsIn.drop {w : World} {m : Option Nat} {cs : List (Int × Int)} (h : CutsIn w m cs) {k i : Int} (hk : In64 k) (hi : In64 i) (ty : TypeId) :
    ∃ w', (Builtin.delete_ #[33, 48] ty #[.map m, keyV k i]).run Try.prog w = .ok (.tuple #[]) w' ∧ CutsIn w' m (dropC cs k i) ∧ w.grownBy w' m ∧ w'.heap.size = w.heap.size := by
  obtain ⟨l, hl⟩ := key_reads hk hi
  cases m with
  | none =>
    have h' : cs = [] := h
    subst h'
    exact ⟨w, Maps.drop_nil keyLaw Try.underlying33 hl ty, rfl, ⟨rfl, rfl, rfl, Nat.le_refl _, fun _ _ _ => rfl⟩, rfl⟩
  | some b =>
    have h' : Assoc w Try.prog 48 b (cs.map cutV) := h
    obtain ⟨w', h1, h2, h3⟩ := h'.drop (ty := ty) keyLaw Try.underlying33 hl (cuts_strike cs h'.keys k i)
    refine ⟨w', h1, h2, h3.grown, ?_⟩
    obtain ⟨es, clock, es', clock', _, rfl⟩ := h3
    simp [ChangeMaps.setBlock]

theorem CutsIn.store {w : World} {b : Nat} {cs : List (Int × Int)} (h : CutsIn w (some b) cs) (hroom : cs.length < 1000000) {k i : Int} (hk : In64 k) (hi : In64 i) :
    ∃ w', (Instr.mapUpdate 33 (.map (some b)) (keyV k i) (.agg #[])).run Try.prog w = .ok () w' ∧ CutsIn w' (some b) (dropC cs k i ++ [(k, i)]) ∧ w.grownBy w' (some b) ∧ w'.heap.size = w.heap.size := by
  obtain ⟨l, hl⟩ := key_reads hk hi
  have h' : Assoc w Try.prog 48 b (cs.map cutV) := h
  obtain ⟨w', h1, h2, h3⟩ := h'.store (val := .agg #[]) keyLaw Try.underlying33 (by rw [List.length_map]; unfold maxLen; omega) hl (cuts_strike cs h'.keys k i)
  refine ⟨w', h1, ?_, h3.grown, ?_⟩
  · show Assoc w' Try.prog 48 b ((dropC cs k i ++ [(k, i)]).map cutV)
    refine h2.perm ?_
    rw [List.map_append]
    exact (List.perm_append_singleton _ _).symm
  · obtain ⟨es, clock, es', clock', _, rfl⟩ := h3
    simp [ChangeMaps.setBlock]

theorem CutsIn.same {w w' : World} {m : Option Nat} {cs : List (Int × Int)} (h : CutsIn w m cs) (hb : ∀ b, m = some b → w'.heap[b]? = w.heap[b]?) : CutsIn w' m cs := by
  cases m with
  | none => exact h
  | some b => exact Assoc.same (L := cs.map cutV) h (hb b rfl)

theorem CutsIn.lt {w : World} {b : Nat} {cs : List (Int × Int)} (h : CutsIn w (some b) cs) : b < w.heap.size := Assoc.lt (L := cs.map cutV) h

theorem eqCutSome (mb : Nat) (w : World) : (binOp .eql 33 (.map (some mb)) (.map none)).run Try.prog w = .ok (.bool false) w := by kernel_rfl
theorem eqCutNil (w : World) : (binOp .eql 33 (.map none) (.map none)).run Try.prog w = .ok (.bool true) w := by kernel_rfl

/-- What a net has. -/
structure NetSt where
  grams : List Gr
  tals : List Tm
  cuts : List (Int × Int)

/-- The blocks of a net. -/
def ofNet (b : Nat) (gv : Value) (tm cm : Option Nat) (i : Nat) : Prop := i = b ∨ gv.ownBlock = some i ∨ tm = some i ∨ cm = some i

/-- A net at block b. -/
structure NetIn (w : World) (b : Nat) (gv : Value) (tm cm : Option Nat) (s : NetSt) : Prop where
  c0 : w.cell? ⟨b, 0, none⟩ = some gv
  c1 : w.cell? ⟨b, 1, none⟩ = some (.map tm)
  c2 : w.cell? ⟨b, 2, none⟩ = some (.map cm)
  f : ∀ i, w.frozen? ⟨b, i, none⟩ = false
  own : OwnG w 0 gv s.grams
  ts : TsIn w tm s.tals
  cs : CutsIn w cm s.cuts
  ng : gv.ownBlock ≠ some b
  nt : tm ≠ some b
  nc : cm ≠ some b
  gt : ∀ i, gv.ownBlock = some i → tm ≠ some i
  gc : ∀ i, gv.ownBlock = some i → cm ≠ some i
  tc : ∀ i, tm = some i → cm ≠ some i

section
variable {w w' : World} {b : Nat} {gv : Value} {tm cm : Option Nat} {s : NetSt}

theorem OwnG.same {l : List Gr} {base : Nat} (h : OwnG w base gv l) (hb : ∀ i, gv.ownBlock = some i → w'.heap[i]? = w.heap[i]?) : OwnG w' base gv l := by
  rcases h.cases with ⟨rfl, rfl⟩ | ⟨g, cap, rfl, h1, h2⟩
  · exact OwnG.nil _ _
  · exact (h2.same (hb g rfl)).own h1

theorem NetIn.lt (h : NetIn w b gv tm cm s) {i : Nat} (hi : ofNet b gv tm cm i) : i < w.heap.size := by
  rcases hi with rfl | hi | hi | hi
  · exact lt_of_cell h.c0
  · exact (World.ownsRow.lt h.own i hi).2
  · have := h.ts
    rw [hi] at this
    exact this.lt
  · have := h.cs
    rw [hi] at this
    exact this.lt

theorem NetIn.same (h : NetIn w b gv tm cm s) (hb : ∀ i, ofNet b gv tm cm i → w'.heap[i]? = w.heap[i]?) : NetIn w' b gv tm cm s :=
  have h0 := hb b (Or.inl rfl)
  ⟨(World.cell?_of_block h0).trans h.c0, (World.cell?_of_block h0).trans h.c1, (World.cell?_of_block h0).trans h.c2, fun i => (World.frozen?_of_block h0).trans (h.f i), h.own.same (fun i hi => hb i (Or.inr (Or.inl hi))), h.ts.same (fun i hi => hb i (Or.inr (Or.inr (Or.inl hi)))), h.cs.same (fun i hi => hb i (Or.inr (Or.inr (Or.inr hi)))), h.ng, h.nt, h.nc, h.gt, h.gc, h.tc⟩

theorem NetIn.kept {S : Nat → Prop} (h : NetIn w b gv tm cm s) (hk : Kept S w w') (hS : ∀ i, ofNet b gv tm cm i → ¬ S i) : NetIn w' b gv tm cm s := h.same (fun i hi => hk.block i (h.lt hi) (hS i hi))
theorem NetIn.kept0 (h : NetIn w b gv tm cm s) (hk : Kept (fun _ => False) w w') : NetIn w' b gv tm cm s := h.kept hk (fun _ _ => id)
theorem NetIn.alloc (h : NetIn w b gv tm cm s) (o : Obj) : NetIn (w.alloc o) b gv tm cm s := h.kept0 ((Kept.refl _ w).alloc o)
theorem NetIn.drew (h : NetIn w b gv tm cm s) : NetIn w.drew b gv tm cm s := h.same (fun _ _ => rfl)

/-- The cell of the row is written anew, with what lies in a row that is no other's. -/
theorem NetIn.set0 {gv' : Value} {l : List Gr} (h : NetIn w b gv tm cm s) (hown : OwnG w 0 gv' l) (hn : gv'.ownBlock ≠ some b) (hgt : ∀ i, gv'.ownBlock = some i → tm ≠ some i) (hgc : ∀ i, gv'.ownBlock = some i → cm ≠ some i) : NetIn (w.setCell ⟨b, 0, none⟩ gv') b gv' tm cm { s with grams := l } :=
  ⟨World.cell?_setCell_same _ _ _ h.c0, (World.cell?_setCell_other _ _ _ _ (by simp)).trans h.c1, (World.cell?_setCell_other _ _ _ _ (by simp)).trans h.c2, fun i => (World.frozen?_setCell _ _ _ _).trans (h.f i),
    hown.same (fun i hi => Below.heap_setCell w _ _ i (fun e => hn (by rw [hi, e]))), h.ts.same (fun i hi => Below.heap_setCell w _ _ i (fun e => h.nt (by rw [hi, e]))), h.cs.same (fun i hi => Below.heap_setCell w _ _ i (fun e => h.nc (by rw [hi, e]))), hn, h.nt, h.nc, hgt, hgc, h.tc⟩

theorem NetIn.set1 (h : NetIn w b gv none cm s) : NetIn ((w.alloc (.map #[] 0)).setCell ⟨b, 1, none⟩ (.map (some w.heap.size))) b gv (some w.heap.size) cm { s with tals := [] } := by
  have h1 := h.alloc (.map #[] 0)
  have hb := h.lt (Or.inl rfl)
  have hm : Assoc (w.alloc (.map #[] 0)) Try.prog 48 w.heap.size (([] : List Tm).map tmV) := Assoc.made w _ _
  have hne : ∀ i, ofNet b gv none cm i → i ≠ w.heap.size := fun i hi e => by have := h.lt hi; omega
  exact ⟨(World.cell?_setCell_other _ _ _ _ (by simp)).trans h1.c0, World.cell?_setCell_same _ _ _ h1.c1, (World.cell?_setCell_other _ _ _ _ (by simp)).trans h1.c2, fun i => (World.frozen?_setCell _ _ _ _).trans (h1.f i),
    h1.own.same (fun i hi => Below.heap_setCell _ _ _ i (fun e => h.ng (by rw [hi, e]))), Assoc.same hm (Below.heap_setCell _ _ _ _ (fun e => hne b (Or.inl rfl) e.symm)), h1.cs.same (fun i hi => Below.heap_setCell _ _ _ i (fun e => h.nc (by rw [hi, e]))), h.ng, fun e => hne b (Or.inl rfl) (Option.some.inj e).symm, h.nc,
    fun i hi e => hne i (Or.inr (Or.inl hi)) (Option.some.inj e).symm, h.gc, fun i hi e => hne i (Or.inr (Or.inr (Or.inr e))) (Option.some.inj hi).symm⟩

theorem NetIn.set2 (h : NetIn w b gv tm none s) : NetIn ((w.alloc (.map #[] 0)).setCell ⟨b, 2, none⟩ (.map (some w.heap.size))) b gv tm (some w.heap.size) { s with cuts := [] } := by
  have h1 := h.alloc (.map #[] 0)
  have hb := h.lt (Or.inl rfl)
  have hm : Assoc (w.alloc (.map #[] 0)) Try.prog 48 w.heap.size (([] : List (Int × Int)).map cutV) := Assoc.made w _ _
  have hne : ∀ i, ofNet b gv tm none i → i ≠ w.heap.size := fun i hi e => by have := h.lt hi; omega
  exact ⟨(World.cell?_setCell_other _ _ _ _ (by simp)).trans h1.c0, (World.cell?_setCell_other _ _ _ _ (by simp)).trans h1.c1, World.cell?_setCell_same _ _ _ h1.c2, fun i => (World.frozen?_setCell _ _ _ _).trans (h1.f i),
    h1.own.same (fun i hi => Below.heap_setCell _ _ _ i (fun e => h.ng (by rw [hi, e]))), h1.ts.same (fun i hi => Below.heap_setCell _ _ _ i (fun e => h.nt (by rw [hi, e]))), Assoc.same hm (Below.heap_setCell _ _ _ _ (fun e => hne b (Or.inl rfl) e.symm)), h.ng, h.nt, fun e => hne b (Or.inl rfl) (Option.some.inj e).symm,
    h.gt, fun i hi e => hne i (Or.inr (Or.inl hi)) (Option.some.inj e).symm, fun i hi e => hne i (Or.inr (Or.inr (Or.inl hi))) (Option.some.inj e).symm⟩

/-- The map of what was counted has turned. -/
theorem NetIn.turned {ts' : List Tm} (h : NetIn w b gv tm cm s) (hg : w.grownBy w' tm) (ht : TsIn w' tm ts') : NetIn w' b gv tm cm { s with tals := ts' } := by
  have hb : ∀ i, ofNet b gv none cm i → w'.heap[i]? = w.heap[i]? := fun i hi => by
    have hlt : i < w.heap.size := h.lt (hi.elim Or.inl (fun h => h.elim (fun h => Or.inr (Or.inl h)) (fun h => h.elim (fun h => by cases h) (fun h => Or.inr (Or.inr (Or.inr h))))))
    refine hg.block i hlt (fun e => ?_)
    rcases hi with hi | hi | hi | hi
    · exact h.nt (by rw [← e, hi])
    · exact h.gt i hi e.symm
    · cases hi
    · exact h.tc i e.symm hi
  have h0 := hb b (Or.inl rfl)
  exact ⟨(World.cell?_of_block h0).trans h.c0, (World.cell?_of_block h0).trans h.c1, (World.cell?_of_block h0).trans h.c2, fun i => (World.frozen?_of_block h0).trans (h.f i), h.own.same (fun i hi => hb i (Or.inr (Or.inl hi))), ht, h.cs.same (fun i hi => hb i (Or.inr (Or.inr (Or.inr hi)))), h.ng, h.nt, h.nc, h.gt, h.gc, h.tc⟩

theorem NetIn.cutted {cs' : List (Int × Int)} (h : NetIn w b gv tm cm s) (hg : w.grownBy w' cm) (ht : CutsIn w' cm cs') : NetIn w' b gv tm cm { s with cuts := cs' } := by
  have hb : ∀ i, ofNet b gv tm none i → w'.heap[i]? = w.heap[i]? := fun i hi => by
    have hlt : i < w.heap.size := h.lt (hi.elim Or.inl (fun h => h.elim (fun h => Or.inr (Or.inl h)) (fun h => h.elim (fun h => Or.inr (Or.inr (Or.inl h))) (fun h => by cases h))))
    refine hg.block i hlt (fun e => ?_)
    rcases hi with hi | hi | hi | hi
    · exact h.nc (by rw [← e, hi])
    · exact h.gc i hi e.symm
    · exact h.tc i hi e.symm
    · cases hi
  have h0 := hb b (Or.inl rfl)
  exact ⟨(World.cell?_of_block h0).trans h.c0, (World.cell?_of_block h0).trans h.c1, (World.cell?_of_block h0).trans h.c2, fun i => (World.frozen?_of_block h0).trans (h.f i), h.own.same (fun i hi => hb i (Or.inr (Or.inl hi))), h.ts.same (fun i hi => hb i (Or.inr (Or.inr (Or.inl hi)))), ht, h.ng, h.nt, h.nc, h.gt, h.gc, h.tc⟩

end

/-- A net at block b, whose blocks are those of S. -/
def NetAt (S : Nat → Prop) (w : World) (b : Nat) (s : NetSt) : Prop := ∃ gv tm cm, NetIn w b gv tm cm s ∧ ∀ i, S i ↔ ofNet b gv tm cm i

/-- From w to w' the net at b, whose blocks were those of S, came to s; nothing else has turned. -/
def Next (S : Nat → Prop) (w w' : World) (b : Nat) (s : NetSt) : Prop := ∃ S', NetAt S' w' b s ∧ (∀ i, S' i → S i ∨ w.heap.size ≤ i) ∧ Kept S w w'

section
variable {S T : Nat → Prop} {w w' w'' : World} {b : Nat} {s s' : NetSt}

theorem NetAt.lt (h : NetAt S w b s) {i : Nat} (hi : S i) : i < w.heap.size := by
  obtain ⟨gv, tm, cm, h1, h2⟩ := h
  exact h1.lt ((h2 i).1 hi)
theorem NetAt.kept (h : NetAt S w b s) (hk : Kept T w w') (hT : ∀ i, S i → ¬ T i) : NetAt S w' b s := by
  obtain ⟨gv, tm, cm, h1, h2⟩ := h
  exact ⟨gv, tm, cm, h1.kept hk (fun i hi => hT i ((h2 i).2 hi)), h2⟩
theorem NetAt.kept0 (h : NetAt S w b s) (hk : Kept (fun _ => False) w w') : NetAt S w' b s := h.kept hk (fun _ _ => id)
theorem NetAt.alloc (h : NetAt S w b s) (o : Obj) : NetAt S (w.alloc o) b s := h.kept0 ((Kept.refl _ w).alloc o)
theorem NetAt.next (h : NetAt S w b s) : Next S w w b s := ⟨S, h, fun _ hi => Or.inl hi, Kept.refl _ _⟩
theorem Next.trans (h : ∀ S', NetAt S' w' b s → Next S' w' w'' b s') (hn : Next S w w' b s) : Next S w w'' b s' := by
  obtain ⟨S1, h1, h2, h3⟩ := hn
  obtain ⟨S2, h4, h5, h6⟩ := h S1 h1
  refine ⟨S2, h4, fun i hi => ?_, h3.andThen h6 (fun i hi t => ?_)⟩
  · rcases h5 i hi with h | h
    · exact h2 i h
    · exact Or.inr (Nat.le_trans h3.size h)
  · rcases h2 i t with h | h
    · exact h
    · omega
/-- A step that turns no block of the net. -/
theorem Next.still (hn : Next S w w' b s) (hk : Kept (fun i => w.heap.size ≤ i ∧ ∀ S', NetAt S' w' b s → ¬ S' i) w' w'') : Next S w w'' b s := by
  obtain ⟨S1, h1, h2, h3⟩ := hn
  exact ⟨S1, h1.kept hk (fun i hi t => t.2 S1 h1 hi), h2, h3.andThen hk (fun i hi t => by have := t.1; omega)⟩
theorem Next.still0 (hn : Next S w w' b s) (hk : Kept (fun _ => False) w' w'') : Next S w w'' b s := hn.still (hk.mono (fun _ _ h => h.elim))
theorem Next.size (hn : Next S w w' b s) : w.heap.size ≤ w'.heap.size := by
  obtain ⟨S1, h1, h2, h3⟩ := hn
  exact h3.size
/-- The start is drawn back. -/
theorem Next.back (hn : Next S w' w'' b s) (hk : Kept (fun _ => False) w w') : Next S w w'' b s := by
  obtain ⟨S1, h1, h2, h3⟩ := hn
  exact ⟨S1, h1, fun i hi => (h2 i hi).imp id (fun h => Nat.le_trans hk.size h), (hk.mono (T := S) (fun _ _ h => h.elim)).trans h3⟩
end

end Go.Proofs.Ytegofkpiipomfaa
