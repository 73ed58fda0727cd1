/- What was counted of the pairs, as the entries of a map by pairs. -/
import Derived.Test.YtegofkpiipomfaaProg
import Derived.Test.YtegofkpiipomfaaAssoc
import Derived.Test.YtegofkpiipomfaaKept
import Derived.WalkKit
import Derived.WalkSpells
import Derived.WalkLawsBesides
import Derived.DeepKeys4
namespace Go.Proofs.Ytegofkpiipomfaa
open Go.RowKit
open Go.Maps (Keyed)

/-- What was counted of a pair. -/
structure Tm where
  src : Int
  dst : Int
  sent : Int
  lost : Int

/-- Within int. -/
def In64 (x : Int) : Prop := -9223372036854775808 ≤ x ∧ x ≤ 9223372036854775807

def keyV (k i : Int) : Value := .agg #[.int .i64 k, .int .i64 i]
def tmV (t : Tm) : Value × Value := (keyV t.src t.dst, .agg #[.int .i64 t.sent, .int .i64 t.lost])

theorem laidOutT : laidOutB Try.prog = true := by kernel_rfl
theorem keyLaw : Keyed Try.prog 48 := Keyed.of_law (deep_law_laid laidOutT (m := 5) (by decide) (of_decide_eq_true (by kernel_rfl)) (by kernel_rfl) (by kernel_rfl))
theorem zeroTm (w : World) : (zeroValue 62).run Try.prog w = .ok (.agg #[.int .i64 0, .int .i64 0]) w := by kernel_rfl

theorem typesPos : ∃ n, Try.prog.types.size = n + 1 := ⟨Try.prog.types.size - 1, by have : 0 < Try.prog.types.size := of_decide_eq_true (by kernel_rfl); omega⟩
theorem keyTypeKey : Try.prog.keyType 48 = true := by kernel_rfl
theorem cellsKey : Try.prog.cellsOf 48 = 2 := by kernel_rfl
theorem cellsInt : Try.prog.cellsOf 3 = 1 := by kernel_rfl

theorem wf64 {x : Int} (h : In64 x) : (Lit.int .i64 x).wf = true := WalkArith.wf_i64 h

theorem key_reads {k i : Int} (hk : In64 k) (hi : In64 i) : ∃ l, keyOf Try.prog 48 (keyV k i) = some l := by
  obtain ⟨n, hn⟩ := typesPos
  refine ⟨.string (keyBytes [.int .i64 k, .int .i64 i]), ?_⟩
  unfold keyOf keyV
  rw [hn]
  simp [Try.underlying48, keyTypeKey, cellsKey, cellsInt, Value.formed, Value.cells, Program.keyLits, Try.underlying3, wf64 hk, wf64 hi]
/-- The counts that the map m holds (m: none, or its block), in some order. -/
def TsIn (w : World) (m : Option Nat) (ts : List Tm) : Prop :=
  match m with
  | none => ts = []
  | some b => Assoc w Try.prog 48 b (ts.map tmV)

def isOf (k i : Int) (t : Tm) : Bool := decide (t.src = k ∧ t.dst = i)
def findT (ts : List Tm) (k i : Int) : Option Tm := ts.find? (isOf k i)
def dropT (ts : List Tm) (k i : Int) : List Tm := ts.filter (fun t => !isOf k i t)
def sentOf : Option Tm → Int | none => 0 | some t => t.sent
def lostOf : Option Tm → Int | none => 0 | some t => t.lost

theorem keyV_inj {k i k' i' : Int} (h : keyV k i = keyV k' i') : k = k' ∧ i = i' := by
  unfold keyV at h
  simp at h
  exact h

theorem isOf_iff {k i : Int} {t : Tm} : isOf k i t = true ↔ (tmV t).1 = keyV k i := by
  unfold isOf tmV keyV
  simp

/-- No key has two counts. -/
def Apart (ts : List Tm) : Prop := ts.Pairwise (fun a b => ¬ (a.src = b.src ∧ a.dst = b.dst))

theorem apart_of_assoc {w : World} {b : Nat} {ts : List Tm} (h : Assoc w Try.prog 48 b (ts.map tmV)) : Apart ts := by
  have := h.keys
  rw [List.pairwise_map] at this
  exact this.imp (fun {a b} hne e => hne (by unfold tmV keyV; simp [e.1, e.2]))

theorem find_of_mem : ∀ {ts : List Tm}, Apart ts → ∀ {t : Tm}, t ∈ ts → ∀ {k i : Int}, t.src = k → t.dst = i → findT ts k i = some t
  | a :: r, hA, t, hm, k, i, hk, hi => by
    obtain ⟨h1, h2⟩ := List.pairwise_cons.1 hA
    unfold findT
    rcases List.mem_cons.1 hm with rfl | hm
    · rw [List.find?_cons_of_pos]
      simp [isOf, hk, hi]
    · rw [List.find?_cons_of_neg]
      · exact find_of_mem h2 hm hk hi
      · simp only [isOf, decide_eq_true_eq]
        intro e
        exact h1 t hm ⟨e.1.trans hk.symm, e.2.trans hi.symm⟩

theorem find_none {ts : List Tm} {k i : Int} (h : ∀ t ∈ ts, isOf k i t = false) : findT ts k i = none := by
  unfold findT
  rw [List.find?_eq_none]
  intro t ht
  rw [h t ht]
  simp

/-- 'm[k]' and 'v, ok := m[k]'. -/
theorem TsIn.look {w : World} {m : Option Nat} {ts : List Tm} (h : TsIn w m ts) (c : Bool) {k i : Int} (hk : In64 k) (hi : In64 i) :
    (Instr.lookup 32 (.map m) (keyV k i) c).run Try.prog w =
      .ok (if c then .tuple #[.agg #[.int .i64 (sentOf (findT ts k i)), .int .i64 (lostOf (findT ts k i))], .bool (findT ts k i).isSome] else .agg #[.int .i64 (sentOf (findT ts k i)), .int .i64 (lostOf (findT ts k i))]) w := by
  obtain ⟨l, hl⟩ := key_reads hk hi
  cases m with
  | none =>
    have h' : ts = [] := h
    subst h'
    exact Maps.look_nil c keyLaw Try.underlying32 (zeroTm w) hl
  | some b =>
    have h' : Assoc w Try.prog 48 b (ts.map tmV) := h
    rcases h'.look c keyLaw Try.underlying32 (zeroTm w) hl with ⟨h1, h2⟩ | ⟨v, h1, h2⟩
    · have hf : findT ts k i = none := find_none (fun t ht => by
        cases e : isOf k i t
        · rfl
        · exact absurd (isOf_iff.1 e) (h1 _ (List.mem_map.2 ⟨t, ht, rfl⟩)))
      rw [hf, h2]
      rfl
    · obtain ⟨t, ht, e⟩ := List.mem_map.1 h1
      have e1 : isOf k i t = true := isOf_iff.2 (by rw [e])
      simp only [isOf, decide_eq_true_eq] at e1
      have hf := find_of_mem (apart_of_assoc h') ht e1.1 e1.2
      have e2 : v = .agg #[.int .i64 t.sent, .int .i64 t.lost] := by rw [tmV] at e; exact (Prod.mk.inj e).2.symm
      rw [hf, h2, e2]
      rfl

theorem TsIn.len {w : World} {m : Option Nat} {ts : List Tm} (h : TsIn w m ts) (ty : TypeId) :
    (Builtin.len_ #[32] ty #[.map m]).run Try.prog w = .ok (.int .i64 (ts.length : Nat)) w := by
  cases m with
  | none =>
    have h' : ts = [] := h
    subst h'
    exact Maps.len_nil Try.underlying32 ty
  | some b =>
    have h' : Assoc w Try.prog 48 b (ts.map tmV) := h
    rw [h'.len Try.underlying32, List.length_map]

theorem strikes_drop {ts : List Tm} (hA : Apart ts) (k i : Int) : Strikes (ts.map tmV) (keyV k i) ((dropT ts k i).map tmV) := by
  induction ts with
  | nil => exact Or.inl ⟨by simp [dropT], by simp [dropT]⟩
  | cons a r ih =>
    obtain ⟨h1, h2⟩ := List.pairwise_cons.1 hA
    cases e : isOf k i a
    · have e1 : dropT (a :: r) k i = a :: dropT r k i := by simp [dropT, e]
      rw [e1]
      rcases ih h2 with ⟨hp, hn⟩ | ⟨v, hp⟩
      · refine Or.inl ⟨by simpa using hp.cons (tmV a), fun p hp' => ?_⟩
        rcases List.mem_cons.1 hp' with rfl | hp'
        · intro e2
          rw [isOf_iff.2 e2] at e
          cases e
        · exact hn p hp'
      · exact Or.inr ⟨v, by simpa using (hp.cons (tmV a)).trans (List.Perm.swap _ _ _)⟩
    · have e1 : dropT (a :: r) k i = r := by
        have : ∀ t ∈ r, isOf k i t = false := fun t ht => by
          cases e2 : isOf k i t
          · rfl
          · simp only [isOf, decide_eq_true_eq] at e e2
            exact absurd ⟨e.1.trans e2.1.symm, e.2.trans e2.2.symm⟩ (h1 t ht)
        rw [dropT, List.filter_cons, if_neg (by simp [e])]
        exact List.filter_eq_self.2 (fun t ht => by simp [this t ht])
      rw [e1]
      refine Or.inr ⟨.agg #[.int .i64 a.sent, .int .i64 a.lost], ?_⟩
      have : tmV a = (keyV k i, .agg #[.int .i64 a.sent, .int .i64 a.lost]) := by rw [← isOf_iff.1 e]; rfl
      rw [List.map_cons, this]

theorem TsIn.drop {w : World} {m : Option Nat} {ts : List Tm} (h : TsIn w m ts) {k i : Int} (hk : In64 k) (hi : In64 i) (ty : TypeId) :
    ∃ w', (Builtin.delete_ #[32, 48] ty #[.map m, keyV k i]).run Try.prog w = .ok (.tuple #[]) w' ∧ TsIn w' m (dropT ts k i) ∧ w.grownBy w' m ∧ w'.heap.size = w.heap.size := by
  obtain ⟨l, hl⟩ := key_reads hk hi
  cases m with
  | none =>
    have h' : ts = [] := h
    subst h'
    exact ⟨w, Maps.drop_nil keyLaw Try.underlying32 hl ty, rfl, ⟨rfl, rfl, rfl, Nat.le_refl _, fun _ _ _ => rfl⟩, rfl⟩
  | some b =>
    have h' : Assoc w Try.prog 48 b (ts.map tmV) := h
    obtain ⟨w', h1, h2, h3⟩ := h'.drop (ty := ty) keyLaw Try.underlying32 hl (strikes_drop (apart_of_assoc h') k i)
    refine ⟨w', h1, h2, h3.grown, ?_⟩
    obtain ⟨es, clock, es', clock', _, rfl⟩ := h3
    simp [ChangeMaps.setBlock]

theorem TsIn.store {w : World} {b : Nat} {ts : List Tm} (h : TsIn w (some b) ts) (hroom : ts.length < 1000000) {k i : Int} (hk : In64 k) (hi : In64 i) (a t : Int) :
    ∃ w', (Instr.mapUpdate 32 (.map (some b)) (keyV k i) (.agg #[.int .i64 a, .int .i64 t])).run Try.prog w = .ok () w' ∧ TsIn w' (some b) (dropT ts k i ++ [⟨k, i, a, t⟩]) ∧ w.grownBy w' (some b) ∧ w'.heap.size = w.heap.size := by
  obtain ⟨l, hl⟩ := key_reads hk hi
  have h' : Assoc w Try.prog 48 b (ts.map tmV) := h
  obtain ⟨w', h1, h2, h3⟩ := h'.store (val := .agg #[.int .i64 a, .int .i64 t]) keyLaw Try.underlying32 (by rw [List.length_map]; unfold maxLen; omega) hl (strikes_drop (apart_of_assoc h') k i)
  refine ⟨w', h1, ?_, h3.grown, ?_⟩
  · show Assoc w' Try.prog 48 b ((dropT ts k i ++ [(⟨k, i, a, t⟩ : Tm)]).map tmV)
    refine h2.perm ?_
    rw [List.map_append]
    exact (List.perm_append_singleton _ _).symm
  · obtain ⟨es, clock, es', clock', _, rfl⟩ := h3
    simp [ChangeMaps.setBlock]

theorem TsIn.same {w w' : World} {m : Option Nat} {ts : List Tm} (h : TsIn w m ts) (hb : ∀ b, m = some b → w'.heap[b]? = w.heap[b]?) : TsIn w' m ts := by
  cases m with
  | none => exact h
  | some b => exact Assoc.same (L := ts.map tmV) h (hb b rfl)

theorem TsIn.lt {w : World} {b : Nat} {ts : List Tm} (h : TsIn w (some b) ts) : b < w.heap.size := Assoc.lt (L := ts.map tmV) h

theorem eqMapSome (mb : Nat) (w : World) : (binOp .eql 32 (.map (some mb)) (.map none)).run Try.prog w = .ok (.bool false) w := by kernel_rfl
theorem eqMapNil (w : World) : (binOp .eql 32 (.map none) (.map none)).run Try.prog w = .ok (.bool true) w := by kernel_rfl

theorem TsIn.setCell {w : World} {m : Option Nat} {ts : List Tm} (h : TsIn w m ts) {a : Addr} (ha : m ≠ some a.block) (u : Value) : TsIn (w.setCell a u) m ts :=
  h.same (fun j hj => Below.heap_setCell w a u j (fun e => ha (by rw [hj, e])))

end Go.Proofs.Ytegofkpiipomfaa
