/- The program's store in memory: its secrets are a map by name and realm; what a look-up, a store, a delete and len give. -/
import Derived.Test.YtmbdjgfbhblifaaDoorKsSplit
import Derived.Test.YtmbdjgfbhblifaaDoorStAbs
import Derived.Test.YtmbdjgfbhblifaaDoorAssoc
import Derived.Test.YtmbdjgfbhblifaaDoorKept
import Derived.WalkKit
import Derived.WalkSpells
import Derived.WalkLawsBesides
import Derived.DeepKeys4
namespace Go.Proofs.YtmbdjgfbhblifaaDoor
open Go.RowKit
open Go.Maps (Keyed)

theorem laidOutT : laidOutB Tryd.prog = true := by kernel_rfl
theorem keyWho : Keyed Tryd.prog 47 := Keyed.of_law (deep_law_laid laidOutT (m := 5) (by decide) (of_decide_eq_true (by kernel_rfl)) (by kernel_rfl) (by kernel_rfl))
theorem keyTypeWho : Tryd.prog.keyType 47 = true := by kernel_rfl
theorem cellsWhoP : Tryd.prog.cellsOf 47 = 2 := by kernel_rfl
theorem cellsStrP : Tryd.prog.cellsOf 9 = 1 := by kernel_rfl
theorem typesPos : ∃ n, Tryd.prog.types.size = n + 3 := ⟨Tryd.prog.types.size - 3, by have : 3 ≤ Tryd.prog.types.size := of_decide_eq_true (by kernel_rfl); omega⟩
theorem whoP_lits (d : Nat) (n r : ByteArray) (hn : n.size ≤ maxLen) (hr : r.size ≤ maxLen) : Tryd.prog.keyLits (d + 2) 47 [.string n, .string r] = some [.string n.data.toList, .string r.data.toList] := by
  have h2 : ∀ x : ByteArray, x.size ≤ maxLen → Tryd.prog.keyLits (d + 1) 9 [.string x] = some [.string x.data.toList] := fun x hx => by
    unfold Program.keyLits
    rw [Tryd.underlying9]
    simp [hx]
  unfold Program.keyLits
  rw [Tryd.underlying47]
  simp [cellsWhoP, cellsStrP, h2 n hn, h2 r hr]
theorem whoP_eq (a b c d : ByteArray) (ha : a.size ≤ maxLen) (hb : b.size ≤ maxLen) (hc : c.size ≤ maxLen) (hd : d.size ≤ maxLen) (W : World) :
    Sem.run Tryd.prog (Op.equalIn 10000 47 (.agg #[.string a, .string b]) (.agg #[.string c, .string d])) W = .ok (decide (a = c ∧ b = d)) W := by
  have hk : Tryd.prog.keyTypeAt 2 47 = true := by kernel_rfl
  have hf : ∀ x y : ByteArray, (Value.agg #[.string x, .string y]).formed Tryd.prog 47 = true := fun x y => by simp [Value.formed, Tryd.underlying47, cellsWhoP]
  obtain ⟨r, hr, hiff⟩ := run_equalIn_deep (P := Tryd.prog) 9998 2 47 hk W 2 2 (.agg #[.string a, .string b]) (.agg #[.string c, .string d]) _ _ (hf a b) (hf c d) (whoP_lits 0 a b ha hb) (whoP_lits 0 c d hc hd)
  have hr' : (Op.equalIn 10000 47 (.agg #[.string a, .string b]) (.agg #[.string c, .string d])).run Tryd.prog W = .ok r W := hr
  have hd : decide (a = c ∧ b = d) = r := by
    cases r with
    | true =>
      have h3 := hiff.1 rfl
      simp only [List.cons.injEq, Lit.string.injEq, and_true] at h3
      exact decide_eq_true ⟨bytes_ext h3.1, bytes_ext h3.2⟩
    | false =>
      refine decide_eq_false (fun h => ?_)
      have := hiff.2 (by rw [h.1, h.2])
      cases this
  rw [hd]
  exact hr'

abbrev Two2 := ByteArray × ByteArray
def whoV (q : Two2) : Value := .agg #[.string q.1, .string q.2]
def recV (e : En) : Value := .agg #[.string e.secret, .int .i64 e.wrong, .int .i64 e.last]
def en0 : En := ⟨⟨#[]⟩, 0, 0⟩
theorem whoV_inj {p q : Two2} (h : whoV p = whoV q) : p = q := by
  simp [whoV] at h
  exact Prod.ext h.1 h.2
theorem recV_inj {p q : En} (h : recV p = recV q) : p = q := by
  cases p; cases q
  simp [recV] at h
  simp [h]
def FitW (q : Two2) : Prop := q.1.size ≤ maxLen ∧ q.2.size ≤ maxLen
theorem who_reads {q : Two2} (h : FitW q) : ∃ l, keyOf Tryd.prog 47 (whoV q) = some l := by
  obtain ⟨n, hn⟩ := typesPos
  refine ⟨.string (keyBytes [.string q.1.data.toList, .string q.2.data.toList]), ?_⟩
  have hl := whoP_lits (n + 2) q.1 q.2 h.1 h.2
  unfold keyOf whoV
  rw [hn]
  simp [Tryd.underlying47, keyTypeWho, cellsWhoP, Value.formed, Value.cells, hl]
theorem zeroRec (w : World) : (zeroValue 54).run Tryd.prog w = .ok (recV en0) w := by kernel_rfl
theorem keptM {w w' : World} {b : Nat} (h : w.mapTurned w' b) : Kept (fun i => i = b) w w' := by
  have hg := h.grown
  exact ⟨hg.os, hg.tape, hg.output, hg.size, fun k hk hn => hg.block k hk (fun e => hn (by simpa using e))⟩

/-- The map in block mb has what the store A knows. -/
def SecIs (W : World) (mb : Nat) (A : Ab) : Prop :=
  ∃ L, Assoc W Tryd.prog 47 mb L ∧ A.n = L.length ∧ (∀ q e, A.look q = some e → (whoV q, recV e) ∈ L) ∧ (∀ p ∈ L, ∃ q e, p = (whoV q, recV e) ∧ A.look q = some e)
def empA : Ab := ⟨fun _ => none, 0⟩
/-- A store's name is set, or taken away. -/
def putA (A : Ab) (q : Two2) (e : En) : Ab := ⟨updA A.look q (some e), if (A.look q).isSome then A.n else A.n + 1⟩
def delA (A : Ab) (q : Two2) : Ab := ⟨updA A.look q none, if (A.look q).isSome then A.n - 1 else A.n⟩
/-- What a look-up gives. -/
def lookV (o : Option En) : Value := recV (o.getD en0)
def lookV2 (o : Option En) : Value := .tuple #[recV (o.getD en0), .bool o.isSome]

section
variable {W W' : World} {mb : Nat} {A : Ab}
theorem SecIs.lt (h : SecIs W mb A) : mb < W.heap.size := by
  obtain ⟨L, hA, _⟩ := h
  exact hA.lt
theorem SecIs.isMap (h : SecIs W mb A) : ∃ es c, W.heap[mb]? = some (.map es c) := by
  obtain ⟨L, ⟨es, c, hb, _⟩, _⟩ := h
  exact ⟨es, c, hb⟩
theorem SecIs.same (h : SecIs W mb A) (hb : W'.heap[mb]? = W.heap[mb]?) : SecIs W' mb A := by
  obtain ⟨L, hA, r⟩ := h
  exact ⟨L, hA.same hb, r⟩
theorem SecIs.made (w : World) : SecIs (w.alloc (.map #[] 0)) w.heap.size empA := ⟨[], Assoc.made w _ _, rfl, fun _ _ h => (by cases h), fun p hp => absurd hp List.not_mem_nil⟩
theorem SecIs.look1 (h : SecIs W mb A) {q : Two2} (hq : FitW q) : (Instr.lookup 31 (.map (some mb)) (whoV q) false).run Tryd.prog W = .ok (lookV (A.look q)) W := by
  obtain ⟨L, hA, _, h1, h2⟩ := h
  obtain ⟨kl, hkl⟩ := who_reads hq
  rcases hA.look false keyWho Tryd.underlying31 (zeroRec W) hkl with ⟨hn, hr⟩ | ⟨x, hx, hr⟩
  · have : A.look q = none := by
      cases he : A.look q with
      | none => rfl
      | some e => exact absurd rfl (hn _ (h1 q e he))
    rw [this]
    exact hr
  · obtain ⟨p, e, e1, e2⟩ := h2 _ hx
    obtain ⟨ea, eb⟩ := Prod.mk.inj e1
    obtain rfl := whoV_inj ea
    subst eb
    rw [e2]
    exact hr
theorem SecIs.look2 (h : SecIs W mb A) {q : Two2} (hq : FitW q) : (Instr.lookup 31 (.map (some mb)) (whoV q) true).run Tryd.prog W = .ok (lookV2 (A.look q)) W := by
  obtain ⟨L, hA, _, h1, h2⟩ := h
  obtain ⟨kl, hkl⟩ := who_reads hq
  rcases hA.look true keyWho Tryd.underlying31 (zeroRec W) hkl with ⟨hn, hr⟩ | ⟨x, hx, hr⟩
  · have : A.look q = none := by
      cases he : A.look q with
      | none => rfl
      | some e => exact absurd rfl (hn _ (h1 q e he))
    rw [this]
    exact hr
  · obtain ⟨p, e, e1, e2⟩ := h2 _ hx
    obtain ⟨ea, eb⟩ := Prod.mk.inj e1
    obtain rfl := whoV_inj ea
    subst eb
    rw [e2]
    exact hr
/-- What stands beside a name's own entry. -/
theorem SecIs.part {L : List (Value × Value)} (hA : Assoc W Tryd.prog 47 mb L) (hn : A.n = L.length) (h1 : ∀ q e, A.look q = some e → (whoV q, recV e) ∈ L) (h2 : ∀ p ∈ L, ∃ q e, p = (whoV q, recV e) ∧ A.look q = some e) (q : Two2) :
    ∃ M, Strikes L (whoV q) M ∧ M.length = (if (A.look q).isSome then A.n - 1 else A.n) ∧ (∀ p e, p ≠ q → (A.look p = some e ↔ (whoV p, recV e) ∈ M)) ∧ (∀ x ∈ M, ∃ p e, x = (whoV p, recV e) ∧ A.look p = some e ∧ p ≠ q) := by
  cases hq : A.look q with
  | none =>
    have hno : ∀ p ∈ L, p.1 ≠ whoV q := fun p hp e => by
      obtain ⟨p', e', rfl, h3⟩ := h2 p hp
      obtain rfl := whoV_inj e
      rw [hq] at h3
      cases h3
    refine ⟨L, Or.inl ⟨List.Perm.refl _, hno⟩, by simp [hn], fun p e _ => ⟨h1 p e, fun hm => ?_⟩, fun x hx => ?_⟩
    · obtain ⟨p', e', e1, h3⟩ := h2 _ hm
      obtain ⟨ea, eb⟩ := Prod.mk.inj e1
      rw [whoV_inj ea, recV_inj eb]
      exact h3
    · obtain ⟨p', e', rfl, h3⟩ := h2 x hx
      exact ⟨p', e', rfl, h3, fun e => hno _ hx (by rw [e])⟩
  | some e0 =>
    have hin := h1 q e0 hq
    obtain ⟨s, t, e⟩ := List.append_of_mem hin
    have hp : L.Perm ((whoV q, recV e0) :: (s ++ t)) := by rw [e]; exact List.perm_middle
    have hk := (hp.pairwise_iff (fun {a b} (h : a.1 ≠ b.1) => h.symm)).1 hA.keys
    have hk2 := (List.pairwise_cons.1 hk).1
    refine ⟨s ++ t, Or.inr ⟨_, hp⟩, by rw [hn, hp.length_eq]; simp, fun p e hpq => ⟨fun h => ?_, fun hm => ?_⟩, fun x hx => ?_⟩
    · rcases List.mem_cons.1 (hp.mem_iff.1 (h1 p e h)) with h3 | h3
      · exact absurd (whoV_inj (Prod.mk.inj h3).1) hpq
      · exact h3
    · obtain ⟨p', e', e1, h3⟩ := h2 _ (hp.mem_iff.2 (List.mem_cons_of_mem _ hm))
      obtain ⟨ea, eb⟩ := Prod.mk.inj e1
      rw [whoV_inj ea, recV_inj eb]
      exact h3
    · obtain ⟨p', e', e1, h3⟩ := h2 _ (hp.mem_iff.2 (List.mem_cons_of_mem _ hx))
      refine ⟨p', e', e1, h3, fun e => hk2 x hx ?_⟩
      rw [e1, e]
theorem SecIs.put (h : SecIs W mb A) {q : Two2} (hq : FitW q) (hn : A.n < 1000000) (e : En) :
    ∃ w', (Instr.mapUpdate 31 (.map (some mb)) (whoV q) (recV e)).run Tryd.prog W = .ok () w' ∧ SecIs w' mb (putA A q e) ∧ Kept (fun i => i = mb) W w' := by
  obtain ⟨L, hA, hL, h1, h2⟩ := h
  obtain ⟨kl, hkl⟩ := who_reads hq
  obtain ⟨M, hM, hl, h3, h4⟩ := SecIs.part hA hL h1 h2 q
  obtain ⟨w', hrun, hA', ht⟩ := hA.store keyWho Tryd.underlying31 (by unfold maxLen; omega) (val := recV e) hkl hM
  refine ⟨w', hrun, ⟨_, hA', ?_, fun p e' hp => ?_, fun x hx => ?_⟩, keptM ht⟩
  · show (if (A.look q).isSome then A.n else A.n + 1) = _
    rw [List.length_cons, hl]
    cases hs : A.look q with
    | none => simp
    | some e0 =>
      have : 0 < L.length := List.length_pos_of_mem (h1 q e0 hs)
      simp
      omega
  · have hp' : updA A.look q (some e) p = some e' := hp
    unfold updA at hp'
    by_cases hpq : p = q
    · rw [if_pos hpq] at hp'
      rw [hpq, Option.some.inj hp']
      exact List.mem_cons_self ..
    · rw [if_neg hpq] at hp'
      exact List.mem_cons_of_mem _ ((h3 p e' hpq).1 hp')
  · rcases List.mem_cons.1 hx with rfl | hx
    · exact ⟨q, e, rfl, by show updA A.look q (some e) q = _; unfold updA; rw [if_pos rfl]⟩
    · obtain ⟨p, e', e1, h5, hpq⟩ := h4 x hx
      exact ⟨p, e', e1, by show updA A.look q (some e) p = _; unfold updA; rw [if_neg hpq]; exact h5⟩
theorem SecIs.del (h : SecIs W mb A) {q : Two2} (hq : FitW q) (ty : TypeId) :
    ∃ w', (Builtin.delete_ #[31, 47] ty #[.map (some mb), whoV q]).run Tryd.prog W = .ok (.tuple #[]) w' ∧ SecIs w' mb (delA A q) ∧ Kept (fun i => i = mb) W w' := by
  obtain ⟨L, hA, hL, h1, h2⟩ := h
  obtain ⟨kl, hkl⟩ := who_reads hq
  obtain ⟨M, hM, hl, h3, h4⟩ := SecIs.part hA hL h1 h2 q
  obtain ⟨w', hrun, hA', ht⟩ := hA.drop (ty := ty) keyWho Tryd.underlying31 hkl hM
  refine ⟨w', hrun, ⟨_, hA', hl.symm, fun p e' hp => ?_, fun x hx => ?_⟩, keptM ht⟩
  · have hp' : updA A.look q none p = some e' := hp
    unfold updA at hp'
    by_cases hpq : p = q
    · rw [if_pos hpq] at hp'
      cases hp'
    · rw [if_neg hpq] at hp'
      exact (h3 p e' hpq).1 hp'
  · obtain ⟨p, e', e1, h5, hpq⟩ := h4 x hx
    exact ⟨p, e', e1, by show updA A.look q none p = _; unfold updA; rw [if_neg hpq]; exact h5⟩
theorem SecIs.len (h : SecIs W mb A) (ty : TypeId) : (Builtin.len_ #[31] ty #[.map (some mb)]).run Tryd.prog W = .ok (.int .i64 (A.n : Nat)) W := by
  obtain ⟨L, hA, hL, _⟩ := h
  rw [hL]
  exact hA.len Tryd.underlying31
end

/-! A map that is nil. -/
theorem nil_look1 (W : World) {q : Two2} (hq : FitW q) : (Instr.lookup 31 (.map none) (whoV q) false).run Tryd.prog W = .ok (lookV none) W := by
  obtain ⟨kl, hkl⟩ := who_reads hq
  rcases keyWho.find W hkl [] (fun x hx => absurd hx List.not_mem_nil) with ⟨h1, _⟩ | ⟨j, e0, _, h2, _⟩
  · simp [Instr.lookup, run_underlying Tryd.underlying31, keyWho.check W _ hkl, h1, Result.andThen, lookV, recV, en0]
  · cases h2
theorem nil_look2 (W : World) {q : Two2} (hq : FitW q) : (Instr.lookup 31 (.map none) (whoV q) true).run Tryd.prog W = .ok (lookV2 none) W := by
  obtain ⟨kl, hkl⟩ := who_reads hq
  rcases keyWho.find W hkl [] (fun x hx => absurd hx List.not_mem_nil) with ⟨h1, _⟩ | ⟨j, e0, _, h2, _⟩
  · simp [Instr.lookup, run_underlying Tryd.underlying31, keyWho.check W _ hkl, h1, Result.andThen, lookV2, recV, en0]
  · cases h2
theorem nil_del (W : World) {q : Two2} (hq : FitW q) (ty : TypeId) : (Builtin.delete_ #[31, 47] ty #[.map none, whoV q]).run Tryd.prog W = .ok (.tuple #[]) W := by
  obtain ⟨kl, hkl⟩ := who_reads hq
  simp [Builtin.delete_, run_underlying Tryd.underlying31, keyWho.check W _ hkl, Result.andThen]
theorem nil_len (W : World) (ty : TypeId) : (Builtin.len_ #[31] ty #[.map none]).run Tryd.prog W = .ok (.int .i64 0) W := by
  simp [Builtin.len_, run_underlying Tryd.underlying31, Result.andThen, goInt]
theorem eq_mapSome (mb : Nat) (w : World) : (binOp .eql 31 (.map (some mb)) (.map none)).run Tryd.prog w = .ok (.bool false) w := by kernel_rfl
theorem eq_mapNil (w : World) : (binOp .eql 31 (.map none) (.map none)).run Tryd.prog w = .ok (.bool true) w := by kernel_rfl

/-- The program's store at block b: its limit, its calm, and its map, at base or behind. -/
structure KsIn (w : World) (base b : Nat) (m : Option Nat) (limit calm : Int) (A : Ab) : Prop where
  blk : w.heap[b]? = some (.cells #[.int .i64 limit, .int .i64 calm, .map m] 33 (0, 0))
  nil : m = none → A = empA
  sec : ∀ mb, m = some mb → base ≤ mb ∧ SecIs w mb A
def KsAt (w : World) (base b : Nat) (limit calm : Int) (A : Ab) : Prop := ∃ m, KsIn w base b m limit calm A
/-- From w to w' nothing has turned but the store at b and maps at base or behind. -/
def KsK (base b : Nat) (w w' : World) : Prop := Kept (fun i => i = b ∨ (base ≤ i ∧ ∃ es c, w.heap[i]? = some (.map es c))) w w'
theorem KsK.none {base b : Nat} {w w' : World} (h : Kept (fun _ => False) w w') : KsK base b w w' := h.mono (fun _ _ h => h.elim)
theorem KsK.trans {base b : Nat} {a c w : World} (h : KsK base b a w) (k : KsK base b w c) : KsK base b a c := by
  refine ⟨k.os.trans h.os, k.tape.trans h.tape, k.output.trans h.output, Nat.le_trans h.size k.size, fun i hi hn => ?_⟩
  have e := h.block i hi hn
  refine (k.block i (Nat.lt_of_lt_of_le hi h.size) (fun hh => hn ?_)).trans e
  rcases hh with hh | ⟨h1, es, cc, h2⟩
  · exact Or.inl hh
  · exact Or.inr ⟨h1, es, cc, by rw [← e]; exact h2⟩

section
variable {w w' : World} {base b : Nat} {m : Option Nat} {limit calm : Int} {A : Ab}
theorem KsIn.lt (h : KsIn w base b m limit calm A) : b < w.heap.size := (Array.getElem?_eq_some_iff.1 h.blk).1
theorem KsIn.c0 (h : KsIn w base b m limit calm A) : w.cell? ⟨b, 0, none⟩ = some (.int .i64 limit) := by simp [World.cell?, h.blk]
theorem KsIn.c1 (h : KsIn w base b m limit calm A) : w.cell? ⟨b, 1, none⟩ = some (.int .i64 calm) := by simp [World.cell?, h.blk]
theorem KsIn.c2 (h : KsIn w base b m limit calm A) : w.cell? ⟨b, 2, none⟩ = some (.map m) := by simp [World.cell?, h.blk]
theorem KsIn.fz (h : KsIn w base b m limit calm A) (i : Nat) : w.frozen? ⟨b, i, none⟩ = false := by simp [World.frozen?, h.blk]
theorem KsIn.kept0 (h : KsIn w base b m limit calm A) (hk : Kept (fun _ => False) w w') : KsIn w' base b m limit calm A :=
  ⟨(hk.block b h.lt id).trans h.blk, h.nil, fun mb e => ⟨(h.sec mb e).1, (h.sec mb e).2.same (hk.block mb (h.sec mb e).2.lt id)⟩⟩
theorem KsIn.look1 (h : KsIn w base b m limit calm A) {q : Two2} (hq : FitW q) : (Instr.lookup 31 (.map m) (whoV q) false).run Tryd.prog w = .ok (lookV (A.look q)) w := by
  cases m with
  | none => rw [h.nil rfl]; exact nil_look1 w hq
  | some mb => exact (h.sec mb rfl).2.look1 hq
theorem KsIn.look2 (h : KsIn w base b m limit calm A) {q : Two2} (hq : FitW q) : (Instr.lookup 31 (.map m) (whoV q) true).run Tryd.prog w = .ok (lookV2 (A.look q)) w := by
  cases m with
  | none => rw [h.nil rfl]; exact nil_look2 w hq
  | some mb => exact (h.sec mb rfl).2.look2 hq
theorem KsIn.len (h : KsIn w base b m limit calm A) (ty : TypeId) : (Builtin.len_ #[31] ty #[.map m]).run Tryd.prog w = .ok (.int .i64 (A.n : Nat)) w := by
  cases m with
  | none => rw [h.nil rfl]; exact nil_len w ty
  | some mb => exact (h.sec mb rfl).2.len ty
theorem KsIn.found (h : KsIn w base b m limit calm A) {q : Two2} {e : En} (hq : A.look q = some e) : ∃ mb, m = some mb := by
  cases m with
  | none => rw [h.nil rfl] at hq; cases hq
  | some mb => exact ⟨mb, rfl⟩
theorem KsIn.put {mb : Nat} (h : KsIn w base b (some mb) limit calm A) {q : Two2} (hq : FitW q) (hn : A.n < 1000000) (e : En) :
    ∃ w', (Instr.mapUpdate 31 (.map (some mb)) (whoV q) (recV e)).run Tryd.prog w = .ok () w' ∧ KsIn w' base b (some mb) limit calm (putA A q e) ∧ Kept (fun i => i = mb) w w' := by
  obtain ⟨h1, h2⟩ := h.sec mb rfl
  obtain ⟨w', hr, hs, hk⟩ := h2.put hq hn e
  obtain ⟨es, c, hm⟩ := h2.isMap
  have hne : b ≠ mb := fun e => by have := h.blk; rw [e, hm] at this; cases this
  refine ⟨w', hr, ⟨(hk.block b h.lt hne).trans h.blk, fun e => (by cases e), fun mb' e' => ?_⟩, hk⟩
  cases e'
  exact ⟨h1, hs⟩
theorem KsIn.del {mb : Nat} (h : KsIn w base b (some mb) limit calm A) {q : Two2} (hq : FitW q) (ty : TypeId) :
    ∃ w', (Builtin.delete_ #[31, 47] ty #[.map (some mb), whoV q]).run Tryd.prog w = .ok (.tuple #[]) w' ∧ KsIn w' base b (some mb) limit calm (delA A q) ∧ Kept (fun i => i = mb) w w' := by
  obtain ⟨h1, h2⟩ := h.sec mb rfl
  obtain ⟨w', hr, hs, hk⟩ := h2.del hq ty
  obtain ⟨es, c, hm⟩ := h2.isMap
  have hne : b ≠ mb := fun e => by have := h.blk; rw [e, hm] at this; cases this
  refine ⟨w', hr, ⟨(hk.block b h.lt hne).trans h.blk, fun e => (by cases e), fun mb' e' => ?_⟩, hk⟩
  cases e'
  exact ⟨h1, hs⟩
/-- What turns the map turns nothing else. -/
theorem KsIn.turned {mb : Nat} {a : World} (h : KsIn a base b (some mb) limit calm A) (hk : Kept (fun i => i = mb) a w') : KsK base b a w' := by
  obtain ⟨h1, h2⟩ := h.sec mb rfl
  exact hk.mono (fun i _ e => Or.inr ⟨by omega, by rw [e]; exact h2.isMap⟩)
end
end Go.Proofs.YtmbdjgfbhblifaaDoor
