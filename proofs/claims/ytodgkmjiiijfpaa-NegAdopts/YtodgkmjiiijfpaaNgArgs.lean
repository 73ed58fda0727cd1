/- How a rule and a list of rules among the arguments are read. -/
import Derived.Test.YtodgkmjiiijfpaaOpArgs
import Derived.Test.YtodgkmjiiijfpaaNgPlain
import Derived.Test.YtodgkmjiiijfpaaNgClone
namespace Go.Proofs.Ytodgkmjiiijfpaa
open Go.ChangeShapes Go.WideShapes Go.ChangeAt Go.RowKit Go.Joins

theorem cellsRule : Try.prog.cellsOf 59 = 5 := by kernel_rfl

section
variable {H : Type} {enc : TypeId × Value → H} {w : World} {base : Nat} {spare : Nat → Bool} {held : Bool}

set_option maxRecDepth 100000 in
theorem rule_cells {n : Nat} {cs : List Value} {y : DataW H × List MemPlace} (hlen : cs.length = 5) (ht : DataW.trod enc Try.prog w base spare held n 59 cs = some y) :
    ∃ r : Rl, cs = rlCells r ∧ ∃ z0 z1 z2 z3, y.1 = .agg [z0, z1, z2, z3, .lit (.string r.suggest.data.toList)] := by
  obtain ⟨xs, k, hk, hxy, _, hxl, hf⟩ := DataW.trod_struct Try.underlying59 ht
  match xs, hxl, cs, hlen with
  | [y0, y1, y2, y3, y4], _, [v0, v1, v2, v3, v4], _ =>
    have g0 := hf 0 _ rfl
    have g1 := hf 1 _ rfl
    have g2 := hf 2 _ rfl
    have g3 := hf 3 _ rfl
    have g4 := hf 4 _ rfl
    simp [cellsInt, cellsStr] at g0 g1 g2 g3 g4
    obtain ⟨i0, e0, _, _⟩ := DataW.trod_int Try.underlying3 g0
    obtain ⟨i1, e1, _, _⟩ := DataW.trod_int Try.underlying3 g1
    obtain ⟨i2, e2, _, _⟩ := DataW.trod_int Try.underlying3 g2
    obtain ⟨i3, e3, _, _⟩ := DataW.trod_int Try.underlying3 g3
    obtain ⟨x, e4, hy4, _⟩ := DataW.trod_string Try.underlying9 g4
    simp at e0 e1 e2 e3 e4
    subst e0 e1 e2 e3 e4
    refine ⟨⟨i0, i1, i2, i3, x⟩, rfl, y0.1, y1.1, y2.1, y3.1, ?_⟩
    rw [hxy]
    simp [hy4]

set_option maxRecDepth 100000 in
theorem open_rule {r : Reach} {b0 : Nat} {v : Value} {d : DataW H} {p : List MemPlace} (hv : Value.okWide Try.prog w r b0 59 v) (h : DataW.Trod enc Try.prog w base spare held 59 v d p) :
    ∃ o : Rl, v = rlV o ∧ ∃ z0 z1 z2 z3, d = .agg [z0, z1, z2, z3, .lit (.string o.suggest.data.toList)] := by
  obtain ⟨cs, rfl, hsz⟩ := okWide_struct Try.underlying59 hv
  obtain ⟨fuel, hf⟩ := h
  have hf' : DataW.trod enc Try.prog w base spare held fuel 59 cs.toList = some (d, p) := by simpa [Value.cells] using hf
  obtain ⟨o, e, z⟩ := rule_cells (by rw [Array.length_toList, hsz, cellsRule]) hf'
  refine ⟨o, ?_, z⟩
  unfold rlV
  congr 1
  exact Array.toList_inj.1 (by rw [e]; rfl)

/-- What a list's data hold of its rules' texts. -/
def HoldsR (l : List Rl) (d : DataW H) : Prop := l = [] ∨ ∃ es sp, d = .slice es sp ∧ ∀ (j : Nat) (x : Rl), l[j]? = some x → ∃ z0 z1 z2 z3, es[j]? = some (.agg [z0, z1, z2, z3, .lit (.string x.suggest.data.toList)])

set_option maxRecDepth 100000 in
theorem open_rules_in {fuel : Nat} {v : Value} {d : DataW H} {p : List MemPlace} (hf' : DataW.trod enc Try.prog w base spare held fuel 49 [v] = some (d, p)) : ∃ l : List Rl, RulesAt w v l ∧ l.length ≤ maxLen ∧ HoldsR l d := by
  rcases DataW.trod_slice Try.underlying49 hf' with ⟨hcs, _⟩ | ⟨a', len, cap, elems, rest, n, _, hcs, hx, hb, hl, hm, hlen, hel, _, _⟩
  · obtain rfl := List.singleton_inj.1 hcs
    exact ⟨[], Or.inl ⟨rfl, _, _, rfl⟩, Nat.zero_le _, Or.inl rfl⟩
  · obtain rfl := List.singleton_inj.1 hcs
    have each : ∀ i, ∃ o : Rl, i < len → (∀ q u, (rlCells o)[q]? = some u → w.cell? ((a'.add (i * 5)).add q) = some u) ∧ ∃ z0 z1 z2 z3, (elems.map (·.1))[i]? = some (.agg [z0, z1, z2, z3, .lit (.string o.suggest.data.toList)]) := fun i => by
      by_cases hi : i < len
      · have h1 := hel i hi
        rw [cellsRule] at h1
        obtain ⟨y, hy⟩ : ∃ y, elems[i]? = some y := ⟨elems[i]'(by omega), by simp⟩
        rw [hy, Option.bind_eq_some_iff] at h1
        obtain ⟨cs, hc, ht⟩ := h1
        obtain ⟨_, hcl, hcell⟩ := World.cells?_some hc
        obtain ⟨o, e, z0, z1, z2, z3, h4⟩ := rule_cells hcl ht
        refine ⟨o, fun _ => ⟨fun q u hq => ?_, z0, z1, z2, z3, by rw [List.getElem?_map, hy, ← h4]; rfl⟩⟩
        subst e
        have hql := (List.getElem?_eq_some_iff.1 hq).1
        have := hcell q (by simpa [rlCells] using hql)
        rw [this]
        exact hq
      · exact ⟨⟨0, 0, 0, 0, ⟨#[]⟩⟩, fun h => absurd h hi⟩
    obtain ⟨F, hF⟩ := skolem1 each
    refine ⟨(List.range len).map F, ?_, by simp; omega, ?_⟩
    · obtain ⟨g, o, sp⟩ := a'
      cases len with
      | zero => exact Or.inl ⟨rfl, some ⟨g, o, sp⟩, cap, rfl⟩
      | succ m =>
        have h0 := (hF 0 (by omega)).1 0 _ rfl
        have hsp : sp = none := by
          have e : ((⟨g, o, sp⟩ : Addr).add (0 * 5)).add 0 = (⟨g, o, sp⟩ : Addr).add 0 := by
            rw [Nat.zero_mul]
            unfold Addr.add
            simp
          rw [e] at h0
          exact spot_none h0
        subst hsp
        refine Or.inr ⟨g, o, cap, by simp, by simpa using hl, hm, fun j x hj q u hq => ?_⟩
        have hjl : j < m + 1 := by
          have := (List.getElem?_eq_some_iff.1 hj).1
          simpa using this
        have hx : x = F j := by
          rw [List.getElem?_map, List.getElem?_range hjl] at hj
          simpa using hj.symm
        subst hx
        have k1 := (hF j hjl).1 q u hq
        simp only [add_none] at k1
        exact k1
    · have hd : d = .slice (elems.map (·.1)) (rest.map (·.1)) := congrArg Prod.fst hx
      refine Or.inr ⟨_, _, hd, fun j x hj => ?_⟩
      have hjl : j < len := by
        have := (List.getElem?_eq_some_iff.1 hj).1
        simpa using this
      have hx : x = F j := by
        rw [List.getElem?_map, List.getElem?_range hjl] at hj
        simpa using hj.symm
      subst hx
      exact (hF j hjl).2

set_option maxRecDepth 100000 in
theorem open_rules {r : Reach} {b0 : Nat} {v : Value} {d : DataW H} {p : List MemPlace} (hv : Value.okWide Try.prog w r b0 49 v) (h : DataW.Trod enc Try.prog w base spare held 49 v d p) : ∃ l : List Rl, RulesAt w v l ∧ l.length ≤ maxLen ∧ HoldsR l d := by
  obtain ⟨a, len, cap, rfl⟩ := okWide_slice Try.underlying49 hv
  obtain ⟨fuel, hf⟩ := h
  have hf' : DataW.trod enc Try.prog w base spare held fuel 49 [.slice a len cap] = some (d, p) := by simpa [Value.cells] using hf
  exact open_rules_in hf'

set_option maxRecDepth 100000 in
theorem sized_rule {ts : List TypeId} {ds : List (DataW H)} (h : (DataW.weightsEach Try.prog ts ds).all (· ≤ reachBytes) = true) {j : Nat} {z0 z1 z2 z3 : DataW H} {x : ByteArray}
    (ht : ts[j]? = some 59) (hd : ds[j]? = some (.agg [z0, z1, z2, z3, .lit (.string x.data.toList)])) : x.size ≤ 140737488351232 := by
  have hm : x.data.toList.length ∈ DataW.weights Try.prog 59 (.agg [z0, z1, z2, z3, .lit (.string x.data.toList)] : DataW H) := by
    simp only [DataW.weights, Try.underlying59]
    exact DataW.weights_mem_each (j := 4) (t := 9) (d := .lit (.string x.data.toList)) rfl rfl _ (by simp [DataW.weights])
  have := List.all_eq_true.1 h _ (DataW.weights_mem_each ht hd _ hm)
  have h2 : x.data.toList.length ≤ reachBytes := by simpa using this
  rw [Lib.size_eq]
  exact h2

set_option maxRecDepth 100000 in
theorem sized_rules {ts : List TypeId} {ds : List (DataW H)} (h : (DataW.weightsEach Try.prog ts ds).all (· ≤ reachBytes) = true) {j : Nat} {d : DataW H} {l : List Rl} (ht : ts[j]? = some 49) (hd : ds[j]? = some d) (hl : HoldsR l d) :
    ∀ x ∈ l, x.suggest.size ≤ 140737488351232 := by
  intro x hx
  rcases hl with rfl | ⟨es, sp, rfl, he⟩
  · simp at hx
  · obtain ⟨i, hi⟩ := List.getElem?_of_mem hx
    obtain ⟨z0, z1, z2, z3, hz⟩ := he i x hi
    have hm1 : x.suggest.data.toList.length ∈ DataW.weights Try.prog 59 (.agg [z0, z1, z2, z3, .lit (.string x.suggest.data.toList)] : DataW H) := by
      simp only [DataW.weights, Try.underlying59]
      exact DataW.weights_mem_each (j := 4) (t := 9) (d := .lit (.string x.suggest.data.toList)) rfl rfl _ (by simp [DataW.weights])
    have hm : x.suggest.data.toList.length ∈ DataW.weights Try.prog 49 (.slice es sp : DataW H) := by
      simp only [DataW.weights, Try.underlying49, List.mem_cons, List.mem_append]
      exact Or.inr (Or.inl (weightsAll_mem (List.mem_of_getElem? hz) _ hm1))
    have := List.all_eq_true.1 h _ (DataW.weights_mem_each ht hd _ hm)
    have h2 : x.suggest.data.toList.length ≤ reachBytes := by simpa using this
    rw [Lib.size_eq]
    exact h2
end

theorem in64_wf {x : Int} (h : (Lit.int .i64 x).wf = true) : In64 x := bounds_i64 h

section
variable {H : Type} {enc : TypeId × Value → H} {w : World} {base : Nat} {spare : Nat → Bool} {held : Bool}

set_option maxRecDepth 100000 in
theorem opt_wf {n : Nat} {a : Addr} {y : DataW H × List MemPlace} (h : (w.cells? base a 2).bind (DataW.trod enc Try.prog w base spare held n 62) = some y) : ∃ i, w.cell? (a.add 0) = some (.int .i64 i) ∧ In64 i := by
  rw [Option.bind_eq_some_iff] at h
  obtain ⟨cs, hc, ht⟩ := h
  obtain ⟨_, hlen, hcell⟩ := World.cells?_some hc
  obtain ⟨xs, k, hk, hxy, _, hxl, hf⟩ := DataW.trod_struct Try.underlying62 ht
  match xs, hxl, cs, hlen with
  | [y0, y1], _, [v0, v1], _ =>
    have g0 := hf 0 _ rfl
    simp [cellsInt] at g0
    obtain ⟨i0, e0, _, w0⟩ := DataW.trod_int Try.underlying3 g0
    simp at e0
    subst e0
    exact ⟨i0, by simpa using hcell 0 (by omega), in64_wf w0⟩
set_option maxRecDepth 100000 in
theorem rule_wf {n : Nat} {a : Addr} {y : DataW H × List MemPlace} (h : (w.cells? base a 5).bind (DataW.trod enc Try.prog w base spare held n 59) = some y) : ∃ i, w.cell? (a.add 0) = some (.int .i64 i) ∧ In64 i := by
  rw [Option.bind_eq_some_iff] at h
  obtain ⟨cs, hc, ht⟩ := h
  obtain ⟨_, hlen, hcell⟩ := World.cells?_some hc
  obtain ⟨xs, k, hk, hxy, _, hxl, hf⟩ := DataW.trod_struct Try.underlying59 ht
  match xs, hxl, cs, hlen with
  | [y0, y1, y2, y3, y4], _, [v0, v1, v2, v3, v4], _ =>
    have g0 := hf 0 _ rfl
    simp [cellsInt] at g0
    obtain ⟨i0, e0, _, w0⟩ := DataW.trod_int Try.underlying3 g0
    simp at e0
    subst e0
    exact ⟨i0, by simpa using hcell 0 (by omega), in64_wf w0⟩

set_option maxRecDepth 100000 in
theorem opts64 {v : Value} {d : DataW H} {p : List MemPlace} {l : List Tg} (h : DataW.Trod enc Try.prog w base spare held 22 v d p) (hv : TagsAt w v l) : (∀ x ∈ l, In64 x.type) ∧ OptsAt w v l := by
  obtain ⟨fuel, hf⟩ := h
  obtain ⟨q, cq, hq⟩ := hv.slice
  subst hq
  have hf' : DataW.trod enc Try.prog w base spare held fuel 22 [.slice q l.length cq] = some (d, p) := by simpa [Value.cells] using hf
  rcases DataW.trod_slice Try.underlying22 hf' with ⟨hcs, _⟩ | ⟨a', len, cap, elems, rest, n, _, hcs, hx, hb, hl, hm, hlen, hel, _, _⟩
  · have e := List.singleton_inj.1 hcs
    simp only [Value.slice.injEq] at e
    obtain ⟨rfl, e1, rfl⟩ := e
    refine ⟨fun x hx => ?_, hv, fun n cap e2 => ?_⟩
    · rw [List.eq_nil_of_length_eq_zero e1] at hx
      cases hx
    · simp at e2
      omega
  · have e := List.singleton_inj.1 hcs
    simp only [Value.slice.injEq] at e
    obtain ⟨rfl, e1, rfl⟩ := e
    refine ⟨fun x hx => ?_, hv, fun n cap e2 => by simp at e2⟩
    obtain ⟨j, hj⟩ := List.getElem?_of_mem hx
    have hjl := (List.getElem?_eq_some_iff.1 hj).1
    obtain ⟨g, o, e3, _, c0, _⟩ := hv.at hj
    simp only [Option.some.injEq] at e3
    subst e3
    have h1 := hel j (by omega)
    rw [cellsOpt] at h1
    obtain ⟨y, hy⟩ : ∃ y, elems[j]? = some y := ⟨elems[j]'(by omega), by simp⟩
    rw [hy] at h1
    obtain ⟨i, hi, hw⟩ := opt_wf h1
    simp only [add_none, Nat.add_zero] at hi
    rw [hi] at c0
    simp at c0
    rw [← c0]
    exact hw
set_option maxRecDepth 100000 in
theorem rules64 {v : Value} {d : DataW H} {p : List MemPlace} {l : List Rl} (h : DataW.Trod enc Try.prog w base spare held 49 v d p) (hv : RulesAt w v l) : ∀ x ∈ l, In64 x.type := by
  obtain ⟨fuel, hf⟩ := h
  obtain ⟨q, cq, hq⟩ := hv.slice
  subst hq
  have hf' : DataW.trod enc Try.prog w base spare held fuel 49 [.slice q l.length cq] = some (d, p) := by simpa [Value.cells] using hf
  intro x hx
  obtain ⟨j, hj⟩ := List.getElem?_of_mem hx
  have hjl := (List.getElem?_eq_some_iff.1 hj).1
  obtain ⟨g, o, e3, _, c0, _⟩ := hv.at hj
  subst e3
  rcases DataW.trod_slice Try.underlying49 hf' with ⟨hcs, _⟩ | ⟨a', len, cap, elems, rest, n, _, hcs, hx, hb, hl, hm, hlen, hel, _, _⟩
  · have e := List.singleton_inj.1 hcs
    simp at e
  · have e := List.singleton_inj.1 hcs
    simp only [Value.slice.injEq, Option.some.injEq] at e
    obtain ⟨rfl, e1, rfl⟩ := e
    have h1 := hel j (by omega)
    rw [cellsRule] at h1
    obtain ⟨y, hy⟩ : ∃ y, elems[j]? = some y := ⟨elems[j]'(by omega), by simp⟩
    rw [hy] at h1
    obtain ⟨i, hi, hw⟩ := rule_wf h1
    simp only [add_none, Nat.add_zero] at hi
    rw [hi] at c0
    simp at c0
    rw [← c0]
    exact hw
end
end Go.Proofs.Ytodgkmjiiijfpaa
