/- How a packet and a list of options among the arguments are read. -/
import Derived.Test.YtndpfcanfcbldaaDoorOpPk
import Derived.ChangeSlices
import Derived.ProofKit
import Derived.OpenShut
import Derived.SizedLaws
import Derived.Lib.SmallJoins
namespace Go.Proofs.YtndpfcanfcbldaaDoor
open Go.ChangeShapes Go.WideShapes Go.ChangeAt Go.RowKit Go.Joins

theorem laidOutO : laidOutB Tryd.prog = true := by kernel_rfl
theorem cellsPk : Tryd.prog.cellsOf 40 = 4 := by kernel_rfl
theorem cellsOpt : Tryd.prog.cellsOf 81 = 2 := by kernel_rfl
theorem cellsInt : Tryd.prog.cellsOf 3 = 1 := by kernel_rfl
theorem cellsStr : Tryd.prog.cellsOf 9 = 1 := by kernel_rfl

section
variable {H : Type} {enc : TypeId × Value → H} {w : World} {base : Nat} {spare : Nat → Bool} {held : Bool}

theorem spot_none {W : World} {g o : Nat} {sp : Option Nat} {u : Value} (h : W.cell? ((⟨g, o, sp⟩ : Addr).add 0) = some u) : sp = none := by
  unfold Addr.add at h
  cases sp with
  | none => rfl
  | some q =>
    exfalso
    unfold World.cell? at h
    split at h <;> simp at h

set_option maxRecDepth 100000 in
theorem open_opt {n : Nat} {a : Addr} {y : DataW H × List MemPlace} (h : (w.cells? base a 2).bind (DataW.trod enc Tryd.prog w base spare held n 81) = some y) :
    ∃ o : Tg, w.cell? (a.add 0) = some (.int .i64 o.type) ∧ w.cell? (a.add 1) = some (.string o.value) ∧ ∃ z, y.1 = .agg [z, .lit (.string o.value.data.toList)] := by
  rw [Option.bind_eq_some_iff] at h
  obtain ⟨cs, hc, ht⟩ := h
  obtain ⟨_, hlen, hcell⟩ := World.cells?_some hc
  obtain ⟨xs, k, hk, hxy, _, hxl, hf⟩ := DataW.trod_struct Tryd.underlying81 ht
  match xs, hxl, cs, hlen with
  | [y0, y1], _, [v0, v1], _ =>
    have g0 := hf 0 _ rfl
    have g1 := hf 1 _ rfl
    simp [cellsInt, cellsStr] at g0 g1
    obtain ⟨i0, e0, _, w0⟩ := DataW.trod_int Tryd.underlying3 g0
    obtain ⟨x, e1, hy1, _⟩ := DataW.trod_string Tryd.underlying9 g1
    simp at e0 e1
    subst e0 e1
    refine ⟨⟨i0, x⟩, by simpa using hcell 0 (by omega), by simpa using hcell 1 (by omega), y0.1, ?_⟩
    rw [hxy]
    simp [hy1]

/-- What a list's data hold of its values. -/
def Holds (l : List Tg) (d : DataW H) : Prop := l = [] ∨ ∃ es sp, d = .slice es sp ∧ ∀ (j : Nat) (x : Tg), l[j]? = some x → ∃ z, es[j]? = some (.agg [z, .lit (.string x.value.data.toList)])

set_option maxRecDepth 100000 in
theorem open_opts_in {fuel : Nat} {v : Value} {d : DataW H} {p : List MemPlace} (hf' : DataW.trod enc Tryd.prog w base spare held fuel 38 [v] = some (d, p)) : ∃ l : List Tg, TagsAt w v l ∧ l.length ≤ maxLen ∧ Holds l d := by
  rcases DataW.trod_slice Tryd.underlying38 hf' with ⟨hcs, _⟩ | ⟨a', len, cap, elems, rest, n, _, hcs, hx, hb, hl, hm, hlen, hel, _, _⟩
  · obtain rfl := List.singleton_inj.1 hcs
    exact ⟨[], Or.inl ⟨rfl, _, _, rfl⟩, Nat.zero_le _, Or.inl rfl⟩
  · obtain rfl := List.singleton_inj.1 hcs
    have each : ∀ i, ∃ o : Tg, i < len → w.cell? ((a'.add (i * 2)).add 0) = some (.int .i64 o.type) ∧ w.cell? ((a'.add (i * 2)).add 1) = some (.string o.value) ∧ ∃ z, (elems.map (·.1))[i]? = some (.agg [z, .lit (.string o.value.data.toList)]) := fun i => by
      by_cases hi : i < len
      · have h1 := hel i hi
        rw [cellsOpt] at h1
        obtain ⟨y, hy⟩ : ∃ y, elems[i]? = some y := ⟨elems[i]'(by omega), by simp⟩
        rw [hy] at h1
        obtain ⟨o, h2, h3, z, h4⟩ := open_opt h1
        exact ⟨o, fun _ => ⟨h2, h3, z, by rw [List.getElem?_map, hy, ← h4]; rfl⟩⟩
      · exact ⟨⟨0, ⟨#[]⟩⟩, fun h => absurd h hi⟩
    obtain ⟨F, hF⟩ := skolem1 each
    refine ⟨(List.range len).map F, ?_, by simp; omega, ?_⟩
    · obtain ⟨g, o, sp⟩ := a'
      cases len with
      | zero => exact Or.inl ⟨rfl, some ⟨g, o, sp⟩, cap, rfl⟩
      | succ m =>
        have h0 := (hF 0 (by omega)).1
        have hsp : sp = none := by
          have h00 : w.cell? ((⟨g, o, sp⟩ : Addr).add 0) = some (.int .i64 (F 0).type) := by
            have e : ((⟨g, o, sp⟩ : Addr).add (0 * 2)).add 0 = (⟨g, o, sp⟩ : Addr).add 0 := by
              rw [Nat.zero_mul]
              unfold Addr.add
              simp
            rw [← e]
            exact h0
          exact spot_none h00
        subst hsp
        refine Or.inr ⟨g, o, cap, by simp, by simpa using hl, hm, fun j x hj => ?_⟩
        have hjl : j < m + 1 := by
          have := (List.getElem?_eq_some_iff.1 hj).1
          simpa using this
        have hx : x = F j := by
          rw [List.getElem?_map, List.getElem?_range hjl] at hj
          simpa using hj.symm
        subst hx
        obtain ⟨k1, k2, _⟩ := hF j hjl
        simp only [add_none] at k1 k2
        exact ⟨k1, k2⟩
    · have hd : d = .slice (elems.map (·.1)) (rest.map (·.1)) := congrArg Prod.fst hx
      refine Or.inr ⟨_, _, hd, fun j x hj => ?_⟩
      have hjl : j < len := by
        have := (List.getElem?_eq_some_iff.1 hj).1
        simpa using this
      have hx : x = F j := by
        rw [List.getElem?_map, List.getElem?_range hjl] at hj
        simpa using hj.symm
      subst hx
      exact (hF j hjl).2.2

set_option maxRecDepth 100000 in
theorem open_opts {r : Reach} {b0 : Nat} {v : Value} {d : DataW H} {p : List MemPlace} (hv : Value.okWide Tryd.prog w r b0 38 v) (h : DataW.Trod enc Tryd.prog w base spare held 38 v d p) : ∃ l : List Tg, TagsAt w v l ∧ l.length ≤ maxLen ∧ Holds l d := by
  obtain ⟨a, len, cap, rfl⟩ := okWide_slice Tryd.underlying38 hv
  obtain ⟨fuel, hf⟩ := h
  have hf' : DataW.trod enc Tryd.prog w base spare held fuel 38 [.slice a len cap] = some (d, p) := by simpa [Value.cells] using hf
  exact open_opts_in hf'

set_option maxRecDepth 100000 in
theorem open_pack {r : Reach} {b0 : Nat} {v : Value} {d : DataW H} {p : List MemPlace} (hv : Value.okWide Tryd.prog w r b0 40 v) (h : DataW.Trod enc Tryd.prog w base spare held 40 v d p) :
    ∃ (c i : Int) (u : Value) (l : List Tg) (x : ByteArray), v = pkV c i u x ∧ TagsAt w u l ∧ l.length ≤ maxLen ∧ ∃ y0 y1 y2, d = .agg [y0, y1, y2, .lit (.string x.data.toList)] ∧ Holds l y2 := by
  obtain ⟨c0, c1, c2, c3, y0, y1, y2, y3, n, rfl, hd, _, h0, h1, h2, h3⟩ := open_agg4 Tryd.underlying40 (by kernel_rfl) cellsPk hv h
  obtain ⟨c, e0, hy0, _⟩ := DataW.trod_int Tryd.underlying3 h0
  obtain ⟨i, e1, hy1, _⟩ := DataW.trod_int Tryd.underlying3 h1
  obtain ⟨x, e3, hy3, _⟩ := DataW.trod_string Tryd.underlying9 h3
  simp at e0 e1 e3
  subst e0 e1 e3
  obtain ⟨l, hl, hm, hH⟩ := open_opts_in (d := y2.1) (p := y2.2) h2
  exact ⟨c, i, c2, l, x, rfl, hl, hm, _, _, _, by rw [hd, hy3], hH⟩

theorem weightsAll_mem {P : Program} {e : TypeId} : ∀ {l : List (DataW H)} {d : DataW H}, d ∈ l → ∀ n ∈ d.weights P e, n ∈ DataW.weightsAll P e l
  | a :: l, d, h, n, hn => by
    simp only [DataW.weightsAll, List.mem_append]
    rcases List.mem_cons.1 h with rfl | h
    · exact Or.inl hn
    · exact Or.inr (weightsAll_mem h n hn)

set_option maxRecDepth 100000 in
theorem sized_opts {ts : List TypeId} {ds : List (DataW H)} (h : (DataW.weightsEach Tryd.prog ts ds).all (· ≤ reachBytes) = true) {j : Nat} {d : DataW H} {l : List Tg} (ht : ts[j]? = some 38) (hd : ds[j]? = some d) (hl : Holds l d) :
    ∀ x ∈ l, x.value.size ≤ 140737488351232 := by
  intro x hx
  rcases hl with rfl | ⟨es, sp, rfl, he⟩
  · simp at hx
  · obtain ⟨i, hi⟩ := List.getElem?_of_mem hx
    obtain ⟨z, hz⟩ := he i x hi
    have hm1 : x.value.data.toList.length ∈ DataW.weights Tryd.prog 81 (.agg [z, .lit (.string x.value.data.toList)] : DataW H) := by
      simp only [DataW.weights, Tryd.underlying81]
      exact DataW.weights_mem_each (j := 1) (t := 9) (d := .lit (.string x.value.data.toList)) rfl rfl _ (by simp [DataW.weights])
    have hm : x.value.data.toList.length ∈ DataW.weights Tryd.prog 38 (.slice es sp : DataW H) := by
      simp only [DataW.weights, Tryd.underlying38, List.mem_cons, List.mem_append]
      exact Or.inr (Or.inl (weightsAll_mem (List.mem_of_getElem? hz) _ hm1))
    have := List.all_eq_true.1 h _ (DataW.weights_mem_each ht hd _ hm)
    have h2 : x.value.data.toList.length ≤ reachBytes := by simpa using this
    rw [Lib.size_eq]
    exact h2

set_option maxRecDepth 100000 in
theorem sized_pack {ts : List TypeId} {ds : List (DataW H)} (h : (DataW.weightsEach Tryd.prog ts ds).all (· ≤ reachBytes) = true) {j : Nat} {y0 y1 y2 : DataW H} {x : ByteArray} {l : List Tg}
    (ht : ts[j]? = some 40) (hd : ds[j]? = some (.agg [y0, y1, y2, .lit (.string x.data.toList)])) (hl : Holds l y2) : x.size ≤ 140737488351232 ∧ ∀ z ∈ l, z.value.size ≤ 140737488351232 := by
  constructor
  · have hm : x.data.toList.length ∈ DataW.weights Tryd.prog 40 (.agg [y0, y1, y2, .lit (.string x.data.toList)] : DataW H) := by
      simp only [DataW.weights, Tryd.underlying40]
      exact DataW.weights_mem_each (j := 3) (t := 9) (d := .lit (.string x.data.toList)) rfl rfl _ (by simp [DataW.weights])
    have := List.all_eq_true.1 h _ (DataW.weights_mem_each ht hd _ hm)
    have h2 : x.data.toList.length ≤ reachBytes := by simpa using this
    rw [Lib.size_eq]
    exact h2
  · intro x' hx
    rcases hl with rfl | ⟨es, sp, rfl, he⟩
    · simp at hx
    · obtain ⟨i, hi⟩ := List.getElem?_of_mem hx
      obtain ⟨z, hz⟩ := he i x' hi
      have hm1 : x'.value.data.toList.length ∈ DataW.weights Tryd.prog 81 (.agg [z, .lit (.string x'.value.data.toList)] : DataW H) := by
        simp only [DataW.weights, Tryd.underlying81]
        exact DataW.weights_mem_each (j := 1) (t := 9) (d := .lit (.string x'.value.data.toList)) rfl rfl _ (by simp [DataW.weights])
      have hm2 : x'.value.data.toList.length ∈ DataW.weights Tryd.prog 38 (.slice es sp : DataW H) := by
        simp only [DataW.weights, Tryd.underlying38, List.mem_cons, List.mem_append]
        exact Or.inr (Or.inl (weightsAll_mem (List.mem_of_getElem? hz) _ hm1))
      have hm : x'.value.data.toList.length ∈ DataW.weights Tryd.prog 40 (.agg [y0, y1, .slice es sp, .lit (.string x.data.toList)] : DataW H) := by
        simp only [DataW.weights, Tryd.underlying40]
        exact DataW.weights_mem_each (j := 2) (t := 38) (d := .slice es sp) rfl rfl _ hm2
      have := List.all_eq_true.1 h _ (DataW.weights_mem_each ht hd _ hm)
      have h2 : x'.value.data.toList.length ≤ reachBytes := by simpa using this
      rw [Lib.size_eq]
      exact h2
end
end Go.Proofs.YtndpfcanfcbldaaDoor
