/- A list of what is done among the arguments. -/
import Derived.Test.YtegofkpiipomfaaNetArgs
namespace Go.Proofs.Ytegofkpiipomfaa
open Go.ChangeShapes Go.WideShapes Go.ChangeAt Go.RowKit Go.Joins

/-- Something that is done. -/
structure Op4 where
  kind : Int
  a : Int
  b : Int
  c : Int
  data : ByteArray

structure Op4Ok (o : Op4) : Prop where
  kind : In64 o.kind
  a : In64 o.a
  b : In64 o.b
  c : In64 o.c

def op4At (W : World) (g k : Nat) (o : Op4) : Prop :=
  W.cell? ⟨g, k, none⟩ = some (.int .i64 o.kind) ∧ W.cell? ⟨g, k + 1, none⟩ = some (.int .i64 o.a) ∧ W.cell? ⟨g, k + 2, none⟩ = some (.int .i64 o.b) ∧ W.cell? ⟨g, k + 3, none⟩ = some (.int .i64 o.c) ∧ W.cell? ⟨g, k + 4, none⟩ = some (.string o.data)

/-- A list of these in memory, as an argument. -/
def Ops4At (W : World) (v : Value) (l : List Op4) : Prop :=
  (l = [] ∧ ∃ p cap, v = .slice p 0 cap) ∨ ∃ g o cap, v = .slice (some ⟨g, o, none⟩) l.length cap ∧ l.length ≤ cap ∧ cap ≤ maxLen ∧ ∀ j x, l[j]? = some x → Op4Ok x ∧ op4At W g (o + j * 5) x

theorem spot_none {W : World} {g o : Nat} {sp : Option Nat} {u : Value} (h : W.cell? ((⟨g, o, sp⟩ : Addr).add 0) = some u) : sp = none := by
  unfold Addr.add at h
  cases sp with
  | none => rfl
  | some q =>
    exfalso
    unfold World.cell? at h
    split at h <;> simp at h
theorem add_none (g o n : Nat) : (⟨g, o, none⟩ : Addr).add n = ⟨g, o + n, none⟩ := by unfold Addr.add; split <;> simp_all
theorem cellsStr : Try.prog.cellsOf 9 = 1 := by kernel_rfl
theorem cellsOp : Try.prog.cellsOf 37 = 5 := by kernel_rfl

section
variable {H : Type} {enc : TypeId × Value → H} {w : World} {base : Nat} {spare : Nat → Bool} {held : Bool}

theorem open_op4 {n : Nat} {a : Addr} {y : DataW H × List MemPlace} (h : (w.cells? base a 5).bind (DataW.trod enc Try.prog w base spare held n 37) = some y) :
    ∃ o : Op4, Op4Ok o ∧ w.cell? (a.add 0) = some (.int .i64 o.kind) ∧ w.cell? (a.add 1) = some (.int .i64 o.a) ∧ w.cell? (a.add 2) = some (.int .i64 o.b) ∧ w.cell? (a.add 3) = some (.int .i64 o.c) ∧ w.cell? (a.add 4) = some (.string o.data) := by
  rw [Option.bind_eq_some_iff] at h
  obtain ⟨cs, hc, ht⟩ := h
  obtain ⟨_, hlen, hcell⟩ := World.cells?_some hc
  obtain ⟨xs, k, hk, hxy, _, hxl, hf⟩ := DataW.trod_struct Try.underlying37 ht
  match xs, hxl, cs, hlen with
  | [y0, y1, y2, y3, y4], _, [v0, v1, v2, v3, v4], _ =>
    have g0 := hf 0 _ rfl
    have g1 := hf 1 _ rfl
    have g2 := hf 2 _ rfl
    have g3 := hf 3 _ rfl
    have g4 := hf 4 _ rfl
    simp [cellsInt, cellsStr] at g0 g1 g2 g3 g4
    obtain ⟨i0, e0, _, w0⟩ := DataW.trod_int Try.underlying3 g0
    obtain ⟨i1, e1, _, w1⟩ := DataW.trod_int Try.underlying3 g1
    obtain ⟨i2, e2, _, w2⟩ := DataW.trod_int Try.underlying3 g2
    obtain ⟨i3, e3, _, w3⟩ := DataW.trod_int Try.underlying3 g3
    obtain ⟨x, e4, _, _⟩ := DataW.trod_string Try.underlying9 g4
    simp at e0 e1 e2 e3 e4
    subst e0 e1 e2 e3 e4
    exact ⟨⟨i0, i1, i2, i3, x⟩, ⟨in64_of_wf w0, in64_of_wf w1, in64_of_wf w2, in64_of_wf w3⟩, by simpa using hcell 0 (by omega), by simpa using hcell 1 (by omega), by simpa using hcell 2 (by omega), by simpa using hcell 3 (by omega), by simpa using hcell 4 (by omega)⟩

theorem open_ops4 {r : Reach} {b0 : Nat} {v : Value} {d : DataW H} {p : List MemPlace} (hv : Value.okWide Try.prog w r b0 22 v) (h : DataW.Trod enc Try.prog w base spare held 22 v d p) : ∃ l : List Op4, Ops4At w v l := by
  obtain ⟨a, len, cap, rfl⟩ := okWide_slice Try.underlying22 hv
  obtain ⟨fuel, hf⟩ := h
  have hf' : DataW.trod enc Try.prog w base spare held fuel 22 [.slice a len cap] = some (d, p) := by simpa [Value.cells] using hf
  rcases DataW.trod_slice Try.underlying22 hf' with ⟨hcs, _⟩ | ⟨a', len', cap', elems, rest, n, _, hcs, _, hb, hl, hm, hlen, hel, _, _⟩
  · simp at hcs
    obtain ⟨rfl, rfl, rfl⟩ := hcs
    exact ⟨[], Or.inl ⟨rfl, _, _, rfl⟩⟩
  · simp at hcs
    obtain ⟨rfl, rfl, rfl⟩ := hcs
    have each : ∀ i, ∃ o : Op4, i < len → Op4Ok o ∧ w.cell? ((a'.add (i * 5)).add 0) = some (.int .i64 o.kind) ∧ w.cell? ((a'.add (i * 5)).add 1) = some (.int .i64 o.a) ∧ w.cell? ((a'.add (i * 5)).add 2) = some (.int .i64 o.b) ∧ w.cell? ((a'.add (i * 5)).add 3) = some (.int .i64 o.c) ∧ w.cell? ((a'.add (i * 5)).add 4) = some (.string o.data) := fun i => by
      by_cases hi : i < len
      · have h1 := hel i hi
        rw [cellsOp] at h1
        obtain ⟨y, hy⟩ : ∃ y, elems[i]? = some y := ⟨elems[i]'(by omega), by simp⟩
        rw [hy] at h1
        obtain ⟨o, ho⟩ := open_op4 h1
        exact ⟨o, fun _ => ho⟩
      · exact ⟨⟨0, 0, 0, 0, ⟨#[]⟩⟩, fun h => absurd h hi⟩
    obtain ⟨F, hF⟩ := skolem1 each
    refine ⟨(List.range len).map F, ?_⟩
    obtain ⟨g, o, sp⟩ := a'
    cases len with
    | zero => exact Or.inl ⟨rfl, some ⟨g, o, sp⟩, cap, rfl⟩
    | succ m =>
      have h0 := (hF 0 (by omega)).2.1
      have hsp : sp = none := by
        have h00 : w.cell? ((⟨g, o, sp⟩ : Addr).add 0) = some (.int .i64 (F 0).kind) := by
          have e : ((⟨g, o, sp⟩ : Addr).add (0 * 5)).add 0 = (⟨g, o, sp⟩ : Addr).add 0 := by
            rw [Nat.zero_mul]
            unfold Addr.add
            simp
          rw [← e]
          exact h0
        exact spot_none h00
      subst hsp
      refine Or.inr ⟨g, o, cap, by simp, by simpa using hl, hm, fun j x hj => ?_⟩
      have hjl : j < m + 1 := by
        have := (List.getElem?_eq_some_iff.1 hj).1
        simpa using this
      have hx : x = F j := by
        rw [List.getElem?_map, List.getElem?_range hjl] at hj
        simpa using hj.symm
      subst hx
      obtain ⟨k0, k1, k2, k3, k4, k5⟩ := hF j hjl
      simp only [add_none] at k1 k2 k3 k4 k5
      exact ⟨k0, k1, k2, k3, k4, k5⟩

end

theorem Ops4At.slice {W : World} {v : Value} {l : List Op4} (h : Ops4At W v l) : ∃ p cap, v = .slice p l.length cap := by
  rcases h with ⟨rfl, p, cap, rfl⟩ | ⟨g, o, cap, rfl, _⟩
  · exact ⟨p, cap, rfl⟩
  · exact ⟨_, cap, rfl⟩

theorem Ops4At.at {W : World} {p : Option Addr} {n cap : Nat} {l : List Op4} (h : Ops4At W (.slice p n cap) l) {j : Nat} {x : Op4} (hj : l[j]? = some x) : ∃ g o, p = some ⟨g, o, none⟩ ∧ n ≤ cap ∧ Op4Ok x ∧ op4At W g (o + j * 5) x := by
  rcases h with ⟨rfl, _⟩ | ⟨g, o, cap', e, hle, _, hc⟩
  · simp at hj
  · simp only [Value.slice.injEq] at e
    obtain ⟨rfl, rfl, rfl⟩ := e
    exact ⟨g, o, rfl, hle, hc j x hj⟩
end Go.Proofs.Ytegofkpiipomfaa
