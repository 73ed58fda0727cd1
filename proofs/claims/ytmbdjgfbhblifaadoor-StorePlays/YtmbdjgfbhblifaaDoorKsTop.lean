/- How lists of structs among the arguments are read, whatever the struct (no function is named); and how great what they hold may be. · How a list of steps (tollgatelaw15.Op) among the arguments is read. · The program's store and the document's list of names know the same, call by call: plain data. · The contracts of the program's store that is nil. · The program's store and the document's one beside each other in memory: one call of each; both answer the same. -/
import Derived.Test.YtmbdjgfbhblifaaDoorKept
import Derived.ChangeSlices
import Derived.ProofKit
import Derived.OpenShut
import Derived.SizedLaws
import Derived.Lib.SmallJoins
import Derived.Test.YtmbdjgfbhblifaaDoorProg
import Derived.ChangeArms
import Derived.Test.YtmbdjgfbhblifaaDoorKsOne
import Derived.Test.YtmbdjgfbhblifaaDoorStRef2
import Derived.Test.YtmbdjgfbhblifaaDoorKsChap
import Derived.Test.YtmbdjgfbhblifaaDoorKsSet
import Derived.Test.YtmbdjgfbhblifaaDoorStRef3
import Derived.Test.YtmbdjgfbhblifaaDoorChap
namespace Go.Proofs.YtmbdjgfbhblifaaDoor
open Go.ChangeShapes Go.WideShapes Go.ChangeAt Go.RowKit Go.Joins

/-- A list in memory, to be read: K cells each. -/
def RowsAt {α : Type} (W : World) (K : Nat) (cells : α → List Value) (v : Value) (l : List α) : Prop :=
  (l = [] ∧ ∃ p cap, v = .slice p 0 cap) ∨ ∃ g o cap, v = .slice (some ⟨g, o, none⟩) l.length cap ∧ l.length ≤ cap ∧ cap ≤ maxLen ∧
    ∀ j x, l[j]? = some x → ∀ i u, (cells x)[i]? = some u → W.cell? ⟨g, o + j * K + i, none⟩ = some u
section
variable {α : Type} {K : Nat} {cells : α → List Value}
theorem RowsAt.slice {W : World} {v : Value} {l : List α} (h : RowsAt W K cells v l) : ∃ p cap, v = .slice p l.length cap := by
  rcases h with ⟨rfl, p, cap, rfl⟩ | ⟨g, o, cap, rfl, _⟩
  · exact ⟨p, cap, rfl⟩
  · exact ⟨_, cap, rfl⟩
theorem RowsAt.kept {S : Nat → Prop} {W W' : World} {v : Value} {l : List α} (h : RowsAt W K cells v l) (hk : Kept S W W') (hS : ∀ i, i < W.heap.size → S i → v.ownBlock ≠ some i) : RowsAt W' K cells v l := by
  rcases h with ⟨rfl, p, cap, rfl⟩ | ⟨g, o, cap, rfl, h1, h2, hc⟩
  · exact Or.inl ⟨rfl, p, cap, rfl⟩
  · refine Or.inr ⟨g, o, cap, rfl, h1, h2, fun j x hj i u hu => ?_⟩
    have c := hc j x hj i u hu
    have hlt := lt_of_cell c
    exact (hk.cell (p := ⟨g, o + j * K + i, none⟩) hlt (fun hs => hS g hlt hs rfl)).trans c
theorem RowsAt.kept0 {W W' : World} {v : Value} {l : List α} (h : RowsAt W K cells v l) (hk : Kept (fun _ => False) W W') : RowsAt W' K cells v l := h.kept hk (fun _ _ h => h.elim)
theorem RowsAt.at {W : World} {p : Option Addr} {n cap : Nat} {l : List α} (h : RowsAt W K cells (.slice p n cap) l) {j : Nat} {x : α} (hj : l[j]? = some x) :
    ∃ g o, p = some ⟨g, o, none⟩ ∧ n ≤ cap ∧ ∀ i u, (cells x)[i]? = some u → W.cell? ⟨g, o + j * K + i, none⟩ = some u := by
  rcases h with ⟨rfl, _⟩ | ⟨g, o, cap', e, hle, _, hc⟩
  · simp at hj
  · simp only [Value.slice.injEq] at e
    obtain ⟨rfl, rfl, rfl⟩ := e
    exact ⟨g, o, rfl, hle, hc j x hj⟩
end

section
variable {H : Type} {enc : TypeId × Value → H} {P : Program} {w : World} {base : Nat} {spare : Nat → Bool} {held : Bool}

theorem spot_no {W : World} {g o : Nat} {sp : Option Nat} {u : Value} (h : W.cell? ((⟨g, o, sp⟩ : Addr).add 0) = some u) : sp = none := by
  unfold Addr.add at h
  cases sp with
  | none => rfl
  | some q =>
    exfalso
    unfold World.cell? at h
    split at h <;> simp at h

/-- What a list's data hold, element by element. -/
def HoldsBy {α : Type} (R : α → DataW H → Prop) (l : List α) (d : DataW H) : Prop := l = [] ∨ ∃ es sp, d = .slice es sp ∧ ∀ (j : Nat) (x : α), l[j]? = some x → ∃ y, es[j]? = some y ∧ R x y

theorem open_rows {α : Type} {t e : TypeId} {K fuel : Nat} (cells : α → List Value) (R : α → DataW H → Prop) (hu : P.underlying t = some (.slice e)) (hK : P.cellsOf e = K) (x0 : α) (hc0 : ∀ x, 0 < (cells x).length)
    (each : ∀ n cs y, cs.length = K → DataW.trod enc P w base spare held n e cs = some y → ∃ x : α, cs = cells x ∧ R x y.1)
    {v : Value} {d : DataW H} {p : List MemPlace} (hf : DataW.trod enc P w base spare held fuel t [v] = some (d, p)) :
    ∃ l : List α, RowsAt w K cells v l ∧ l.length ≤ maxLen ∧ HoldsBy R l d ∧ ∀ n cap, v = .slice none n cap → cap = 0 := by
  rcases DataW.trod_slice hu hf with ⟨hcs, _⟩ | ⟨a', len, cap, elems, rest, n, _, hcs, hx, hb, hl, hm, hlen, hel, _, _⟩
  · obtain rfl := List.singleton_inj.1 hcs
    exact ⟨[], Or.inl ⟨rfl, _, _, rfl⟩, Nat.zero_le _, Or.inl rfl, fun n cap e => by simp at e; omega⟩
  · obtain rfl := List.singleton_inj.1 hcs
    have ech : ∀ i, ∃ o : α, i < len → (∀ q u, (cells o)[q]? = some u → w.cell? ((a'.add (i * K)).add q) = some u) ∧ ∃ y, (elems.map (·.1))[i]? = some y ∧ R o y := fun i => by
      by_cases hi : i < len
      · have h1 := hel i hi
        rw [hK] at h1
        obtain ⟨y, hy⟩ : ∃ y, elems[i]? = some y := ⟨elems[i]'(by omega), by simp⟩
        rw [hy, Option.bind_eq_some_iff] at h1
        obtain ⟨cs, hc, ht⟩ := h1
        obtain ⟨_, hcl, hcell⟩ := World.cells?_some hc
        obtain ⟨o, e, hR⟩ := each n cs y hcl ht
        refine ⟨o, fun _ => ⟨fun q u hq => ?_, y.1, by rw [List.getElem?_map, hy]; rfl, hR⟩⟩
        subst e
        have hql := (List.getElem?_eq_some_iff.1 hq).1
        have := hcell q (by omega)
        rw [this]
        exact hq
      · exact ⟨x0, fun h => absurd h hi⟩
    obtain ⟨F, hF⟩ := skolem1 ech
    refine ⟨(List.range len).map F, ?_, by simp; omega, ?_, fun n cap e => by simp at e⟩
    · obtain ⟨g, o, sp⟩ := a'
      cases len with
      | zero => exact Or.inl ⟨rfl, some ⟨g, o, sp⟩, cap, rfl⟩
      | succ m =>
        obtain ⟨u0, hu0⟩ : ∃ u, (cells (F 0))[0]? = some u := ⟨(cells (F 0))[0]'(hc0 _), by simp⟩
        have h0 := (hF 0 (by omega)).1 0 _ hu0
        have hsp : sp = none := by
          have e : ((⟨g, o, sp⟩ : Addr).add (0 * K)).add 0 = (⟨g, o, sp⟩ : Addr).add 0 := by
            rw [Nat.zero_mul]
            unfold Addr.add
            simp
          rw [e] at h0
          exact spot_no h0
        subst hsp
        refine Or.inr ⟨g, o, cap, by simp, by simpa using hl, hm, fun j x hj q u hq => ?_⟩
        have hjl : j < m + 1 := by
          have := (List.getElem?_eq_some_iff.1 hj).1
          simpa using this
        have hx : x = F j := by
          rw [List.getElem?_map, List.getElem?_range hjl] at hj
          simpa using hj.symm
        subst hx
        have k1 := (hF j hjl).1 q u hq
        simp only [Addr.add_lit] at k1
        exact k1
    · have hd : d = .slice (elems.map (·.1)) (rest.map (·.1)) := congrArg Prod.fst hx
      refine Or.inr ⟨_, _, hd, fun j x hj => ?_⟩
      have hjl : j < len := by
        have := (List.getElem?_eq_some_iff.1 hj).1
        simpa using this
      have hx : x = F j := by
        rw [List.getElem?_map, List.getElem?_range hjl] at hj
        simpa using hj.symm
      subst hx
      exact (hF j hjl).2

/-- What data hold is no greater than may be. -/
def Wt (P : Program) (t : TypeId) (d : DataW H) : Prop := ∀ n ∈ d.weights P t, n ≤ reachBytes
theorem wt_arg {ts : List TypeId} {ds : List (DataW H)} (h : (DataW.weightsEach P ts ds).all (· ≤ reachBytes) = true) {j : Nat} {t : TypeId} {d : DataW H} (ht : ts[j]? = some t) (hd : ds[j]? = some d) : Wt P t d := fun n hn => by
  have := List.all_eq_true.1 h _ (DataW.weights_mem_each ht hd n hn)
  simpa using this
theorem wt_all {e : TypeId} : ∀ {l : List (DataW H)} {d : DataW H}, d ∈ l → ∀ n ∈ d.weights P e, n ∈ DataW.weightsAll P e l
  | a :: l, d, h, n, hn => by
    simp only [DataW.weightsAll, List.mem_append]
    rcases List.mem_cons.1 h with rfl | h
    · exact Or.inl hn
    · exact Or.inr (wt_all h n hn)
theorem wt_slice {t e : TypeId} {es sp : List (DataW H)} {y : DataW H} (h : Wt P t (.slice es sp)) (hu : P.underlying t = some (.slice e)) (hy : y ∈ es) : Wt P e y := fun n hn => h n (by
  simp only [DataW.weights, hu, List.mem_cons, List.mem_append]
  exact Or.inr (Or.inl (wt_all hy n hn)))
theorem wt_field {t : TypeId} {fs : Array Field} {ds : List (DataW H)} {j : Nat} {f : Field} {d : DataW H} (h : Wt P t (.agg ds)) (hu : P.underlying t = some (.struct fs)) (hf : fs[j]? = some f) (hd : ds[j]? = some d) : Wt P f.type d := fun n hn => h n (by
  simp only [DataW.weights, hu]
  refine DataW.weights_mem_each (j := j) (t := f.type) (d := d) ?_ hd n hn
  rw [List.getElem?_map, Array.getElem?_toList, hf]
  rfl)
theorem wt_string {t : TypeId} {x : ByteArray} (h : Wt P t (.lit (.string x.data.toList) : DataW H)) : x.size ≤ 140737488351232 := by
  have := h x.data.toList.length (by simp [DataW.weights])
  rw [Lib.size_eq]
  exact this
theorem wt_list {α : Type} {R : α → DataW H → Prop} {t e : TypeId} {l : List α} {d : DataW H} (h : Wt P t d) (hu : P.underlying t = some (.slice e)) (hl : HoldsBy R l d) : ∀ x ∈ l, ∃ y, R x y ∧ Wt P e y := fun x hx => by
  rcases hl with rfl | ⟨es, sp, rfl, he⟩
  · cases hx
  · obtain ⟨j, hj⟩ := List.getElem?_of_mem hx
    obtain ⟨y, hy, hr⟩ := he j x hj
    exact ⟨y, hr, wt_slice h hu (List.mem_of_getElem? hy)⟩
end
end Go.Proofs.YtmbdjgfbhblifaaDoor

namespace Go.Proofs.YtmbdjgfbhblifaaDoor
open Go.ChangeShapes Go.WideShapes Go.ChangeAt Go.RowKit Go.Joins

theorem cellsOp15 : Tryd.prog.cellsOf 38 = 6 := by kernel_rfl
theorem cells15i : Tryd.prog.cellsOf 3 = 1 := by kernel_rfl
theorem cells15s : Tryd.prog.cellsOf 9 = 1 := by kernel_rfl

/-- A step: what is done, an Id, a time, and three texts. -/
structure Op15 where
  kind : Int
  id : Int
  time : Int
  full : ByteArray
  s : ByteArray
  v : ByteArray
def op15Cells (x : Op15) : List Value := [.int .i64 x.kind, .int .i64 x.id, .int .i64 x.time, .string x.full, .string x.s, .string x.v]

section
variable {H : Type} {enc : TypeId × Value → H} {w : World} {base : Nat} {spare : Nat → Bool} {held : Bool}

def ROp15 (x : Op15) (d : DataW H) : Prop := (-9223372036854775808 ≤ x.id ∧ x.id ≤ 9223372036854775807) ∧ (-9223372036854775808 ≤ x.time ∧ x.time ≤ 9223372036854775807) ∧ ∃ z0 z1 z2, d = .agg [z0, z1, z2, .lit (.string x.full.data.toList), .lit (.string x.s.data.toList), .lit (.string x.v.data.toList)]

set_option maxRecDepth 100000 in
theorem each_op15 (n : Nat) (cs : List Value) (y : DataW H × List MemPlace) (hlen : cs.length = 6) (ht : DataW.trod enc Tryd.prog w base spare held n 38 cs = some y) : ∃ x : Op15, cs = op15Cells x ∧ ROp15 x y.1 := by
  obtain ⟨xs, k, hk, hxy, _, hxl, hf⟩ := DataW.trod_struct Tryd.underlying38 ht
  match xs, hxl, cs, hlen with
  | [y0, y1, y2, y3, y4, y5], _, [v0, v1, v2, v3, v4, v5], _ =>
    have g0 := hf 0 _ rfl
    have g1 := hf 1 _ rfl
    have g2 := hf 2 _ rfl
    have g3 := hf 3 _ rfl
    have g4 := hf 4 _ rfl
    have g5 := hf 5 _ rfl
    simp [cells15i, cells15s] at g0 g1 g2 g3 g4 g5
    obtain ⟨i0, e0, _, _⟩ := DataW.trod_int Tryd.underlying3 g0
    obtain ⟨i1, e1, _, w1⟩ := DataW.trod_int Tryd.underlying3 g1
    obtain ⟨i2, e2, _, w2⟩ := DataW.trod_int Tryd.underlying3 g2
    obtain ⟨x3, e3, hx3, _⟩ := DataW.trod_string Tryd.underlying9 g3
    obtain ⟨x4, e4, hx4, _⟩ := DataW.trod_string Tryd.underlying9 g4
    obtain ⟨x5, e5, hx5, _⟩ := DataW.trod_string Tryd.underlying9 g5
    simp at e0 e1 e2 e3 e4 e5
    subst e0 e1 e2 e3 e4 e5
    refine ⟨⟨i0, i1, i2, x3, x4, x5⟩, rfl, bounds_i64 w1, bounds_i64 w2, y0.1, y1.1, y2.1, ?_⟩
    rw [hxy]
    simp [hx3, hx4, hx5]

/-- A list of steps, with all that is known of it. -/
def Ops15 (W : World) (v : Value) (l : List Op15) : Prop := RowsAt W 6 op15Cells v l
/-- What is known of each step. -/
def Fit15 (x : Op15) : Prop := (-9223372036854775808 ≤ x.id ∧ x.id ≤ 9223372036854775807) ∧ (-9223372036854775808 ≤ x.time ∧ x.time ≤ 9223372036854775807) ∧ x.full.size ≤ 140737488351232 ∧ x.s.size ≤ 140737488351232 ∧ x.v.size ≤ 140737488351232
set_option maxRecDepth 100000 in
theorem open_ops15 {r : Reach} {b0 : Nat} {v : Value} {d : DataW H} {p : List MemPlace} (hv : Value.okWide Tryd.prog w r b0 22 v) (h : DataW.Trod enc Tryd.prog w base spare held 22 v d p) (hw : Wt Tryd.prog 22 d) :
    ∃ l : List Op15, Ops15 w v l ∧ l.length ≤ maxLen ∧ ∀ x ∈ l, Fit15 x := by
  obtain ⟨a, len, cap, rfl⟩ := okWide_slice Tryd.underlying22 hv
  obtain ⟨fuel, hf⟩ := h
  have hf' : DataW.trod enc Tryd.prog w base spare held fuel 22 [.slice a len cap] = some (d, p) := by simpa [Value.cells] using hf
  obtain ⟨l, h1, h2, h3, _⟩ := open_rows op15Cells ROp15 Tryd.underlying22 cellsOp15 ⟨0, 0, 0, ⟨#[]⟩, ⟨#[]⟩, ⟨#[]⟩⟩ (fun _ => by simp [op15Cells]) each_op15 hf'
  refine ⟨l, h1, h2, fun x hx => ?_⟩
  obtain ⟨y, ⟨r1, r2, z0, z1, z2, rfl⟩, hwy⟩ := wt_list hw Tryd.underlying22 h3 x hx
  exact ⟨r1, r2, wt_string (wt_field (j := 3) (d := .lit (.string x.full.data.toList)) hwy Tryd.underlying38 rfl rfl), wt_string (wt_field (j := 4) (d := .lit (.string x.s.data.toList)) hwy Tryd.underlying38 rfl rfl), wt_string (wt_field (j := 5) (d := .lit (.string x.v.data.toList)) hwy Tryd.underlying38 rfl rfl)⟩
end
end Go.Proofs.YtmbdjgfbhblifaaDoor

namespace Go.Proofs.YtmbdjgfbhblifaaDoor
open Go.RowKit

/-- The same is known of a name, the time aside where it was not wrong. -/
def simE (a b : En) : Prop := a.secret = b.secret ∧ a.wrong = b.wrong ∧ (a.wrong = 0 ∨ a.last = b.last)
def simO : Option En → Option En → Prop
  | none, none => True
  | some a, some b => simE a b
  | _, _ => False
structure Sim (A B : Ab) : Prop where
  n : A.n = B.n
  look : ∀ q, simO (A.look q) (B.look q)
/-- Numbers behind m steps. -/
structure BndA (m : Nat) (A : Ab) : Prop where
  n : A.n ≤ 100
  all : ∀ q e, A.look q = some e → q.1.size ≤ 60 ∧ q.2.size ≤ 60 ∧ e.secret.size ≤ 60 ∧ 0 ≤ e.wrong ∧ e.wrong ≤ m ∧ In64 e.last
/-- Both stores behind m steps. -/
def RelS (m : Nat) (B : Ab) (l : List Kn) : Prop := ∃ A, IsAb l A ∧ Sim A B ∧ BndA m A ∧ BndA m B

theorem updA_same' (f : Two2 → Option En) (q : Two2) (o : Option En) : updA f q o q = o := by unfold updA; rw [if_pos rfl]
theorem updA_other' (f : Two2 → Option En) {p q : Two2} (o : Option En) (h : p ≠ q) : updA f q o p = f p := by unfold updA; rw [if_neg h]
theorem Sim.upd {A B : Ab} (h : Sim A B) (q : Two2) {a b : Option En} (hab : simO a b) (n n' : Nat) (hn : n = n') : Sim ⟨updA A.look q a, n⟩ ⟨updA B.look q b, n'⟩ := by
  refine ⟨hn, fun p => ?_⟩
  show simO (updA A.look q a p) (updA B.look q b p)
  by_cases hp : p = q
  · rw [hp, updA_same', updA_same']
    exact hab
  · rw [updA_other' _ _ hp, updA_other' _ _ hp]
    exact h.look p
theorem BndA.upd {m m' : Nat} {A : Ab} (h : BndA m A) (hm : m ≤ m') (q : Two2) (o : Option En) (n : Nat) (hn : n ≤ 100) (ho : ∀ e, o = some e → q.1.size ≤ 60 ∧ q.2.size ≤ 60 ∧ e.secret.size ≤ 60 ∧ 0 ≤ e.wrong ∧ e.wrong ≤ m' ∧ In64 e.last) : BndA m' ⟨updA A.look q o, n⟩ := by
  refine ⟨hn, fun p e hp => ?_⟩
  have hp' : updA A.look q o p = some e := hp
  by_cases hpq : p = q
  · rw [hpq, updA_same'] at hp'
    rw [hpq]
    exact ho e hp'
  · rw [updA_other' _ _ hpq] at hp'
    obtain ⟨h1, h2, h3, h4, h5, h6⟩ := h.all p e hp'
    exact ⟨h1, h2, h3, h4, by omega, h6⟩
theorem BndA.mono {m m' : Nat} {A : Ab} (h : BndA m A) (hm : m ≤ m') : BndA m' A := ⟨h.n, fun q e he => by
  obtain ⟨h1, h2, h3, h4, h5, h6⟩ := h.all q e he
  exact ⟨h1, h2, h3, h4, by omega, h6⟩⟩
theorem i64_0 : In64 0 := ⟨by decide, by decide⟩
theorem Sim.both {A B : Ab} (h : Sim A B) (q : Two2) : (A.look q = none ∧ B.look q = none) ∨ ∃ a b, A.look q = some a ∧ B.look q = some b ∧ simE a b := by
  have hs := h.look q
  cases ha : A.look q with
  | none =>
    cases hb : B.look q with
    | none => exact Or.inl ⟨rfl, rfl⟩
    | some b => rw [ha, hb] at hs; exact hs.elim
  | some a =>
    cases hb : B.look q with
    | none => rw [ha, hb] at hs; exact hs.elim
    | some b => rw [ha, hb] at hs; exact Or.inr ⟨a, b, rfl, rfl, hs⟩
theorem BndA.set {m : Nat} {A : Ab} (h : BndA m A) (s x : ByteArray) : BndA (m + 1) (setA A s x).2 := by
  have hn := h.n
  unfold setA
  by_cases q : 60 < s.size ∨ 60 < x.size
  · rw [if_pos q]
    exact h.mono (by omega)
  · rw [if_neg q]
    have hsp := splitF_size s
    cases hl : A.look (splitF s) with
    | none =>
      simp only
      by_cases q2 : 100 ≤ A.n
      · rw [if_pos q2]
        exact h.mono (by omega)
      · rw [if_neg q2]
        by_cases q3 : x.size = 0
        · rw [if_pos q3]
          exact h.mono (by omega)
        · rw [if_neg q3]
          refine h.upd (by omega) _ _ _ (by omega) (fun e he => ?_)
          rw [← Option.some.inj he]
          exact ⟨by omega, by omega, by show x.size ≤ 60; omega, by show (0 : Int) ≤ 0; omega, by show (0 : Int) ≤ ((m + 1 : Nat) : Int); omega, i64_0⟩
    | some e0 =>
      simp only
      obtain ⟨h1, h2, h3, h4, h5, h6⟩ := h.all _ _ hl
      by_cases q3 : x.size = 0
      · rw [if_pos q3]
        exact h.upd (by omega) _ _ _ (by omega) (fun e he => by cases he)
      · rw [if_neg q3]
        refine h.upd (by omega) _ _ _ (by omega) (fun e he => ?_)
        rw [← Option.some.inj he]
        exact ⟨h1, h2, by show x.size ≤ 60; omega, h4, by show e0.wrong ≤ ((m + 1 : Nat) : Int); omega, h6⟩
theorem Sim.set {A B : Ab} (h : Sim A B) (s x : ByteArray) : (setA A s x).1 = (setA B s x).1 ∧ Sim (setA A s x).2 (setA B s x).2 := by
  unfold setA
  by_cases q : 60 < s.size ∨ 60 < x.size
  · rw [if_pos q, if_pos q]
    exact ⟨rfl, h⟩
  · rw [if_neg q, if_neg q]
    rcases h.both (splitF s) with ⟨ha, hb⟩ | ⟨a, b, ha, hb, hab⟩
    · rw [ha, hb]
      simp only
      rw [h.n]
      by_cases q2 : 100 ≤ B.n
      · rw [if_pos q2, if_pos q2]
        exact ⟨rfl, h⟩
      · rw [if_neg q2, if_neg q2]
        by_cases q3 : x.size = 0
        · rw [if_pos q3, if_pos q3]
          exact ⟨rfl, h⟩
        · rw [if_neg q3, if_neg q3]
          exact ⟨rfl, h.upd (a := some ⟨x, 0, 0⟩) (b := some ⟨x, 0, 0⟩) _ ⟨rfl, rfl, Or.inl rfl⟩ _ _ rfl⟩
    · rw [ha, hb]
      simp only
      rw [h.n]
      by_cases q3 : x.size = 0
      · rw [if_pos q3, if_pos q3]
        exact ⟨rfl, h.upd (a := none) (b := none) _ trivial _ _ rfl⟩
      · rw [if_neg q3, if_neg q3]
        exact ⟨rfl, h.upd (a := some { a with secret := x }) (b := some { b with secret := x }) _ ⟨rfl, hab.2.1, hab.2.2⟩ _ _ rfl⟩
theorem simE.shut {a b : En} (h : simE a b) {limit calm calm' : Int} (hl : limit = 0 ∨ (1 ≤ limit ∧ calm' = calm)) (time : Int) : shutE limit calm' a time = shutE limit calm b time := by
  obtain ⟨_, h2, h3⟩ := h
  unfold shutE
  rw [decide_eq_decide, ← h2]
  rcases hl with rfl | ⟨hl, rfl⟩
  · simp
  · rcases h3 with h3 | h3
    · rw [h3]
      constructor <;> intro h <;> omega
    · rw [h3]
theorem Sim.try {m : Nat} {A B : Ab} (h : Sim A B) (hA : BndA m A) (hB : BndA m B) (hm : m ≤ 1000) {limit calm calm' : Int} (hl : limit = 0 ∨ (1 ≤ limit ∧ calm' = calm)) (full : ByteArray) (good : ByteArray → Bool) (time : Int) (ht : In64 time) :
    (tryA limit calm' A full good time).1 = (tryP limit calm B full good time).1 ∧ Sim (tryA limit calm' A full good time).2 (tryP limit calm B full good time).2 ∧ BndA (m + 1) (tryA limit calm' A full good time).2 ∧ BndA (m + 1) (tryP limit calm B full good time).2 := by
  unfold tryA tryP
  rcases h.both (splitF full) with ⟨ha, hb⟩ | ⟨a, b, ha, hb, hab⟩
  · rw [ha, hb]
    exact ⟨rfl, h, hA.mono (by omega), hB.mono (by omega)⟩
  · obtain ⟨a1, a2, a3, a4, a5, a6⟩ := hA.all _ _ ha
    obtain ⟨b1, b2, b3, b4, b5, b6⟩ := hB.all _ _ hb
    rw [ha, hb]
    simp only
    rw [hab.shut hl time]
    by_cases q : shutE limit calm b time = true
    · rw [if_pos q, if_pos q]
      exact ⟨rfl, h, hA.mono (by omega), hB.mono (by omega)⟩
    · rw [if_neg q, if_neg q, show good a.secret = good b.secret by rw [hab.1]]
      have hn : (putA B (splitF full) ⟨b.secret, 0, 0⟩).n = B.n := by
        unfold putA
        rw [hb]
        rfl
      have hn2 : (putA B (splitF full) (moreE b time)).n = B.n := by
        unfold putA
        rw [hb]
        rfl
      by_cases q2 : good b.secret = true
      · rw [if_pos q2, if_pos q2]
        refine ⟨rfl, ?_, ?_, ?_⟩
        · exact h.upd (a := some { a with wrong := 0 }) (b := some ⟨b.secret, 0, 0⟩) _ ⟨hab.1, rfl, Or.inl rfl⟩ _ _ (h.n.trans hn.symm)
        · refine hA.upd (by omega) _ _ _ hA.n (fun e he => ?_)
          rw [← Option.some.inj he]
          exact ⟨a1, a2, a3, by show (0 : Int) ≤ 0; omega, by show (0 : Int) ≤ ((m + 1 : Nat) : Int); omega, a6⟩
        · refine hB.upd (by omega) _ _ _ (by have := hB.n; rw [← hn] at this; exact this) (fun e he => ?_)
          rw [← Option.some.inj he]
          exact ⟨b1, b2, b3, by show (0 : Int) ≤ 0; omega, by show (0 : Int) ≤ ((m + 1 : Nat) : Int); omega, i64_0⟩
      · rw [if_neg q2, if_neg q2]
        have hmore : moreE b time = ⟨b.secret, b.wrong + 1, time⟩ := by
          unfold moreE
          rw [if_pos (by omega)]
        refine ⟨rfl, ?_, ?_, ?_⟩
        · refine h.upd (a := some { a with wrong := a.wrong + 1, last := time }) (b := some (moreE b time)) _ ?_ _ _ (h.n.trans hn2.symm)
          rw [hmore]
          exact ⟨hab.1, by show a.wrong + 1 = b.wrong + 1; rw [hab.2.1], Or.inr rfl⟩
        · refine hA.upd (by omega) _ _ _ hA.n (fun e he => ?_)
          rw [← Option.some.inj he]
          exact ⟨a1, a2, a3, by show 0 ≤ a.wrong + 1; omega, by show a.wrong + 1 ≤ ((m + 1 : Nat) : Int); omega, ht⟩
        · refine hB.upd (by omega) _ _ _ (by have := hB.n; rw [← hn2] at this; exact this) (fun e he => ?_)
          rw [← Option.some.inj he, hmore]
          exact ⟨b1, b2, b3, by show 0 ≤ b.wrong + 1; omega, by show b.wrong + 1 ≤ ((m + 1 : Nat) : Int); omega, ht⟩
theorem Sim.wrong {A B : Ab} (h : Sim A B) (s : ByteArray) : wrongA A s = wrongA B s := by
  unfold wrongA
  rcases h.both (splitF s) with ⟨ha, hb⟩ | ⟨a, b, ha, hb, hab⟩
  · rw [ha, hb]
  · rw [ha, hb]
    exact hab.2.1

section
variable {m : Nat} {B : Ab} {l : List Kn}
theorem RelS.start : RelS 0 empA [] := ⟨empA, isAb_nil, ⟨rfl, fun _ => trivial⟩, ⟨by decide, fun q e h => by cases h⟩, ⟨by decide, fun q e h => by cases h⟩⟩
theorem RelS.fewA (h : RelS m B l) (hm : m ≤ 1000) : FewA B := by
  obtain ⟨A, _, _, _, hB⟩ := h
  refine ⟨by have := hB.n; omega, fun q e he => ?_⟩
  obtain ⟨h1, h2, h3, h4, h5, h6⟩ := hB.all q e he
  exact ⟨by omega, h4, by omega, h6⟩
theorem RelS.fewK (h : RelS m B l) (hm : m ≤ 1000) : FewK l := by
  obtain ⟨A, hI, _, hA, _⟩ := h
  refine ⟨by have := hA.n; rw [hI.n] at this; omega, fun k hk => ?_⟩
  obtain ⟨i, hi, e⟩ := List.getElem_of_mem hk
  obtain ⟨h1, h2, h3, h4, h5, h6⟩ := hA.all (keyK k) (enK k) ((hI.look _ _).2 ⟨i, k, by simp [hi, e], rfl, rfl⟩)
  simp only [keyK, enK] at h1 h2 h3 h4 h5 h6
  exact ⟨by omega, by omega, by omega, h4, by omega, h6.1, h6.2⟩
theorem RelS.len (h : RelS m B l) : B.n = l.length := by
  obtain ⟨A, hI, hS, _⟩ := h
  rw [← hS.n, hI.n]
theorem RelS.wrong (h : RelS m B l) (s : ByteArray) : wrongK l s = wrongA B s := by
  obtain ⟨A, hI, hS, _⟩ := h
  rw [hI.wrongK, hS.wrong]
theorem RelS.set (h : RelS m B l) (s x : ByteArray) : (setK l s x).1 = (setA B s x).1 ∧ RelS (m + 1) (setA B s x).2 (setK l s x).2 := by
  obtain ⟨A, hI, hS, hA, hB⟩ := h
  obtain ⟨h1, h2⟩ := hI.setK s x
  obtain ⟨h3, h4⟩ := hS.set s x
  exact ⟨h1.trans h3, _, h2, h4, hA.set s x, hB.set s x⟩
theorem RelS.try (h : RelS m B l) (hm : m ≤ 1000) {limit calm calm' : Int} (hl : limit = 0 ∨ (1 ≤ limit ∧ calm' = calm)) (full : ByteArray) (good : ByteArray → Bool) (time : Int) (ht : In64 time) :
    (tryK limit calm' l full good time).1 = (tryP limit calm B full good time).1 ∧ RelS (m + 1) (tryP limit calm B full good time).2 (tryK limit calm' l full good time).2 := by
  obtain ⟨A, hI, hS, hA, hB⟩ := h
  obtain ⟨h1, h2⟩ := hI.tryK limit calm' full good time
  obtain ⟨h3, h4, h5, h6⟩ := hS.try hA hB hm hl full good time ht
  exact ⟨h1.trans h3, _, h2, h4, h5, h6⟩
end
end Go.Proofs.YtmbdjgfbhblifaaDoor

namespace Go.Proofs.YtmbdjgfbhblifaaDoor
open Go.RowKit

set_option maxHeartbeats 1000000 in
set_option maxRecDepth 100000 in
theorem set_nil (s x : ByteArray) (w : World) : Calls Tryd.prog 8 #[.pointer none, .string s, .string x] w fun e w' => e = .returned (.int .i64 1) ∧ w' = w := by
  go_enter Tryd.func8, Tryd.ntmps8
  go_wp2
  go_ret
  exact ⟨rfl, rfl⟩
set_option maxHeartbeats 1000000 in
set_option maxRecDepth 100000 in
theorem judge_nil (s : ByteArray) (time : Int) (f : Value) (w : World) : Calls Tryd.prog 22 #[.pointer none, .string s, .int .i64 time, f] w fun e w' => e = .returned (.int .i64 1) ∧ w' = w := by
  go_enter Tryd.func22, Tryd.ntmps22
  go_wp2
  go_ret
  exact ⟨rfl, rfl⟩
set_option maxHeartbeats 1000000 in
set_option maxRecDepth 100000 in
theorem pap_nil (s x : ByteArray) (time : Int) (w : World) : Calls Tryd.prog 10 #[.pointer none, .string s, .string x, .int .i64 time] w fun e w' => e = .returned (.int .i64 1) ∧ Kept (fun _ => False) w w' := by
  have HJ := hid judge_nil
  have K1 := hid ((Kept.refl (fun _ => False) w).alloc (.cells #[.string x] 9))
  go_enter Tryd.func10, Tryd.ntmps10
  go_wp2_with fail
  refine (HJ.out _ _ _ _).mono ?_
  rintro e w1 ⟨rfl, hw⟩
  rw [hw]
  clear hw
  go_wp2
  go_ret
  exact ⟨rfl, K1.out⟩
set_option maxHeartbeats 1000000 in
set_option maxRecDepth 100000 in
theorem chap_nil (s v x : ByteArray) (i time : Int) (w : World) : Calls Tryd.prog 12 #[.pointer none, .string s, .int .i64 i, .string v, .string x, .int .i64 time] w fun e w' => e = .returned (.int .i64 1) ∧ Kept (fun _ => False) w w' := by
  have HJ := hid judge_nil
  have K1 := hid ((((Kept.refl (fun _ => False) w).alloc (.cells #[.int .i64 i] 3)).alloc (.cells #[.string v] 9)).alloc (.cells #[.string x] 9))
  go_enter Tryd.func12, Tryd.ntmps12
  go_wp2_with fail
  refine (HJ.out _ _ _ _).mono ?_
  rintro e w1 ⟨rfl, hw⟩
  rw [hw]
  clear hw
  go_wp2
  go_ret
  exact ⟨rfl, K1.out⟩
set_option maxHeartbeats 1000000 in
set_option maxRecDepth 100000 in
theorem wrong_nil (s : ByteArray) (w : World) : Calls Tryd.prog 15 #[.pointer none, .string s] w fun e w' => e = .returned (.int .i64 0) ∧ w' = w := by
  go_enter Tryd.func15, Tryd.ntmps15
  go_wp2
  go_ret
  exact ⟨rfl, rfl⟩
set_option maxHeartbeats 1000000 in
set_option maxRecDepth 100000 in
theorem len_nil (w : World) : Calls Tryd.prog 17 #[.pointer none] w fun e w' => e = .returned (.int .i64 0) ∧ w' = w := by
  go_enter Tryd.func17, Tryd.ntmps17
  go_wp2
  go_ret
  exact ⟨rfl, rfl⟩
end Go.Proofs.YtmbdjgfbhblifaaDoor

namespace Go.Proofs.YtmbdjgfbhblifaaDoor
open Go.RowKit

/-- A step's box. -/
def BxO (w : World) (ob : Nat) (x : Op15) : Prop := w.heap[ob]? = some (.cells #[.int .i64 x.kind, .int .i64 x.id, .int .i64 x.time, .string x.full, .string x.s, .string x.v] 38 (0, 0))
section
variable {w w' : World} {ob : Nat} {x : Op15}
theorem BxO.lt (h : BxO w ob x) : ob < w.heap.size := (Array.getElem?_eq_some_iff.1 h).1
theorem BxO.kept {S : Nat → Prop} (h : BxO w ob x) (hk : Kept S w w') (hS : ¬ S ob) : BxO w' ob x := (hk.block ob h.lt hS).trans h
theorem BxO.c0 (h : BxO w ob x) : w.cell? ⟨ob, 0, none⟩ = some (.int .i64 x.kind) := by simp [World.cell?, show w.heap[ob]? = _ from h]
theorem BxO.c1 (h : BxO w ob x) : w.cell? ⟨ob, 1, none⟩ = some (.int .i64 x.id) := by simp [World.cell?, show w.heap[ob]? = _ from h]
theorem BxO.c2 (h : BxO w ob x) : w.cell? ⟨ob, 2, none⟩ = some (.int .i64 x.time) := by simp [World.cell?, show w.heap[ob]? = _ from h]
theorem BxO.c3 (h : BxO w ob x) : w.cell? ⟨ob, 3, none⟩ = some (.string x.full) := by simp [World.cell?, show w.heap[ob]? = _ from h]
theorem BxO.c4 (h : BxO w ob x) : w.cell? ⟨ob, 4, none⟩ = some (.string x.s) := by simp [World.cell?, show w.heap[ob]? = _ from h]
theorem BxO.c5 (h : BxO w ob x) : w.cell? ⟨ob, 5, none⟩ = some (.string x.v) := by simp [World.cell?, show w.heap[ob]? = _ from h]
end
/-- The boxes stay. -/
def BoxK (w w' : World) : Prop := ∀ ob x, BxO w ob x → BxO w' ob x
/-- Both stores. -/
structure TwoS (w0 w : World) (b d : Nat) (limit calm calm' : Int) (B : Ab) (l : List Kn) : Prop where
  prog : KsAt w w0.heap.size b limit calm B
  doc : SrAt w w0.heap.size d limit calm' l
  ne : b ≠ d
  geb : w0.heap.size ≤ b
  ged : w0.heap.size ≤ d
  kept : Kept (fun _ => False) w0 w
section
variable {w0 w w' : World} {base b d : Nat} {m : Option Nat} {limit calm calm' : Int} {B : Ab} {l : List Kn}
theorem SrAt.byK (h : SrAt w base d limit calm' l) (hb : KsIn w base b m limit calm B) (hne : b ≠ d) (hk : KsK base b w w') : SrAt w' base d limit calm' l := by
  obtain ⟨v, hv⟩ := h
  refine ⟨v, (hk.block d hv.lt (fun e => ?_)).trans hv.blk, hv.own.keptS hk (fun i hi e => ?_)⟩
  · rcases e with e | ⟨_, es, c, e⟩
    · exact hne e.symm
    · rw [hv.blk] at e
      cases e
  · obtain ⟨⟨cur, hc⟩, _⟩ := hv.own.block hi
    rcases e with e | ⟨_, es, c, e⟩
    · rw [e, hb.blk] at hc
      simp at hc
    · rw [hc] at e
      cases e
theorem KsAt.byS {v : Value} (h : KsAt w base b limit calm B) (hd : SrIn w base d v limit calm' l) (hne : b ≠ d) (hk : SrK base d w w') : KsAt w' base b limit calm B := by
  obtain ⟨m, hm⟩ := h
  refine ⟨m, (hk.block b hm.lt (fun e => ?_)).trans hm.blk, hm.nil, fun mb e => ⟨(hm.sec mb e).1, (hm.sec mb e).2.same (hk.block mb (hm.sec mb e).2.lt (fun e2 => ?_))⟩⟩
  · rcases e with e | ⟨_, cur, e⟩
    · exact hne e
    · rw [hm.blk] at e
      simp at e
  · obtain ⟨es, c, hmap⟩ := (hm.sec mb e).2.isMap
    rcases e2 with e2 | ⟨_, cur, e2⟩
    · rw [e2, hd.blk] at hmap
      cases hmap
    · rw [hmap] at e2
      cases e2
theorem boxK_K (hb : KsIn w base b m limit calm B) (hk : KsK base b w w') : BoxK w w' := fun ob x h => h.kept hk (fun e => by
  have h' : w.heap[ob]? = _ := h
  rcases e with e | ⟨_, es, c, e⟩
  · rw [e, hb.blk] at h'
    simp at h'
  · rw [h'] at e
    cases e)
theorem boxK_S {v : Value} (hd : SrIn w base d v limit calm' l) (hk : SrK base d w w') : BoxK w w' := fun ob x h => h.kept hk (fun e => by
  have h' : w.heap[ob]? = _ := h
  rcases e with e | ⟨_, cur, e⟩
  · rw [e, hd.blk] at h'
    simp at h'
  · rw [h'] at e
    simp at e)
theorem boxK_0 (hk : Kept (fun _ => False) w w') : BoxK w w' := fun _ _ h => h.kept hk (fun h => h)

theorem TwoS.still (h : TwoS w0 w b d limit calm calm' B l) (hk : Kept (fun _ => False) w w') : TwoS w0 w' b d limit calm calm' B l := by
  obtain ⟨m, hm⟩ := h.prog
  obtain ⟨v, hv⟩ := h.doc
  exact ⟨⟨m, hm.kept0 hk⟩, ⟨v, hv.kept0 hk⟩, h.ne, h.geb, h.ged, h.kept.trans hk⟩
theorem TwoS.pstep {B' : Ab} (h : TwoS w0 w b d limit calm calm' B l) (ha : KsAt w' w0.heap.size b limit calm B') (hk : KsK w0.heap.size b w w') : TwoS w0 w' b d limit calm calm' B' l ∧ BoxK w w' := by
  obtain ⟨m, hm⟩ := h.prog
  refine ⟨⟨ha, h.doc.byK hm h.ne hk, h.ne, h.geb, h.ged, h.kept.andThen hk (fun i hi e => ?_)⟩, boxK_K hm hk⟩
  have := h.geb
  rcases e with e | ⟨e, _⟩ <;> omega
theorem TwoS.dstep {l' : List Kn} (h : TwoS w0 w b d limit calm calm' B l) (ha : SrAt w' w0.heap.size d limit calm' l') (hk : SrK w0.heap.size d w w') : TwoS w0 w' b d limit calm calm' B l' ∧ BoxK w w' := by
  obtain ⟨v, hv⟩ := h.doc
  refine ⟨⟨h.prog.byS hv h.ne hk, ha, h.ne, h.geb, h.ged, h.kept.andThen hk (fun i hi e => ?_)⟩, boxK_S hv hk⟩
  have := h.ged
  rcases e with e | ⟨e, _⟩ <;> omega

/-! One call of each. -/
theorem TwoS.pset (h : TwoS w0 w b d limit calm calm' B l) (hB : FewA B) (s x : ByteArray) (hs : s.size ≤ 1000000) (hx : x.size ≤ 1000000) :
    Calls Tryd.prog 8 #[.pointer (some ⟨b, 0, none⟩), .string s, .string x] w fun e w' => e = .returned (.int .i64 (setA B s x).1) ∧ TwoS w0 w' b d limit calm calm' (setA B s x).2 l ∧ BoxK w w' := by
  obtain ⟨m, hm⟩ := h.prog
  exact (set_any hm h.kept.size hB s x hs hx).mono fun _ _ ⟨h1, h2, h3⟩ => ⟨h1, h.pstep h2 h3⟩
theorem TwoS.dset (h : TwoS w0 w b d limit calm calm' B l) (hl : FewK l) (s x : ByteArray) (hs : s.size ≤ 1000000) (hx : x.size ≤ 1000000) :
    Calls Tryd.prog 9 #[.pointer (some ⟨d, 0, none⟩), .string s, .string x] w fun e w' => e = .returned (.int .i64 (setK l s x).1) ∧ TwoS w0 w' b d limit calm calm' B (setK l s x).2 ∧ BoxK w w' := by
  obtain ⟨v, hv⟩ := h.doc
  exact (rSet_any hv h.kept.size hl s x hs hx).mono fun _ _ ⟨h1, h2, h3⟩ => ⟨h1, h.dstep h2 h3⟩
theorem TwoS.ppap (h : TwoS w0 w b d limit calm calm' B l) (hB : FewA B) (hc : 0 ≤ calm ∧ calm ≤ 1000000) (s x : ByteArray) (hs : s.size ≤ 1000000) (hx : x.size ≤ 1000000) (time : Int) (ht : In64 time) :
    Calls Tryd.prog 10 #[.pointer (some ⟨b, 0, none⟩), .string s, .string x, .int .i64 time] w fun e w' => e = .returned (.int .i64 (tryP limit calm B s (goodS x) time).1) ∧ TwoS w0 w' b d limit calm calm' (tryP limit calm B s (goodS x) time).2 l ∧ BoxK w w' := by
  obtain ⟨m, hm⟩ := h.prog
  exact (pap_any hm hc hB s x hs hx time ht).mono fun _ _ ⟨h1, h2, h3⟩ => ⟨h1, h.pstep h2 h3⟩
theorem TwoS.dpap (h : TwoS w0 w b d limit calm calm' B l) (hl : FewK l) (hc : 1 ≤ calm' ∧ calm' ≤ 1000000) (s x : ByteArray) (hs : s.size ≤ 1000000) (time : Int) (ht : In64 time) :
    Calls Tryd.prog 11 #[.pointer (some ⟨d, 0, none⟩), .string s, .string x, .int .i64 time] w fun e w' => e = .returned (.int .i64 (tryK limit calm' l s (goodS x) time).1) ∧ TwoS w0 w' b d limit calm calm' B (tryK limit calm' l s (goodS x) time).2 ∧ BoxK w w' := by
  obtain ⟨v, hv⟩ := h.doc
  exact (rPap_any hv hc hl s x hs time ht).mono fun _ _ ⟨h1, h2, h3⟩ => ⟨h1, h.dstep h2 h3⟩
theorem TwoS.pchap (h : TwoS w0 w b d limit calm calm' B l) (hT : Tables w0) (hB : FewA B) (hc : 0 ≤ calm ∧ calm ≤ 1000000) (s v x : ByteArray) (id : Int) (hs : s.size ≤ 1000000) (hv : v.size ≤ 1000000) (hx : x.size ≤ 1000000) (time : Int) (ht : In64 time) :
    Calls Tryd.prog 12 #[.pointer (some ⟨b, 0, none⟩), .string s, .int .i64 id, .string v, .string x, .int .i64 time] w fun e w' => e = .returned (.int .i64 (tryP limit calm B s (fun y => goodS x (chapK id y v)) time).1) ∧ TwoS w0 w' b d limit calm calm' (tryP limit calm B s (fun y => goodS x (chapK id y v)) time).2 l ∧ BoxK w w' := by
  obtain ⟨m, hm⟩ := h.prog
  exact (chapS_any hm hc hB (tab_kept hT h.kept) s v x id hs hv hx time ht).mono fun _ _ ⟨h1, h2, h3⟩ => ⟨h1, h.pstep h2 h3⟩
theorem TwoS.dchap (h : TwoS w0 w b d limit calm calm' B l) (hl : FewK l) (hc : 1 ≤ calm' ∧ calm' ≤ 1000000) (s v x : ByteArray) (id : Int) (hs : s.size ≤ 1000000) (hv : v.size ≤ 1000000) (time : Int) (ht : In64 time) :
    Calls Tryd.prog 13 #[.pointer (some ⟨d, 0, none⟩), .string s, .int .i64 id, .string v, .string x, .int .i64 time] w fun e w' => e = .returned (.int .i64 (tryK limit calm' l s (fun y => goodS x (chapK id y v)) time).1) ∧ TwoS w0 w' b d limit calm calm' B (tryK limit calm' l s (fun y => goodS x (chapK id y v)) time).2 ∧ BoxK w w' := by
  obtain ⟨u, hu⟩ := h.doc
  exact (rChap_any (K := chapK) (fun i s v W hs hv => (refChap_any i s v (by omega) (by omega) W).mono fun _ _ ⟨he, hb⟩ => ⟨he, Kept.of_below hb (fun i h3 h4 => by omega)⟩) hu hc hl s v x hs hv id time ht).mono fun _ _ ⟨h1, h2, h3⟩ => ⟨h1, h.dstep h2 h3⟩
theorem TwoS.pwrong (h : TwoS w0 w b d limit calm calm' B l) (s : ByteArray) (hs : s.size ≤ 1000000) :
    Calls Tryd.prog 15 #[.pointer (some ⟨b, 0, none⟩), .string s] w fun e w' => e = .returned (.int .i64 (wrongA B s)) ∧ Kept (fun _ => False) w w' := by
  obtain ⟨m, hm⟩ := h.prog
  exact wrong_any hm s hs
theorem TwoS.dwrong (h : TwoS w0 w b d limit calm calm' B l) (hl : FewK l) (s : ByteArray) (hs : s.size ≤ 1000000) :
    Calls Tryd.prog 16 #[.pointer (some ⟨d, 0, none⟩), .string s] w fun e w' => e = .returned (.int .i64 (wrongK l s)) ∧ Kept (fun _ => False) w w' := by
  obtain ⟨v, hv⟩ := h.doc
  exact rWrong_any hv hl s hs
theorem TwoS.plen (h : TwoS w0 w b d limit calm calm' B l) : Calls Tryd.prog 17 #[.pointer (some ⟨b, 0, none⟩)] w fun e w' => e = .returned (.int .i64 (B.n : Int)) ∧ w' = w := by
  obtain ⟨m, hm⟩ := h.prog
  exact len_any hm
theorem TwoS.dcell (h : TwoS w0 w b d limit calm calm' B l) : ∃ p cap, ∀ W, Kept (fun _ => False) w W → W.cell? ⟨d, 2, none⟩ = some (.slice p l.length cap) := by
  obtain ⟨v, hv⟩ := h.doc
  obtain ⟨p, cap, rfl⟩ := slice_of hv.own
  exact ⟨p, cap, fun W hk => (hv.kept0 hk).c2⟩
end
end Go.Proofs.YtmbdjgfbhblifaaDoor
