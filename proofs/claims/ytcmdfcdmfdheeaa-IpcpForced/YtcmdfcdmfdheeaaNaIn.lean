/- How lists of structs among the arguments are read, whatever the struct (no function is named); and how great what they hold may be. · How a list of steps (tollgatelaw11.Op) among the arguments is read. · The contracts of the laws' Light and alive. · The contract of tollgatelaw11's Small; a packet of the arguments. · How an address among the arguments is read. -/
import Derived.Test.YtcmdfcdmfdheeaaKept
import Derived.ChangeSlices
import Derived.ProofKit
import Derived.OpenShut
import Derived.SizedLaws
import Derived.Lib.SmallJoins
import Derived.Test.YtcmdfcdmfdheeaaNgReq
import Derived.Test.YtcmdfcdmfdheeaaOpRow
import Derived.Test.YtcmdfcdmfdheeaaNgSentK
import Derived.Test.YtcmdfcdmfdheeaaPlAd
import Derived.Test.YtcmdfcdmfdheeaaProg
import Derived.ChangeArms
namespace Go.Proofs.Ytcmdfcdmfdheeaa
open Go.ChangeShapes Go.WideShapes Go.ChangeAt Go.RowKit Go.Joins

/-- A list in memory, to be read: K cells each. -/
def RowsAt {α : Type} (W : World) (K : Nat) (cells : α → List Value) (v : Value) (l : List α) : Prop :=
  (l = [] ∧ ∃ p cap, v = .slice p 0 cap) ∨ ∃ g o cap, v = .slice (some ⟨g, o, none⟩) l.length cap ∧ l.length ≤ cap ∧ cap ≤ maxLen ∧
    ∀ j x, l[j]? = some x → ∀ i u, (cells x)[i]? = some u → W.cell? ⟨g, o + j * K + i, none⟩ = some u
section
variable {α : Type} {K : Nat} {cells : α → List Value}
theorem RowsAt.slice {W : World} {v : Value} {l : List α} (h : RowsAt W K cells v l) : ∃ p cap, v = .slice p l.length cap := by
  rcases h with ⟨rfl, p, cap, rfl⟩ | ⟨g, o, cap, rfl, _⟩
  · exact ⟨p, cap, rfl⟩
  · exact ⟨_, cap, rfl⟩
theorem RowsAt.kept {S : Nat → Prop} {W W' : World} {v : Value} {l : List α} (h : RowsAt W K cells v l) (hk : Kept S W W') (hS : ∀ i, i < W.heap.size → S i → v.ownBlock ≠ some i) : RowsAt W' K cells v l := by
  rcases h with ⟨rfl, p, cap, rfl⟩ | ⟨g, o, cap, rfl, h1, h2, hc⟩
  · exact Or.inl ⟨rfl, p, cap, rfl⟩
  · refine Or.inr ⟨g, o, cap, rfl, h1, h2, fun j x hj i u hu => ?_⟩
    have c := hc j x hj i u hu
    have hlt := lt_of_cell c
    exact (hk.cell (p := ⟨g, o + j * K + i, none⟩) hlt (fun hs => hS g hlt hs rfl)).trans c
theorem RowsAt.kept0 {W W' : World} {v : Value} {l : List α} (h : RowsAt W K cells v l) (hk : Kept (fun _ => False) W W') : RowsAt W' K cells v l := h.kept hk (fun _ _ h => h.elim)
theorem RowsAt.at {W : World} {p : Option Addr} {n cap : Nat} {l : List α} (h : RowsAt W K cells (.slice p n cap) l) {j : Nat} {x : α} (hj : l[j]? = some x) :
    ∃ g o, p = some ⟨g, o, none⟩ ∧ n ≤ cap ∧ ∀ i u, (cells x)[i]? = some u → W.cell? ⟨g, o + j * K + i, none⟩ = some u := by
  rcases h with ⟨rfl, _⟩ | ⟨g, o, cap', e, hle, _, hc⟩
  · simp at hj
  · simp only [Value.slice.injEq] at e
    obtain ⟨rfl, rfl, rfl⟩ := e
    exact ⟨g, o, rfl, hle, hc j x hj⟩
end

section
variable {H : Type} {enc : TypeId × Value → H} {P : Program} {w : World} {base : Nat} {spare : Nat → Bool} {held : Bool}

theorem spot_no {W : World} {g o : Nat} {sp : Option Nat} {u : Value} (h : W.cell? ((⟨g, o, sp⟩ : Addr).add 0) = some u) : sp = none := by
  unfold Addr.add at h
  cases sp with
  | none => rfl
  | some q =>
    exfalso
    unfold World.cell? at h
    split at h <;> simp at h

/-- What a list's data hold, element by element. -/
def HoldsBy {α : Type} (R : α → DataW H → Prop) (l : List α) (d : DataW H) : Prop := l = [] ∨ ∃ es sp, d = .slice es sp ∧ ∀ (j : Nat) (x : α), l[j]? = some x → ∃ y, es[j]? = some y ∧ R x y

theorem open_rows {α : Type} {t e : TypeId} {K fuel : Nat} (cells : α → List Value) (R : α → DataW H → Prop) (hu : P.underlying t = some (.slice e)) (hK : P.cellsOf e = K) (x0 : α) (hc0 : ∀ x, 0 < (cells x).length)
    (each : ∀ n cs y, cs.length = K → DataW.trod enc P w base spare held n e cs = some y → ∃ x : α, cs = cells x ∧ R x y.1)
    {v : Value} {d : DataW H} {p : List MemPlace} (hf : DataW.trod enc P w base spare held fuel t [v] = some (d, p)) :
    ∃ l : List α, RowsAt w K cells v l ∧ l.length ≤ maxLen ∧ HoldsBy R l d ∧ ∀ n cap, v = .slice none n cap → cap = 0 := by
  rcases DataW.trod_slice hu hf with ⟨hcs, _⟩ | ⟨a', len, cap, elems, rest, n, _, hcs, hx, hb, hl, hm, hlen, hel, _, _⟩
  · obtain rfl := List.singleton_inj.1 hcs
    exact ⟨[], Or.inl ⟨rfl, _, _, rfl⟩, Nat.zero_le _, Or.inl rfl, fun n cap e => by simp at e; omega⟩
  · obtain rfl := List.singleton_inj.1 hcs
    have ech : ∀ i, ∃ o : α, i < len → (∀ q u, (cells o)[q]? = some u → w.cell? ((a'.add (i * K)).add q) = some u) ∧ ∃ y, (elems.map (·.1))[i]? = some y ∧ R o y := fun i => by
      by_cases hi : i < len
      · have h1 := hel i hi
        rw [hK] at h1
        obtain ⟨y, hy⟩ : ∃ y, elems[i]? = some y := ⟨elems[i]'(by omega), by simp⟩
        rw [hy, Option.bind_eq_some_iff] at h1
        obtain ⟨cs, hc, ht⟩ := h1
        obtain ⟨_, hcl, hcell⟩ := World.cells?_some hc
        obtain ⟨o, e, hR⟩ := each n cs y hcl ht
        refine ⟨o, fun _ => ⟨fun q u hq => ?_, y.1, by rw [List.getElem?_map, hy]; rfl, hR⟩⟩
        subst e
        have hql := (List.getElem?_eq_some_iff.1 hq).1
        have := hcell q (by omega)
        rw [this]
        exact hq
      · exact ⟨x0, fun h => absurd h hi⟩
    obtain ⟨F, hF⟩ := skolem1 ech
    refine ⟨(List.range len).map F, ?_, by simp; omega, ?_, fun n cap e => by simp at e⟩
    · obtain ⟨g, o, sp⟩ := a'
      cases len with
      | zero => exact Or.inl ⟨rfl, some ⟨g, o, sp⟩, cap, rfl⟩
      | succ m =>
        obtain ⟨u0, hu0⟩ : ∃ u, (cells (F 0))[0]? = some u := ⟨(cells (F 0))[0]'(hc0 _), by simp⟩
        have h0 := (hF 0 (by omega)).1 0 _ hu0
        have hsp : sp = none := by
          have e : ((⟨g, o, sp⟩ : Addr).add (0 * K)).add 0 = (⟨g, o, sp⟩ : Addr).add 0 := by
            rw [Nat.zero_mul]
            unfold Addr.add
            simp
          rw [e] at h0
          exact spot_no h0
        subst hsp
        refine Or.inr ⟨g, o, cap, by simp, by simpa using hl, hm, fun j x hj q u hq => ?_⟩
        have hjl : j < m + 1 := by
          have := (List.getElem?_eq_some_iff.1 hj).1
          simpa using this
        have hx : x = F j := by
          rw [List.getElem?_map, List.getElem?_range hjl] at hj
          simpa using hj.symm
        subst hx
        have k1 := (hF j hjl).1 q u hq
        simp only [Addr.add_lit] at k1
        exact k1
    · have hd : d = .slice (elems.map (·.1)) (rest.map (·.1)) := congrArg Prod.fst hx
      refine Or.inr ⟨_, _, hd, fun j x hj => ?_⟩
      have hjl : j < len := by
        have := (List.getElem?_eq_some_iff.1 hj).1
        simpa using this
      have hx : x = F j := by
        rw [List.getElem?_map, List.getElem?_range hjl] at hj
        simpa using hj.symm
      subst hx
      exact (hF j hjl).2

/-- What data hold is no greater than may be. -/
def Wt (P : Program) (t : TypeId) (d : DataW H) : Prop := ∀ n ∈ d.weights P t, n ≤ reachBytes
theorem wt_arg {ts : List TypeId} {ds : List (DataW H)} (h : (DataW.weightsEach P ts ds).all (· ≤ reachBytes) = true) {j : Nat} {t : TypeId} {d : DataW H} (ht : ts[j]? = some t) (hd : ds[j]? = some d) : Wt P t d := fun n hn => by
  have := List.all_eq_true.1 h _ (DataW.weights_mem_each ht hd n hn)
  simpa using this
theorem wt_all {e : TypeId} : ∀ {l : List (DataW H)} {d : DataW H}, d ∈ l → ∀ n ∈ d.weights P e, n ∈ DataW.weightsAll P e l
  | a :: l, d, h, n, hn => by
    simp only [DataW.weightsAll, List.mem_append]
    rcases List.mem_cons.1 h with rfl | h
    · exact Or.inl hn
    · exact Or.inr (wt_all h n hn)
theorem wt_slice {t e : TypeId} {es sp : List (DataW H)} {y : DataW H} (h : Wt P t (.slice es sp)) (hu : P.underlying t = some (.slice e)) (hy : y ∈ es) : Wt P e y := fun n hn => h n (by
  simp only [DataW.weights, hu, List.mem_cons, List.mem_append]
  exact Or.inr (Or.inl (wt_all hy n hn)))
theorem wt_field {t : TypeId} {fs : Array Field} {ds : List (DataW H)} {j : Nat} {f : Field} {d : DataW H} (h : Wt P t (.agg ds)) (hu : P.underlying t = some (.struct fs)) (hf : fs[j]? = some f) (hd : ds[j]? = some d) : Wt P f.type d := fun n hn => h n (by
  simp only [DataW.weights, hu]
  refine DataW.weights_mem_each (j := j) (t := f.type) (d := d) ?_ hd n hn
  rw [List.getElem?_map, Array.getElem?_toList, hf]
  rfl)
theorem wt_string {t : TypeId} {x : ByteArray} (h : Wt P t (.lit (.string x.data.toList) : DataW H)) : x.size ≤ 140737488351232 := by
  have := h x.data.toList.length (by simp [DataW.weights])
  rw [Lib.size_eq]
  exact this
theorem wt_list {α : Type} {R : α → DataW H → Prop} {t e : TypeId} {l : List α} {d : DataW H} (h : Wt P t d) (hu : P.underlying t = some (.slice e)) (hl : HoldsBy R l d) : ∀ x ∈ l, ∃ y, R x y ∧ Wt P e y := fun x hx => by
  rcases hl with rfl | ⟨es, sp, rfl, he⟩
  · cases hx
  · obtain ⟨j, hj⟩ := List.getElem?_of_mem hx
    obtain ⟨y, hy, hr⟩ := he j x hj
    exact ⟨y, hr, wt_slice h hu (List.mem_of_getElem? hy)⟩
end
end Go.Proofs.Ytcmdfcdmfdheeaa

namespace Go.Proofs.Ytcmdfcdmfdheeaa
open Go.ChangeShapes Go.WideShapes Go.ChangeAt Go.RowKit Go.Joins

theorem cellsOp11 : Try.prog.cellsOf 47 = 8 := by kernel_rfl
theorem cellsPk' : Try.prog.cellsOf 40 = 4 := by kernel_rfl
theorem cellsOpt' : Try.prog.cellsOf 51 = 2 := by kernel_rfl
theorem cellsOpts' : Try.prog.cellsOf 22 = 1 := by kernel_rfl
theorem cellsInt' : Try.prog.cellsOf 3 = 1 := by kernel_rfl
theorem cellsStr' : Try.prog.cellsOf 9 = 1 := by kernel_rfl
theorem laidOutO : laidOutB Try.prog = true := by kernel_rfl

/-- A step. -/
structure Op11 where
  kind : Int
  num : Int
  p : Pk0
  vo : Value
  va : Value
  vb : Value
  a : List Tg
  b : List Tg
def op11Cells (x : Op11) : List Value := [.int .i64 x.kind, .int .i64 x.num, .int .i64 x.p.code, .int .i64 x.p.id, x.vo, .string x.p.data, x.va, x.vb]

section
variable {H : Type} {enc : TypeId × Value → H} {w : World} {base : Nat} {spare : Nat → Bool} {held : Bool}

def RTg (x : Tg) (d : DataW H) : Prop := In64 x.type ∧ ∃ z, d = .agg [z, .lit (.string x.value.data.toList)]

set_option maxRecDepth 100000 in
theorem each_opt (n : Nat) (cs : List Value) (y : DataW H × List MemPlace) (hlen : cs.length = 2) (ht : DataW.trod enc Try.prog w base spare held n 51 cs = some y) : ∃ x : Tg, cs = tgCells x ∧ RTg x y.1 := by
  obtain ⟨xs, k, hk, hxy, _, hxl, hf⟩ := DataW.trod_struct Try.underlying51 ht
  match xs, hxl, cs, hlen with
  | [y0, y1], _, [v0, v1], _ =>
    have g0 := hf 0 _ rfl
    have g1 := hf 1 _ rfl
    simp [cellsInt', cellsStr'] at g0 g1
    obtain ⟨i0, e0, _, w0⟩ := DataW.trod_int Try.underlying3 g0
    obtain ⟨x, e1, hy1, _⟩ := DataW.trod_string Try.underlying9 g1
    simp at e0 e1
    subst e0 e1
    refine ⟨⟨i0, x⟩, rfl, bounds_i64 w0, y0.1, ?_⟩
    rw [hxy]
    simp [hy1]
/-- A list of options, with all that is known of it. -/
structure OptsIn (W : World) (v : Value) (l : List Tg) : Prop where
  at_ : OptsAt W v l
  len : l.length ≤ maxLen
  kind : ∀ x ∈ l, In64 x.type
theorem rows_tags {W : World} {v : Value} {l : List Tg} (h : RowsAt W 2 tgCells v l) : TagsAt W v l := by
  rcases h with h | ⟨g, o, cap, rfl, h1, h2, hc⟩
  · exact Or.inl h
  · exact Or.inr ⟨g, o, cap, rfl, h1, h2, fun j x hj => ⟨hc j x hj 0 _ rfl, hc j x hj 1 _ rfl⟩⟩
theorem open_optsA {fuel : Nat} {v : Value} {d : DataW H} {p : List MemPlace} (hf : DataW.trod enc Try.prog w base spare held fuel 22 [v] = some (d, p)) : ∃ l : List Tg, OptsIn w v l ∧ HoldsBy RTg l d := by
  obtain ⟨l, h1, h2, h3, h4⟩ := open_rows tgCells RTg Try.underlying22 cellsOpt' ⟨0, ⟨#[]⟩⟩ (fun _ => by simp [tgCells]) each_opt hf
  refine ⟨l, ⟨⟨rows_tags h1, h4⟩, h2, fun x hx => ?_⟩, h3⟩
  rcases h3 with rfl | ⟨es, sp, _, he⟩
  · cases hx
  · obtain ⟨j, hj⟩ := List.getElem?_of_mem hx
    obtain ⟨y, _, hr, _⟩ := he j x hj
    exact hr
theorem sized_optsA {l : List Tg} {d : DataW H} (h : Wt Try.prog 22 d) (hl : HoldsBy RTg l d) : ∀ x ∈ l, x.value.size ≤ 140737488351232 := fun x hx => by
  obtain ⟨y, ⟨_, z, rfl⟩, hw⟩ := wt_list h Try.underlying22 hl x hx
  exact wt_string (wt_field (j := 1) (d := .lit (.string x.value.data.toList)) hw Try.underlying51 rfl rfl)

def ROp (w : World) (x : Op11) (d : DataW H) : Prop := OptsIn w x.vo x.p.opts ∧ OptsIn w x.va x.a ∧ OptsIn w x.vb x.b ∧ (In64 x.kind ∧ In64 x.p.code ∧ In64 x.p.id) ∧ ∃ z0 z1 z2 z3 z4 z5 z6, d = .agg [z0, z1, .agg [z2, z3, z4, .lit (.string x.p.data.data.toList)], z5, z6] ∧ HoldsBy RTg x.p.opts z4 ∧ HoldsBy RTg x.a z5 ∧ HoldsBy RTg x.b z6

set_option maxRecDepth 100000 in
theorem each_op (n : Nat) (cs : List Value) (y : DataW H × List MemPlace) (hlen : cs.length = 8) (ht : DataW.trod enc Try.prog w base spare held n 47 cs = some y) : ∃ x : Op11, cs = op11Cells x ∧ ROp w x y.1 := by
  obtain ⟨xs, k, hk, hxy, _, hxl, hf⟩ := DataW.trod_struct Try.underlying47 ht
  match xs, hxl, cs, hlen with
  | [y0, y1, y2, y3, y4], _, [v0, v1, v2, v3, v4, v5, v6, v7], _ =>
    have g0 := hf 0 _ rfl
    have g1 := hf 1 _ rfl
    have g2 := hf 2 _ rfl
    have g3 := hf 3 _ rfl
    have g4 := hf 4 _ rfl
    simp [cellsInt', cellsOpts', cellsPk'] at g0 g1 g2 g3 g4
    obtain ⟨i0, e0, _, w0⟩ := DataW.trod_int Try.underlying3 g0
    obtain ⟨i1, e1, _, _⟩ := DataW.trod_int Try.underlying3 g1
    obtain ⟨ys, k2, hk2, hy2, _, hyl, hf2⟩ := DataW.trod_struct Try.underlying40 g2
    match ys, hyl with
    | [u0, u1, u2, u3], _ =>
      have p0 := hf2 0 _ rfl
      have p1 := hf2 1 _ rfl
      have p2 := hf2 2 _ rfl
      have p3 := hf2 3 _ rfl
      simp [cellsInt', cellsOpts', cellsStr'] at p0 p1 p2 p3
      obtain ⟨i2, e2, _, w2⟩ := DataW.trod_int Try.underlying3 p0
      obtain ⟨i3, e3, _, w3⟩ := DataW.trod_int Try.underlying3 p1
      obtain ⟨x, e5, hx, _⟩ := DataW.trod_string Try.underlying9 p3
      simp at e0 e1 e2 e3 e5
      subst e0 e1 e2 e3 e5
      obtain ⟨lo, ho, hho⟩ := open_optsA (d := u2.1) (p := u2.2) p2
      obtain ⟨la, ha, hha⟩ := open_optsA (d := y3.1) (p := y3.2) g3
      obtain ⟨lb, hb, hhb⟩ := open_optsA (d := y4.1) (p := y4.2) g4
      refine ⟨⟨i0, i1, ⟨i2, i3, lo, x⟩, v4, v6, v7, la, lb⟩, rfl, ho, ha, hb, ⟨bounds_i64 w0, bounds_i64 w2, bounds_i64 w3⟩, y0.1, y1.1, u0.1, u1.1, u2.1, y3.1, y4.1, ?_, hho, hha, hhb⟩
      rw [hxy]
      simp [hy2, hx]

/-- A list of steps, with all that is known of it. -/
structure OpIn (W : World) (x : Op11) : Prop where
  o : OptsIn W x.vo x.p.opts
  a : OptsIn W x.va x.a
  b : OptsIn W x.vb x.b
  num : In64 x.kind ∧ In64 x.p.code ∧ In64 x.p.id
  data : x.p.data.size ≤ 140737488351232
  so : ∀ y ∈ x.p.opts, y.value.size ≤ 140737488351232
  sa : ∀ y ∈ x.a, y.value.size ≤ 140737488351232
  sb : ∀ y ∈ x.b, y.value.size ≤ 140737488351232
def OpsAt (W : World) (v : Value) (l : List Op11) : Prop := RowsAt W 8 op11Cells v l
set_option maxRecDepth 100000 in
theorem open_ops11 {r : Reach} {b0 : Nat} {v : Value} {d : DataW H} {p : List MemPlace} (hv : Value.okWide Try.prog w r b0 44 v) (h : DataW.Trod enc Try.prog w base spare held 44 v d p) (hw : Wt Try.prog 44 d) :
    ∃ l : List Op11, OpsAt w v l ∧ l.length ≤ maxLen ∧ ∀ x ∈ l, OpIn w x := by
  obtain ⟨a, len, cap, rfl⟩ := okWide_slice Try.underlying44 hv
  obtain ⟨fuel, hf⟩ := h
  have hf' : DataW.trod enc Try.prog w base spare held fuel 44 [.slice a len cap] = some (d, p) := by simpa [Value.cells] using hf
  obtain ⟨l, h1, h2, h3, _⟩ := open_rows op11Cells (ROp w) Try.underlying44 cellsOp11 ⟨0, 0, pk00, .bool false, .bool false, .bool false, [], []⟩ (fun _ => by simp [op11Cells]) each_op hf'
  refine ⟨l, h1, h2, fun x hx => ?_⟩
  obtain ⟨y, ⟨r1, r2, r3, r4, z0, z1, z2, z3, z4, z5, z6, rfl, o4, o5, o6⟩, hwy⟩ := wt_list hw Try.underlying44 h3 x hx
  have hp := wt_field (j := 2) (d := .agg [z2, z3, z4, .lit (.string x.p.data.data.toList)]) hwy Try.underlying47 rfl rfl
  exact ⟨r1, r2, r3, r4, wt_string (wt_field (j := 3) (d := .lit (.string x.p.data.data.toList)) hp Try.underlying40 rfl rfl), sized_optsA (wt_field (j := 2) (d := z4) hp Try.underlying40 rfl rfl) o4, sized_optsA (wt_field (j := 3) (d := z5) hwy Try.underlying47 rfl rfl) o5, sized_optsA (wt_field (j := 4) (d := z6) hwy Try.underlying47 rfl rfl) o6⟩
end
end Go.Proofs.Ytcmdfcdmfdheeaa

namespace Go.Proofs.Ytcmdfcdmfdheeaa
open Go.RowKit

/-- Few and short options. -/
def lightO (l : List Tg) : Bool := (l.take 60).all (fun t => decide (t.value.size ≤ 400)) && decide (l.length ≤ 50)
theorem lightO_true {l : List Tg} (h : lightO l = true) : l.length ≤ 50 ∧ ∀ x ∈ l, x.value.size ≤ 400 := by
  simp only [lightO, Bool.and_eq_true, decide_eq_true_eq] at h
  obtain ⟨h1, h2⟩ := h
  rw [List.take_of_length_le (by omega), List.all_eq_true] at h1
  exact ⟨h2, fun x hx => by simpa using h1 x hx⟩

set_option maxHeartbeats 2000000 in
set_option maxRecDepth 100000 in
theorem lightO_any (v : Value) (l : List Tg) (w : World) (hv : TagsAt w v l) (hl : l.length ≤ maxLen) (hsz : ∀ x ∈ l, x.value.size ≤ 140737488351232) :
    Calls Try.prog 7 #[v] w fun e w' => e = .returned (.bool (lightO l)) ∧ Kept (fun _ => False) w w' := by
  unfold maxLen at hl
  obtain ⟨p, cap, rfl⟩ := hv.slice
  have Hat : Hid (∀ (j : Nat) (x : Tg), l[j]? = some x → ∀ W, Kept (fun _ => False) w W → ∃ g o, p = some ⟨g, o, none⟩ ∧ l.length ≤ cap ∧ W.cell? ⟨g, o + j * 2, none⟩ = some (.int .i64 x.type) ∧ W.cell? ⟨g, o + j * 2 + 1, none⟩ = some (.string x.value)) :=
    fun j x hj W hW => (hv.kept0 hW).at hj
  have Hsz := hid hsz
  have hlz : (l.length : Int) ≤ 9223372036854775807 := by omega
  clear hv hsz
  go_enter Try.func7, Try.ntmps7
  go_wp2
  go_loopw [3] (fun vi wr => ∃ j : Nat, j ≤ l.length ∧ j ≤ 60 ∧ vi = .int .i64 (j : Int) ∧ Hid ((l.take j).all (fun t => decide (t.value.size ≤ 400)) = true ∧ wr = w)) (fun vi _ => 60 - (intOf vi).toNat)
  case atStart => exact ⟨0, Nat.zero_le _, Nat.zero_le _, rfl, rfl, rfl⟩
  case round =>
    obtain ⟨j, hj, hj6, rfl, HI⟩ := hrel
    obtain rfl : wr = w := HI.out.2
    have HA := hid HI.out.1
    clear HI
    by_cases hlt : j < l.length
    · have hltz : (j : Int) < (l.length : Int) := by omega
      by_cases h5 : j < 60
      · have h5z : (j : Int) < 60 := by omega
        obtain ⟨x, hx⟩ : ∃ x, l[j]? = some x := ⟨l[j], by simp [hlt]⟩
        obtain ⟨g, o, rfl, hcap, c0, c1⟩ := Hat.out j x hx wr (Kept.refl _ _)
        have hxs := Hsz.out x (List.mem_of_getElem? hx)
        by_cases h4 : 400 < x.value.size
        · have h4z : (400 : Int) < (x.value.size : Int) := by omega
          have e : lightO l = false := by
            unfold lightO
            have : (l.take 60).all (fun t => decide (t.value.size ≤ 400)) = false := by
              rw [List.all_eq_false]
              refine ⟨x, List.mem_of_getElem? (i := j) ?_, by simp; omega⟩
              rw [List.getElem?_take_of_lt h5]
              exact hx
            rw [this]
            rfl
          have HF := hid e
          clear hx e
          go_wp2
          go_ret
          exact ⟨by rw [HF.out]; rfl, Kept.refl _ _⟩
        · have h4z : ¬ (400 : Int) < (x.value.size : Int) := by omega
          have R : Hid ((l.take (j + 1)).all (fun t => decide (t.value.size ≤ 400)) = true) := by
            show _ = _
            rw [take_next hx, List.all_append, HA.out]
            simp
            omega
          clear hx
          go_wp2
          exact ⟨⟨j + 1, hlt, by omega, by go_num, R.out, by first | rfl | trivial⟩, by simp [intOf]; omega⟩
      · have h5z : ¬ (j : Int) < 60 := by omega
        have e : lightO l = false := by
          unfold lightO
          rw [show decide (l.length ≤ 50) = false from by rw [decide_eq_false_iff_not]; omega, Bool.and_false]
        have HF := hid e
        have h4z : ¬ (l.length : Int) ≤ 50 := by omega
        clear e
        go_wp2
        go_ret
        exact ⟨by rw [HF.out]; rfl, Kept.refl _ _⟩
    · obtain rfl : j = l.length := by omega
      have hltz : ¬ (l.length : Int) < (l.length : Int) := by omega
      have hV := HA.out
      rw [List.take_length] at hV
      have e : lightO l = decide ((l.length : Int) ≤ 50) := by
        unfold lightO
        rw [List.take_of_length_le hj6, hV, Bool.true_and, decide_eq_decide]
        omega
      have HF := hid e
      clear e hV hlt
      by_cases h4 : (l.length : Int) ≤ 50
      · go_wp2
        go_ret
        exact ⟨by rw [HF.out]; simp [h4], Kept.refl _ _⟩
      · have H4 : Hid (decide ((l.length : Int) ≤ 50) = false) := decide_eq_false h4
        go_wp2
        go_ret
        exact ⟨by rw [HF.out, H4.out]; rfl, Kept.refl _ _⟩

end Go.Proofs.Ytcmdfcdmfdheeaa

namespace Go.Proofs.Ytcmdfcdmfdheeaa
open Go.RowKit

theorem tags_low {W : World} {v : Value} {l : List Tg} (h : TagsAt W v l) : l = [] ∨ ∀ i, v.ownBlock = some i → i < W.heap.size := by
  rcases h with ⟨rfl, _⟩ | ⟨g, o, cap, rfl, _, _, hc⟩
  · exact Or.inl rfl
  · cases l with
    | nil => exact Or.inl rfl
    | cons x l =>
      refine Or.inr (fun i hi => ?_)
      have h1 := lt_of_cell (hc 0 x rfl).1
      have h2 : g = i := by simpa [Value.ownBlock] using hi
      rw [← h2]
      exact h1
section
variable {w W : World} {b : Nat} {a : Nm} {n : Ng}
/-- A packet of the arguments is none of the negotiation's. -/
theorem arg_pk (h : NMine w W b a n) {x : Op11} (hx : OpIn w x) (hl : x.p.opts.length ≤ 50) : PkIn W b a x.p x.vo := by
  refine ⟨hx.o.at_.kept0 h.kept, ?_, ⟨by omega, hx.o.kind, hx.so⟩, hx.data⟩
  rcases tags_low hx.o.at_.1 with e | e
  · exact Or.inl e
  · exact Or.inr (fun i hi s => by have := h.neg.sn_lo i s; have := e i hi; omega)
end

theorem take_nextG {α : Type} {l : List α} {j : Nat} {x : α} (h : l[j]? = some x) : l.take (j + 1) = l.take j ++ [x] := by rw [List.take_add_one, h]; rfl
/-- What Small tells of a step. -/
def lightP (x : Op11) : Prop := x.p.opts.length ≤ 50 ∧ x.p.data.size ≤ 2000
def SmallIs (l : List Op11) (w : World) (e : Ending) (w' : World) : Prop := ∃ B, e = .returned (.bool B) ∧ (B = true → l.length ≤ 200 ∧ ∀ x ∈ l, lightP x) ∧ Kept (fun _ => False) w w'

set_option maxHeartbeats 2000000 in
set_option maxRecDepth 100000 in
theorem lawSmall_any (v : Value) (l : List Op11) (w : World) (hv : OpsAt w v l) (hl : l.length ≤ maxLen) (hin : ∀ x ∈ l, OpIn w x) :
    Calls Try.prog 20 #[v] w (SmallIs l w) := by
  unfold maxLen at hl
  obtain ⟨p, cap, rfl⟩ := hv.slice
  have Hat := hid (fun (j : Nat) (x : Op11) (hj : l[j]? = some x) (W : World) (hW : Kept (fun _ => False) w W) => (RowsAt.kept0 hv hW).at hj)
  have HIn := hid hin
  clear hv hin
  go_enter Try.func20, Try.ntmps20
  go_wp2
  go_loopw [3] (fun vi wr => ∃ j : Nat, j ≤ l.length ∧ vi = .int .i64 (j : Int) ∧ Hid ((∀ x ∈ l.take j, lightP x) ∧ Kept (fun _ => False) w wr)) (fun vi _ => l.length - (intOf vi).toNat)
  case atStart => exact ⟨0, Nat.zero_le _, rfl, fun x hx => by simp at hx, Kept.refl _ _⟩
  case round =>
    obtain ⟨j, hj, rfl, HI⟩ := hrel
    by_cases hlt : j < l.length
    · have hltz : (j : Int) < (l.length : Int) := by omega
      obtain ⟨x, hx⟩ : ∃ x, l[j]? = some x := ⟨l[j], by simp [hlt]⟩
      have hxi := HIn.out x (List.mem_of_getElem? hx)
      obtain ⟨g, o, rfl, hcap, hc⟩ := Hat.out j x hx wr HI.out.2
      have HC := hid (fun W (k : Kept (fun _ => False) w W) (i : Nat) (u : Value) (hu : (op11Cells x)[i]? = some u) => (Hat.out j x hx W k).elim fun g' h1 => h1.elim fun o' h2 => (by
        obtain ⟨e, _, h3⟩ := h2
        simp only [Option.some.injEq, Addr.mk.injEq, and_true] at e
        obtain ⟨rfl, rfl⟩ := e
        exact h3 i u hu : W.cell? ⟨g, o + j * 8 + i, none⟩ = some u))
      obtain ⟨p4, k4, e4⟩ := hxi.o.at_.1.slice
      obtain ⟨p6, k6, e6⟩ := hxi.a.at_.1.slice
      obtain ⟨p7, k7, e7⟩ := hxi.b.at_.1.slice
      have HA := hid (fun W (k : Kept (fun _ => False) w W) => lightO_any x.vo x.p.opts W (hxi.o.at_.kept0 k).1 hxi.o.len hxi.so)
      have HB := hid (fun W (k : Kept (fun _ => False) w W) => lightO_any x.va x.a W (hxi.a.at_.kept0 k).1 hxi.a.len hxi.sa)
      have HD := hid (fun W (k : Kept (fun _ => False) w W) => lightO_any x.vb x.b W (hxi.b.at_.kept0 k).1 hxi.b.len hxi.sb)
      have HX := hid hx
      have HO := hid HI.out.1
      have HK := hid HI.out.2
      have E4 := hid e4
      have E6 := hid e6
      have E7 := hid e7
      have c4 := HC.out wr HK.out 4 _ rfl
      rw [e4] at c4 HA
      rw [e6] at HB
      rw [e7] at HD
      clear hx hc HI e4 e6 e7 hxi
      cases q1 : lightO x.p.opts with
      | false =>
        rw [q1] at HA
        clear q1
        go_wp2_with fail
        refine (HA.out wr HK.out).mono ?_
        rintro e w1 ⟨rfl, k1⟩
        have K1 := hid (HK.out.trans k1)
        clear k1
        go_wp2
        go_ret
        exact ⟨false, rfl, (fun h => by cases h), K1.out⟩
      | true =>
        have HL1 := hid (lightO_true q1).1
        rw [q1] at HA
        clear q1
        go_wp2_with fail
        refine (HA.out wr HK.out).mono ?_
        rintro e w1 ⟨rfl, k1⟩
        have K1 := hid (HK.out.trans k1)
        have d5 := HC.out w1 K1.out 5 _ rfl
        clear k1 c4 HA
        by_cases q2 : (2000 : Int) < (x.p.data.size : Int)
        · go_wp2
          go_ret
          exact ⟨false, rfl, (fun h => by cases h), K1.out⟩
        · have d6 := HC.out w1 K1.out 6 _ rfl
          rw [E6.out] at d6
          have HL2 : Hid (x.p.data.size ≤ 2000) := by show _ ≤ _; omega
          cases q3 : lightO x.a with
          | false =>
            rw [q3] at HB
            clear q3
            go_wp2_with fail
            refine (HB.out w1 K1.out).mono ?_
            rintro e w2 ⟨rfl, k2⟩
            have K2 := hid (K1.out.trans k2)
            clear k2
            go_wp2
            go_ret
            exact ⟨false, rfl, (fun h => by cases h), K2.out⟩
          | true =>
            rw [q3] at HB
            clear q3
            go_wp2_with fail
            refine (HB.out w1 K1.out).mono ?_
            rintro e w2 ⟨rfl, k2⟩
            have K2 := hid (K1.out.trans k2)
            have d7 := HC.out w2 K2.out 7 _ rfl
            rw [E7.out] at d7
            clear k2 d5 d6
            go_wp2_with fail
            refine (HD.out w2 K2.out).mono ?_
            rintro e w3 ⟨rfl, k3⟩
            have K3 := hid (K2.out.trans k3)
            clear k3
            cases q4 : lightO x.b with
            | false =>
              go_wp2
              go_ret
              exact ⟨false, rfl, (fun h => by cases h), K3.out⟩
            | true =>
              go_wp2
              refine ⟨⟨j + 1, hlt, by go_num, fun y hy => ?_, K3.out⟩, by simp [intOf]; omega⟩
              rw [take_nextG HX.out] at hy
              rcases List.mem_append.1 hy with hy | hy
              · exact HO.out y hy
              · rw [List.mem_singleton.1 hy]
                exact ⟨HL1.out, HL2.out⟩
    · obtain rfl : j = l.length := by omega
      have hltz : ¬ (l.length : Int) < (l.length : Int) := by omega
      obtain ⟨hO, hk⟩ := HI.out
      rw [List.take_length] at hO
      have HO := hid hO
      clear hO HI hlt
      by_cases hb : (l.length : Int) ≤ 200
      · go_wp2
        go_ret
        exact ⟨true, rfl, fun _ => ⟨by omega, HO.out⟩, hk⟩
      · go_wp2
        go_ret
        exact ⟨false, rfl, (fun h => by cases h), hk⟩
end Go.Proofs.Ytcmdfcdmfdheeaa

namespace Go.Proofs.Ytcmdfcdmfdheeaa
open Go.ChangeShapes Go.WideShapes Go.ChangeAt Go.RowKit Go.Joins

theorem cells16a : Try.prog.cellsOf 24 = 4 := by kernel_rfl
theorem cells16b : Try.prog.cellsOf 5 = 1 := by kernel_rfl
def byteOf : Value → UInt8
  | .int _ n => UInt8.ofNat n.toNat
  | _ => 0
section
variable {H : Type} {enc : TypeId × Value → H} {w : World} {base : Nat} {spare : Nat → Bool} {held : Bool}
theorem byte_at {fuel : Nat} {c : Value} {x : DataW H × List MemPlace} (h : DataW.trod enc Try.prog w base spare held fuel 5 [c] = some x) : c = .int .u8 ((byteOf c).toNat : Int) := by
  obtain ⟨n, hc, _, hw⟩ := DataW.trod_int Try.underlying5 h
  have hb := bounds_u8 hw
  simp at hc
  subst hc
  have hlt : n.toNat < 256 := by omega
  have e : (UInt8.ofNat n.toNat).toNat = n.toNat := UInt8.toNat_ofNat_of_lt hlt
  simp only [byteOf]
  rw [e, Int.toNat_of_nonneg hb.1]
set_option maxRecDepth 100000 in
theorem ad_cells {fuel : Nat} {l : List Value} {x : DataW H × List MemPlace} (h : DataW.trod enc Try.prog w base spare held fuel 24 l = some x) : ∃ y : Ad, l = adCells y := by
  obtain ⟨xs, m, _, _, hl, hn, hf⟩ := DataW.trod_array Try.underlying24 h
  rw [cells16a] at hl
  match l, hl, xs, hn with
  | [v0, v1, v2, v3], _, [y0, y1, y2, y3], _ =>
    have g0 := hf 0 (by decide)
    have g1 := hf 1 (by decide)
    have g2 := hf 2 (by decide)
    have g3 := hf 3 (by decide)
    simp [cells16b] at g0 g1 g2 g3
    refine ⟨⟨byteOf v0, byteOf v1, byteOf v2, byteOf v3⟩, ?_⟩
    unfold adCells
    rw [← byte_at g0, ← byte_at g1, ← byte_at g2, ← byte_at g3]
set_option maxRecDepth 100000 in
theorem open_addr {r : Reach} {b0 : Nat} {v : Value} {d : DataW H} {p : List MemPlace} (hv : Value.okWide Try.prog w r b0 24 v) (h : DataW.Trod enc Try.prog w base spare held 24 v d p) : ∃ y : Ad, v = adV y := by
  obtain ⟨cs, rfl⟩ : ∃ cs, v = .agg cs := by
    simp only [Value.okWide, Try.underlying24] at hv
    obtain ⟨cs, h1, _⟩ := hv
    exact ⟨cs, h1⟩
  obtain ⟨fuel, hf⟩ := h
  obtain ⟨y, hc⟩ := ad_cells hf
  refine ⟨y, ?_⟩
  unfold adV
  congr 1
  apply Array.toList_inj.1
  exact hc
end
end Go.Proofs.Ytcmdfcdmfdheeaa
