/- The contracts of Ups and Theirs. · How lists of structs among the arguments are read, whatever the struct (no function is named); and how great what they hold may be. · How an address among the arguments is read. · A client and a server of addresses that hear each other, as plain data: what each is behind each round. · The kinds of exchanges between a client and a server of addresses; where both end. · Two negotiations side by side, and lists of packets beside them; 'append' of one list of packets onto another. · Two negotiations that hear each other, in memory: what each takes of the other's packets. -/
import Derived.Test.YtcmdfcdmfdheeaaNgSmall
import Derived.Test.YtcmdfcdmfdheeaaKept
import Derived.ChangeSlices
import Derived.ProofKit
import Derived.OpenShut
import Derived.SizedLaws
import Derived.Lib.SmallJoins
import Derived.Test.YtcmdfcdmfdheeaaPlAd
import Derived.Test.YtcmdfcdmfdheeaaProg
import Derived.ChangeArms
import Derived.Test.YtcmdfcdmfdheeaaIpClient
import Derived.Test.YtcmdfcdmfdheeaaFoIn
import Derived.Test.YtcmdfcdmfdheeaaNmIn
import Derived.Test.YtcmdfcdmfdheeaaNgSentK
namespace Go.Proofs.Ytcmdfcdmfdheeaa
open Go.RowKit


set_option maxRecDepth 100000 in
theorem ngTheirs_any {base b : Nat} {a : Nm} {n : Ng} (w : World) (h : NegIn w base b a n) : Calls Try.prog 18 #[.pointer (some ⟨b, 0, none⟩)] w fun e w' => ∃ u, e = .returned u ∧ OwnO w' w.heap.size u (theirsF n) ∧ Kept (fun _ => False) w w' := by
  have c13 := h.n13
  have HS := hid (ngState_any w h)
  have HC := hid (cloneO_any a.vt n.theirs w h.theirs.at (by have := h.good.theirs.1; omega))
  unfold theirsF
  obtain ⟨p, cap, hv⟩ := slice_of h.theirs
  rw [hv] at c13 HC
  clear h hv
  by_cases h9 : n.au.st = 9
  · have h9z : (n.au.st != 9) = false := by simp [h9]
    rw [if_pos h9]
    clear h9
    go_enter Try.func18, Try.ntmps18
    go_wp2_with (first
      | (go_at_call 19; refine HS.out.mono ?_; rintro e w' ⟨rfl, hw⟩; rw [hw]; clear hw w'))
    refine HC.out.mono ?_
    rintro e w1 ⟨u, rfl, ho, hk⟩
    have HO := hid ho
    clear ho
    go_wp2
    go_ret
    exact ⟨_, rfl, HO.out, hk⟩
  · have h9z : (n.au.st != 9) = true := by simp [h9]
    rw [if_neg h9]
    clear h9 HC
    go_enter Try.func18, Try.ntmps18
    go_wp2_with (first
      | (go_at_call 19; refine HS.out.mono ?_; rintro e w' ⟨rfl, hw⟩; rw [hw]; clear hw w'))
    go_ret
    exact ⟨_, rfl, OwnO.nil _ _, Kept.refl _ _⟩
end Go.Proofs.Ytcmdfcdmfdheeaa

namespace Go.Proofs.Ytcmdfcdmfdheeaa
open Go.ChangeShapes Go.WideShapes Go.ChangeAt Go.RowKit Go.Joins

/-- A list in memory, to be read: K cells each. -/
def RowsAt {α : Type} (W : World) (K : Nat) (cells : α → List Value) (v : Value) (l : List α) : Prop :=
  (l = [] ∧ ∃ p cap, v = .slice p 0 cap) ∨ ∃ g o cap, v = .slice (some ⟨g, o, none⟩) l.length cap ∧ l.length ≤ cap ∧ cap ≤ maxLen ∧
    ∀ j x, l[j]? = some x → ∀ i u, (cells x)[i]? = some u → W.cell? ⟨g, o + j * K + i, none⟩ = some u
section
variable {α : Type} {K : Nat} {cells : α → List Value}
theorem RowsAt.slice {W : World} {v : Value} {l : List α} (h : RowsAt W K cells v l) : ∃ p cap, v = .slice p l.length cap := by
  rcases h with ⟨rfl, p, cap, rfl⟩ | ⟨g, o, cap, rfl, _⟩
  · exact ⟨p, cap, rfl⟩
  · exact ⟨_, cap, rfl⟩
theorem RowsAt.kept {S : Nat → Prop} {W W' : World} {v : Value} {l : List α} (h : RowsAt W K cells v l) (hk : Kept S W W') (hS : ∀ i, i < W.heap.size → S i → v.ownBlock ≠ some i) : RowsAt W' K cells v l := by
  rcases h with ⟨rfl, p, cap, rfl⟩ | ⟨g, o, cap, rfl, h1, h2, hc⟩
  · exact Or.inl ⟨rfl, p, cap, rfl⟩
  · refine Or.inr ⟨g, o, cap, rfl, h1, h2, fun j x hj i u hu => ?_⟩
    have c := hc j x hj i u hu
    have hlt := lt_of_cell c
    exact (hk.cell (p := ⟨g, o + j * K + i, none⟩) hlt (fun hs => hS g hlt hs rfl)).trans c
theorem RowsAt.kept0 {W W' : World} {v : Value} {l : List α} (h : RowsAt W K cells v l) (hk : Kept (fun _ => False) W W') : RowsAt W' K cells v l := h.kept hk (fun _ _ h => h.elim)
theorem RowsAt.at {W : World} {p : Option Addr} {n cap : Nat} {l : List α} (h : RowsAt W K cells (.slice p n cap) l) {j : Nat} {x : α} (hj : l[j]? = some x) :
    ∃ g o, p = some ⟨g, o, none⟩ ∧ n ≤ cap ∧ ∀ i u, (cells x)[i]? = some u → W.cell? ⟨g, o + j * K + i, none⟩ = some u := by
  rcases h with ⟨rfl, _⟩ | ⟨g, o, cap', e, hle, _, hc⟩
  · simp at hj
  · simp only [Value.slice.injEq] at e
    obtain ⟨rfl, rfl, rfl⟩ := e
    exact ⟨g, o, rfl, hle, hc j x hj⟩
end

section
variable {H : Type} {enc : TypeId × Value → H} {P : Program} {w : World} {base : Nat} {spare : Nat → Bool} {held : Bool}

theorem spot_no {W : World} {g o : Nat} {sp : Option Nat} {u : Value} (h : W.cell? ((⟨g, o, sp⟩ : Addr).add 0) = some u) : sp = none := by
  unfold Addr.add at h
  cases sp with
  | none => rfl
  | some q =>
    exfalso
    unfold World.cell? at h
    split at h <;> simp at h

/-- What a list's data hold, element by element. -/
def HoldsBy {α : Type} (R : α → DataW H → Prop) (l : List α) (d : DataW H) : Prop := l = [] ∨ ∃ es sp, d = .slice es sp ∧ ∀ (j : Nat) (x : α), l[j]? = some x → ∃ y, es[j]? = some y ∧ R x y

theorem open_rows {α : Type} {t e : TypeId} {K fuel : Nat} (cells : α → List Value) (R : α → DataW H → Prop) (hu : P.underlying t = some (.slice e)) (hK : P.cellsOf e = K) (x0 : α) (hc0 : ∀ x, 0 < (cells x).length)
    (each : ∀ n cs y, cs.length = K → DataW.trod enc P w base spare held n e cs = some y → ∃ x : α, cs = cells x ∧ R x y.1)
    {v : Value} {d : DataW H} {p : List MemPlace} (hf : DataW.trod enc P w base spare held fuel t [v] = some (d, p)) :
    ∃ l : List α, RowsAt w K cells v l ∧ l.length ≤ maxLen ∧ HoldsBy R l d ∧ ∀ n cap, v = .slice none n cap → cap = 0 := by
  rcases DataW.trod_slice hu hf with ⟨hcs, _⟩ | ⟨a', len, cap, elems, rest, n, _, hcs, hx, hb, hl, hm, hlen, hel, _, _⟩
  · obtain rfl := List.singleton_inj.1 hcs
    exact ⟨[], Or.inl ⟨rfl, _, _, rfl⟩, Nat.zero_le _, Or.inl rfl, fun n cap e => by simp at e; omega⟩
  · obtain rfl := List.singleton_inj.1 hcs
    have ech : ∀ i, ∃ o : α, i < len → (∀ q u, (cells o)[q]? = some u → w.cell? ((a'.add (i * K)).add q) = some u) ∧ ∃ y, (elems.map (·.1))[i]? = some y ∧ R o y := fun i => by
      by_cases hi : i < len
      · have h1 := hel i hi
        rw [hK] at h1
        obtain ⟨y, hy⟩ : ∃ y, elems[i]? = some y := ⟨elems[i]'(by omega), by simp⟩
        rw [hy, Option.bind_eq_some_iff] at h1
        obtain ⟨cs, hc, ht⟩ := h1
        obtain ⟨_, hcl, hcell⟩ := World.cells?_some hc
        obtain ⟨o, e, hR⟩ := each n cs y hcl ht
        refine ⟨o, fun _ => ⟨fun q u hq => ?_, y.1, by rw [List.getElem?_map, hy]; rfl, hR⟩⟩
        subst e
        have hql := (List.getElem?_eq_some_iff.1 hq).1
        have := hcell q (by omega)
        rw [this]
        exact hq
      · exact ⟨x0, fun h => absurd h hi⟩
    obtain ⟨F, hF⟩ := skolem1 ech
    refine ⟨(List.range len).map F, ?_, by simp; omega, ?_, fun n cap e => by simp at e⟩
    · obtain ⟨g, o, sp⟩ := a'
      cases len with
      | zero => exact Or.inl ⟨rfl, some ⟨g, o, sp⟩, cap, rfl⟩
      | succ m =>
        obtain ⟨u0, hu0⟩ : ∃ u, (cells (F 0))[0]? = some u := ⟨(cells (F 0))[0]'(hc0 _), by simp⟩
        have h0 := (hF 0 (by omega)).1 0 _ hu0
        have hsp : sp = none := by
          have e : ((⟨g, o, sp⟩ : Addr).add (0 * K)).add 0 = (⟨g, o, sp⟩ : Addr).add 0 := by
            rw [Nat.zero_mul]
            unfold Addr.add
            simp
          rw [e] at h0
          exact spot_no h0
        subst hsp
        refine Or.inr ⟨g, o, cap, by simp, by simpa using hl, hm, fun j x hj q u hq => ?_⟩
        have hjl : j < m + 1 := by
          have := (List.getElem?_eq_some_iff.1 hj).1
          simpa using this
        have hx : x = F j := by
          rw [List.getElem?_map, List.getElem?_range hjl] at hj
          simpa using hj.symm
        subst hx
        have k1 := (hF j hjl).1 q u hq
        simp only [Addr.add_lit] at k1
        exact k1
    · have hd : d = .slice (elems.map (·.1)) (rest.map (·.1)) := congrArg Prod.fst hx
      refine Or.inr ⟨_, _, hd, fun j x hj => ?_⟩
      have hjl : j < len := by
        have := (List.getElem?_eq_some_iff.1 hj).1
        simpa using this
      have hx : x = F j := by
        rw [List.getElem?_map, List.getElem?_range hjl] at hj
        simpa using hj.symm
      subst hx
      exact (hF j hjl).2

/-- What data hold is no greater than may be. -/
def Wt (P : Program) (t : TypeId) (d : DataW H) : Prop := ∀ n ∈ d.weights P t, n ≤ reachBytes
theorem wt_arg {ts : List TypeId} {ds : List (DataW H)} (h : (DataW.weightsEach P ts ds).all (· ≤ reachBytes) = true) {j : Nat} {t : TypeId} {d : DataW H} (ht : ts[j]? = some t) (hd : ds[j]? = some d) : Wt P t d := fun n hn => by
  have := List.all_eq_true.1 h _ (DataW.weights_mem_each ht hd n hn)
  simpa using this
theorem wt_all {e : TypeId} : ∀ {l : List (DataW H)} {d : DataW H}, d ∈ l → ∀ n ∈ d.weights P e, n ∈ DataW.weightsAll P e l
  | a :: l, d, h, n, hn => by
    simp only [DataW.weightsAll, List.mem_append]
    rcases List.mem_cons.1 h with rfl | h
    · exact Or.inl hn
    · exact Or.inr (wt_all h n hn)
theorem wt_slice {t e : TypeId} {es sp : List (DataW H)} {y : DataW H} (h : Wt P t (.slice es sp)) (hu : P.underlying t = some (.slice e)) (hy : y ∈ es) : Wt P e y := fun n hn => h n (by
  simp only [DataW.weights, hu, List.mem_cons, List.mem_append]
  exact Or.inr (Or.inl (wt_all hy n hn)))
theorem wt_field {t : TypeId} {fs : Array Field} {ds : List (DataW H)} {j : Nat} {f : Field} {d : DataW H} (h : Wt P t (.agg ds)) (hu : P.underlying t = some (.struct fs)) (hf : fs[j]? = some f) (hd : ds[j]? = some d) : Wt P f.type d := fun n hn => h n (by
  simp only [DataW.weights, hu]
  refine DataW.weights_mem_each (j := j) (t := f.type) (d := d) ?_ hd n hn
  rw [List.getElem?_map, Array.getElem?_toList, hf]
  rfl)
theorem wt_string {t : TypeId} {x : ByteArray} (h : Wt P t (.lit (.string x.data.toList) : DataW H)) : x.size ≤ 140737488351232 := by
  have := h x.data.toList.length (by simp [DataW.weights])
  rw [Lib.size_eq]
  exact this
theorem wt_list {α : Type} {R : α → DataW H → Prop} {t e : TypeId} {l : List α} {d : DataW H} (h : Wt P t d) (hu : P.underlying t = some (.slice e)) (hl : HoldsBy R l d) : ∀ x ∈ l, ∃ y, R x y ∧ Wt P e y := fun x hx => by
  rcases hl with rfl | ⟨es, sp, rfl, he⟩
  · cases hx
  · obtain ⟨j, hj⟩ := List.getElem?_of_mem hx
    obtain ⟨y, hy, hr⟩ := he j x hj
    exact ⟨y, hr, wt_slice h hu (List.mem_of_getElem? hy)⟩
end
end Go.Proofs.Ytcmdfcdmfdheeaa

namespace Go.Proofs.Ytcmdfcdmfdheeaa
open Go.ChangeShapes Go.WideShapes Go.ChangeAt Go.RowKit Go.Joins

theorem cells16a : Try.prog.cellsOf 24 = 4 := by kernel_rfl
theorem cells16b : Try.prog.cellsOf 5 = 1 := by kernel_rfl
def byteOf : Value → UInt8
  | .int _ n => UInt8.ofNat n.toNat
  | _ => 0
section
variable {H : Type} {enc : TypeId × Value → H} {w : World} {base : Nat} {spare : Nat → Bool} {held : Bool}
theorem byte_at {fuel : Nat} {c : Value} {x : DataW H × List MemPlace} (h : DataW.trod enc Try.prog w base spare held fuel 5 [c] = some x) : c = .int .u8 ((byteOf c).toNat : Int) := by
  obtain ⟨n, hc, _, hw⟩ := DataW.trod_int Try.underlying5 h
  have hb := bounds_u8 hw
  simp at hc
  subst hc
  have hlt : n.toNat < 256 := by omega
  have e : (UInt8.ofNat n.toNat).toNat = n.toNat := UInt8.toNat_ofNat_of_lt hlt
  simp only [byteOf]
  rw [e, Int.toNat_of_nonneg hb.1]
set_option maxRecDepth 100000 in
theorem ad_cells {fuel : Nat} {l : List Value} {x : DataW H × List MemPlace} (h : DataW.trod enc Try.prog w base spare held fuel 24 l = some x) : ∃ y : Ad, l = adCells y := by
  obtain ⟨xs, m, _, _, hl, hn, hf⟩ := DataW.trod_array Try.underlying24 h
  rw [cells16a] at hl
  match l, hl, xs, hn with
  | [v0, v1, v2, v3], _, [y0, y1, y2, y3], _ =>
    have g0 := hf 0 (by decide)
    have g1 := hf 1 (by decide)
    have g2 := hf 2 (by decide)
    have g3 := hf 3 (by decide)
    simp [cells16b] at g0 g1 g2 g3
    refine ⟨⟨byteOf v0, byteOf v1, byteOf v2, byteOf v3⟩, ?_⟩
    unfold adCells
    rw [← byte_at g0, ← byte_at g1, ← byte_at g2, ← byte_at g3]
set_option maxRecDepth 100000 in
theorem open_addr {r : Reach} {b0 : Nat} {v : Value} {d : DataW H} {p : List MemPlace} (hv : Value.okWide Try.prog w r b0 24 v) (h : DataW.Trod enc Try.prog w base spare held 24 v d p) : ∃ y : Ad, v = adV y := by
  obtain ⟨cs, rfl⟩ : ∃ cs, v = .agg cs := by
    simp only [Value.okWide, Try.underlying24] at hv
    obtain ⟨cs, h1, _⟩ := hv
    exact ⟨cs, h1⟩
  obtain ⟨fuel, hf⟩ := h
  obtain ⟨y, hc⟩ := ad_cells hf
  refine ⟨y, ?_⟩
  unfold adV
  congr 1
  apply Array.toList_inj.1
  exact hc
end
end Go.Proofs.Ytcmdfcdmfdheeaa

namespace Go.Proofs.Ytcmdfcdmfdheeaa
open Go.RowKit

/-- All packets of a list, one behind the other. -/
def runN (ms : List Int) (n : Ng) (l : List Pk0) : Ng × List Pk0 := l.foldl (fun s p => ((takeM ms s.1 p).1, s.2 ++ (takeM ms s.1 p).2)) (n, [])
theorem runN_take (ms : List Int) (n : Ng) {l : List Pk0} {j : Nat} {p : Pk0} (h : l[j]? = some p) : runN ms n (l.take (j + 1)) = ((takeM ms (runN ms n (l.take j)).1 p).1, (runN ms n (l.take j)).2 ++ (takeM ms (runN ms n (l.take j)).1 p).2) := by
  unfold runN
  rw [List.take_add_one, h, List.foldl_append]
  rfl
theorem run_one (ms : List Int) (n : Ng) (p : Pk0) : runN ms n [p] = takeM ms n p := by
  unfold runN
  simp
theorem run_nil (ms : List Int) (n : Ng) : runN ms n [] = (n, []) := rfl

/-- What is strange to rules, of options none of which stands twice. -/
theorem rej_filter (rs : List Rl) (o : List Tg) (ha : Alone o) : upTo (rejF rs o) o o.length = o.filter (fun t => (ruleF rs t.type).isNone) := by
  have h : ∀ j, j ≤ o.length → upTo (rejF rs o) o j = (o.take j).filter (fun t => (ruleF rs t.type).isNone) := fun j hj => by
    induction j with
    | zero => rfl
    | succ j ih =>
      obtain ⟨t, ht⟩ : ∃ t, o[j]? = some t := ⟨o[j], by simp⟩
      rw [upTo_next _ _ _ ht, ih (by omega), take_next ht, List.filter_append]
      congr 1
      unfold rejF badF
      rw [ha j t ht]
      cases hq : ruleF rs t.type with
      | none => simp [hq]
      | some r => simp [hq]
  rw [h _ (Nat.le_refl _), List.take_length]
theorem judge_by {rs : List Rl} {o R M : List Tg} (ha : Alone o) (hR : o.filter (fun t => (ruleF rs t.type).isNone) = R) (hM : misF rs o = M) : judgeF rs o = if R ≠ [] then (4, R) else if M ≠ [] then (3, M.map (sugF rs)) else (2, o) := by
  have h := rej_filter rs o ha
  rw [hR] at h
  by_cases h1 : R = []
  · rw [if_neg (by simp [h1])]
    by_cases h2 : M = []
    · rw [if_neg (by simp [h2]), judgeF_ack (by rw [h, h1]; rfl) (by rw [hM, h2]; rfl)]
    · rw [if_pos h2, judgeF_nak (by rw [h, h1]; rfl) (by rw [hM]; exact List.length_pos_iff.2 h2), hM]
  · rw [if_pos h1, judgeF_rej (by rw [h]; exact List.length_pos_iff.2 h1), h]

/-- What the exchange hangs on: what is asked first (A), again (Z), in the end (F); what is rejected (R); the server's own (O). -/
structure Kase (own peer d e : Ad) (dns : Bool) (F Z R : List Tg) : Prop where
  j0 : judgeF (givesF peer d e) (askC dns) = if R = [] then (3, F) else (4, R)
  j1 : judgeF (givesF peer d e) Z = (3, F)
  j2 : judgeF (givesF peer d e) F = (2, F)
  c0 : judgeF [ruleA 3 ad0 adT] [⟨3, adB own⟩] = (2, [⟨3, adB own⟩])
  nk : ∀ n : Ng, n.own = [ruleA 3 ad1 adT, ruleA 129 ad1 adT, ruleA 131 ad1 adT] → n.req = Z → (nakL [3] n F).1 = { n with req := F }
  wo : woF (askC dns) R = (Z, [])
  mu : mustB [3] R = false
  za : R = [] → Z = askC dns
  fF : FineO F
  fZ : FineO Z
  fR : FineO R

section
variable (own peer d e : Ad) (dns : Bool) (F Z R : List Tg)
def bC : Ng := clientN dns 10 2 10 3
def bS : Ng := serverN own peer d e 10 2 10 3
def oS : List Tg := [⟨3, adB own⟩]
def rq (i : Int) (l : List Tg) : Pk0 := ⟨1, i, l, ⟨#[]⟩⟩
def ak (i : Int) (l : List Tg) : Pk0 := ⟨2, i, l, ⟨#[]⟩⟩
def nk (i : Int) (l : List Tg) : Pk0 := ⟨3, i, l, ⟨#[]⟩⟩
def rj (i : Int) (l : List Tg) : Pk0 := ⟨4, i, l, ⟨#[]⟩⟩
/-- The client, asking by the Id i for l. -/
def cA (i : Int) (l : List Tg) : Ng := { bC dns with au := ⟨10, 2, 8, 9⟩, id := i, last := i, begun := true, req := l, theirs := oS own }
def cO (i : Int) (l : List Tg) : Ng := { bC dns with au := ⟨10, 2, 9, 10⟩, id := i, last := i, begun := true, req := l, theirs := oS own, mine := l, ups := 1 }
/-- The server. -/
def sA (k : Int) : Ng := { bS own peer d e with au := ⟨10, 2, 6, 9⟩, id := 1, last := 1, begun := true, naks := k }
def sB (k : Int) : Ng := { bS own peer d e with au := ⟨10, 2, 7, 10⟩, id := 1, last := 1, begun := true, naks := k, mine := oS own }
def sO (l : List Tg) : Ng := { bS own peer d e with au := ⟨10, 2, 9, 10⟩, id := 1, last := 1, begun := true, mine := oS own, theirs := l, ups := 1 }
def agC (L : Bool) : Nat → Ng × List Pk0
  | 0 => ({ bC dns with au := ⟨10, 2, 6, 9⟩, id := 1, last := 1, begun := true }, [rq 1 (askC dns)])
  | 1 => (cA own dns 1 (askC dns), [ak 1 (oS own)])
  | 2 => if L then (cA own dns 2 Z, [rq 2 Z]) else (cA own dns 2 F, [rq 2 F])
  | 3 => if L then (cA own dns 2 Z, []) else (cA own dns 2 F, [])
  | 4 => if L then (cA own dns 3 F, [rq 3 F]) else (cO own dns 2 F, [])
  | 5 => if L then (cA own dns 3 F, []) else (cO own dns 2 F, [])
  | _ => if L then (cO own dns 3 F, []) else (cO own dns 2 F, [])
def agS (L : Bool) : Nat → Ng × List Pk0
  | 0 => (sA own peer d e 0, [rq 1 (oS own)])
  | 1 => if L then (sA own peer d e 0, [rj 1 R]) else (sA own peer d e 1, [nk 1 F])
  | 2 => if L then (sB own peer d e 0, []) else (sB own peer d e 1, [])
  | 3 => if L then (sB own peer d e 1, [nk 2 F]) else (sO own peer d e F, [ak 2 F])
  | 4 => if L then (sB own peer d e 1, []) else (sO own peer d e F, [])
  | 5 => if L then (sO own peer d e F, [ak 3 F]) else (sO own peer d e F, [])
  | _ => (sO own peer d e F, [])
end

section
variable {own peer d e : Ad} {dns : Bool} {F Z R : List Tg}
theorem takeM_rq (ms : List Int) (n : Ng) (i : Int) (l : List Tg) : takeM ms n (rq i l) = reqN n n.peer (rq i l) := by kernel_rfl
theorem takeM_ak (ms : List Int) (n : Ng) (i : Int) (l : List Tg) : takeM ms n (ak i l) = ackM n (ak i l) := by kernel_rfl
theorem takeM_nk (ms : List Int) (n : Ng) (i : Int) (l : List Tg) : takeM ms n (nk i l) = nakM ms n (nk i l) := by kernel_rfl
theorem takeM_rj (ms : List Int) (n : Ng) (i : Int) (l : List Tg) : takeM ms n (rj i l) = rejM ms n (rj i l) := by kernel_rfl
theorem req_yes {n : Ng} {rs : List Rl} {i : Int} {l : List Tg} (h : judgeF rs l = (2, l)) : reqN n rs (rq i l) = happenF ⟨rq i l, ak i l, rs⟩ { n with naks := 0 } 6 := by
  unfold reqN
  rw [show (rq i l).opts = l from rfl, h]
  rfl
theorem req_nak {n : Ng} {rs : List Rl} {i : Int} {l m : List Tg} (h : judgeF rs l = (3, m)) : reqN n rs (rq i l) = happenF ⟨rq i l, nk i m, rs⟩ n 7 := by
  unfold reqN
  rw [show (rq i l).opts = l from rfl, h]
  rfl
theorem req_rej {n : Ng} {rs : List Rl} {i : Int} {l m : List Tg} (h : judgeF rs l = (4, m)) : reqN n rs (rq i l) = happenF ⟨rq i l, rj i m, rs⟩ n 7 := by
  unfold reqN
  rw [show (rq i l).opts = l from rfl, h]
  rfl
theorem ack_yes {n : Ng} {i : Int} {l : List Tg} (hb : n.begun = true) (hi : i = n.last) (hl : n.req = l) : ackM n (ak i l) = happenF ⟨ak i l, pk00, []⟩ { n with mine := l } 8 := by
  unfold ackM heardB
  rw [show (ak i l).opts = l from rfl, show (ak i l).id = i from rfl, hl, sameF_self, hb, hi]
  simp
theorem nak_yes {n m : Ng} {i : Int} {l : List Tg} (hb : n.begun = true) (hi : i = n.last) (hm : (nakL [3] n l).1 = m) : nakM [3] n (nk i l) = happenF ⟨nk i l, pk00, []⟩ m 9 := by
  unfold nakM
  rw [show (nk i l).opts = l from rfl, show (nk i l).id = i from rfl, hm, hb, hi]
  simp
theorem rej_yes {n : Ng} {i : Int} {l m : List Tg} (hb : n.begun = true) (hi : i = n.last) (hw : woF n.req l = (m, [])) (hm : mustB [3] l = false) : rejM [3] n (rj i l) = happenF ⟨rj i l, pk00, []⟩ { n with req := m } 9 := by
  unfold rejM heardB
  rw [show (rj i l).opts = l from rfl, show (rj i l).id = i from rfl, hw, hm, hb, hi]
  simp

set_option maxHeartbeats 4000000 in
theorem agC_step (K : Kase own peer d e dns F Z R) (L : Bool) (hL : L = decide (R ≠ [])) (i : Nat) : runN [3] (agC own dns F Z L i).1 (agS own peer d e F R L i).2 = agC own dns F Z L (i + 1) := by
  match i with
  | 0 =>
    show runN _ _ [rq 1 (oS own)] = _
    rw [run_one, takeM_rq]
    refine (req_yes (n := (agC own dns F Z L 0).1) (rs := [ruleA 3 ad0 adT]) (i := 1) (l := oS own) K.c0).trans ?_
    kernel_rfl
  | 1 =>
    cases L with
    | true =>
      show runN _ _ [rj 1 R] = _
      rw [run_one, takeM_rj]
      refine (rej_yes (n := (agC own dns F Z true 1).1) (i := 1) (l := R) (m := Z) rfl rfl K.wo K.mu).trans ?_
      kernel_rfl
    | false =>
      have hR : R = [] := by simpa using hL.symm
      show runN _ _ [nk 1 F] = _
      rw [run_one, takeM_nk]
      refine (nak_yes (n := (agC own dns F Z false 1).1) (m := { (agC own dns F Z false 1).1 with req := F }) (i := 1) (l := F) rfl rfl (K.nk _ rfl (K.za hR).symm)).trans ?_
      kernel_rfl
  | 2 => cases L <;> rfl
  | 3 =>
    cases L with
    | true =>
      show runN _ _ [nk 2 F] = _
      rw [run_one, takeM_nk]
      refine (nak_yes (n := (agC own dns F Z true 3).1) (m := { (agC own dns F Z true 3).1 with req := F }) (i := 2) (l := F) rfl rfl (K.nk _ rfl rfl)).trans ?_
      kernel_rfl
    | false =>
      show runN _ _ [ak 2 F] = _
      rw [run_one, takeM_ak]
      refine (ack_yes (n := (agC own dns F Z false 3).1) (i := 2) (l := F) rfl rfl rfl).trans ?_
      kernel_rfl
  | 4 => cases L <;> rfl
  | 5 =>
    cases L with
    | true =>
      show runN _ _ [ak 3 F] = _
      rw [run_one, takeM_ak]
      refine (ack_yes (n := (agC own dns F Z true 5).1) (i := 3) (l := F) rfl rfl rfl).trans ?_
      kernel_rfl
    | false => rfl
  | i + 6 => cases L <;> rfl

set_option maxHeartbeats 4000000 in
theorem agS_step (K : Kase own peer d e dns F Z R) (L : Bool) (hL : L = decide (R ≠ [])) (i : Nat) : runN [] (agS own peer d e F R L i).1 (agC own dns F Z L i).2 = agS own peer d e F R L (i + 1) := by
  match i with
  | 0 =>
    show runN _ _ [rq 1 (askC dns)] = _
    have h := K.j0
    rw [run_one, takeM_rq]
    cases L with
    | true =>
      have hR : R ≠ [] := by simpa using hL.symm
      rw [if_neg hR] at h
      refine (req_rej (n := (agS own peer d e F R true 0).1) (rs := givesF peer d e) (i := 1) (l := askC dns) h).trans ?_
      kernel_rfl
    | false =>
      have hR : R = [] := by simpa using hL.symm
      rw [if_pos hR] at h
      refine (req_nak (n := (agS own peer d e F R false 0).1) (rs := givesF peer d e) (i := 1) (l := askC dns) h).trans ?_
      kernel_rfl
  | 1 =>
    show runN _ _ [ak 1 (oS own)] = _
    rw [run_one, takeM_ak]
    cases L with
    | true => exact (ack_yes (n := (agS own peer d e F R true 1).1) (i := 1) (l := oS own) rfl rfl rfl).trans (by kernel_rfl)
    | false => exact (ack_yes (n := (agS own peer d e F R false 1).1) (i := 1) (l := oS own) rfl rfl rfl).trans (by kernel_rfl)
  | 2 =>
    cases L with
    | true =>
      show runN _ _ [rq 2 Z] = _
      rw [run_one, takeM_rq]
      refine (req_nak (n := (agS own peer d e F R true 2).1) (rs := givesF peer d e) (i := 2) (l := Z) K.j1).trans ?_
      kernel_rfl
    | false =>
      show runN _ _ [rq 2 F] = _
      rw [run_one, takeM_rq]
      refine (req_yes (n := (agS own peer d e F R false 2).1) (rs := givesF peer d e) (i := 2) (l := F) K.j2).trans ?_
      kernel_rfl
  | 3 => cases L <;> rfl
  | 4 =>
    cases L with
    | true =>
      show runN _ _ [rq 3 F] = _
      rw [run_one, takeM_rq]
      refine (req_yes (n := (agS own peer d e F R true 4).1) (rs := givesF peer d e) (i := 3) (l := F) K.j2).trans ?_
      kernel_rfl
    | false => rfl
  | 5 => cases L <;> rfl
  | i + 6 => cases L <;> rfl
end
end Go.Proofs.Ytcmdfcdmfdheeaa

namespace Go.Proofs.Ytcmdfcdmfdheeaa
open Go.RowKit

theorem lets_of {rs : List Rl} {r : Rl} {x : Tg} (h : ruleF rs x.type = some r) : letsB rs x = fitsF r x.value := by
  unfold letsB
  rw [h]
  rfl
theorem num_pos {x : Ad} (h : noB x = false) : 1 ≤ numAd x := by
  have h1 := (numAd_range x).1
  have h2 : ¬ numAd x = numAd ad0 := by unfold noB at h; simpa using h
  have h3 : numAd ad0 = 0 := by decide
  omega
theorem fit_no {k : Int} {x : Ad} (h : noB x = false) : fitsF (ruleA k x x) (adB ad0) = false := by
  rw [ruleA_fits]
  have := num_pos h
  have h3 : numAd ad0 = 0 := by decide
  simp only [Bool.and_eq_false_iff, decide_eq_false_iff_not]
  omega
theorem fit_self (k : Int) (x : Ad) : fitsF (ruleA k x x) (adB x) = true := by
  rw [ruleA_fits]
  simp
theorem fit_any (x : Ad) : fitsF (ruleA 3 ad0 adT) (adB x) = true := by
  rw [ruleA_fits]
  have := numAd_range x
  have h3 : numAd ad0 = 0 := by decide
  have h4 : numAd adT = 4294967295 := by decide
  simp only [Bool.and_eq_true, decide_eq_true_eq]
  omega
theorem fit_c {k : Int} {x : Ad} (h : noB x = false) : fitsF (ruleA k ad1 adT) (adB x) = true := by
  rw [ruleA_fits]
  have := numAd_range x
  have := num_pos h
  have h3 : numAd ad1 = 1 := by decide
  have h4 : numAd adT = 4294967295 := by decide
  simp only [Bool.and_eq_true, decide_eq_true_eq]
  omega

def bO : List Rl := [ruleA 3 ad1 adT, ruleA 129 ad1 adT, ruleA 131 ad1 adT]
theorem own3 {x : Ad} (h : noB x = false) : letsB bO ⟨3, adB x⟩ = true := (lets_of (r := ruleA 3 ad1 adT) rfl).trans (fit_c h)
theorem own129 {x : Ad} (h : noB x = false) : letsB bO ⟨129, adB x⟩ = true := (lets_of (r := ruleA 129 ad1 adT) rfl).trans (fit_c h)
theorem own131 {x : Ad} (h : noB x = false) : letsB bO ⟨131, adB x⟩ = true := (lets_of (r := ruleA 131 ad1 adT) rfl).trans (fit_c h)

section
variable {own peer d e : Ad}
theorem r3 : ruleF (givesF peer d e) 3 = some (ruleA 3 peer peer) := rfl
theorem r129 (h : noB d = false) : ruleF (givesF peer d e) 129 = some (ruleA 129 d d) := by unfold givesF; rw [h]; rfl
theorem r129n (h : noB d = true) : ruleF (givesF peer d e) 129 = none := by
  unfold givesF
  rw [h]
  cases noB e <;> rfl
theorem r131 (h : noB e = false) : ruleF (givesF peer d e) 131 = some (ruleA 131 e e) := by
  unfold givesF
  rw [h]
  cases noB d <;> rfl
theorem r131n (h : noB e = true) : ruleF (givesF peer d e) 131 = none := by
  unfold givesF
  rw [h]
  cases noB d <;> rfl
theorem c0_any : judgeF [ruleA 3 ad0 adT] [⟨3, adB own⟩] = (2, [⟨3, adB own⟩]) := by
  have hl : letsB [ruleA 3 ad0 adT] ⟨3, adB own⟩ = true := (lets_of (r := ruleA 3 ad0 adT) rfl).trans (fit_any own)
  have hr : ruleF [ruleA 3 ad0 adT] 3 = some (ruleA 3 ad0 adT) := rfl
  rw [judge_by (R := []) (M := []) (aloneO _) (by simp [hr]) (by simp [misF, hl])]
  simp
theorem alone_of {l : List Tg} (h : (l.map (·.type)).Nodup) : Alone l := by
  intro j x hj
  have hlt := (List.getElem?_eq_some_iff.1 hj).1
  cases hq : findO (l.take j) x.type with
  | none => rfl
  | some v =>
    exfalso
    unfold findO at hq
    obtain ⟨t, ht, _⟩ := Option.map_eq_some_iff.1 hq
    have hm := List.mem_of_find?_eq_some ht
    have hp : t.type = x.type := by simpa using List.find?_some ht
    obtain ⟨k, hk⟩ := List.mem_iff_getElem?.1 hm
    have hkj : k < j := by
      have := (List.getElem?_eq_some_iff.1 hk).1
      rw [List.length_take] at this
      omega
    rw [List.getElem?_take_of_lt hkj] at hk
    have h1 : (l.map (·.type))[k]? = some x.type := by rw [List.getElem?_map, hk]; exact congrArg some hp
    have h2 : (l.map (·.type))[j]? = some x.type := by rw [List.getElem?_map, hj]; rfl
    have := (List.getElem?_inj (by rw [List.length_map]; omega) h).1 (h1.trans h2.symm)
    omega
/-- A list that is nakked whole, one that is acked whole. -/
theorem nak_whole {rs : List Rl} {l m : List Tg} (ha : Alone l) (hne : l ≠ []) (h : ∀ t ∈ l, ∃ r, ruleF rs t.type = some r ∧ fitsF r t.value = false) (hm : l.map (sugF rs) = m) : judgeF rs l = (3, m) := by
  rw [judge_by (R := []) (M := l) ha ?_ ?_]
  · rw [if_neg (by simp), if_pos hne, hm]
  · rw [List.filter_eq_nil_iff]
    intro t ht
    obtain ⟨r, hr, _⟩ := h t ht
    simp [hr]
  · unfold misF
    rw [List.filter_eq_self]
    intro t ht
    obtain ⟨r, hr, hf⟩ := h t ht
    rw [lets_of hr, hf]
    rfl
theorem ack_whole {rs : List Rl} {l : List Tg} (ha : Alone l) (h : ∀ t ∈ l, ∃ r, ruleF rs t.type = some r ∧ fitsF r t.value = true) : judgeF rs l = (2, l) := by
  rw [judge_by (R := []) (M := []) ha ?_ ?_]
  · simp
  · rw [List.filter_eq_nil_iff]
    intro t ht
    obtain ⟨r, hr, _⟩ := h t ht
    simp [hr]
  · unfold misF
    rw [List.filter_eq_nil_iff]
    intro t ht
    obtain ⟨r, hr, hf⟩ := h t ht
    rw [lets_of hr, hf]
    simp
theorem sug_of {rs : List Rl} {k : Int} {x : Ad} {v : ByteArray} (h : ruleF rs k = some (ruleA k x x)) : sugF rs ⟨k, v⟩ = ⟨k, adB x⟩ := by
  unfold sugF
  rw [show (⟨k, v⟩ : Tg).type = k from rfl, h]
  rfl
theorem fine_ads {l : List Tg} (h : ∀ t ∈ l, In64 t.type ∧ ∃ x, t.value = adB x) (hn : l.length ≤ 100) : FineO l :=
  ⟨by omega, fun t ht => (h t ht).1, fun t ht => by obtain ⟨x, hx⟩ := (h t ht).2; rw [hx, adB_size]; omega⟩

/-- What holds of the end. -/
structure Ends (peer d e : Ad) (dns : Bool) (F : List Tg) : Prop where
  a3 : adrF F 3 = (peer, true)
  a1 : adrF F 129 = if (dns && !noB d) = true then (d, true) else (ad0, false)
  a2 : adrF F 131 = if (dns && !noB e) = true then (e, true) else (ad0, false)

theorem kase_f (hp : noB peer = false) : Kase own peer d e false [⟨3, adB peer⟩] [⟨3, adB ad0⟩] [] := by
  have j : judgeF (givesF peer d e) [⟨3, adB ad0⟩] = (3, [⟨3, adB peer⟩]) := nak_whole (aloneO _) (by simp) (fun t ht => by rw [List.mem_singleton.1 ht]; exact ⟨_, r3, fit_no hp⟩) (by rw [List.map_singleton, sug_of r3])
  refine ⟨j, j, ack_whole (aloneO _) (fun t ht => by rw [List.mem_singleton.1 ht]; exact ⟨_, r3, fit_self _ _⟩), c0_any, fun n ho hr => ?_, rfl, rfl, fun _ => rfl, fineAd 3 ⟨by decide, by decide⟩ _, fineAd 3 ⟨by decide, by decide⟩ _, fineNil⟩
  have ho : n.own = bO := ho
  simp [nakL, nakS, chM, ho, hr, own3 hp]

theorem kase_t (hp : noB peer = false) (hd : noB d = false) (he : noB e = false) : Kase own peer d e true [⟨3, adB peer⟩, ⟨129, adB d⟩, ⟨131, adB e⟩] [⟨3, adB ad0⟩, ⟨129, adB ad0⟩, ⟨131, adB ad0⟩] [] := by
  have j : judgeF (givesF peer d e) [⟨3, adB ad0⟩, ⟨129, adB ad0⟩, ⟨131, adB ad0⟩] = (3, [⟨3, adB peer⟩, ⟨129, adB d⟩, ⟨131, adB e⟩]) := nak_whole (alone_of (by decide)) (by simp) (fun t ht => by
    simp at ht
    rcases ht with rfl | rfl | rfl
    · exact ⟨_, r3, fit_no hp⟩
    · exact ⟨_, r129 hd, fit_no hd⟩
    · exact ⟨_, r131 he, fit_no he⟩) (by simp [sug_of r3, sug_of (r129 hd), sug_of (r131 he)])
  refine ⟨j, j, ack_whole (alone_of (by simp)) (fun t ht => ?_), c0_any, fun n ho hr => ?_, rfl, rfl, fun _ => rfl, fine_ads (fun t ht => ?_) (by simp), fine_ads (fun t ht => ?_) (by simp), fineNil⟩
  · simp at ht
    rcases ht with rfl | rfl | rfl
    · exact ⟨_, r3, fit_self _ _⟩
    · exact ⟨_, r129 hd, fit_self _ _⟩
    · exact ⟨_, r131 he, fit_self _ _⟩
  · have ho : n.own = bO := ho
    simp [nakL, nakS, chM, ho, hr, own3 hp, own129 hd, own131 he]
  · simp at ht
    rcases ht with rfl | rfl | rfl <;> exact ⟨⟨by simp, by simp⟩, _, rfl⟩
  · simp at ht
    rcases ht with rfl | rfl | rfl <;> exact ⟨⟨by simp, by simp⟩, _, rfl⟩
theorem kase_1 (hp : noB peer = false) (hd : noB d = true) (he : noB e = false) : Kase own peer d e true [⟨3, adB peer⟩, ⟨131, adB e⟩] [⟨3, adB ad0⟩, ⟨131, adB ad0⟩] [⟨129, adB ad0⟩] := by
  have j0 : judgeF (givesF peer d e) (askC true) = (4, [⟨129, adB ad0⟩]) := by
    rw [judge_by (R := [⟨129, adB ad0⟩]) (askC_alone true) (by simp [askC, r3, r129n hd, r131 he]) rfl]
    simp
  have j : judgeF (givesF peer d e) [⟨3, adB ad0⟩, ⟨131, adB ad0⟩] = (3, [⟨3, adB peer⟩, ⟨131, adB e⟩]) := nak_whole (alone_of (by decide)) (by simp) (fun t ht => by
    simp at ht
    rcases ht with rfl | rfl
    · exact ⟨_, r3, fit_no hp⟩
    · exact ⟨_, r131 he, fit_no he⟩) (by simp [sug_of r3, sug_of (r131 he)])
  refine ⟨by rw [if_neg (by simp)]; exact j0, j, ack_whole (alone_of (by simp)) (fun t ht => ?_), c0_any, fun n ho hr => ?_, by kernel_rfl, rfl, fun h => by simp at h, fine_ads (fun t ht => ?_) (by simp), fine_ads (fun t ht => ?_) (by simp), fineAd 129 ⟨by decide, by decide⟩ _⟩
  · simp at ht
    rcases ht with rfl | rfl
    · exact ⟨_, r3, fit_self _ _⟩
    · exact ⟨_, r131 he, fit_self _ _⟩
  · have ho : n.own = bO := ho
    simp [nakL, nakS, chM, ho, hr, own3 hp, own131 he]
  · simp at ht
    rcases ht with rfl | rfl <;> exact ⟨⟨by simp, by simp⟩, _, rfl⟩
  · simp at ht
    rcases ht with rfl | rfl <;> exact ⟨⟨by simp, by simp⟩, _, rfl⟩
theorem kase_2 (hp : noB peer = false) (hd : noB d = false) (he : noB e = true) : Kase own peer d e true [⟨3, adB peer⟩, ⟨129, adB d⟩] [⟨3, adB ad0⟩, ⟨129, adB ad0⟩] [⟨131, adB ad0⟩] := by
  have j0 : judgeF (givesF peer d e) (askC true) = (4, [⟨131, adB ad0⟩]) := by
    rw [judge_by (R := [⟨131, adB ad0⟩]) (askC_alone true) (by simp [askC, r3, r129 hd, r131n he]) rfl]
    simp
  have j : judgeF (givesF peer d e) [⟨3, adB ad0⟩, ⟨129, adB ad0⟩] = (3, [⟨3, adB peer⟩, ⟨129, adB d⟩]) := nak_whole (alone_of (by decide)) (by simp) (fun t ht => by
    simp at ht
    rcases ht with rfl | rfl
    · exact ⟨_, r3, fit_no hp⟩
    · exact ⟨_, r129 hd, fit_no hd⟩) (by simp [sug_of r3, sug_of (r129 hd)])
  refine ⟨by rw [if_neg (by simp)]; exact j0, j, ack_whole (alone_of (by simp)) (fun t ht => ?_), c0_any, fun n ho hr => ?_, by kernel_rfl, rfl, fun h => by simp at h, fine_ads (fun t ht => ?_) (by simp), fine_ads (fun t ht => ?_) (by simp), fineAd 131 ⟨by decide, by decide⟩ _⟩
  · simp at ht
    rcases ht with rfl | rfl
    · exact ⟨_, r3, fit_self _ _⟩
    · exact ⟨_, r129 hd, fit_self _ _⟩
  · have ho : n.own = bO := ho
    simp [nakL, nakS, chM, ho, hr, own3 hp, own129 hd]
  · simp at ht
    rcases ht with rfl | rfl <;> exact ⟨⟨by simp, by simp⟩, _, rfl⟩
  · simp at ht
    rcases ht with rfl | rfl <;> exact ⟨⟨by simp, by simp⟩, _, rfl⟩
theorem kase_3 (hp : noB peer = false) (hd : noB d = true) (he : noB e = true) : Kase own peer d e true [⟨3, adB peer⟩] [⟨3, adB ad0⟩] [⟨129, adB ad0⟩, ⟨131, adB ad0⟩] := by
  have j0 : judgeF (givesF peer d e) (askC true) = (4, [⟨129, adB ad0⟩, ⟨131, adB ad0⟩]) := by
    rw [judge_by (R := [⟨129, adB ad0⟩, ⟨131, adB ad0⟩]) (askC_alone true) (by simp [askC, r3, r129n hd, r131n he]) rfl]
    simp
  have k := kase_f (own := own) (d := d) (e := e) hp
  refine ⟨by rw [if_neg (by simp)]; exact j0, k.j1, k.j2, c0_any, k.nk, by kernel_rfl, rfl, fun h => by simp at h, k.fF, k.fZ, fine_ads (fun t ht => ?_) (by simp)⟩
  simp at ht
  rcases ht with rfl | rfl <;> exact ⟨⟨by simp, by simp⟩, _, rfl⟩

/-- Every exchange is one of these. -/
theorem kase_any (own peer d e : Ad) (dns : Bool) (hp : noB peer = false) : ∃ F Z R, Kase own peer d e dns F Z R ∧ Ends peer d e dns F := by
  have f3 : ∀ l, adrF (⟨3, adB peer⟩ :: l) 3 = (peer, true) := fun l => by
    unfold adrF findOB findO
    rw [List.find?_cons_of_pos (by simp)]
    simp [adB_size, adOf_adB]
  cases dns with
  | false => exact ⟨_, _, _, kase_f hp, f3 _, rfl, rfl⟩
  | true =>
    cases hd : noB d with
    | true =>
      cases he : noB e with
      | true => exact ⟨_, _, _, kase_3 hp hd he, f3 _, by rw [hd]; rfl, by rw [he]; rfl⟩
      | false => exact ⟨_, _, _, kase_1 hp hd he, f3 _, by rw [hd]; rfl, by rw [he]; rfl⟩
    | false =>
      cases he : noB e with
      | true => exact ⟨_, _, _, kase_2 hp hd he, f3 _, by rw [hd]; rfl, by rw [he]; rfl⟩
      | false => exact ⟨_, _, _, kase_t hp hd he, f3 _, by rw [hd]; rfl, by rw [he]; rfl⟩

variable {dns : Bool} {F Z R : List Tg}
theorem agC_few (L : Bool) (i : Nat) : (agC own dns F Z L i).2.length ≤ 1 := by
  match i with
  | 0 => exact Nat.le_refl _
  | 1 => exact Nat.le_refl _
  | 2 => cases L <;> exact Nat.le_refl _
  | 3 => cases L <;> exact Nat.zero_le _
  | 4 => cases L <;> first | exact Nat.zero_le 1 | exact Nat.le_refl 1
  | 5 => cases L <;> exact Nat.zero_le _
  | i + 6 => cases L <;> exact Nat.zero_le _
theorem agS_few (L : Bool) (i : Nat) : (agS own peer d e F R L i).2.length ≤ 1 := by
  match i with
  | 0 => exact Nat.le_refl _
  | 1 => cases L <;> exact Nat.le_refl _
  | 2 => cases L <;> exact Nat.zero_le _
  | 3 => cases L <;> exact Nat.le_refl _
  | 4 => cases L <;> exact Nat.zero_le _
  | 5 => cases L <;> first | exact Nat.zero_le 1 | exact Nat.le_refl 1
  | i + 6 => exact Nat.zero_le _
theorem agC_peer (L : Bool) (i : Nat) : (agC own dns F Z L i).1.peer = [ruleA 3 ad0 adT] := by
  match i with
  | 0 => rfl
  | 1 => rfl
  | 2 => cases L <;> rfl
  | 3 => cases L <;> rfl
  | 4 => cases L <;> rfl
  | 5 => cases L <;> rfl
  | i + 6 => cases L <;> rfl
theorem agS_peer (L : Bool) (i : Nat) : (agS own peer d e F R L i).1.peer = givesF peer d e := by
  match i with
  | 0 => rfl
  | 1 => cases L <;> rfl
  | 2 => cases L <;> rfl
  | 3 => cases L <;> rfl
  | 4 => cases L <;> rfl
  | 5 => cases L <;> rfl
  | i + 6 => rfl
theorem agC_fine (K : Kase own peer d e dns F Z R) (L : Bool) (i : Nat) : ∀ p ∈ (agC own dns F Z L i).2, FineO p.opts ∧ p.data = ⟨#[]⟩ := by
  have hO : FineO (oS own) := fineAd 3 ⟨by decide, by decide⟩ own
  match i with
  | 0 => exact fun p hp => by rw [List.mem_singleton.1 hp]; exact ⟨askC_fine dns, rfl⟩
  | 1 => exact fun p hp => by rw [List.mem_singleton.1 hp]; exact ⟨hO, rfl⟩
  | 2 => cases L <;> exact fun p hp => by rw [List.mem_singleton.1 hp]; first | exact ⟨K.fF, rfl⟩ | exact ⟨K.fZ, rfl⟩
  | 3 => cases L <;> exact fun p hp => by cases hp
  | 4 =>
    cases L with
    | true => exact fun p hp => by rw [List.mem_singleton.1 hp]; exact ⟨K.fF, rfl⟩
    | false => exact fun p hp => by cases hp
  | 5 => cases L <;> exact fun p hp => by cases hp
  | i + 6 => cases L <;> exact fun p hp => by cases hp
theorem agS_fine (K : Kase own peer d e dns F Z R) (L : Bool) (i : Nat) : ∀ p ∈ (agS own peer d e F R L i).2, FineO p.opts ∧ p.data = ⟨#[]⟩ := by
  have hO : FineO (oS own) := fineAd 3 ⟨by decide, by decide⟩ own
  match i with
  | 0 => exact fun p hp => by rw [List.mem_singleton.1 hp]; exact ⟨hO, rfl⟩
  | 1 =>
    cases L with
    | true => exact fun p hp => by rw [List.mem_singleton.1 hp]; exact ⟨K.fR, rfl⟩
    | false => exact fun p hp => by rw [List.mem_singleton.1 hp]; exact ⟨K.fF, rfl⟩
  | 2 => cases L <;> exact fun p hp => by cases hp
  | 3 => cases L <;> exact fun p hp => by rw [List.mem_singleton.1 hp]; exact ⟨K.fF, rfl⟩
  | 4 => cases L <;> exact fun p hp => by cases hp
  | 5 =>
    cases L with
    | true => exact fun p hp => by rw [List.mem_singleton.1 hp]; exact ⟨K.fF, rfl⟩
    | false => exact fun p hp => by cases hp
  | i + 6 => exact fun p hp => by cases hp
theorem agC_end (L : Bool) : (agC own dns F Z L 12).1.au.st = 9 ∧ mineF (agC own dns F Z L 12).1 = F ∧ theirsF (agC own dns F Z L 12).1 = [⟨3, adB own⟩] := by cases L <;> exact ⟨rfl, rfl, rfl⟩
theorem agS_end (L : Bool) : (agS own peer d e F R L 12).1.au.st = 9 := rfl
end
end Go.Proofs.Ytcmdfcdmfdheeaa

namespace Go.Proofs.Ytcmdfcdmfdheeaa
open Go.RowKit

/-- All blocks of a negotiation that bear its cells and lists. -/
def An (b : Nat) (a : Nm) (i : Nat) : Prop := Sn b a i ∨ a.vm.ownBlock = some i ∨ a.vt.ownBlock = some i

section
variable {W W' w : World} {base b bx bz : Nat} {a a' ax ax' az az' : Nm} {n n' x x' z z' : Ng}
theorem NegIn.an_lt (h : NegIn W base b a n) : ∀ i, An b a i → i < W.heap.size := by
  rintro i (hi | hi | hi)
  · exact h.sn_lt i hi
  · obtain ⟨cur, hc⟩ := h.mine.cellsB hi
    exact (Array.getElem?_eq_some_iff.1 hc).1
  · obtain ⟨cur, hc⟩ := h.theirs.cellsB hi
    exact (Array.getElem?_eq_some_iff.1 hc).1
theorem NNext.an (h : NNext W W' base b a a' n') : ∀ i, An b a' i → An b a i ∨ W.heap.size ≤ i := by
  rintro i (hi | hi | hi)
  · exact (h.sn i hi).imp Or.inl id
  · exact (h.fm i hi).imp (fun e => Or.inr (Or.inl e)) id
  · exact (h.ft i hi).imp (fun e => Or.inr (Or.inr e)) id
theorem NegIn.keptA {S : Nat → Prop} (h : NegIn W base b a n) (hk : Kept S W W') (hc : ∀ i, S i → i < W.heap.size → ∃ cur e fz, W.heap[i]? = some (.cells cur e fz)) (hS : ∀ i, S i → ¬ An b a i) : NegIn W' base b a n :=
  h.keptS hk hc (fun s => hS _ s (Or.inl (Or.inl rfl))) (fun s => hS _ s (Or.inl (Or.inr (Or.inl rfl)))) (fun i hi s => hS i s (Or.inl (Or.inr (Or.inr hi)))) (fun i hi s => hS i s (Or.inr (Or.inl hi))) (fun i hi s => hS i s (Or.inr (Or.inr hi)))
/-- A block of packets is none of a negotiation's. -/
theorem NegIn.an_pk (h : NegIn W base b a n) {i : Nat} (hp : PkBlk W i) : ¬ An b a i := by
  obtain ⟨_, _, h3⟩ := h.not_pk hp
  rintro (hi | hi | hi)
  · exact pk_far h hp hi
  · exact h3 _ _ h.mine hi
  · exact h3 _ _ h.theirs hi

/-- Two negotiations side by side, a law's own. -/
structure Pair (w W : World) (bx : Nat) (ax : Nm) (x : Ng) (bz : Nat) (az : Nm) (z : Ng) : Prop where
  nx : NegIn W w.heap.size bx ax x
  nz : NegIn W w.heap.size bz az z
  fx : ∀ i, Sn bx ax i → ¬ An bz az i
  fz : ∀ i, Sn bz az i → ¬ An bx ax i
  kept : Kept (fun _ => False) w W

theorem Pair.swap (h : Pair w W bx ax x bz az z) : Pair w W bz az z bx ax x := ⟨h.nz, h.nx, h.fz, h.fx, h.kept⟩
theorem Pair.left (h : Pair w W bx ax x bz az z) (k : NNext W W' w.heap.size bx ax ax' x') : Pair w W' bx ax' x' bz az z := by
  refine ⟨k.neg, h.nz.keptA k.kept h.nx.sn_cells h.fx, fun i s t => ?_, fun i s t => ?_, h.kept.andThen k.kept (fun i hi s => by have := h.nx.sn_lo i s; omega)⟩
  · rcases k.sn i s with h1 | h1
    · exact h.fx i h1 t
    · have := h.nz.an_lt i t
      omega
  · rcases k.an i t with h1 | h1
    · exact h.fz i s h1
    · have := h.nz.sn_lt i s
      omega
theorem Pair.right (h : Pair w W bx ax x bz az z) (k : NNext W W' w.heap.size bz az az' z') : Pair w W' bx ax x bz az' z' := (h.swap.left k).swap
theorem Pair.still (h : Pair w W bx ax x bz az z) (hk : Kept (fun _ => False) W W') : Pair w W' bx ax x bz az z := ⟨h.nx.kept0 hk, h.nz.kept0 hk, h.fx, h.fz, h.kept.trans hk⟩
/-- Where blocks of packets turn. -/
theorem Pair.keptR {S : Nat → Prop} (h : Pair w W bx ax x bz az z) (hk : Kept S W W') (hS : ∀ i, S i → PkBlk W i ∧ w.heap.size ≤ i) : Pair w W' bx ax x bz az z := by
  have hc : ∀ i, S i → i < W.heap.size → ∃ cur e fz, W.heap[i]? = some (.cells cur e fz) := fun i s _ => by
    obtain ⟨cur, hc⟩ := (hS i s).1
    exact ⟨_, _, _, hc⟩
  exact ⟨h.nx.keptA hk hc (fun i s => h.nx.an_pk (hS i s).1), h.nz.keptA hk hc (fun i s => h.nz.an_pk (hS i s).1), h.fx, h.fz, h.kept.andThen hk (fun i hi s => by have := (hS i s).2; omega)⟩
/-- A second one, made behind the first. -/
theorem Pair.made {B : Nat} (h : NMine w W bx ax x) (hz : NegIn W' B bz az z) (hB : W.heap.size ≤ B) (hza : ∀ i, An bz az i → B ≤ i) (hk : Kept (fun _ => False) W W') : Pair w W' bx ax x bz az z := by
  have hx := h.neg.kept0 hk
  have hs := h.kept.size
  refine ⟨hx, hz.lower (by omega), fun i s t => ?_, fun i s t => ?_, h.kept.trans hk⟩
  · have h1 := h.neg.sn_lt i s
    have h2 := hza i t
    omega
  · have h1 := h.neg.an_lt i t
    have h2 := hza i (Or.inl s)
    omega
theorem NegIn.an_lo (h : NegIn W base b a n) : ∀ i, An b a i → base ≤ i := by
  rintro i (hi | hi | hi)
  · exact h.sn_lo i hi
  · exact h.mine.baseB hi
  · exact h.theirs.baseB hi

/-- A list of packets of a law's own, apart from what T says. -/
structure Pks (W : World) (base : Nat) (T : Nat → Prop) (v : Value) (l : List (Pk0 × Value)) : Prop where
  row : W.ownsRow base 40 4 v l.length (rowP l)
  opts : ∀ q ∈ l, OwnO W base q.2 q.1.opts
  far : ∀ q ∈ l, ∀ i, q.2.ownBlock = some i → ¬ T i
def Tp (bx : Nat) (ax : Nm) (bz : Nat) (az : Nm) (i : Nat) : Prop := Sn bx ax i ∨ Sn bz az i

variable {T T' : Nat → Prop} {v : Value} {l : List (Pk0 × Value)}
theorem Pks.blk (h : Pks W base T v l) {i : Nat} (hi : v.ownBlock = some i) : PkBlk W i ∧ base ≤ i := row_blk h.row hi
theorem Pks.nil (W : World) (base : Nat) (T : Nat → Prop) : Pks W base T (.slice none 0 0) [] := ⟨World.ownsRow_nil _ _ _ _, fun _ hq => absurd hq List.not_mem_nil, fun _ hq => absurd hq List.not_mem_nil⟩
theorem Pks.lower {B : Nat} (h : Pks W base T v l) (hB : B ≤ base) : Pks W B T v l := ⟨row_rebase h.row hB, fun q hq => (h.opts q hq).mono hB, h.far⟩
theorem Pks.still (h : Pks W base T v l) (hk : Kept (fun _ => False) W W') : Pks W' base T v l := ⟨row_kept h.row hk (fun _ _ => id), fun q hq => (h.opts q hq).kept hk, h.far⟩
theorem Pks.lt (h : Pks W base T v l) {q : Pk0 × Value} (hq : q ∈ l) {i : Nat} (hi : q.2.ownBlock = some i) : i < W.heap.size := by
  obtain ⟨cur, hc⟩ := (h.opts q hq).cellsB hi
  exact (Array.getElem?_eq_some_iff.1 hc).1
/-- Where blocks of packets turn that are not its own. -/
theorem Pks.keptR {S : Nat → Prop} (h : Pks W base T v l) (hk : Kept S W W') (hS : ∀ i, S i → PkBlk W i) (hne : ∀ i, v.ownBlock = some i → ¬ S i) : Pks W' base T v l := by
  refine ⟨row_kept h.row hk hne, fun q hq => (h.opts q hq).keptS hk (fun i hi s => ?_), h.far⟩
  obtain ⟨cur, hc⟩ := (h.opts q hq).cellsB hi
  obtain ⟨cur', hc'⟩ := hS i s
  rw [hc] at hc'
  simp at hc'
/-- Where the one negotiation goes on. -/
theorem Pks.left (h : Pks W base (Tp bx ax bz az) v l) (hp : Pair w W bx ax x bz az z) (k : NNext W W' w.heap.size bx ax ax' x') : Pks W' base (Tp bx ax' bz az) v l := by
  refine ⟨row_kept h.row k.kept (fun i hi s => pk_far hp.nx (h.blk hi).1 s), fun q hq => (h.opts q hq).keptS k.kept (fun i hi s => h.far q hq i hi (Or.inl s)), fun q hq i hi t => ?_⟩
  rcases t with t | t
  · rcases k.sn i t with h1 | h1
    · exact h.far q hq i hi (Or.inl h1)
    · have := h.lt hq hi
      omega
  · exact h.far q hq i hi (Or.inr t)
theorem Pks.swap (h : Pks W base (Tp bx ax bz az) v l) : Pks W base (Tp bz az bx ax) v l := ⟨h.row, h.opts, fun q hq i hi t => h.far q hq i hi t.symm⟩
theorem Pks.right (h : Pks W base (Tp bx ax bz az) v l) (hp : Pair w W bx ax x bz az z) (k : NNext W W' w.heap.size bz az az' z') : Pks W' base (Tp bx ax bz az') v l := (h.swap.left hp.swap k).swap
/-- What the one of them has sent. -/
theorem Pair.sentL (hp : Pair w W bx ax x bz az z) {s : Ng × List Pk0} (h : Sent W W' w.heap.size bx ax s v) : ∃ ax' l, NNext W W' w.heap.size bx ax ax' s.1 ∧ Pks W' W.heap.size (Tp bx ax' bz az) v l ∧ l.map (·.1) = s.2 := by
  obtain ⟨a', l, hs, e⟩ := h
  refine ⟨a', l, hs.nx, ⟨hs.row, hs.opts, fun q hq i hi t => ?_⟩, e⟩
  rcases t with t | t
  · exact hs.far q hq i hi t
  · have h1 := hp.nz.sn_lt i t
    have h2 := (hs.opts q hq).baseB hi
    omega
theorem Pair.sentR (hp : Pair w W bx ax x bz az z) {s : Ng × List Pk0} (h : Sent W W' w.heap.size bz az s v) : ∃ az' l, NNext W W' w.heap.size bz az az' s.1 ∧ Pks W' W.heap.size (Tp bx ax bz az') v l ∧ l.map (·.1) = s.2 := by
  obtain ⟨a', l, h1, h2, h3⟩ := hp.swap.sentL h
  exact ⟨a', l, h1, h2.swap, h3⟩
/-- A packet of the list, as it is taken. -/
theorem Pks.at {p : Option Addr} {m cap j : Nat} (h : Pks W base T (.slice p m cap) l) {q : Pk0 × Value} (hj : l[j]? = some q) :
    ∃ g, p = some ⟨g, 0, none⟩ ∧ l.length ≤ cap ∧ W.cell? ⟨g, j * 4, none⟩ = some (.int .i64 q.1.code) ∧ W.cell? ⟨g, j * 4 + 1, none⟩ = some (.int .i64 q.1.id) ∧ W.cell? ⟨g, j * 4 + 2, none⟩ = some q.2 ∧ W.cell? ⟨g, j * 4 + 3, none⟩ = some (.string q.1.data) := by
  rcases h.row.2 with ⟨e, h0⟩ | ⟨g, cap', cur, e, hb, hg, h1, h2, h3, h4⟩
  · have := (List.getElem?_eq_some_iff.1 hj).1
    omega
  · simp only [Value.slice.injEq] at e
    obtain ⟨rfl, rfl, rfl⟩ := e
    have hlt := (List.getElem?_eq_some_iff.1 hj).1
    have hc : ∀ i, i < 4 → W.cell? ⟨g, j * 4 + i, none⟩ = (pkCells q)[i]? := fun i hi => by
      rw [← rowP_get hj i hi, ← h4, List.getElem?_take_of_lt (by omega)]
      simp [World.cell?, hg]
    exact ⟨g, rfl, h1, hc 0 (by omega), hc 1 (by omega), hc 2 (by omega), hc 3 (by omega)⟩
theorem Pks.slice (h : Pks W base T v l) : ∃ p cap, v = .slice p l.length cap := slice_of h.row
theorem Pks.pk (h : Pks W base T v l) {q : Pk0 × Value} (hq : q ∈ l) (hT : ∀ i, Sn b a i → T i) (hf : FineO q.1.opts) (hd : q.1.data.size ≤ 140737488351232) : PkIn W b a q.1 q.2 :=
  ⟨(h.opts q hq).at, Or.inr (fun i hi s => h.far q hq i hi (hT i s)), hf, hd⟩
theorem rowP_oneCell (h : ∀ q ∈ l, OwnO W base q.2 q.1.opts) : ∀ u ∈ rowP l, u.oneCell' = true := by
  intro u hu
  unfold rowP at hu
  obtain ⟨q, hq, hx⟩ := List.mem_flatMap.1 hu
  obtain ⟨pu, cu, e⟩ := slice_of (h q hq)
  simp only [pkCells, List.mem_cons, List.not_mem_nil, or_false] at hx
  rcases hx with rfl | rfl | rfl | rfl
  · rfl
  · rfl
  · rw [e]; rfl
  · rfl
/-- 'append' of one list onto another; what turns is the one's own row. -/
theorem Pks.app {B : Nat} {u : Value} {m : List (Pk0 × Value)} (h : Pks W base T v l) (hu : Pks W B T u m) (hB : base ≤ B) (hbs : base ≤ W.heap.size) (hn : l.length + m.length ≤ 1000) :
    ∃ v' W', AppP W v u v' W' ∧ Pks W' base T v' (l ++ m) ∧ Kept (fun i => v.ownBlock = some i) W W' := by
  obtain ⟨i0, hi0, hz0, hz1, hz2⟩ := info_parts infoPk
  obtain ⟨pu, cu, rfl⟩ := hu.slice
  by_cases hm : m = []
  · subst hm
    have hsrc : ∀ (q : Option Addr) (c : Nat), Src Try.prog i0.size 36 (.slice q 0 c) 0 [] W := fun q c => by
      cases q with
      | none => exact Src.ofNil W Try.underlying36 c
      | some a => exact Src.ofSlice W Try.underlying36 a 0 c [] (by simp) (fun j u hj => by simp at hj) (fun u hu => by simp at hu)
    refine ⟨v, W, fun ty => ?_, by rw [List.append_nil]; exact h, Kept.refl _ _⟩
    rcases h.row.2 with ⟨rfl, _⟩ | ⟨g', cap', cur, rfl, _, _, h1, _⟩
    · exact run_append_nothing W _ _ _ _ i0 Try.underlying36 hi0 none 0 0 (Nat.le_refl _) _ (hsrc _ _)
    · exact run_append_nothing W _ _ _ _ i0 Try.underlying36 hi0 _ _ _ h1 _ (hsrc _ _)
  · have hpos : 0 < m.length := List.length_pos_iff.2 hm
    rcases hu.row.2 with ⟨e, h0⟩ | ⟨g, cap', cur, e, hb, hg, h1, h2, h3, h4⟩
    · omega
    · simp only [Value.slice.injEq] at e
      obtain ⟨rfl, _, rfl⟩ := e
      have hc : ∀ (j : Nat) (x : Value), (rowP m)[j]? = some x → W.cell? ((⟨g, 0, none⟩ : Addr).add j) = some x := fun j x hj => by
        have hlt := (List.getElem?_eq_some_iff.1 hj).1
        rw [rowP_length] at hlt
        rw [add_none, Nat.zero_add, ← hj, ← h4, List.getElem?_take_of_lt hlt]
        simp [World.cell?, hg]
      obtain ⟨v', W', r1, r2, r3⟩ := owned_append (P := Try.prog) Try.underlying36 hi0 hz0 hz1 hz2 rfl (by decide) h.row hbs ⟨g, 0, none⟩ m.length cu (rowP m) hpos (rowP_length _) hc (rowP_oneCell hu.opts) (by omega) (by decide)
      have hk : Kept (fun i => v.ownBlock = some i) W W' := by
        rcases r3 with ⟨g', cap', rfl, rfl, hk⟩ | ⟨cap', rfl, hk, _⟩
        · exact hk.mono (fun i _ e => by rw [e]; rfl)
        · exact hk.mono (fun i _ e => e.elim)
      refine ⟨v', W', r1, ⟨?_, fun q hq => ?_, fun q hq => ?_⟩, hk⟩
      · rw [rowP_append, List.length_append]
        exact r2
      · have hne : ∀ {B' : Nat}, OwnO W B' q.2 q.1.opts → OwnO W' B' q.2 q.1.opts := fun {B'} ho => ho.keptS hk (fun i hi s => by
          obtain ⟨cur1, c1⟩ := ho.cellsB hi
          obtain ⟨cur2, c2⟩ := (h.blk s).1
          rw [c1] at c2
          simp at c2)
        rcases List.mem_append.1 hq with hq | hq
        · exact hne (h.opts q hq)
        · exact (hne (hu.opts q hq)).mono hB
      · rcases List.mem_append.1 hq with hq | hq
        · exact h.far q hq
        · exact hu.far q hq
end
end Go.Proofs.Ytcmdfcdmfdheeaa

namespace Go.Proofs.Ytcmdfcdmfdheeaa
open Go.RowKit

/-- Packets that an end takes. -/
structure OkP (n : Ng) (p : Pk0) : Prop where
  peer : ShortR n.peer
  fine : FineO p.opts
  data : p.data.size ≤ 140737488351232
def OkL (ms : List Int) (n : Ng) (l : List Pk0) : Prop := ∀ j p, l[j]? = some p → OkP (runN ms n (l.take j)).1 p
theorem okL_nil (ms : List Int) (n : Ng) : OkL ms n [] := fun j p h => by simp at h
theorem okL_one {ms : List Int} {n : Ng} {p : Pk0} (h : OkP n p) : OkL ms n [p] := fun j q hq => by
  cases j with
  | succ j => simp at hq
  | zero =>
    have : p = q := by simpa using hq
    subst this
    exact h
theorem MustAt.other {W W' : World} {base b : Nat} {a a' : Nm} {n n' : Ng} {v : Value} {l : List Int} (h : MustAt W v l) (hn : NegIn W base b a n) (k : NNext W W' base b a a' n') : MustAt W' v l := ⟨h.1.kept k.kept (ints_far hn h.1), h.2⟩
theorem MustAt.pks {S : Nat → Prop} {W W' : World} {v : Value} {l : List Int} (h : MustAt W v l) (hk : Kept S W W') (hS : ∀ i, S i → PkBlk W i) : MustAt W' v l := ⟨h.1.kept hk (fun i hi s => by
  obtain ⟨⟨c1, h1⟩, _⟩ := h.1.block hi
  obtain ⟨c2, h2⟩ := hS i s
  rw [h1] at h2
  simp at h2), h.2⟩

/-- Two ends, and four lists beside them. -/
structure Meet (ms mt : List Int) (w W : World) (bx : Nat) (ax : Nm) (x : Ng) (bz : Nat) (az : Nm) (z : Ng) (vp vq vu vv : Value) (lp lq lu lv : List (Pk0 × Value)) (B : Nat) : Prop where
  pair : Pair w W bx ax x bz az z
  p : Pks W w.heap.size (Tp bx ax bz az) vp lp
  q : Pks W w.heap.size (Tp bx ax bz az) vq lq
  u : Pks W w.heap.size (Tp bx ax bz az) vu lu
  v : Pks W B (Tp bx ax bz az) vv lv
  bw : w.heap.size ≤ B
  bW : B ≤ W.heap.size
  up : ∀ i, vp.ownBlock = some i → i < B
  uq : ∀ i, vq.ownBlock = some i → i < B
  uu : ∀ i, vu.ownBlock = some i → i < B
  mx : MustAt W ax.vu ms
  mz : MustAt W az.vu mt

/-- One packet is taken by the one end; what it sends is laid behind the list. -/
theorem Meet.take {ms mt : List Int} {w W W1 : World} {bx bz B : Nat} {ax az : Nm} {x z : Ng} {vp vq vu vv vo : Value} {lp lq lu lv : List (Pk0 × Value)} (h : Meet ms mt w W bx ax x bz az z vp vq vu vv lp lq lu lv B) {s : Ng × List Pk0} (hs : Sent W W1 w.heap.size bx ax s vo) (hn : lv.length + s.2.length ≤ 1000) :
    ∃ ax' l v' W', AppP W1 vv vo v' W' ∧ l.map (·.1) = s.2 ∧ Meet ms mt w W' bx ax' s.1 bz az z vp vq vu v' lp lq lu (lv ++ l) B := by
  obtain ⟨ax', l, k, hl, e⟩ := h.pair.sentL hs
  have hsz := k.kept.size
  have P1 := h.pair.left k
  have v1 := h.v.left h.pair k
  have p1 := h.p.left h.pair k
  have q1 := h.q.left h.pair k
  have u1 := h.u.left h.pair k
  have hlen : l.length = s.2.length := by rw [← e, List.length_map]
  obtain ⟨v', W', ha, hv', hk⟩ := v1.app hl h.bW (by have := h.bW; omega) (by omega)
  have hb : ∀ i, vv.ownBlock = some i → PkBlk W1 i ∧ B ≤ i := fun i hi => v1.blk hi
  have hk' := hk.size
  refine ⟨ax', l, v', W', ha, e, ⟨P1.keptR hk (fun i hi => ⟨(hb i hi).1, by have := (hb i hi).2; have := h.bw; omega⟩), p1.keptR hk (fun i hi => (hb i hi).1) (fun i hi t => ?_), q1.keptR hk (fun i hi => (hb i hi).1) (fun i hi t => ?_), u1.keptR hk (fun i hi => (hb i hi).1) (fun i hi t => ?_), hv', h.bw, by have := h.bW; omega, h.up, h.uq, h.uu, (h.mx.step h.pair.nx k).pks hk (fun i hi => (hb i hi).1), (h.mz.other h.pair.nx k).pks hk (fun i hi => (hb i hi).1)⟩⟩
  · have h1 := h.up i hi
    have h2 := (hb i t).2
    omega
  · have h1 := h.uq i hi
    have h2 := (hb i t).2
    omega
  · have h1 := h.uu i hi
    have h2 := (hb i t).2
    omega
theorem Meet.swap {ms mt : List Int} {w W : World} {bx bz B : Nat} {ax az : Nm} {x z : Ng} {vp vq vu vv : Value} {lp lq lu lv : List (Pk0 × Value)} (h : Meet ms mt w W bx ax x bz az z vp vq vu vv lp lq lu lv B) : Meet mt ms w W bz az z bx ax x vp vq vu vv lp lq lu lv B :=
  ⟨h.pair.swap, h.p.swap, h.q.swap, h.u.swap, h.v.swap, h.bw, h.bW, h.up, h.uq, h.uu, h.mz, h.mx⟩
theorem Pks.bound {W : World} {base : Nat} {T : Nat → Prop} {v : Value} {l : List (Pk0 × Value)} (h : Pks W base T v l) : ∀ i, v.ownBlock = some i → i < W.heap.size := fun _ hi => (h.blk hi).1.lt
/-- A list of none begins. -/
theorem Meet.of {ms mt : List Int} {w W : World} {bx bz : Nat} {ax az : Nm} {x z : Ng} {vp vq vu : Value} {lp lq lu : List (Pk0 × Value)} (hp : Pair w W bx ax x bz az z) (p : Pks W w.heap.size (Tp bx ax bz az) vp lp) (q : Pks W w.heap.size (Tp bx ax bz az) vq lq) (u : Pks W w.heap.size (Tp bx ax bz az) vu lu) (mx : MustAt W ax.vu ms) (mz : MustAt W az.vu mt) : Meet ms mt w W bx ax x bz az z vp vq vu (.slice none 0 0) lp lq lu [] W.heap.size :=
  ⟨hp, p, q, u, Pks.nil _ _ _, hp.kept.size, Nat.le_refl _, p.bound, q.bound, u.bound, mx, mz⟩

theorem map_at {l : List (Pk0 × Value)} {m : List Pk0} (h : l.map (·.1) = m) {j : Nat} (hj : j < m.length) : ∃ q, l[j]? = some q ∧ m[j]? = some q.1 := by
  have hl : j < l.length := by rw [← h, List.length_map] at hj; exact hj
  exact ⟨l[j], by simp [hl], by rw [← h]; simp [hl]⟩

/-- One Take of a packet that stands in a list, and the 'append' of what it sends. -/
theorem Meet.calls {ms mt : List Int} {w W : World} {bx bz B : Nat} {ax az : Nm} {x z : Ng} {vp vq vu vv : Value} {lp lq lu lv : List (Pk0 × Value)} (h : Meet ms mt w W bx ax x bz az z vp vq vu vv lp lq lu lv B) {q : Pk0 × Value} (hq : q ∈ lp ∨ q ∈ lq) (hok : OkP x q.1) :
    Calls Try.prog 16 #[.pointer (some ⟨bx, 0, none⟩), .agg #[.int .i64 q.1.code, .int .i64 q.1.id, q.2, .string q.1.data]] W fun e w' => ∃ vo, e = .returned vo ∧ Sent W w' w.heap.size bx ax (takeM ms x q.1) vo := by
  have hpk : PkIn W bx ax q.1 q.2 := by
    rcases hq with hq | hq
    · exact h.p.pk hq (fun i s => Or.inl s) hok.fine hok.data
    · exact h.q.pk hq (fun i s => Or.inl s) hok.fine hok.data
  exact takeM_any q.1 q.2 W h.pair.nx hpk h.mx hok.peer
/-- How far the one end has come with a list of packets. -/
def MeetK (ms mt : List Int) (w W : World) (bx : Nat) (n : Ng) (m : List Pk0) (bz : Nat) (az : Nm) (z : Ng) (vp vq vu : Value) (lp lq lu : List (Pk0 × Value)) (B k : Nat) (vv : Value) : Prop :=
  ∃ ax lv, Meet ms mt w W bx ax (runN ms n (m.take k)).1 bz az z vp vq vu vv lp lq lu lv B ∧ lv.map (·.1) = (runN ms n (m.take k)).2
theorem run_bound {ms : List Int} {n : Ng} {l : List Pk0} (hl : l.length ≤ 1) (h2 : (runN ms n l).2.length ≤ 1) {j : Nat} {p : Pk0} (h : l[j]? = some p) : (runN ms n (l.take j)).2.length + (takeM ms (runN ms n (l.take j)).1 p).2.length ≤ 1 := by
  have hlt := (List.getElem?_eq_some_iff.1 h).1
  have e := runN_take ms n h
  rw [List.take_of_length_le (show l.length ≤ j + 1 by omega)] at e
  rw [e] at h2
  simpa using h2
theorem MeetK.hears {ms mt : List Int} {w W : World} {bx bz B k : Nat} {az : Nm} {n z : Ng} {m : List Pk0} {vp vq vu vv : Value} {lp lq lu : List (Pk0 × Value)} (h : MeetK ms mt w W bx n m bz az z vp vq vu lp lq lu B k vv) {q : Pk0 × Value} (hq : q ∈ lp ∨ q ∈ lq) (hk : m[k]? = some q.1) (hok : OkL ms n m) (hm : m.length ≤ 1) (h2 : (runN ms n m).2.length ≤ 1) :
    Calls Try.prog 16 #[.pointer (some ⟨bx, 0, none⟩), .agg #[.int .i64 q.1.code, .int .i64 q.1.id, q.2, .string q.1.data]] W fun e w1 => ∃ po co v' W', ∃ no : Nat, e = .returned (.slice po no co) ∧ AppP w1 vv (.slice po no co) v' W' ∧ MeetK ms mt w W' bx n m bz az z vp vq vu lp lq lu B (k + 1) v' := by
  obtain ⟨ax, lv, hM, e⟩ := h
  refine (hM.calls hq (hok k q.1 hk)).mono ?_
  rintro e1 w1 ⟨vo, rfl, hs⟩
  obtain ⟨po, co, rfl⟩ := hs.slice
  have hlen : lv.length = (runN ms n (m.take k)).2.length := by rw [← e, List.length_map]
  have hb := run_bound hm h2 hk
  obtain ⟨ax', l, v', W', ha, el, hM'⟩ := hM.take hs (by omega)
  refine ⟨po, co, v', W', _, rfl, ha, ax', lv ++ l, ?_, ?_⟩
  · rw [runN_take ms n hk]
    exact hM'
  · rw [runN_take ms n hk, List.map_append, e, el]
theorem MeetK.slice {ms mt : List Int} {w W : World} {bx bz B k : Nat} {az : Nm} {n z : Ng} {m : List Pk0} {vp vq vu vv : Value} {lp lq lu : List (Pk0 × Value)} (h : MeetK ms mt w W bx n m bz az z vp vq vu lp lq lu B k vv) : ∃ p n' c, vv = .slice p n' c := by
  obtain ⟨ax, lv, hM, _⟩ := h
  obtain ⟨p, c, e⟩ := hM.v.slice
  exact ⟨p, _, c, e⟩

/-- Where both ends stand behind some rounds. -/
def MeetR (ms mt : List Int) (w W : World) (bx bz : Nat) (x z : Ng × List Pk0) (vp vq : Value) : Prop :=
  ∃ ax az lp lq, Pair w W bx ax x.1 bz az z.1 ∧ Pks W w.heap.size (Tp bx ax bz az) vp lp ∧ Pks W w.heap.size (Tp bx ax bz az) vq lq ∧ lp.map (·.1) = x.2 ∧ lq.map (·.1) = z.2 ∧ MustAt W ax.vu ms ∧ MustAt W az.vu mt
end Go.Proofs.Ytcmdfcdmfdheeaa
