/- Rows of a call's own, of whatever elements, as plain data: what lies where, one cell written, one element or a list behind them. (No function of the program is named.) · A region that draws its order: what holds at its beginning and is handed on by every operation, whichever comes up, holds at its end. (No function of the program is named.) · A map's block as the list of its entries, in whatever order: what a look-up, a store, a delete, len and a range's step give, for every key type that can be read. · A literal of a map of rows (two ints as the key, an int as the element), made in a region that draws its order: whatever order is drawn, the map has one entry for each row. (Written by gen_avlit.py.) · The contract of avp.Length; and the laws' Light. · The contract of avp.Num. · The contracts of avp's Find and Number. · What was put is got, and what is cut is short, as plain facts with no Go in them. · The contract of avp.Get: the values of some bytes, or the error; for every string of at most 2^47 bytes; what Unmask comes to is a premise where a secret is given. (Written by gen_avget.py.) -/
import Derived.Test.YtnghakhgogfemaaGreatDoorBookKit
import Derived.Lib.SmallJoins
import Derived.Lib.AppendZeros
import Derived.Deep.Upon
import Derived.Deep.RegionHeld
import Derived.Maps.RangeWalk
import Derived.Test.YtnghakhgogfemaaGreatDoorProg
import Derived.Test.YtnghakhgogfemaaGreatDoorKept
import Derived.WalkKit
import Derived.WalkSpells
import Derived.WalkLawsBesides
import Derived.DeepKeys4
import Derived.Great.BuildSlice
import Derived.Test.YtnghakhgogfemaaGreatDoorAvPut
import Derived.Test.YtnghakhgogfemaaGreatDoorAvCut
import Derived.Test.YtnghakhgogfemaaGreatDoorLowI
import Derived.Deep.DeepCutAuto
import Derived.Test.YtnghakhgogfemaaGreatDoorAvPlain
namespace Go.Proofs.YtnghakhgogfemaaGreatDoor
open Go.RowKit

section
variable {α : Type} {enc : α → List Value} {k : Nat} {e : TypeId}

def rowG (enc : α → List Value) (l : List α) : List Value := l.flatMap enc
/-- Each element has k cells. -/
structure EncG (enc : α → List Value) (k : Nat) : Prop where
  len : ∀ x, (enc x).length = k
  one : ∀ x, ∀ u ∈ enc x, u.oneCell' = true
  pos : 0 < k
theorem rowG_append (a b : List α) : rowG enc (a ++ b) = rowG enc a ++ rowG enc b := by simp [rowG]
theorem rowG_cons (a : α) (b : List α) : rowG enc (a :: b) = enc a ++ rowG enc b := by simp [rowG]
theorem EncG.length (E : EncG enc k) (l : List α) : (rowG enc l).length = l.length * k := by
  induction l with
  | nil => simp [rowG]
  | cons a r ih => rw [rowG_cons, List.length_append, E.len, ih, List.length_cons, Nat.add_mul, Nat.one_mul, Nat.add_comm]
theorem EncG.get (E : EncG enc k) {l : List α} {j : Nat} {x : α} (h : l[j]? = some x) (i : Nat) (hi : i < k) : (rowG enc l)[j * k + i]? = (enc x)[i]? := by
  induction l generalizing j with
  | nil => simp at h
  | cons a r ih =>
    rw [rowG_cons]
    cases j with
    | zero =>
      simp at h
      subst h
      rw [List.getElem?_append_left (by rw [E.len]; omega)]
      simp
    | succ j =>
      simp at h
      rw [List.getElem?_append_right (by rw [E.len, Nat.add_mul]; omega), ← ih h, E.len]
      congr 1
      rw [Nat.add_mul]
      omega
theorem EncG.oneCell (E : EncG enc k) (l : List α) : ∀ u ∈ rowG enc l, u.oneCell' = true := by
  intro u hu
  obtain ⟨x, _, hx⟩ := List.mem_flatMap.1 hu
  exact E.one x u hx
theorem EncG.set (E : EncG enc k) {l : List α} {j : Nat} {x y : α} (h : l[j]? = some x) (i : Nat) (hi : i < k) (u : Value) (hy : enc y = (enc x).set i u) : (rowG enc l).set (j * k + i) u = rowG enc (l.set j y) := by
  induction l generalizing j with
  | nil => simp at h
  | cons a r ih =>
    cases j with
    | zero =>
      simp at h
      subst h
      rw [rowG_cons, List.set_cons_zero, rowG_cons, hy, List.set_append_left _ _ (by rw [E.len]; omega)]
      simp
    | succ j =>
      simp at h
      rw [rowG_cons, List.set_cons_succ, rowG_cons, ← ih h, List.set_append_right _ _ (by rw [E.len, Nat.add_mul]; omega), E.len]
      congr 2
      rw [Nat.add_mul]
      omega
theorem EncG.drop (E : EncG enc k) (l : List α) (m : Nat) : (rowG enc l).drop (m * k) = rowG enc (l.drop m) := by
  induction m generalizing l with
  | zero => simp
  | succ m ih =>
    cases l with
    | nil => simp [rowG]
    | cons a r =>
      rw [rowG_cons, List.drop_succ_cons, ← ih r, Nat.add_mul, Nat.one_mul, Nat.add_comm, ← List.drop_drop]
      congr 1
      rw [← E.len a, List.drop_left]
theorem EncG.take (E : EncG enc k) (l : List α) (m : Nat) : (rowG enc l).take (m * k) = rowG enc (l.take m) := by
  induction m generalizing l with
  | zero => simp [rowG]
  | succ m ih =>
    cases l with
    | nil => simp [rowG]
    | cons a r =>
      rw [rowG_cons, List.take_succ_cons, rowG_cons, ← ih r, Nat.add_mul, Nat.one_mul, Nat.add_comm]
      rw [← E.len a, List.take_length_add_append]

/-- The slice v holds the elements of l, in a row that lies at base or behind. -/
def OwnG (enc : α → List Value) (k : Nat) (e : TypeId) (w : World) (base : Nat) (v : Value) (l : List α) : Prop := w.ownsRow base e k v l.length (rowG enc l)
variable {w w' : World} {base : Nat} {v : Value} {l : List α}
theorem OwnG.nil (w : World) (base : Nat) : OwnG enc k e w base (.slice none 0 0) [] := World.ownsRow_nil _ _ _ _
theorem OwnG.mono {base' : Nat} (h : OwnG enc k e w base v l) (hb : base' ≤ base) : OwnG enc k e w base' v l := by
  rcases h.2 with ⟨rfl, h0⟩ | ⟨g, cap, cur, rfl, hb', r⟩
  · exact ⟨h.1, Or.inl ⟨rfl, h0⟩⟩
  · exact ⟨h.1, Or.inr ⟨g, cap, cur, rfl, Nat.le_trans hb hb', r⟩⟩
theorem OwnG.same (h : OwnG enc k e w base v l) (hb : ∀ i, v.ownBlock = some i → w'.heap[i]? = w.heap[i]?) : OwnG enc k e w' base v l := by
  rcases h.2 with ⟨rfl, h0⟩ | ⟨g, cap, cur, rfl, hb', hg, r⟩
  · exact ⟨h.1, Or.inl ⟨rfl, h0⟩⟩
  · exact ⟨h.1, Or.inr ⟨g, cap, cur, rfl, hb', (hb g rfl).trans hg, r⟩⟩
theorem OwnG.block (h : OwnG enc k e w base v l) {i : Nat} (hi : v.ownBlock = some i) : (∃ cur, w.heap[i]? = some (.cells cur e (0, 0))) ∧ base ≤ i ∧ i < w.heap.size := by
  rcases h.2 with ⟨rfl, _⟩ | ⟨g, cap, cur, rfl, hb, hg, _⟩
  · cases hi
  · have : g = i := by simpa [Value.ownBlock] using hi
    subst this
    exact ⟨⟨cur, hg⟩, hb, (Array.getElem?_eq_some_iff.1 hg).1⟩
theorem OwnG.keptS {S : Nat → Prop} (h : OwnG enc k e w base v l) (hk : Kept S w w') (hS : ∀ i, v.ownBlock = some i → ¬ S i) : OwnG enc k e w' base v l :=
  h.same (fun i hi => hk.block i (h.block hi).2.2 (hS i hi))
theorem OwnG.kept0 (h : OwnG enc k e w base v l) (hk : Kept (fun _ => False) w w') : OwnG enc k e w' base v l := h.keptS hk (fun _ _ => id)
/-- Where it lies, if it has an element. -/
theorem OwnG.lies (h : OwnG enc k e w base v l) (hne : l ≠ []) : ∃ g cap, v = .slice (some ⟨g, 0, none⟩) l.length cap ∧ base ≤ g ∧ l.length ≤ cap ∧ cap ≤ maxLen ∧ (∀ i, i < l.length * k → w.cell? ⟨g, i, none⟩ = (rowG enc l)[i]?) ∧ ∀ i, w.frozen? ⟨g, i, none⟩ = false := by
  rcases h.2 with ⟨_, h0⟩ | ⟨g, cap, cur, rfl, hb, hg, h1, h2, h3, h4⟩
  · exact absurd (List.eq_nil_of_length_eq_zero h0) hne
  · refine ⟨g, cap, rfl, hb, h1, h2, fun i hi => ?_, fun i => frozen_of_row _ g i _ _ hg⟩
    rw [← h4, List.getElem?_take_of_lt hi]
    simp [World.cell?, hg]
/-- The cells of one of its elements. -/
theorem OwnG.at {p : Option Addr} {n cap : Nat} (h : OwnG enc k e w base (.slice p n cap) l) (E : EncG enc k) {j : Nat} {x : α} (hj : l[j]? = some x) : ∃ g, p = some ⟨g, 0, none⟩ ∧ n = l.length ∧ base ≤ g ∧ l.length ≤ cap ∧ cap ≤ maxLen ∧ (∀ i u, (enc x)[i]? = some u → w.cell? ⟨g, j * k + i, none⟩ = some u) ∧ ∀ i, w.frozen? ⟨g, i, none⟩ = false := by
  have hlt := (List.getElem?_eq_some_iff.1 hj).1
  obtain ⟨g, cap', e', hb, h1, h2, hc, hf⟩ := h.lies (fun e => by rw [e] at hlt; simp at hlt)
  simp only [Value.slice.injEq] at e'
  obtain ⟨rfl, rfl, rfl⟩ := e'
  refine ⟨g, rfl, rfl, hb, h1, h2, fun i u hu => ?_, hf⟩
  have hi := (List.getElem?_eq_some_iff.1 hu).1
  rw [E.len] at hi
  have hm : (j + 1) * k ≤ l.length * k := Nat.mul_le_mul_right k hlt
  rw [Nat.add_mul, Nat.one_mul] at hm
  rw [hc _ (by omega), E.get hj i hi, hu]
/-- One cell of an element is written. -/
theorem OwnG.setAt {g n cap : Nat} (h : OwnG enc k e w base (.slice (some ⟨g, 0, none⟩) n cap) l) (E : EncG enc k) {j : Nat} {x y : α} (hj : l[j]? = some x) (i : Nat) (hi : i < k) (u : Value) (hy : enc y = (enc x).set i u) :
    OwnG enc k e (w.setCell ⟨g, j * k + i, none⟩ u) base (.slice (some ⟨g, 0, none⟩) n cap) (l.set j y) := by
  rcases h.2 with ⟨e', _⟩ | ⟨g', cap', cur, e', hb, hg, h1, h2, h3, h4⟩
  · cases e'
  · simp only [Value.slice.injEq, Option.some.injEq, Addr.mk.injEq, and_true] at e'
    obtain ⟨rfl, hn, rfl⟩ := e'
    have hn' : n = l.length := hn
    subst hn'
    refine ⟨E.length _, Or.inr ⟨g, cap, cur.setIfInBounds (j * k + i) u, by rw [List.length_set], hb, Joins.block_setCell hg u, by rw [List.length_set]; exact h1, h2, by rw [Array.size_setIfInBounds]; exact h3, ?_⟩⟩
    rw [List.length_set, Array.toList_setIfInBounds, List.take_set, h4]
    exact E.set hj i hi u hy

/-- What 'append' makes of two lists. -/
def AppG (P : Program) (t : TypeId) (w : World) (v u v' : Value) (w' : World) : Prop := ∀ ty, (Builtin.append_ #[t, t] ty #[v, u]).run P w = .ok v' w'
/-- What is known of an element's type. -/
structure TyG (P : Program) (t e : TypeId) (k : Nat) (z : Value) (bytes : Nat) : Prop where
  sl : P.underlying t = Option.some (.slice e)
  info : (P.info? e).map (fun i => (i.zero, i.size, i.bytes)) = Option.some (Option.some z, k, bytes)
  zs : z.cells.size = k
  by' : bytes ≤ 1000
/-- 'append' of elements that lie somewhere onto a row of the call's own. -/
theorem OwnG.append {P : Program} {t : TypeId} {z : Value} {bytes : Nat} (T : TyG P t e k z bytes) (E : EncG enc k) (h : OwnG enc k e w base v l) (hbase : base ≤ w.heap.size) (ad : Addr) (c : Nat) (news : List α) (hm : news ≠ []) (hc : ∀ j u, (rowG enc news)[j]? = some u → w.cell? (ad.add j) = some u) (hroom : l.length + news.length ≤ 1000000) :
    ∃ v' w', AppG P t w v (.slice (Option.some ad) news.length c) v' w' ∧ OwnG enc k e w' base v' (l ++ news) ∧ Grew w w' v v' l.length news.length := by
  obtain ⟨i0, hi0, hz0, hz1, hz2⟩ := info_parts T.info
  obtain ⟨v', w', h1, h2, h3⟩ := owned_append (P := P) T.sl hi0 hz0 hz1 hz2 T.zs E.pos h hbase ad news.length c (rowG enc news) (List.length_pos_iff.2 hm) (E.length _) hc (E.oneCell _) hroom T.by'
  refine ⟨v', w', h1, ?_, h3⟩
  unfold OwnG
  rw [rowG_append, List.length_append]
  exact h2
/-- 'append' of nothing. -/
theorem OwnG.appendNone {P : Program} {t : TypeId} {z : Value} {bytes : Nat} (T : TyG P t e k z bytes) (h : OwnG enc k e w base v l) (p : Option Addr) (c : Nat) : AppG P t w v (.slice p 0 c) v w := by
  obtain ⟨i0, hi0, hz0, hz1, hz2⟩ := info_parts T.info
  have hsrc : Src P i0.size t (.slice p 0 c) 0 [] w := by
    cases p with
    | none => exact Src.ofNil w T.sl c
    | some a => exact Src.ofSlice w T.sl a 0 c [] (by simp) (fun j u hj => by simp at hj) (fun u hu => by simp at hu)
  intro ty
  rcases h.2 with ⟨rfl, _⟩ | ⟨g, cap, cur, rfl, _, _, h1, _⟩
  · exact run_append_nothing w _ _ _ _ i0 T.sl hi0 Option.none 0 0 (Nat.le_refl _) _ hsrc
  · exact run_append_nothing w _ _ _ _ i0 T.sl hi0 _ _ _ h1 _ hsrc
theorem Grew.kept {v' : Value} {n m : Nat} (h : Grew w w' v v' n m) : Kept (fun i => v.ownBlock = some i) w w' := by
  rcases h with ⟨g, cap, rfl, rfl, hk⟩ | ⟨cap', rfl, hk, _⟩
  · exact hk.mono (fun i _ e => by rw [e]; rfl)
  · exact hk.mono (fun i _ e => e.elim)
/-- 'append' of a list that lies somewhere, or of nothing. -/
theorem OwnG.appendList {P : Program} {t : TypeId} {z : Value} {bytes : Nat} (T : TyG P t e k z bytes) (E : EncG enc k) (h : OwnG enc k e w base v l) (hbase : base ≤ w.heap.size) (p : Option Addr) (c : Nat) (news : List α) (hc : news ≠ [] → ∃ ad, p = some ad ∧ ∀ j u, (rowG enc news)[j]? = some u → w.cell? (ad.add j) = some u) (hroom : l.length + news.length ≤ 1000000) :
    ∃ v' w', AppG P t w v (.slice p news.length c) v' w' ∧ OwnG enc k e w' base v' (l ++ news) ∧ Kept (fun i => v.ownBlock = some i) w w' := by
  by_cases hn : news = []
  · subst hn
    exact ⟨v, w, h.appendNone T p c, by rw [List.append_nil]; exact h, Kept.refl _ _⟩
  · obtain ⟨ad, rfl, hcs⟩ := hc hn
    obtain ⟨v', w', h1, h2, h3⟩ := h.append T E hbase ad c news hn hcs hroom
    exact ⟨v', w', h1, h2, h3.kept⟩
end
/-- 'append' whose run is known, in a region that draws. -/
theorem stepG_append {P : Program} {ops : Array Oper} {o : Oper} {a : Act} {w : World} {K : Act → World → Prop} {Q : Exit → Act → World → Prop} {E : Prop} (hg : o.guard = none) (d x : Operand) (t : TypeId) (hop : o.op = Op.call { callee := Callee.builtin Builtin.append, args := #[d, x], argTypes := #[t, t] })
    (v u : Value) (hd : a.eval d = v) (hx : a.eval x = u) {v' : Value} {w' : World} (hr : (Builtin.append_ #[t, t] o.type #[v, u]).run P w = .ok v' w') (hK : K (a.put o.dst v') w') :
    if Region.wanted o (yielded ops a.tmps) = true then Oper.wp P o a w K Q else E := by
  rw [if_pos (by simp [Region.wanted, hg])]
  unfold Oper.wp execOp
  simp only [hop, resolve, invoke, builtin, Sem.run_bind, Sem.run_pure, Result.andThen_ok, List.map_toArray, List.map_cons, List.map_nil, hd, hx, hr]
  exact hK
end Go.Proofs.YtnghakhgogfemaaGreatDoor

namespace Go.Proofs.YtnghakhgogfemaaGreatDoor
open Go

section
variable {P : Program} {ops : Array Oper} {Q : Exit → Act → World → Prop} {md : Region.Mode}

theorem getD_in {l : Array Bool} {i : Nat} (h : i < l.size) : l.getD i false = l.getD i true := by simp [h]

theorem all_listed {listed : Array Bool} (hn : listed.size = ops.size) (hord : ∀ (i : Nat) (o : Oper), ops[i]? = some o → ∀ e ∈ o.after, e.on < i) (h : Region.ready md ops listed = []) : ∀ i, i < ops.size → listed.getD i true = true := by
  intro i
  induction i using Nat.strongRecOn with
  | _ i ih =>
    intro hi
    cases hl : listed.getD i true with
    | true => rfl
    | false =>
      exfalso
      have hm : i ∈ Region.ready md ops listed := by
        refine mem_ready.2 ⟨hl, ops[i], by simp [hi], fun e he _ => ?_⟩
        have h1 := hord i ops[i] (by simp [hi]) e he
        rw [getD_in (by omega)]
        exact ih e.on h1 (by omega)
      rw [h] at hm
      cases hm

theorem listed_of_count {listed : Array Bool} (hc : listed.toList.countP (fun b => !b) = 0) (i : Nat) : listed.getD i true = true := by
  by_cases hi : i < listed.size
  · have h1 := List.countP_eq_zero.1 hc listed[i] (by simp)
    simpa [hi] using h1
  · simp [hi]

/-- The operations come up in whatever order; I n L: what holds while n are still to come and those of L have come up. -/
theorem wpAny_inv (I : Nat → (Nat → Bool) → Act → World → Prop)
    (hord : ∀ (i : Nat) (o : Oper), ops[i]? = some o → ∀ e ∈ o.after, e.on < i)
    (hstep : ∀ (n : Nat) (L : Nat → Bool) (a : Act) (w : World) (i : Nat) (o : Oper), I (n + 1) L a w → ops[i]? = some o → L i = false → (∀ e ∈ o.after, Region.binds md e = true → L e.on = true) → wpOp P ops Q i (fun a' w' => I n (fun j => if j = i then true else L j) a' w') a w)
    (hend : ∀ (n : Nat) (L : Nat → Bool) (a : Act) (w : World), I n L a w → (∀ i, i < ops.size → L i = true) → Q .normal a w) :
    ∀ (fuel : Nat) (listed : Array Bool) (a : Act) (w : World), listed.size = ops.size → listed.toList.countP (fun b => !b) ≤ fuel → I fuel (fun i => listed.getD i true) a w → wpAny P md ops Q fuel listed a w
  | 0, listed, a, w, hn, hc, hI => by
    have hall := listed_of_count (listed := listed) (by omega)
    refine ⟨?_, hend 0 _ a w hI (fun i _ => hall i)⟩
    rw [List.eq_nil_iff_forall_not_mem]
    intro i hi
    have h1 := (mem_ready.1 hi).1
    rw [hall i] at h1
    cases h1
  | fuel + 1, listed, a, w, hn, hc, hI => by
    refine ⟨fun h => hend _ _ a w hI (all_listed hn hord h), fun i hi => ?_⟩
    obtain ⟨hl, o, ho, he⟩ := mem_ready.1 hi
    have hio : i < ops.size := (Array.getElem?_eq_some_iff.1 ho).1
    have hil : i < listed.size := by omega
    refine wpOp_mono (fun a' w' h' => wpAny_inv I hord hstep hend fuel _ a' w' (by simpa using hn) ?_ ?_) (hstep fuel _ a w i o hI ho hl (fun e hem hb => by
      have h1 := hord i o ho e hem
      rw [← getD_in (by omega)]
      exact he e hem hb))
    · have hli : listed[i] = false := by simpa [hil] using hl
      rw [Array.toList_setIfInBounds, List.countP_set (by simpa using hil)]
      have h1 : listed.toList[i]'(by simpa using hil) = false := by simpa using hli
      rw [h1]
      have hpos : 0 < listed.toList.countP (fun b => !b) := List.countP_pos_iff.2 ⟨false, by rw [← h1]; exact List.getElem_mem _, rfl⟩
      simp only [Bool.not_false, Bool.not_true, if_true, Bool.false_eq_true, if_false]
      omega
    · have e : (fun j => (listed.setIfInBounds i true).getD j true) = (fun j => if j = i then true else listed.getD j true) := by
        funext j
        by_cases hj : j = i
        · subst hj
          simp [hil]
        · rw [if_neg hj, getD_set_ne true (fun e => hj e.symm)]
      rw [e]
      exact h'

theorem wp_region_inv (I : Nat → (Nat → Bool) → Act → World → Prop) {id : Nat} {a : Act} {w : World} (hm : P.follows .mixedOrders = true)
    (hord : ∀ (i : Nat) (o : Oper), ops[i]? = some o → ∀ e ∈ o.after, e.on < i)
    (hstep : ∀ (n : Nat) (L : Nat → Bool) (a : Act) (w : World) (i : Nat) (o : Oper), I (n + 1) L a w → ops[i]? = some o → L i = false → (∀ e ∈ o.after, Region.binds .any e = true → L e.on = true) → wpOp P ops Q i (fun a' w' => I n (fun j => if j = i then true else L j) a' w') a w)
    (hend : ∀ (n : Nat) (L : Nat → Bool) (a : Act) (w : World), I n L a w → (∀ i, i < ops.size → L i = true) → Q .normal a w)
    (hI : ∀ L, (∀ i, i < ops.size → L i = false) → I ops.size L a w.drew) : (Code.region id ops true).wp P Q a w := by
  refine wp_region_any hm (wpAny_inv I hord hstep hend ops.size _ a _ (by simp) ?_ (hI _ (fun i hi => by simp [hi])))
  exact Nat.le_trans List.countP_le_length (by simp)
end
end Go.Proofs.YtnghakhgogfemaaGreatDoor

namespace Go.Proofs.YtnghakhgogfemaaGreatDoor
open Go.ChangeMaps Go.MapKept
open Go.Maps (Keyed)

def kv (e : MapEntry) : Value × Value := (e.key, e.val)

/-- Block b of w is a map whose entries are those of L, in some order. -/
def Assoc (w : World) (P : Program) (k : TypeId) (b : Nat) (L : List (Value × Value)) : Prop :=
  ∃ es clock, w.heap[b]? = some (.map es clock) ∧ Stamped es clock ∧ es.size ≤ maxLen ∧ (∀ x ∈ es.toList, ∃ l, keyOf P k x.key = some l) ∧ (es.toList.map kv).Perm L

section
variable {P : Program} {k : TypeId} {w : World} {b : Nat} {L : List (Value × Value)}

theorem Assoc.perm (h : Assoc w P k b L) {M : List (Value × Value)} (hp : L.Perm M) : Assoc w P k b M := by
  obtain ⟨es, clock, hb, hs, hm, hk, hL⟩ := h
  exact ⟨es, clock, hb, hs, hm, hk, hL.trans hp⟩

theorem Assoc.lt (h : Assoc w P k b L) : b < w.heap.size := by
  obtain ⟨es, clock, hb, _⟩ := h
  exact (Array.getElem?_eq_some_iff.1 hb).1

theorem Assoc.size (h : Assoc w P k b L) : L.length ≤ maxLen := by
  obtain ⟨es, clock, hb, _, hm, _, hL⟩ := h
  rw [← hL.length_eq]
  simpa using hm

theorem Assoc.keys (h : Assoc w P k b L) : L.Pairwise (fun p q => p.1 ≠ q.1) := by
  obtain ⟨es, clock, hb, hs, _, _, hL⟩ := h
  have h1 := ((stamped_iff es clock).1 hs).2.2
  refine (hL.pairwise_iff (fun {a b} (h : a.1 ≠ b.1) => h.symm)).1 ?_
  rw [List.pairwise_map]
  exact h1

theorem Assoc.made (w : World) (P : Program) (k : TypeId) : Assoc (w.alloc (.map #[] 0)) P k w.heap.size [] :=
  ⟨#[], 0, (MapKept.heap_alloc w _).1, stamped_empty 0, by simp, by simp, by simp⟩

theorem Assoc.same {w' : World} (h : Assoc w P k b L) (hb' : w'.heap[b]? = w.heap[b]?) : Assoc w' P k b L := by
  obtain ⟨es, clock, hb, r⟩ := h
  exact ⟨es, clock, hb'.trans hb, r⟩

theorem Assoc.kept {w' : World} {row : Option Nat} (h : Assoc w P k b L) (hg : w.grownBy w' row) (hne : some b ≠ row) : Assoc w' P k b L := h.same (hg.block b h.lt hne)

theorem Assoc.alloc (h : Assoc w P k b L) (o : Obj) : Assoc (w.alloc o) P k b L := h.kept (World.grownBy_alloc w o none) (by simp)

theorem Assoc.setCell (h : Assoc w P k b L) {a : Addr} (ha : b ≠ a.block) (u : Value) : Assoc (w.setCell a u) P k b L := h.same (RowKit.Below.heap_setCell _ _ _ _ ha)

theorem entry_of_mem {es : List MapEntry} {p : Value × Value} (h : p ∈ es.map kv) : ∃ x ∈ es, x.key = p.1 ∧ x.val = p.2 := by
  obtain ⟨x, hx, rfl⟩ := List.mem_map.1 h
  exact ⟨x, hx, rfl, rfl⟩

/-- 'm[k]' and 'v, ok := m[k]'. -/
theorem Assoc.look {t e : TypeId} (c : Bool) (h : Assoc w P k b L) (K : Keyed P k) (ht : P.underlying t = some (.map k e)) {z : Value} (hz : (zeroValue e).run P w = .ok z w) {key : Value} {kl : Lit} (hkey : keyOf P k key = some kl) :
    ((∀ p ∈ L, p.1 ≠ key) ∧ (Instr.lookup t (.map (some b)) key c).run P w = .ok (if c then .tuple #[z, .bool false] else z) w) ∨
    ∃ v, (key, v) ∈ L ∧ (Instr.lookup t (.map (some b)) key c).run P w = .ok (if c then .tuple #[v, .bool true] else v) w := by
  obtain ⟨es, clock, hb, hs, hm, hk, hL⟩ := h
  rcases K.find w hkey es.toList hk with ⟨h1, h2⟩ | ⟨j, e0, h1, h2, h3⟩
  · refine Or.inl ⟨fun p hp => ?_, by simp [Instr.lookup, run_underlying ht, MapKept.run_getObj_map hb, K.check w _ hkey, h1, hz, Result.andThen]⟩
    obtain ⟨x, hx, hx1, _⟩ := entry_of_mem (hL.mem_iff.2 hp)
    rw [← hx1]
    exact h2 x hx
  · have hm0 : e0 ∈ es.toList := List.mem_of_getElem? h2
    refine Or.inr ⟨e0.val, hL.mem_iff.1 (List.mem_map.2 ⟨e0, hm0, by rw [kv, h3]⟩), by simp [Instr.lookup, run_underlying ht, MapKept.run_getObj_map hb, K.check w _ hkey, h1, Result.andThen]⟩

/-- Of the entries of L those at another key are M's. -/
def Strikes (L : List (Value × Value)) (key : Value) (M : List (Value × Value)) : Prop := (L.Perm M ∧ ∀ p ∈ M, p.1 ≠ key) ∨ ∃ v, L.Perm ((key, v) :: M)

theorem perm_of_pair {a b : Value × Value} {l m : List (Value × Value)} (hd : (a :: l).Pairwise (fun p q => p.1 ≠ q.1)) (hp : (a :: l).Perm (b :: m)) (hk : a.1 = b.1) : a = b ∧ l.Perm m := by
  have hb : b ∈ a :: l := hp.mem_iff.2 (List.mem_cons_self ..)
  rcases List.mem_cons.1 hb with e | hb
  · subst e
    exact ⟨rfl, hp.cons_inv⟩
  · exact absurd hk ((List.pairwise_cons.1 hd).1 b hb)

theorem erase_perm {α : Type} : ∀ (l : List α) (j : Nat) (hj : j < l.length), l.Perm (l[j] :: l.eraseIdx j)
  | a :: l, 0, _ => by simp
  | a :: l, j + 1, hj => by
    have := erase_perm l j (by simpa using hj)
    simpa using (this.cons a).trans (List.Perm.swap _ _ _)

/-- 'm[k] = v'. -/
theorem Assoc.store {t e : TypeId} (h : Assoc w P k b L) (K : Keyed P k) (ht : P.underlying t = some (.map k e)) (hroom : L.length < maxLen) {key val : Value} {kl : Lit} (hkey : keyOf P k key = some kl) {M : List (Value × Value)} (hM : Strikes L key M) :
    ∃ w', (Instr.mapUpdate t (.map (some b)) key val).run P w = .ok () w' ∧ Assoc w' P k b ((key, val) :: M) ∧ w.mapTurned w' b := by
  have hkeys := h.keys
  obtain ⟨es, clock, hb, hs, hm, hk, hL⟩ := h
  have hlen : es.size < maxLen := by
    have := hL.length_eq
    simp at this
    omega
  have hnd : (es.toList.map kv).Pairwise (fun p q => p.1 ≠ q.1) := by
    rw [List.pairwise_map]
    exact ((stamped_iff es clock).1 hs).2.2
  rcases K.find w hkey es.toList hk with ⟨h1, h2⟩ | ⟨j, e0, h1, h2, h3⟩
  · refine ⟨setBlock w b (.map (es.push ⟨key, val, clock⟩) (clock + 1)), by simp [Instr.mapUpdate, run_underlying ht, MapKept.run_getObj_map hb, K.check w false hkey, h1, MapKept.run_setObj_map _ hb, Result.andThen, setBlock], ⟨es.push ⟨key, val, clock⟩, clock + 1, heap_setBlock_same hb _, stamped_push hs h2, by simp; omega, ?_, ?_⟩, ⟨es, clock, _, _, hb, rfl⟩⟩
    · intro x hx
      simp only [Array.toList_push, List.mem_append, List.mem_singleton] at hx
      rcases hx with hx | rfl
      · exact hk x hx
      · exact ⟨kl, hkey⟩
    · rw [Array.toList_push, List.map_append, List.map_singleton]
      refine (List.perm_append_singleton _ _).trans ?_
      refine List.Perm.cons (key, val) ?_
      rcases hM with ⟨hp, _⟩ | ⟨v, hp⟩
      · exact hL.trans hp
      · obtain ⟨x, hx, hx1, _⟩ := entry_of_mem ((hL.trans hp).mem_iff.2 (List.mem_cons_self ..))
        exact absurd hx1 (h2 x hx)
  · have hj : es[j]? = some e0 := by simpa using h2
    have hjl : j < es.toList.length := (List.getElem?_eq_some_iff.1 h2).1
    have hlist : (es.modify j (fun e' => { e' with key := key, val := val })).toList = es.toList.set j { e0 with key := key, val := val } := by rw [Array.toList_modify, modify_eq_set _ _ _ _ h2]
    have hkeyf : ∀ e', es[j]? = some e' → ({ e' with key := key, val := val } : MapEntry).key = e'.key := fun e' he' => by rw [hj] at he'; cases he'; exact h3.symm
    have hpm : (es.toList.map kv).Perm ((key, e0.val) :: (es.toList.map kv).eraseIdx j) := by
      have hget : (es.toList.map kv)[j]? = some (key, e0.val) := by rw [List.getElem?_map, h2]; simp [kv, h3]
      obtain ⟨hj', hg⟩ := List.getElem?_eq_some_iff.1 hget
      have := erase_perm (es.toList.map kv) j hj'
      rw [hg] at this
      exact this
    refine ⟨setBlock w b (.map (es.modify j (fun e' => { e' with key := key, val := val })) clock), by simp [Instr.mapUpdate, run_underlying ht, MapKept.run_getObj_map hb, K.check w false hkey, h1, hj, h3, K.stays w hkey, MapKept.run_setObj_map _ hb, Result.andThen, setBlock], ⟨es.modify j (fun e' => { e' with key := key, val := val }), clock, heap_setBlock_same hb _, stamped_modify hs _ _ (fun _ _ => rfl) (fun e' _ he' => hkeyf e' he'), by simpa using hm, ?_, ?_⟩, ⟨es, clock, _, _, hb, rfl⟩⟩
    · intro x hx
      rw [hlist] at hx
      obtain ⟨i, hi, ex⟩ := List.getElem_of_mem hx
      rw [List.getElem_set] at ex
      split at ex
      · rw [← ex]; exact ⟨kl, hkey⟩
      · exact hk x (ex ▸ List.getElem_mem _)
    · rw [hlist, List.map_set]
      refine (set_perm _ _ (by simpa using hjl) _).trans ?_
      refine List.Perm.cons (key, val) ?_
      rcases hM with ⟨hp, hne⟩ | ⟨v, hp⟩
      · have := (hL.trans hp).mem_iff.1 (hpm.mem_iff.2 (List.mem_cons_self ..))
        exact absurd rfl (hne _ this)
      · have h5 := hpm.symm.trans (hL.trans hp)
        have hd : ((key, e0.val) :: (es.toList.map kv).eraseIdx j).Pairwise (fun p q => p.1 ≠ q.1) := (hpm.pairwise_iff (fun {a b} (h : a.1 ≠ b.1) => h.symm)).1 hnd
        exact (perm_of_pair hd h5 rfl).2

/-- 'delete(m, k)'. -/
theorem Assoc.drop {t e ty : TypeId} (h : Assoc w P k b L) (K : Keyed P k) (ht : P.underlying t = some (.map k e)) {key : Value} {kl : Lit} (hkey : keyOf P k key = some kl) {M : List (Value × Value)} (hM : Strikes L key M) :
    ∃ w', (Builtin.delete_ #[t, k] ty #[.map (some b), key]).run P w = .ok (.tuple #[]) w' ∧ Assoc w' P k b M ∧ w.mapTurned w' b := by
  obtain ⟨es, clock, hb, hs, hm, hk, hL⟩ := h
  have hnd : (es.toList.map kv).Pairwise (fun p q => p.1 ≠ q.1) := by
    rw [List.pairwise_map]
    exact ((stamped_iff es clock).1 hs).2.2
  rcases K.find w hkey es.toList hk with ⟨h1, h2⟩ | ⟨j, e0, h1, h2, h3⟩
  · refine ⟨setBlock w b (.map es clock), by simp [Builtin.delete_, run_underlying ht, MapKept.run_getObj_map hb, K.check w _ hkey, h1, MapKept.run_setObj_map _ hb, Result.andThen, setBlock], ⟨es, clock, heap_setBlock_same hb _, hs, hm, hk, ?_⟩, ⟨es, clock, es, clock, hb, rfl⟩⟩
    rcases hM with ⟨hp, _⟩ | ⟨v, hp⟩
    · exact hL.trans hp
    · obtain ⟨x, hx, hx1, _⟩ := entry_of_mem ((hL.trans hp).mem_iff.2 (List.mem_cons_self ..))
      exact absurd hx1 (h2 x hx)
  · have hjl : j < es.toList.length := (List.getElem?_eq_some_iff.1 h2).1
    have hjs : j < es.size := by simpa using hjl
    have hsub : (es.eraseIdxIfInBounds j).toList = es.toList.eraseIdx j := by
      unfold Array.eraseIdxIfInBounds
      rw [dif_pos hjs]
      simp
    have hpm : (es.toList.map kv).Perm ((key, e0.val) :: (es.toList.map kv).eraseIdx j) := by
      have hget : (es.toList.map kv)[j]? = some (key, e0.val) := by rw [List.getElem?_map, h2]; simp [kv, h3]
      obtain ⟨hj', hg⟩ := List.getElem?_eq_some_iff.1 hget
      have := erase_perm (es.toList.map kv) j hj'
      rw [hg] at this
      exact this
    refine ⟨setBlock w b (.map (es.eraseIdxIfInBounds j) clock), by simp [Builtin.delete_, run_underlying ht, MapKept.run_getObj_map hb, K.check w _ hkey, h1, MapKept.run_setObj_map _ hb, Result.andThen, setBlock], ⟨es.eraseIdxIfInBounds j, clock, heap_setBlock_same hb _, stamped_erase hs j, Nat.le_trans (MapFrom.size_erase es j) hm, ?_, ?_⟩, ⟨es, clock, _, _, hb, rfl⟩⟩
    · intro x hx
      rw [hsub] at hx
      exact hk x ((List.eraseIdx_sublist _ _).subset hx)
    · rw [hsub, map_eraseIdx]
      rcases hM with ⟨hp, hne⟩ | ⟨v, hp⟩
      · have := (hL.trans hp).mem_iff.1 (hpm.mem_iff.2 (List.mem_cons_self ..))
        exact absurd rfl (hne _ this)
      · have h5 := hpm.symm.trans (hL.trans hp)
        have hd : ((key, e0.val) :: (es.toList.map kv).eraseIdx j).Pairwise (fun p q => p.1 ≠ q.1) := (hpm.pairwise_iff (fun {a b} (h : a.1 ≠ b.1) => h.symm)).1 hnd
        exact (perm_of_pair hd h5 rfl).2

/-- 'len(m)'. -/
theorem Assoc.len {t e ty : TypeId} (h : Assoc w P k b L) (ht : P.underlying t = some (.map k e)) :
    (Builtin.len_ #[t] ty #[.map (some b)]).run P w = .ok (.int .i64 (L.length : Nat)) w := by
  obtain ⟨es, clock, hb, hs, hm, hk, hL⟩ := h
  have : L.length = es.size := by rw [← hL.length_eq]; simp
  simp [Builtin.len_, run_underlying ht, MapKept.run_getObj_map hb, Result.andThen, this, goInt]

/-- A range over such a map under way: the iterator lies in block r; N is still to come. -/
def Ranging (w : World) (P : Program) (k : TypeId) (b r : Nat) (L N : List (Value × Value)) : Prop :=
  ∃ es clock since seen c0, w.heap[b]? = some (.map es clock) ∧ Stamped es clock ∧ es.size ≤ maxLen ∧ (∀ x ∈ es.toList, ∃ l, keyOf P k x.key = some l) ∧ (es.toList.map kv).Perm L ∧
    w.heap[r]? = some (.mapIter (some b) since seen c0) ∧ (∀ x ∈ es.toList, x.born < since) ∧ ((leftOf es seen).toList.map kv).Perm N ∧ since ≤ c0 ∧ since ≤ clock

theorem Ranging.owns {r : Nat} {N : List (Value × Value)} (h : Ranging w P k b r L N) : Assoc w P k b L := by
  obtain ⟨es, clock, _, _, _, hb, hs, hm, hk, hL, _⟩ := h
  exact ⟨es, clock, hb, hs, hm, hk, hL⟩

theorem Ranging.lt {r : Nat} {N : List (Value × Value)} (h : Ranging w P k b r L N) : r < w.heap.size := by
  obtain ⟨es, clock, since, seen, c0, _, _, _, _, _, hr, _⟩ := h
  exact (Array.getElem?_eq_some_iff.1 hr).1

theorem Ranging.ne {r : Nat} {N : List (Value × Value)} (h : Ranging w P k b r L N) : r ≠ b := by
  obtain ⟨es, clock, since, seen, c0, hb, _, _, _, _, hr, _⟩ := h
  intro e
  rw [e, hb] at hr
  cases hr

theorem Ranging.same {r : Nat} {N : List (Value × Value)} {w' : World} (h : Ranging w P k b r L N) (hb' : w'.heap[b]? = w.heap[b]?) (hr' : w'.heap[r]? = w.heap[r]?) : Ranging w' P k b r L N := by
  obtain ⟨es, clock, since, seen, c0, hb, hs, hm, hk, hL, hr, rest⟩ := h
  exact ⟨es, clock, since, seen, c0, hb'.trans hb, hs, hm, hk, hL, hr'.trans hr, rest⟩

theorem Ranging.kept {r : Nat} {N : List (Value × Value)} {w' : World} {row : Option Nat} (h : Ranging w P k b r L N) (hg : w.grownBy w' row) (hb' : some b ≠ row) (hr' : some r ≠ row) : Ranging w' P k b r L N :=
  h.same (hg.block b h.owns.lt hb') (hg.block r h.lt hr')

/-- 'range m'. -/
theorem Assoc.range {t e : TypeId} (h : Assoc w P k b L) (ht : P.underlying t = some (.map k e)) :
    ∃ w', (Instr.range t (.map (some b))).run P w = .ok (.pointer (some ⟨w.heap.size, 0, none⟩)) w' ∧ Ranging w' P k b w.heap.size L L ∧ w.grownBy w' none ∧ w'.heap.size = w.heap.size + 1 := by
  have hlt := h.lt
  obtain ⟨es, clock, hb, hs, hm, hk, hL⟩ := h
  refine ⟨_, run_range_map w t k e b es clock ht hb, ⟨es, clock, clock, #[], clock, ((MapKept.heap_alloc w _).2 b hlt).trans hb, hs, hm, hk, hL, (MapKept.heap_alloc w _).1, hs.1, ?_, Nat.le_refl _, Nat.le_refl _⟩, World.grownBy_alloc w _ none, by simp⟩
  have e1 : leftOf es #[] = es := by unfold leftOf; exact Array.filter_eq_self.2 (fun x _ => by simp)
  rw [e1]
  exact hL

/-- The range's step. -/
theorem Ranging.next {r : Nat} {N : List (Value × Value)} (h : Ranging w P k b r L N) (ty : TypeId) :
    (N = [] ∧ (Instr.next (.pointer (some ⟨r, 0, none⟩)) false ty).run P w = .ok (.tuple #[.bool false]) w) ∨
    ∃ key v M w', N.Perm ((key, v) :: M) ∧ (Instr.next (.pointer (some ⟨r, 0, none⟩)) false ty).run P w = .ok (.tuple #[.bool true, key, v]) w' ∧ Ranging w' P k b r L M ∧ w.grownBy w' (some r) ∧ w'.heap.size = w.heap.size ∧
      (Instr.entry (.pointer (some ⟨r, 0, none⟩))).run P w' = .ok (.tuple #[key, v]) w' := by
  have hne := h.ne
  obtain ⟨es, clock, since, seen, c0, hb, hs, hm, hk, hL, hr, hold, hN, hsc, hsk⟩ := h
  rcases run_next_at (P := P) w ty r b since c0 seen es clock hr hb hold hsc with ⟨h0, hrun⟩ | ⟨e, he, w1, hal, hrun⟩
  · refine Or.inl ⟨?_, hrun⟩
    have : (leftOf es seen).toList = [] := by
      apply List.eq_nil_of_length_eq_zero
      simpa using h0
    rw [this] at hN
    exact List.nil_perm.1 hN
  · obtain ⟨hem, hes⟩ := mem_left he
    have hr1 : w1.heap[r]? = some (.mapIter (some b) since seen c0) := by rcases hal with rfl | rfl <;> exact hr
    have hb1 : w1.heap[b]? = some (.map es clock) := by rcases hal with rfl | rfl <;> exact hb
    have hset := heap_set (o' := .mapIter (some b) since (seen.push e.born) clock) hr1
    have hst := (stamped_iff es clock).1 hs
    refine Or.inr ⟨e.key, e.val, (leftOf es (seen.push e.born)).toList.map kv, _, ?_, hrun, ⟨es, clock, since, seen.push e.born, clock, (hset.2 b (Ne.symm hne)).trans hb1, hs, hm, hk, hL, hset.1, hold, List.Perm.refl _, hsk, hsk⟩, ?_, ?_, ?_⟩
    · refine hN.symm.trans ?_
      have hp : (leftOf es seen).toList.Perm (e :: (leftOf es (seen.push e.born)).toList) := by
        have e1 : ∀ s : Array Nat, (leftOf es s).toList = es.toList.filter (fun x => !s.contains x.born) := fun s => by unfold leftOf; exact Array.toList_filter
        rw [e1] at he ⊢
        rw [e1]
        have hnb : (es.toList.map (·.born)).Nodup := hst.2.1
        have hq : ∀ l : List MapEntry, (l.map (·.born)).Nodup → e ∈ l.filter (fun x => !seen.contains x.born) → (l.filter (fun x => !seen.contains x.born)).Perm (e :: l.filter (fun x => !(seen.push e.born).contains x.born)) := by
          intro l
          induction l with
          | nil => intro _ h; simp at h
          | cons a l ih =>
            intro hnd hmem
            rw [List.map_cons, List.nodup_cons] at hnd
            by_cases hae : a = e
            · subst hae
              have hsa : (!seen.contains a.born) = true := (List.mem_filter.1 hmem).2
              have hrest : l.filter (fun x => !(seen.push a.born).contains x.born) = l.filter (fun x => !seen.contains x.born) := by
                refine List.filter_congr (fun x hx => ?_)
                have hx1 : x.born ≠ a.born := fun e1 => hnd.1 (e1 ▸ List.mem_map.2 ⟨x, hx, rfl⟩)
                simp [hx1]
              have hself : (!(seen.push a.born).contains a.born) = false := by simp
              rw [List.filter_cons, if_pos hsa, List.filter_cons, if_neg (by rw [hself]; simp), hrest]
            · have hel : e ∈ l := by
                rcases List.mem_cons.1 (List.mem_filter.1 hmem).1 with h1 | h1
                · exact absurd h1.symm hae
                · exact h1
              have ha1 : a.born ≠ e.born := fun e1 => hnd.1 (e1 ▸ List.mem_map.2 ⟨e, hel, rfl⟩)
              have hal2 : (!(seen.push e.born).contains a.born) = !seen.contains a.born := by simp [ha1]
              have hrec := ih hnd.2 (List.mem_filter.2 ⟨hel, (List.mem_filter.1 hmem).2⟩)
              rw [List.filter_cons, List.filter_cons, hal2]
              split
              · exact (hrec.cons a).trans (List.Perm.swap e a _)
              · exact hrec
        exact hq es.toList hnb he
      exact (hp.map kv)
    · rcases hal with rfl | rfl <;> exact ⟨rfl, rfl, rfl, by simp [setBlock], fun i _ hi => hset.2 i (fun e1 => hi (by rw [e1]))⟩
    · rcases hal with rfl | rfl <;> simp [setBlock]
    · exact run_entry_at _ r b since seen es clock e hset.1 ((hset.2 b (Ne.symm hne)).trans hb1) hem hst.2.1

end
end Go.Proofs.YtnghakhgogfemaaGreatDoor

namespace Go.Proofs.YtnghakhgogfemaaGreatDoor.AvLit
open Go.RowKit
open Go.Maps (Keyed)

def In64 (x : Int) : Prop := -9223372036854775808 ≤ x ∧ x ≤ 9223372036854775807
def keyV (k i : Int) : Value := .agg #[.int .i64 k, .int .i64 i]
theorem keyV_inj {k i k' i' : Int} (h : keyV k i = keyV k' i') : k = k' ∧ i = i' := by
  unfold keyV at h
  simp at h
  exact h
theorem laidOutT : laidOutB Tryz.prog = true := by kernel_rfl
theorem keyLaw : Keyed Tryz.prog 116 := Keyed.of_law (deep_law_laid laidOutT (m := 5) (by decide) (of_decide_eq_true (by kernel_rfl)) (by kernel_rfl) (by kernel_rfl))
theorem zeroEn (w : World) : (zeroValue 3).run Tryz.prog w = .ok (.int .i64 0) w := by kernel_rfl
theorem typesPos : ∃ n, Tryz.prog.types.size = n + 1 := ⟨Tryz.prog.types.size - 1, by have : 0 < Tryz.prog.types.size := of_decide_eq_true (by kernel_rfl); omega⟩
theorem keyTypeKey : Tryz.prog.keyType 116 = true := by kernel_rfl
theorem cellsKey : Tryz.prog.cellsOf 116 = 2 := by kernel_rfl
theorem cellsIntA : Tryz.prog.cellsOf 3 = 1 := by kernel_rfl
theorem wf64 {x : Int} (h : In64 x) : (Lit.int .i64 x).wf = true := WalkArith.wf_i64 h
theorem key_reads {k i : Int} (hk : In64 k) (hi : In64 i) : ∃ l, keyOf Tryz.prog 116 (keyV k i) = some l := by
  obtain ⟨n, hn⟩ := typesPos
  refine ⟨.string (keyBytes [.int .i64 k, .int .i64 i]), ?_⟩
  unfold keyOf keyV
  rw [hn]
  simp [Tryz.underlying116, keyTypeKey, cellsKey, cellsIntA, Value.formed, Value.cells, Program.keyLits, Tryz.underlying3, wf64 hk, wf64 hi]

/-! ### The operations of such a literal -/
/-- A row. -/
structure Rw where
  s : Int
  e : Int
  n : Int

/-- An operation: 0 the map, 1 a key, 2 a list, 3 an entry, 4 its insert, 5 and 6 the map handed on. x, y, z: the slots that it reads; iy, iz, ix: who writes them. -/
structure Sp where
  kind : Nat
  i : Nat
  dst : Nat
  x : Nat
  y : Nat
  z : Nat
  ix : Nat
  iy : Nat
  iz : Nat
  r : Rw

def Sp.op (q : Sp) : Op :=
  match q.kind with
  | 0 => .makeMap 113 none
  | 1 => .build 116 #[(0, .const (.int .i64 q.r.s)), (1, .const (.int .i64 q.r.e))]
  | 4 => .insert 113 (.tmp q.x) (.tmp q.y) (.const (.int .i64 q.r.n))
  | 5 => .move (.tmp q.x)
  | _ => .assign (.tmp q.x)

def Sp.after (q : Sp) : Array Edge :=
  match q.kind with
  | 4 => #[⟨q.ix, .data⟩, ⟨q.iy, .data⟩]
  | 5 => ((List.range q.i).map fun j => ⟨j, .data⟩).toArray
  | 6 => (⟨q.ix, .data⟩ :: (List.range q.i).map fun j => (⟨j, .phase⟩ : Edge)).toArray
  | _ => #[]

def Sp.oper (pos : String) (q : Sp) : Oper :=
  { dst := match q.kind with | 4 => none | _ => some q.dst, op := q.op, type := match q.kind with | 1 => 116 | 4 => 0 | _ => 113, pos := pos, after := q.after, guard := none }

def r0 : Rw := ⟨0, 0, 0⟩
def litGo : List Rw → Nat → Nat → List Sp
  | [], i, t => [⟨5, i, t, 1, 0, 0, 0, 0, 0, r0⟩, ⟨6, i + 1, 0, t, 0, 0, i, 0, 0, r0⟩]
  | r :: rs, i, t => ⟨1, i, t, 0, 0, 0, 0, 0, 0, r⟩ :: ⟨4, i + 1, 0, 1, t, 0, 0, i, 0, r⟩ :: litGo rs (i + 2) (t + 1)
def litSps (rs : List Rw) : List Sp := ⟨0, 0, 1, 0, 0, 0, 0, 0, 0, r0⟩ :: litGo rs 1 2
def litOps (pos : String) (rs : List Rw) : Array Oper := ((litSps rs).map (Sp.oper pos)).toArray

/-! ### What a literal's operations keep to -/
def rEq (p q : Rw) : Bool := decide (p.s = q.s) && decide (p.e = q.e) && decide (p.n = q.n)
theorem rEq_iff {p q : Rw} (h : rEq p q = true) : p = q := by
  obtain ⟨a, b, c⟩ := p
  obtain ⟨a', b', c'⟩ := q
  simp only [rEq, Bool.and_eq_true, decide_eq_true_eq] at h
  obtain ⟨⟨rfl, rfl⟩, rfl⟩ := h
  rfl

def in64B (x : Int) : Bool := decide (-9223372036854775808 ≤ x) && decide (x ≤ 9223372036854775807)
/-- The operation j writes the slot t, is of the kind k, and of the row r. -/
def wrote (sps : List Sp) (j k t : Nat) (r : Rw) : Bool := match sps[j]? with | some p => p.kind == k && p.dst == t && rEq p.r r | none => false
def Sp.ok (sps : List Sp) (N : Nat) (q : Sp) : Bool :=
  decide (q.dst < N) && q.after.all (fun e => decide (e.on < q.i) && Region.binds .any e) && in64B q.r.s && in64B q.r.e &&
  (match q.kind with
  | 0 => q.i == 0
  | 1 => true
  | 4 => q.ix == 0 && q.x == 1 && wrote sps q.iy 1 q.y q.r
  | 5 => q.ix == 0 && q.x == 1
  | 6 => match sps[q.ix]? with | some p => p.kind == 5 && p.dst == q.x | none => false
  | _ => false)

def okB (sps : List Sp) (N : Nat) : Bool := sps.all (Sp.ok sps N) && (sps.map (·.i) == List.range sps.length) && decide (sps.length ≤ 1000)
def apartB (sps : List Sp) : Bool := decide (sps.Pairwise fun p q => p.kind = 4 ∨ q.kind = 4 ∨ p.dst ≠ q.dst) && decide (sps.Pairwise fun p q => p.kind = 4 → q.kind = 4 → ¬ (p.r.s = q.r.s ∧ p.r.e = q.r.e))

theorem pair_of {sps : List Sp} {R : Sp → Sp → Prop} (hs : ∀ p q, R p q → R q p) (h : sps.Pairwise R) {i j : Nat} {p q : Sp} (hp : sps[i]? = some p) (hq : sps[j]? = some q) (hij : i ≠ j) : R p q := by
  obtain ⟨hi, rfl⟩ := List.getElem?_eq_some_iff.1 hp
  obtain ⟨hj, rfl⟩ := List.getElem?_eq_some_iff.1 hq
  have hh := List.pairwise_iff_getElem.1 h
  rcases Nat.lt_or_gt_of_ne hij with h1 | h1
  · exact hh i j hi hj h1
  · exact hs _ _ (hh j i hj hi h1)

/-- The same, in words. -/
structure Fits (sps : List Sp) (N : Nat) : Prop where
  ok : ∀ q ∈ sps, Sp.ok sps N q = true
  num : ∀ (i : Nat) (q : Sp), sps[i]? = some q → q.i = i
  small : sps.length ≤ 1000
  ssa : ∀ (i j : Nat) (p q : Sp), sps[i]? = some p → sps[j]? = some q → i ≠ j → p.kind ≠ 4 → q.kind ≠ 4 → p.dst ≠ q.dst
  keys : ∀ (i j : Nat) (p q : Sp), sps[i]? = some p → sps[j]? = some q → i ≠ j → p.kind = 4 → q.kind = 4 → keyV p.r.s p.r.e ≠ keyV q.r.s q.r.e

theorem fits_of {sps : List Sp} {N : Nat} (h : okB sps N = true) (h' : apartB sps = true) : Fits sps N := by
  simp only [okB, apartB, Bool.and_eq_true, List.all_eq_true, decide_eq_true_eq] at h h'
  obtain ⟨⟨h1, h2⟩, h3⟩ := h
  have h2' := eq_of_beq h2
  refine ⟨h1, fun i q hq => ?_, h3, fun i j p q hp hq hij hk hk' => ?_, fun i j p q hp hq hij hk hk' e => ?_⟩
  · have e1 : (sps.map (·.i))[i]? = some q.i := by rw [List.getElem?_map, hq]; rfl
    rw [h2'] at e1
    have hi := (List.getElem?_eq_some_iff.1 hq).1
    rw [List.getElem?_range hi] at e1
    exact (Option.some.inj e1).symm
  · rcases pair_of (fun p q h => by rcases h with h | h | h; exact Or.inr (Or.inl h); exact Or.inl h; exact Or.inr (Or.inr (Ne.symm h))) h'.1 hp hq hij with h | h | h
    · exact absurd h hk
    · exact absurd h hk'
    · exact h
  · exact pair_of (R := fun p q => p.kind = 4 → q.kind = 4 → ¬ (p.r.s = q.r.s ∧ p.r.e = q.r.e)) (fun p q h a b e => h b a ⟨e.1.symm, e.2.symm⟩) h'.2 hp hq hij hk hk' (keyV_inj e)

theorem wrote_of {sps : List Sp} {j k t : Nat} {r : Rw} (h : wrote sps j k t r = true) : ∃ p, sps[j]? = some p ∧ p.kind = k ∧ p.dst = t ∧ p.r = r := by
  unfold wrote at h
  split at h
  · rename_i p hp
    simp only [Bool.and_eq_true, beq_iff_eq] at h
    exact ⟨p, hp, h.1.1, h.1.2, rEq_iff h.2⟩
  · cases h
theorem in64_of {x : Int} (h : in64B x = true) : In64 x := by simpa [in64B, In64] using h

/-! ### What each operation does -/
theorem build_key (s e : Int) (w : World) : (Instr.build 116 #[(0, .int .i64 s), (1, .int .i64 e)]).run Tryz.prog w = .ok (keyV s e) w := run_build w _ _ _ (by kernel_rfl)
def slot (a : Act) (t : Nat) : Value := a.tmps.getD t undef
theorem slot_put (a : Act) {d : Nat} (v : Value) (h : d < a.tmps.size) : slot (a.put (some d) v) d = v := by simp [slot, Act.put, h]
theorem slot_put_ne (a : Act) {d t : Nat} (v : Value) (h : d ≠ t) : slot (a.put (some d) v) t = slot a t := by
  unfold slot Act.put
  simp only [Array.getD_eq_getD_getElem?]
  rw [Array.getElem?_setIfInBounds_ne h]
theorem size_put (a : Act) (d : Option Nat) (v : Value) : (a.put d v).tmps.size = a.tmps.size := by cases d <;> simp [Act.put]
theorem defers_put (a : Act) (d : Option Nat) (v : Value) : (a.put d v).defers = a.defers := by cases d <;> rfl

/-! ### What holds while they come up -/
/-- Of those that have come up (L): keys, lists and entries lie in their slots; nothing that was there has turned. -/
structure Came (w0 : World) (N : Nat) (ds : List Deferred) (sps : List Sp) (L : Nat → Bool) (a : Act) (w : World) : Prop where
  kept : Kept (fun _ => False) w0 w
  size : a.tmps.size = N
  defers : a.defers = ds
  key : ∀ (i : Nat) (q : Sp), sps[i]? = some q → L i = true → q.kind = 1 → slot a q.dst = keyV q.r.s q.r.e

/-- The map has been made, in block mb: its entries are M. -/
structure Made (w0 : World) (sps : List Sp) (L : Nat → Bool) (a : Act) (w : World) (n mb : Nat) (M : List (Value × Value)) : Prop where
  lo : w0.heap.size ≤ mb
  assoc : Assoc w Tryz.prog 116 mb M
  room : M.length + n ≤ sps.length
  maps : ∀ (i : Nat) (q : Sp), sps[i]? = some q → L i = true → (q.kind = 0 ∨ 5 ≤ q.kind) → slot a q.dst = .map (some mb)
  ins : ∀ (i : Nat) (q : Sp), sps[i]? = some q → L i = true → q.kind = 4 → (keyV q.r.s q.r.e, .int .i64 q.r.n) ∈ M
  only : ∀ p ∈ M, ∃ (i : Nat) (q : Sp), sps[i]? = some q ∧ L i = true ∧ q.kind = 4 ∧ p.1 = keyV q.r.s q.r.e

def LitInv (w0 : World) (N : Nat) (ds : List Deferred) (sps : List Sp) (n : Nat) (L : Nat → Bool) (a : Act) (w : World) : Prop :=
  n ≤ sps.length ∧ Came w0 N ds sps L a w ∧ ((L 0 = false ∧ ∀ (i : Nat) (q : Sp), sps[i]? = some q → L i = true → q.kind = 1) ∨ (L 0 = true ∧ ∃ mb M, Made w0 sps L a w n mb M))
def also (L : Nat → Bool) (i : Nat) : Nat → Bool := fun j => if j = i then true else L j
theorem also_old {L : Nat → Bool} {i j : Nat} (h : also L i j = true) (hj : j ≠ i) : L j = true := by simpa [also, hj] using h

section
variable {w0 w w' : World} {N : Nat} {ds : List Deferred} {sps : List Sp} {L : Nat → Bool} {a : Act} {i : Nat} {q : Sp}

theorem Came.put (h : Came w0 N ds sps L a w) (F : Fits sps N) (hi : sps[i]? = some q) (hL : L i = false) (hk : q.kind ≠ 4) (hw : Kept (fun _ => False) w w') {v : Value}
    (h1 : q.kind = 1 → v = keyV q.r.s q.r.e) : Came w0 N ds sps (also L i) (a.put (some q.dst) v) w' := by
  have hlt : q.dst < a.tmps.size := by
    rw [h.size]
    have := F.ok q (List.mem_of_getElem? hi)
    unfold Sp.ok at this
    simp only [Bool.and_eq_true, decide_eq_true_eq] at this
    exact this.1.1.1.1
  have hself := slot_put a v hlt
  have hold : ∀ (j : Nat) (p : Sp), sps[j]? = some p → j ≠ i → p.kind ≠ 4 → slot (a.put (some q.dst) v) p.dst = slot a p.dst := fun j p hp hj hp4 => slot_put_ne a v (Ne.symm (F.ssa j i p q hp hi hj hp4 hk))
  refine ⟨h.kept.trans hw, by rw [size_put]; exact h.size, by rw [defers_put]; exact h.defers, fun j p hp hl hk1 => ?_⟩
  by_cases hj : j = i
  · subst hj
    rw [hi] at hp
    cases hp
    rw [hself]
    exact h1 hk1
  · rw [hold j p hp hj (by omega)]
    exact h.key j p hp (also_old hl hj) hk1

theorem Made.put {n mb : Nat} {M : List (Value × Value)} (h : Made w0 sps L a w (n + 1) mb M) (F : Fits sps N) (hs : a.tmps.size = N) (hi : sps[i]? = some q) (hL : L i = false) (hk : q.kind ≠ 4) (hw : Kept (fun _ => False) w w') {v : Value}
    (hm : (q.kind = 0 ∨ 5 ≤ q.kind) → v = .map (some mb)) : Made w0 sps (also L i) (a.put (some q.dst) v) w' n mb M := by
  have hlt : q.dst < a.tmps.size := by
    rw [hs]
    have := F.ok q (List.mem_of_getElem? hi)
    unfold Sp.ok at this
    simp only [Bool.and_eq_true, decide_eq_true_eq] at this
    exact this.1.1.1.1
  refine ⟨h.lo, h.assoc.same (hw.block mb h.assoc.lt id), by have := h.room; omega, fun j p hp hl hk0 => ?_, fun j p hp hl hk4 => ?_, fun p hp => ?_⟩
  · by_cases hj : j = i
    · subst hj
      rw [hi] at hp
      cases hp
      rw [slot_put a v hlt]
      exact hm hk0
    · rw [slot_put_ne a v (Ne.symm (F.ssa j i p q hp hi hj (by omega) hk))]
      exact h.maps j p hp (also_old hl hj) hk0
  · by_cases hj : j = i
    · subst hj
      rw [hi] at hp
      cases hp
      exact absurd hk4 hk
    · exact h.ins j p hp (also_old hl hj) hk4
  · obtain ⟨j, p', e1, e2, e3, e4⟩ := h.only p hp
    exact ⟨j, p', e1, by unfold also; split <;> simp_all, e3, e4⟩

/-- An entry is put into the map. -/
theorem Came.ins {mb : Nat} (h : Came w0 N ds sps L a w) (hi : sps[i]? = some q) (hk : q.kind = 4) (hlo : w0.heap.size ≤ mb) (hw : Kept (fun k => k = mb) w w') : Came w0 N ds sps (also L i) a w' := by
  have hne : ∀ (j : Nat) (p : Sp), sps[j]? = some p → p.kind ≠ 4 → j ≠ i := fun j p hp hp4 e => by
    subst e
    rw [hi] at hp
    cases hp
    exact hp4 hk
  exact ⟨h.kept.andThen hw (fun j hj e => by omega), h.size, h.defers, fun j p hp hl hk1 => h.key j p hp (also_old hl (hne j p hp (by omega))) hk1⟩

def Phase (w0 : World) (sps : List Sp) (n : Nat) (L : Nat → Bool) (a : Act) (w : World) : Prop :=
  (L 0 = false ∧ ∀ (i : Nat) (q : Sp), sps[i]? = some q → L i = true → q.kind = 1) ∨ (L 0 = true ∧ ∃ mb M, Made w0 sps L a w n mb M)
theorem Phase.put {n : Nat} (h : Phase w0 sps (n + 1) L a w) (F : Fits sps N) (hs : a.tmps.size = N) (hi : sps[i]? = some q) (hL : L i = false) (h0 : i ≠ 0) (hk1 : q.kind = 1) (hw : Kept (fun _ => False) w w') (v : Value) : Phase w0 sps n (also L i) (a.put (some q.dst) v) w' := by
  have e0 : also L i 0 = L 0 := by simp [also, h0.symm]
  rcases h with ⟨hz, hall⟩ | ⟨hz, mb, M, hM⟩
  · refine Or.inl ⟨e0.trans hz, fun j p hp hl => ?_⟩
    by_cases hj : j = i
    · subst hj
      rw [hi] at hp
      cases hp
      exact hk1
    · exact hall j p hp (also_old hl hj)
  · exact Or.inr ⟨e0.trans hz, mb, M, hM.put F hs hi hL (by omega) hw (fun h => by omega)⟩

theorem step_value {P : Program} {ops : Array Oper} {Q : Exit → Act → World → Prop} {K : Act → World → Prop} {o : Oper} {v : Value} (ho : ops[i]? = some o) (hg : o.guard = none) (hr : (execOp a.eval o).run P w = .ok (.value v) w') (h : K (a.put o.dst v) w') : wpOp P ops Q i K a w := by
  unfold wpOp
  rw [ho]
  simp only [Region.wanted, hg, if_true]
  left
  unfold Oper.wp
  rw [hr]
  exact h
theorem step_skip' {P : Program} {ops : Array Oper} {Q : Exit → Act → World → Prop} {K : Act → World → Prop} {o : Oper} (ho : ops[i]? = some o) (hg : o.guard = none) (hr : (execOp a.eval o).run P w = .ok .skip w') (h : K (a.put o.dst undef) w') : wpOp P ops Q i K a w := by
  unfold wpOp
  rw [ho]
  simp only [Region.wanted, hg, if_true]
  left
  unfold Oper.wp
  rw [hr]
  exact h
end

set_option maxHeartbeats 1000000 in
theorem lit_step {sps : List Sp} {N : Nat} (F : Fits sps N) (h0 : ∃ q, sps[0]? = some q ∧ q.kind = 0 ∧ q.dst = 1) (pos : String) (w0 : World) (ds : List Deferred) (Q : Exit → Act → World → Prop) (n : Nat) (L : Nat → Bool) (a : Act) (w : World) (i : Nat) (o : Oper)
    (hI : LitInv w0 N ds sps (n + 1) L a w) (ho : ((sps.map (Sp.oper pos)).toArray)[i]? = some o) (hL : L i = false) (he : ∀ e ∈ o.after, Region.binds .any e = true → L e.on = true) :
    wpOp Tryz.prog (sps.map (Sp.oper pos)).toArray Q i (fun a' w' => LitInv w0 N ds sps n (also L i) a' w') a w := by
  obtain ⟨q, hq, rfl⟩ : ∃ q, sps[i]? = some q ∧ q.oper pos = o := by
    rw [List.getElem?_toArray, List.getElem?_map] at ho
    cases hq : sps[i]? with
    | none => rw [hq] at ho; cases ho
    | some q => rw [hq] at ho; exact ⟨q, rfl, Option.some.inj ho⟩
  have hok := F.ok q (List.mem_of_getElem? hq)
  have hqi := F.num i q hq
  obtain ⟨⟨kind, qi, dst, x, y, z, ix, iy, iz, r⟩, hqq⟩ : ∃ q', q' = q := ⟨q, rfl⟩
  subst hqq
  simp only at hqi
  subst hqi
  unfold Sp.ok at hok
  simp only [Bool.and_eq_true, decide_eq_true_eq] at hok
  obtain ⟨⟨⟨⟨hlt, haf⟩, h64s⟩, h64e⟩, hkd⟩ := hok
  have hb : ∀ e ∈ (Sp.mk kind qi dst x y z ix iy iz r).after, L e.on = true := fun e hem => he e hem (by
    rw [Array.all_eq_true_iff_forall_mem] at haf
    have := haf e hem
    simp only [Bool.and_eq_true] at this
    exact this.2)
  obtain ⟨hnn, hC, hD⟩ := hI
  have hnn' : n ≤ sps.length := by omega
  obtain ⟨qm, hqm0, hqm1, hqm2⟩ := h0
  have hi0 : kind ≠ 0 → qi ≠ 0 := fun hk e => by
    subst e
    rw [hq] at hqm0
    cases hqm0
    exact hk hqm1
  match kind, hq, ho, he, haf, hb, hkd, hi0 with
  | 0, hq, ho, he, haf, hb, hkd, hi0 =>
    simp only [beq_iff_eq] at hkd
    subst hkd
    refine step_value (v := .map (some w.heap.size)) (w' := w.alloc (.map #[] 0)) ho rfl (by simp [execOp, Sp.oper, Sp.op, run_makeMap]) ?_
    have hw : Kept (fun _ => False) w (w.alloc (.map #[] 0)) := (Kept.refl _ w).alloc _
    refine ⟨hnn', hC.put F hq hL (by simp) hw (fun h => by cases h), Or.inr ⟨by simp [also], w.heap.size, [], ?_⟩⟩
    rcases hD with ⟨hz, hall⟩ | ⟨hz, _⟩
    · refine ⟨hC.kept.size, Assoc.made w _ _, by simpa using hnn', fun j p hp hl hk0 => ?_, fun j p hp hl hk4 => ?_, fun p hp => by cases hp⟩
      · by_cases hj : j = 0
        · subst hj
          rw [hq] at hp
          cases hp
          exact slot_put a _ (by rw [hC.size]; exact hlt)
        · have := hall j p hp (also_old hl hj)
          omega
      · by_cases hj : j = 0
        · subst hj
          rw [hq] at hp
          cases hp
          cases hk4
        · have := hall j p hp (also_old hl hj)
          omega
    · rw [hL] at hz
      cases hz
  | 1, hq, ho, he, haf, hb, hkd, hi0 =>
    refine step_value (v := keyV r.s r.e) (w' := w) ho rfl (by simp [execOp, Sp.oper, Sp.op, Act.eval, build_key]) ?_
    exact ⟨hnn', hC.put F hq hL (by simp) (Kept.refl _ w) (fun _ => rfl), Phase.put hD F hC.size hq hL (hi0 (by simp)) rfl (Kept.refl _ w) _⟩
  | 4, hq, ho, he, haf, hb, hkd, hi0 =>
    simp only [Bool.and_eq_true, beq_iff_eq] at hkd
    obtain ⟨⟨rfl, rfl⟩, hw1⟩ := hkd
    obtain ⟨p1, hp1, hp1k, hp1d, hp1r⟩ := wrote_of hw1
    have hL0 : L 0 = true := hb ⟨0, .data⟩ (by simp [Sp.after])
    have hL1 : L iy = true := hb ⟨iy, .data⟩ (by simp [Sp.after])
    rcases hD with ⟨hz, _⟩ | ⟨_, mb, M, hM⟩
    · rw [hL0] at hz
      cases hz
    · have e1 := hC.key iy p1 hp1 hL1 hp1k
      have e0 := hM.maps 0 qm hqm0 hL0 (Or.inl hqm1)
      rw [hp1d, hp1r] at e1
      rw [hqm2] at e0
      obtain ⟨kl, hkl⟩ := key_reads (in64_of h64s) (in64_of h64e)
      have hfar : ∀ p ∈ M, p.1 ≠ keyV r.s r.e := fun p hp e => by
        obtain ⟨j, q', h1, h2, h3, h4⟩ := hM.only p hp
        have hj : j ≠ qi := fun e => by
          subst e
          rw [hL] at h2
          cases h2
        exact F.keys j qi q' _ h1 hq hj h3 rfl (h4.symm.trans e)
      obtain ⟨w', hrun, hA, hT⟩ := hM.assoc.store (e := 3) keyLaw Tryz.underlying113 (by have := hM.room; have := F.small; unfold maxLen; omega) (val := .int .i64 r.n) hkl (Or.inl ⟨List.Perm.refl M, hfar⟩)
      have hk : Kept (fun k => k = mb) w w' := (Kept.refl _ w).grown hT.grown (fun j hj => Or.inr (Option.some.inj hj).symm)
      refine step_skip' (w' := w') ho rfl ?_ ?_
      · simp only [execOp, Sp.oper, Sp.op, Act.eval]
        rw [show a.tmps.getD 1 undef = .map (some mb) from e0, show a.tmps.getD y undef = keyV r.s r.e from e1]
        simp only [Sem.run_bind, hrun, Result.andThen_ok]
        rfl
      · refine ⟨hnn', hC.ins hq rfl hM.lo hk, Or.inr ⟨by simp [also, hL0], mb, _, hM.lo, hA, by have := hM.room; simp; omega, fun j p hp hl hk0 => ?_, fun j p hp hl hk4 => ?_, fun p hp => ?_⟩⟩
        · refine hM.maps j p hp (also_old hl (fun e => ?_)) hk0
          subst e
          rw [hq] at hp
          cases hp
          simp at hk0
        · by_cases hj : j = qi
          · subst hj
            rw [hq] at hp
            cases hp
            exact List.mem_cons_self ..
          · exact List.mem_cons_of_mem _ (hM.ins j p hp (also_old hl hj) hk4)
        · rcases List.mem_cons.1 hp with rfl | hp
          · exact ⟨qi, _, hq, by simp [also], rfl, rfl⟩
          · obtain ⟨j, p', h1, h2, h3, h4⟩ := hM.only p hp
            exact ⟨j, p', h1, by unfold also; split <;> simp_all, h3, h4⟩
  | 5, hq, ho, he, haf, hb, hkd, hi0 =>
    simp only [Bool.and_eq_true, beq_iff_eq] at hkd
    obtain ⟨rfl, rfl⟩ := hkd
    have hpos : 0 < qi := by have := hi0 (by simp); omega
    have hL0 : L 0 = true := hb ⟨0, .data⟩ (by simp [Sp.after, hpos])
    rcases hD with ⟨hz, _⟩ | ⟨_, mb, M, hM⟩
    · rw [hL0] at hz
      cases hz
    · have e0 := hM.maps 0 qm hqm0 hL0 (Or.inl hqm1)
      rw [hqm2] at e0
      refine step_value (v := .map (some mb)) (w' := w) ho rfl ?_ ?_
      · simp only [execOp, Sp.oper, Sp.op, Act.eval]
        rw [show a.tmps.getD 1 undef = .map (some mb) from e0]
        rfl
      · exact ⟨hnn', hC.put F hq hL (by simp) (Kept.refl _ w) (fun h => by cases h), Or.inr ⟨by simp [also, hL0], mb, M, hM.put F hC.size hq hL (by simp) (Kept.refl _ w) (fun _ => rfl)⟩⟩
  | 6, hq, ho, he, haf, hb, hkd, hi0 =>
    have hpos : 0 < qi := by have := hi0 (by simp); omega
    have hL0 : L 0 = true := hb ⟨0, .phase⟩ (by simp [Sp.after, hpos])
    have hLx : L ix = true := hb ⟨ix, .data⟩ (by simp [Sp.after])
    rcases hD with ⟨hz, _⟩ | ⟨_, mb, M, hM⟩
    · rw [hL0] at hz
      cases hz
    · simp only at hkd
      split at hkd
      · rename_i p hp
        simp only [Bool.and_eq_true, beq_iff_eq] at hkd
        have e0 := hM.maps ix p hp hLx (Or.inr (by omega))
        rw [hkd.2] at e0
        refine step_value (v := .map (some mb)) (w' := w) ho rfl ?_ ?_
        · simp only [execOp, Sp.oper, Sp.op, Act.eval]
          rw [show a.tmps.getD x undef = .map (some mb) from e0]
          rfl
        · exact ⟨hnn', hC.put F hq hL (by simp) (Kept.refl _ w) (fun h => by cases h), Or.inr ⟨by simp [also, hL0], mb, M, hM.put F hC.size hq hL (by simp) (Kept.refl _ w) (fun _ => rfl)⟩⟩
      · cases hkd
  | 2, hq, ho, he, haf, hb, hkd, hi0 => simp at hkd
  | 3, hq, ho, he, haf, hb, hkd, hi0 => simp at hkd
  | k + 7, hq, ho, he, haf, hb, hkd, hi0 => simp at hkd

/-- What a literal leaves: a map in a block of its own, an entry for each row, no other. -/
def LitIs (w0 w : World) (v : Value) (rs : List Rw) : Prop :=
  ∃ mb M, v = .map (some mb) ∧ w0.heap.size ≤ mb ∧ Assoc w Tryz.prog 116 mb M ∧ (∀ r ∈ rs, (keyV r.s r.e, .int .i64 r.n) ∈ M) ∧ ∀ p ∈ M, ∃ r ∈ rs, p.1 = keyV r.s r.e

theorem lit_region (pos : String) (rs : List Rw) (N : Nat) (hok : okB (litSps rs) N = true) (hap : apartB (litSps rs) = true) (hrs : ((litSps rs).filter (fun q => q.kind == 4)).map (·.r) = rs) (hlast : (litSps rs).any (fun q => q.kind == 6 && q.dst == 0) = true)
    {Q : Exit → Act → World → Prop} {id : Nat} {a : Act} {w : World} (hN : a.tmps.size = N) (hQ : ∀ a' w', Kept (fun _ => False) w w' → a'.tmps.size = N → a'.defers = a.defers → (∃ v, slot a' 0 = v ∧ LitIs w w' v rs) → Q .normal a' w') :
    (Code.region id (litOps pos rs) true).wp Tryz.prog Q a w := by
  have F := fits_of hok hap
  have hsz : (litOps pos rs).size = (litSps rs).length := by simp [litOps]
  have hget : ∀ (i : Nat) (o : Oper), (litOps pos rs)[i]? = some o → ∃ q, (litSps rs)[i]? = some q ∧ q.oper pos = o := fun i o ho => by
    unfold litOps at ho
    rw [List.getElem?_toArray, List.getElem?_map] at ho
    cases hq : (litSps rs)[i]? with
    | none => rw [hq] at ho; cases ho
    | some q => rw [hq] at ho; exact ⟨q, rfl, Option.some.inj ho⟩
  refine wp_region_inv (fun n L a' w' => LitInv w N a.defers (litSps rs) n L a' w') (by kernel_rfl) ?_ ?_ ?_ ?_
  · intro i o ho e hem
    obtain ⟨q, hq, rfl⟩ := hget i o ho
    have h1 := F.ok q (List.mem_of_getElem? hq)
    have h2 := F.num i q hq
    unfold Sp.ok at h1
    simp only [Bool.and_eq_true, decide_eq_true_eq] at h1
    have h3 := h1.1.1.1.2
    rw [Array.all_eq_true_iff_forall_mem] at h3
    have h4 := h3 e hem
    simp only [Bool.and_eq_true, decide_eq_true_eq] at h4
    omega
  · intro n L a' w' i o hI ho hL he
    exact lit_step F ⟨_, rfl, rfl, rfl⟩ pos w a.defers Q n L a' w' i o hI ho hL he
  · intro n L a' w' hI hall
    rw [hsz] at hall
    obtain ⟨_, hC, hD⟩ := hI
    have h0 : L 0 = true := hall 0 (by simp [litSps])
    rcases hD with ⟨hz, _⟩ | ⟨_, mb, M, hM⟩
    · rw [h0] at hz
      cases hz
    · refine hQ a' w' hC.kept hC.size hC.defers ⟨_, rfl, mb, M, ?_, hM.lo, hM.assoc, fun r hr => ?_, fun p hp => ?_⟩
      · obtain ⟨q, hq, hqk⟩ := List.any_eq_true.1 hlast
        simp only [Bool.and_eq_true, beq_iff_eq] at hqk
        obtain ⟨i, hi⟩ := List.mem_iff_getElem?.1 hq
        have := hM.maps i q hi (hall i (List.getElem?_eq_some_iff.1 hi).1) (Or.inr (by omega))
        rw [hqk.2] at this
        exact this
      · rw [← hrs] at hr
        obtain ⟨q, hq, rfl⟩ := List.mem_map.1 hr
        rw [List.mem_filter] at hq
        obtain ⟨i, hi⟩ := List.mem_iff_getElem?.1 hq.1
        exact hM.ins i q hi (hall i (List.getElem?_eq_some_iff.1 hi).1) (by simpa using hq.2)
      · obtain ⟨i, q, h1, h2, h3, h4⟩ := hM.only p hp
        refine ⟨q.r, ?_, h4⟩
        rw [← hrs]
        exact List.mem_map.2 ⟨q, List.mem_filter.2 ⟨List.mem_of_getElem? h1, by simp [h3]⟩, rfl⟩
  · intro L hL
    rw [hsz] at hL ⊢
    have hno : ∀ (i : Nat) (q : Sp), (litSps rs)[i]? = some q → L i = true → False := fun i q hq hl => by
      rw [hL i (List.getElem?_eq_some_iff.1 hq).1] at hl
      cases hl
    exact ⟨Nat.le_refl _, ⟨(Kept.refl _ w).drew, hN, rfl, fun i q hq hl => (hno i q hq hl).elim⟩, Or.inl ⟨hL 0 (by simp [litSps]), fun i q hq hl => (hno i q hq hl).elim⟩⟩

def lengthsR : List Rw := [⟨0, 39, 0⟩, ⟨0, 0, 2⟩, ⟨0, 2, 2⟩, ⟨0, 9, 2⟩, ⟨0, 10, 2⟩, ⟨0, 14, 2⟩, ⟨0, 29, 2⟩, ⟨0, 32, 2⟩, ⟨0, 3, 4⟩, ⟨0, 15, 4⟩, ⟨0, 19, 4⟩, ⟨0, 24, 4⟩, ⟨0, 5, 8⟩, ⟨0, 13, 16⟩, ⟨0, 1, (-1)⟩, ⟨0, 7, (-1)⟩, ⟨0, 11, (-1)⟩, ⟨0, 26, (-1)⟩, ⟨0, 27, (-1)⟩, ⟨0, 28, (-1)⟩, ⟨0, 30, (-1)⟩, ⟨0, 31, (-1)⟩, ⟨0, 33, (-1)⟩, ⟨0, 34, (-1)⟩, ⟨0, 35, (-1)⟩, ⟨0, 36, (-1)⟩]
set_option maxHeartbeats 4000000 in
set_option maxRecDepth 100000 in
theorem lengths_any (w : World) : Calls Tryz.prog 109 #[] w fun e w' => ∃ v, e = .returned v ∧ LitIs w w' v lengthsR ∧ Kept (fun _ => False) w w' := by
  go_enter Tryz.func109, Tryz.ntmps109
  go_wp2
  refine lit_region "length.go:24" lengthsR 29 (by kernel_rfl) (by kernel_rfl) (by kernel_rfl) (by kernel_rfl) (by rfl) ?_
  rintro ⟨tm, df⟩ w' hk hs hd ⟨v, hv, hl⟩
  simp only at hs hd
  subst hd
  go_wp2
  refine bodyPost_ret (v := v) ?_ rfl ⟨v, rfl, hl, hk⟩
  simp [results, Tryz.results109, go_sem]
  simpa [slot, Array.getD_eq_getD_getElem?] using hv
end Go.Proofs.YtnghakhgogfemaaGreatDoor.AvLit

namespace Go.Proofs.YtnghakhgogfemaaGreatDoor
open Go.RowKit

def lengthF (k : Int) : Int := match AvLit.lengthsR.find? (fun r => r.e == k) with | some r => r.n | none => -2
theorem len_rows : AvLit.lengthsR.all (fun r => (lengthF r.e == r.n) && (r.s == 0)) = true := by rfl
theorem key_one {w : World} {P : Program} {t : TypeId} {b : Nat} {M : List (Value × Value)} (h : Assoc w P t b M) {k v u : Value} (hv : (k, v) ∈ M) (hu : (k, u) ∈ M) : v = u := by
  obtain ⟨i, hi⟩ := List.mem_iff_getElem?.1 hv
  obtain ⟨j, hj⟩ := List.mem_iff_getElem?.1 hu
  have hp := List.pairwise_iff_getElem.1 h.keys
  obtain ⟨hi', ei⟩ := List.getElem?_eq_some_iff.1 hi
  obtain ⟨hj', ej⟩ := List.getElem?_eq_some_iff.1 hj
  rcases Nat.lt_trichotomy i j with hlt | rfl | hlt
  · have := hp i j hi' hj' hlt
    rw [ei, ej] at this
    exact absurd rfl this
  · rw [hi] at hj
    exact congrArg Prod.snd (Option.some.inj hj)
  · have := hp j i hj' hi' hlt
    rw [ei, ej] at this
    exact absurd rfl this
theorem len_look {w0 w : World} {v : Value} (h : AvLit.LitIs w0 w v AvLit.lengthsR) (k : Int) (hk : AvLit.In64 k) :
    (Instr.lookup 113 v (AvLit.keyV 0 k) true).run Tryz.prog w = .ok (.tuple #[.int .i64 (lengthF k), .bool true]) w ∨ (lengthF k = -2 ∧ (Instr.lookup 113 v (AvLit.keyV 0 k) true).run Tryz.prog w = .ok (.tuple #[.int .i64 0, .bool false]) w) := by
  obtain ⟨mb, M, rfl, hlo, hA, h1, h2⟩ := h
  obtain ⟨kl, hkl⟩ := AvLit.key_reads (k := 0) (i := k) ⟨by decide, by decide⟩ hk
  rcases hA.look true AvLit.keyLaw Tryz.underlying113 (AvLit.zeroEn w) hkl with ⟨hn, hr⟩ | ⟨u, hu, hr⟩
  · refine Or.inr ⟨?_, hr⟩
    unfold lengthF
    cases hf : AvLit.lengthsR.find? (fun r => r.e == k) with
    | none => rfl
    | some r =>
      have hm := List.mem_of_find?_eq_some hf
      have hp := List.find?_some hf
      have ha := List.all_eq_true.1 len_rows r hm
      simp only [Bool.and_eq_true, beq_iff_eq] at ha hp
      have := h1 r hm
      rw [ha.2, hp] at this
      exact absurd rfl (hn _ this)
  · left
    obtain ⟨r, hm, he⟩ := h2 _ hu
    have ha := List.all_eq_true.1 len_rows r hm
    simp only [Bool.and_eq_true, beq_iff_eq] at ha
    obtain ⟨e1, e2⟩ := AvLit.keyV_inj he
    have h3 := h1 r hm
    rw [← e1, ← e2] at h3
    have := key_one hA hu h3
    rw [hr, this, e2, ha.1]
    rfl

set_option maxHeartbeats 1000000 in
set_option maxRecDepth 100000 in
theorem length_any (k : Int) (hk : AvLit.In64 k) (w : World) : Calls Tryz.prog 23 #[.int .i64 k] w fun e w' => e = .returned (.int .i64 (lengthF k)) ∧ Kept (fun _ => False) w w' := by
  have HL := hid (AvLit.lengths_any w)
  have HK := hid (fun (w0 w : World) (v : Value) (h : AvLit.LitIs w0 w v AvLit.lengthsR) => len_look h k hk)
  obtain ⟨R, hR⟩ : ∃ R, R = lengthF k := ⟨_, rfl⟩
  rw [← hR] at HK ⊢
  clear hR hk
  unfold AvLit.keyV at HK
  go_enter Tryz.func23, Tryz.ntmps23
  go_wp2_with fail
  refine HL.out.mono ?_
  rintro e w1 ⟨v, rfl, hl, hk1⟩
  have HK1 := hid hk1
  rcases HK.out _ _ _ hl with hr | ⟨h2, hr⟩
  · clear hk1 hl HK HL
    go_wp2
    go_ret
    exact ⟨rfl, HK1.out⟩
  · have H2 := hid h2
    clear hk1 hl HK HL h2
    go_wp2
    go_ret
    exact ⟨by rw [H2.out]; rfl, HK1.out⟩

/-- Few and short values. -/
def sizeA (l : List Av) : Nat := (l.map (fun x => x.value.size)).sum
theorem sizeA_snoc (l : List Av) (x : Av) : sizeA (l ++ [x]) = sizeA l + x.value.size := by simp [sizeA]
def lightA (l : List Av) : Bool := decide (l.length ≤ 50) && decide (sizeA (l.take 60) ≤ 6000)
theorem sizeA_mem {l : List Av} {x : Av} (h : x ∈ l) : x.value.size ≤ sizeA l := by
  induction l with
  | nil => cases h
  | cons a r ih =>
    have e : sizeA (a :: r) = a.value.size + sizeA r := by simp [sizeA]
    rcases List.mem_cons.1 h with rfl | h
    · omega
    · have := ih h
      omega
theorem lightA_true {l : List Av} (h : lightA l = true) : l.length ≤ 50 ∧ ∀ x ∈ l, x.value.size ≤ 6000 := by
  simp only [lightA, Bool.and_eq_true, decide_eq_true_eq] at h
  obtain ⟨h1, h2⟩ := h
  rw [List.take_of_length_le (by omega)] at h2
  exact ⟨h1, fun x hx => Nat.le_trans (sizeA_mem hx) h2⟩

set_option maxHeartbeats 2000000 in
set_option maxRecDepth 100000 in
theorem lightA_any (v : Value) (l : List Av) (w : World) (hv : AvsAt w v l) (hl : l.length ≤ maxLen) (hsz : ∀ x ∈ l, x.value.size ≤ 140737488351232) :
    Calls Tryz.prog 4 #[v] w fun e w' => e = .returned (.bool (lightA l)) ∧ Kept (fun _ => False) w w' := by
  unfold maxLen at hl
  obtain ⟨p, cap, rfl⟩ := RowsAt.slice hv
  have Hat : Hid (∀ (j : Nat) (x : Av), l[j]? = some x → ∃ g o, p = some ⟨g, o, none⟩ ∧ l.length ≤ cap ∧ w.cell? ⟨g, o + j * 5, none⟩ = some (.bool x.must) ∧ w.cell? ⟨g, o + j * 5 + 1, none⟩ = some (.bool x.hidden) ∧ w.cell? ⟨g, o + j * 5 + 2, none⟩ = some (.int .i64 x.vendor) ∧ w.cell? ⟨g, o + j * 5 + 3, none⟩ = some (.int .i64 x.type) ∧ w.cell? ⟨g, o + j * 5 + 4, none⟩ = some (.string x.value)) :=
    fun j x hj => AvsAt.at5 hv hj
  have Hsz := hid hsz
  have hlz : (l.length : Int) ≤ 9223372036854775807 := by omega
  clear hv hsz
  go_enter Tryz.func4, Tryz.ntmps4
  go_wp2
  go_loopw [3, 4] (fun vn vi wr => ∃ j n : Nat, j ≤ l.length ∧ j ≤ 60 ∧ vi = .int .i64 (j : Int) ∧ vn = .int .i64 (n : Int) ∧ n ≤ j * 140737488351232 ∧ Hid (n = sizeA (l.take j) ∧ wr = w)) (fun _ vi _ => 60 - (intOf vi).toNat)
  case atStart => exact ⟨0, 0, Nat.zero_le _, Nat.zero_le _, rfl, rfl, Nat.zero_le _, rfl, rfl⟩
  case round =>
    obtain ⟨j, n, hj, hj6, rfl, rfl, hn, HI⟩ := hrel
    obtain rfl : wr = w := HI.out.2
    have HA := hid HI.out.1
    clear HI
    by_cases hc : j < l.length ∧ j < 60
    · have hltz : (j : Int) < (l.length : Int) := by omega
      have h5z : (j : Int) < 60 := by omega
      obtain ⟨x, hx⟩ : ∃ x, l[j]? = some x := ⟨l[j]'hc.1, by simp [hc.1]⟩
      obtain ⟨g, o, rfl, hcap, c0, c1, c2, c3, c4⟩ := Hat.out j x hx
      have hxs := Hsz.out x (List.mem_of_getElem? hx)
      have R : Hid (n + x.value.size = sizeA (l.take (j + 1))) := by
        show _ = _
        rw [take_next hx, sizeA_snoc, HA.out]
      clear hx
      go_wp2
      exact ⟨⟨j + 1, n + x.value.size, by omega, by omega, by go_num, by go_num, by omega, R.out, by first | rfl | trivial⟩, by simp [intOf]; omega⟩
    · have hst : Hid (sizeA (l.take j) = sizeA (l.take 60) ∨ 50 < l.length) := by
        by_cases h6 : j = 60
        · exact Or.inl (by rw [h6])
        · refine Or.inl ?_
          show _ = _
          rw [List.take_of_length_le (by omega), List.take_of_length_le (by omega)]
      by_cases h1 : j < l.length
      · have hltz : (j : Int) < (l.length : Int) := by omega
        have h5z : ¬ (j : Int) < 60 := by omega
        have h5 : ¬ (l.length : Int) ≤ 50 := by omega
        have HF : Hid (lightA l = false) := by
          show _ = _
          unfold lightA
          rw [show decide (l.length ≤ 50) = false from by rw [decide_eq_false_iff_not]; omega, Bool.false_and]
        clear hc hst
        go_wp2
        go_ret
        exact ⟨by rw [HF.out]; rfl, Kept.refl _ _⟩
      · have hltz : ¬ (j : Int) < (l.length : Int) := by omega
        by_cases h5 : (l.length : Int) ≤ 50
        · have hL : l.take 60 = l.take j := by rw [List.take_of_length_le (by omega), List.take_of_length_le (by omega)]
          have HF : Hid (lightA l = decide ((n : Int) ≤ 6000)) := by
            show _ = _
            unfold lightA
            rw [hL, ← HA.out, show decide (l.length ≤ 50) = true from by rw [decide_eq_true_iff]; omega, Bool.true_and, decide_eq_decide]
            omega
          clear hc hst hL
          go_wp2
          go_ret
          exact ⟨by rw [HF.out]; rfl, Kept.refl _ _⟩
        · have HF : Hid (lightA l = false) := by
            show _ = _
            unfold lightA
            rw [show decide (l.length ≤ 50) = false from by rw [decide_eq_false_iff_not]; omega, Bool.false_and]
          clear hc hst
          go_wp2
          go_ret
          exact ⟨by rw [HF.out]; rfl, Kept.refl _ _⟩
end Go.Proofs.YtnghakhgogfemaaGreatDoor

namespace Go.Proofs.YtnghakhgogfemaaGreatDoor
open Go.RowKit

theorem lowI_snoc (v : Int) (k j : Nat) (h : j < k) : lowI (v / 256 ^ (k - (j + 1))) (j + 1) = lowI (v / 256 ^ (k - j)) j ++ [UInt8.ofNat (v / 2 ^ (8 * (k - 1 - j)) % 256).toNat] := by
  have e : v / 256 ^ (k - (j + 1)) / 256 = v / 256 ^ (k - j) := by
    rw [Int.ediv_ediv_of_nonneg (by exact Int.le_of_lt (Int.pow_pos (by decide))), show (256 : Int) ^ (k - (j + 1)) * 256 = 256 ^ (k - j) from by rw [← Int.pow_succ]; congr 1; omega]
  have e2 : (2 : Int) ^ (8 * (k - 1 - j)) = 256 ^ (k - (j + 1)) := by
    rw [Int.pow_mul, show k - 1 - j = k - (j + 1) by omega]
    rfl
  rw [lowI, e, e2]
theorem cells_snocI (l : List UInt8) (m : Int) (h0 : 0 ≤ m) (h : m < 256) : Lib.byteCells (l ++ [UInt8.ofNat m.toNat]) = Lib.byteCells l ++ [Value.int .u8 m] := by
  have e := cells_snoc l m.toNat (by omega)
  rw [e]
  congr 3
  omega
def numV (v n : Int) : ByteArray := if n < 1 ∨ 8 < n then ⟨#[]⟩ else ⟨(lowI v n.toNat).toArray⟩
theorem numL_step {base : Nat} {w wr w1 : World} {u v' : Value} {k j : Nat} {v : Int} {o : Obj} (hj : j < k) (hw : base ≤ wr.heap.size) (hbel : Kept (fun _ => False) w wr) (hbw : w.heap.size ≤ base)
    (hown : wr.ownsRow base 5 1 u j (Lib.byteCells (lowI (v / 256 ^ (k - j)) j)))
    (hown' : w1.ownsRow base 5 1 v' (j + 1) (Lib.byteCells (lowI (v / 256 ^ (k - j)) j) ++ [Value.int .u8 (v / 2 ^ (8 * (k - 1 - j)) % 256)]))
    (hg : (wr.alloc o).grownBy w1 u.ownBlock) :
    w1.ownsRow base 5 1 v' (j + 1) (Lib.byteCells (lowI (v / 256 ^ (k - (j + 1))) (j + 1))) ∧ Kept (fun _ => False) w w1 ∧ base ≤ w1.heap.size := by
  have hs : (wr.alloc o).heap.size = wr.heap.size + 1 := by simp
  have hs1 := hg.size
  refine ⟨?_, (hbel.alloc o).grown hg (fun i hi => Or.inl (Nat.le_trans hbw (hown.lt i hi).1)), by omega⟩
  rw [lowI_snoc v k j hj, cells_snocI _ _ (Int.emod_nonneg _ (by decide)) (Int.emod_lt_of_pos _ (by decide))]
  exact hown'

set_option maxHeartbeats 4000000 in
set_option maxRecDepth 100000 in
theorem num_any (kind v n : Int) (hn : -9223372036854775808 ≤ n ∧ n ≤ 9223372036854775807) (w : World) :
    Calls Tryz.prog 21 #[.int .i64 kind, .int .i64 v, .int .i64 n] w fun e w' => e = .returned (avV ⟨true, false, 0, kind, numV v n⟩) ∧ Kept (fun _ => False) w w' := by
  obtain ⟨i0, hi, hz0, hz1, hz2⟩ := info_parts info5
  have hk0 : Kept (fun _ => False) w (w.alloc (.cells #[.bool false, .bool false, .int .i64 0, .int .i64 0, .string ⟨#[]⟩] 59)) := (Kept.refl (fun _ => False) w).alloc _
  have hs0 : (w.alloc (.cells #[.bool false, .bool false, .int .i64 0, .int .i64 0, .string ⟨#[]⟩] 59)).heap.size = w.heap.size + 1 := by simp
  have HZ : Hid (AvAt ((w.alloc (.cells #[.bool false, .bool false, .int .i64 0, .int .i64 0, .string ⟨#[]⟩] 59)).alloc (.cells #[.bool true, .bool false, .int .i64 0, .int .i64 kind, .string ⟨#[]⟩] 59)) w.heap.size av0) := (AvAt.new w av0).kept0 ((Kept.refl _ _).alloc _)
  have HT : Hid (AvAt ((w.alloc (.cells #[.bool false, .bool false, .int .i64 0, .int .i64 0, .string ⟨#[]⟩] 59)).alloc (.cells #[.bool true, .bool false, .int .i64 0, .int .i64 kind, .string ⟨#[]⟩] 59)) (w.heap.size + 1) ⟨true, false, 0, kind, ⟨#[]⟩⟩) := by
    have h := AvAt.new (w.alloc (.cells #[.bool false, .bool false, .int .i64 0, .int .i64 0, .string ⟨#[]⟩] 59)) ⟨true, false, 0, kind, ⟨#[]⟩⟩
    rw [hs0] at h
    exact h
  have HK := hid (hk0.alloc (.cells #[.bool true, .bool false, .int .i64 0, .int .i64 kind, .string ⟨#[]⟩] 59))
  clear hk0 hs0
  unfold numV
  by_cases hc : n < 1 ∨ 8 < n
  · rw [if_pos hc]
    have hcase : n < 1 ∨ (¬ n < 1 ∧ 8 < n) := by omega
    clear hc
    rcases hcase with h1 | ⟨h1, h8⟩
    · go_enter Tryz.func21, Tryz.ntmps21
      go_upto_region 2 with fail
      generalize (w.alloc (.cells #[.bool false, .bool false, .int .i64 0, .int .i64 0, .string ⟨#[]⟩] 59)).alloc (.cells #[.bool true, .bool false, .int .i64 0, .int .i64 kind, .string ⟨#[]⟩] 59) = W0 at *
      obtain ⟨t0, t1, t2, t3, t4⟩ := HT.out.cells
      obtain ⟨z0, z1, z2, z3, z4⟩ := HZ.out.cells
      have f0 := HZ.out.frozen 0
      have f1 := HZ.out.frozen 1
      have f2 := HZ.out.frozen 2
      have f3 := HZ.out.frozen 3
      have f4 := HZ.out.frozen 4
      unfold av0 at z0 z1 z2 z3 z4
      simp only at t0 t1 t2 t3 t4 z0 z1 z2 z3 z4
      go_wp2
      refine bodyPost_ret (v := avV ⟨true, false, 0, kind, ⟨#[]⟩⟩) (by simp [results, Tryz.results21, go_sem, z0, z1, z2, z3, z4, avV]) rfl ⟨rfl, ?_⟩
      exact ((((HK.out.setCell (Or.inl (Nat.le_refl _)) _).setCell (Or.inl (Nat.le_refl _)) _).setCell (Or.inl (Nat.le_refl _)) _).setCell (Or.inl (Nat.le_refl _)) _).setCell (Or.inl (Nat.le_refl _)) _
    · go_enter Tryz.func21, Tryz.ntmps21
      go_upto_region 2 with fail
      generalize (w.alloc (.cells #[.bool false, .bool false, .int .i64 0, .int .i64 0, .string ⟨#[]⟩] 59)).alloc (.cells #[.bool true, .bool false, .int .i64 0, .int .i64 kind, .string ⟨#[]⟩] 59) = W0 at *
      obtain ⟨t0, t1, t2, t3, t4⟩ := HT.out.cells
      obtain ⟨z0, z1, z2, z3, z4⟩ := HZ.out.cells
      have f0 := HZ.out.frozen 0
      have f1 := HZ.out.frozen 1
      have f2 := HZ.out.frozen 2
      have f3 := HZ.out.frozen 3
      have f4 := HZ.out.frozen 4
      unfold av0 at z0 z1 z2 z3 z4
      simp only at t0 t1 t2 t3 t4 z0 z1 z2 z3 z4
      go_wp2
      refine bodyPost_ret (v := avV ⟨true, false, 0, kind, ⟨#[]⟩⟩) (by simp [results, Tryz.results21, go_sem, z0, z1, z2, z3, z4, avV]) rfl ⟨rfl, ?_⟩
      exact ((((HK.out.setCell (Or.inl (Nat.le_refl _)) _).setCell (Or.inl (Nat.le_refl _)) _).setCell (Or.inl (Nat.le_refl _)) _).setCell (Or.inl (Nat.le_refl _)) _).setCell (Or.inl (Nat.le_refl _)) _
  · rw [if_neg hc]
    obtain ⟨k, rfl⟩ := Int.eq_ofNat_of_zero_le (show 0 ≤ n by omega)
    rw [Int.toNat_natCast]
    have h1 : ¬ (k : Int) < 1 := by omega
    have h8 : ¬ (8 : Int) < (k : Int) := by omega
    have hk1 : 1 ≤ k := by omega
    have hk8 : k ≤ 8 := by omega
    clear hc hn
    go_enter Tryz.func21, Tryz.ntmps21
    go_upto_region 2 with fail
    generalize (w.alloc (.cells #[.bool false, .bool false, .int .i64 0, .int .i64 0, .string ⟨#[]⟩] 59)).alloc (.cells #[.bool true, .bool false, .int .i64 0, .int .i64 kind, .string ⟨#[]⟩] 59) = W0 at *
    go_wp2_with (at_make; refine wpList_make_own _ rfl _ _ 63 rfl W0.heap.size 5 i0 (.int .u8 0) 1 Tryz.underlying63 hi hz0 hz1 .i64 .i64 _ k rfl rfl ?m1 ?m2 ?m3 ?m4 ?_)
    case m1 => first | exact Nat.le_refl _ | omega | (rw [hz2]; omega) | (unfold maxLen; omega)
    case m2 => first | exact Nat.le_refl _ | omega | (rw [hz2]; omega) | (unfold maxLen; omega)
    case m3 => first | exact Nat.le_refl _ | omega | (rw [hz2]; omega) | (unfold maxLen; omega)
    intro w1 hown1 hg1
    have hb1 : Kept (fun _ => False) W0 w1 := (Kept.refl _ W0).grown hg1 (fun j hj => by cases hj)
    clear hg1
    go_wp2
    go_loopw [8, 9] (fun v1 s wr => ∃ j : Nat, j ≤ k ∧ s = .int .i64 (8 * (k - 1 - j : Int)) ∧ wr.ownsRow W0.heap.size 5 1 v1 j (Lib.byteCells (lowI (v / 256 ^ (k - j)) j)) ∧ Kept (fun _ => False) W0 wr ∧ W0.heap.size ≤ wr.heap.size)
      (fun _ s _ => (intOf s + 8).toNat)
    case atStart => exact ⟨0, Nat.zero_le _, by simp, hown1, hb1, hb1.size⟩
    case round =>
      obtain ⟨j, hj, rfl, hownr, hbel, hbs⟩ := hrel
      clear hown1 hb1
      by_cases hlt : j < k
      · go_wp2_with (at_builtin; refine wpList_append_own _ rfl _ _ 63 rfl W0.heap.size 5 i0 (.int .u8 0) 1 1 Tryz.underlying63 hi hz0 hz1 hz2 rfl (by decide) _ _ _ rfl (hownr.alloc _) ⟨wr.heap.size, 0, none⟩ 1 1 [.int .u8 (v / 2 ^ (8 * (k - 1 - j)) % 256)] rfl rfl ?c1 ?c2 ?c3 ?c4 ?c5 ?_)
        case c1 => exact cell_one_new _ _ _
        case c2 => intro u hu; simp at hu; subst hu; rfl
        case c3 => unfold maxLen; omega
        case c4 => omega
        case c5 => simp; omega
        intro v' w1 hown' hgrow _
        have R := numL_step hlt hbs hbel (Nat.le_refl _) hownr hown' hgrow
        clear hown' hgrow hownr
        go_wp2
        go_roundw
        case rel => exact ⟨j + 1, by omega, by go_num, R.1, R.2.1, R.2.2⟩
        case measure => simp [intOf]; omega
      · obtain rfl : j = k := by omega
        rw [Nat.sub_self, Int.pow_zero, Int.ediv_one] at hownr
        have hcv := put_conv hownr
        obtain ⟨S, hS⟩ : ∃ S : ByteArray, S = ⟨(lowI v j).toArray⟩ := ⟨_, rfl⟩
        rw [← hS] at hcv
        have HS := hid hS
        have ha := HT.out.kept0 hbel
        have HT1 := hid (ha.setValue S)
        have f4 := ha.frozen 4
        obtain ⟨t0, t1, t2, t3, t4⟩ := ha.cells
        have hz' := HZ.out.kept0 hbel
        have HZ1 : Hid (AvAt (wr.setCell ⟨w.heap.size + 1, 4, none⟩ (.string S)) w.heap.size av0) := hz'.kept ((Kept.refl (fun i => i = w.heap.size + 1) wr).setCell (Or.inr rfl) _) (by omega)
        have HK1 := hid ((HK.out.trans hbel).setCell (p := ⟨w.heap.size + 1, 4, none⟩) (Or.inl (Nat.le_succ _)) (.string S))
        clear hownr hbel hS ha hz'
        go_upto_region 10 with fail
        generalize wr.setCell ⟨w.heap.size + 1, 4, none⟩ (.string S) = W2 at *
        clear t0 t1 t2 t3 t4 f4
        obtain ⟨t0, t1, t2, t3, t4⟩ := HT1.out.cells
        obtain ⟨z0, z1, z2, z3, z4⟩ := HZ1.out.cells
        have f0 := HZ1.out.frozen 0
        have f1 := HZ1.out.frozen 1
        have f2 := HZ1.out.frozen 2
        have f3 := HZ1.out.frozen 3
        have f4 := HZ1.out.frozen 4
        unfold av0 at z0 z1 z2 z3 z4
        simp only at t0 t1 t2 t3 t4 z0 z1 z2 z3 z4
        go_wp2
        refine bodyPost_ret (v := avV ⟨true, false, 0, kind, S⟩) (by simp [results, Tryz.results21, go_sem, z0, z1, z2, z3, z4, avV]) rfl ⟨by rw [HS.out], ?_⟩
        exact ((((HK1.out.setCell (Or.inl (Nat.le_refl _)) _).setCell (Or.inl (Nat.le_refl _)) _).setCell (Or.inl (Nat.le_refl _)) _).setCell (Or.inl (Nat.le_refl _)) _).setCell (Or.inl (Nat.le_refl _)) _
end Go.Proofs.YtnghakhgogfemaaGreatDoor

namespace Go.Proofs.YtnghakhgogfemaaGreatDoor
open Go.RowKit

theorem findG_hit {α : Type} {l : List α} {p : α → Bool} {j : Nat} {x : α} (h : (l.take j).find? p = none) (hx : l[j]? = some x) (hp : p x = true) : l.find? p = some x := by
  have e : l = l.take j ++ l.drop j := (List.take_append_drop j l).symm
  rw [e, List.find?_append, h, drop_at hx, List.find?_cons, hp]
  rfl
theorem findG_on {α : Type} {l : List α} {p : α → Bool} {j : Nat} {x : α} (h : (l.take j).find? p = none) (hx : l[j]? = some x) (hp : p x = false) : (l.take (j + 1)).find? p = none := by
  rw [take_next hx, List.find?_append, h]
  simp [hp]
def hitA (k : Int) (x : Av) : Bool := (x.vendor == 0) && (x.type == k)

set_option maxHeartbeats 2000000 in
set_option maxRecDepth 100000 in
theorem findA_any (v : Value) (l : List Av) (k : Int) (w : World) (hv : AvsAt w v l) (hl : l.length ≤ 1000000) (hsz : ∀ x ∈ l, x.value.size ≤ 140737488351232) :
    Calls Tryz.prog 11 #[v, .int .i64 k] w fun e w' => e = .returned (.tuple #[.string (findAB l k), .bool (findA l k).isSome]) ∧ Kept (fun _ => False) w w' := by
  obtain ⟨p, cap, rfl⟩ := RowsAt.slice hv
  have Hat : Hid (∀ (j : Nat) (x : Av), l[j]? = some x → ∀ W, Kept (fun _ => False) w W → ∃ g o, p = some ⟨g, o, none⟩ ∧ l.length ≤ cap ∧ W.cell? ⟨g, o + j * 5, none⟩ = some (.bool x.must) ∧ W.cell? ⟨g, o + j * 5 + 1, none⟩ = some (.bool x.hidden) ∧ W.cell? ⟨g, o + j * 5 + 2, none⟩ = some (.int .i64 x.vendor) ∧ W.cell? ⟨g, o + j * 5 + 3, none⟩ = some (.int .i64 x.type) ∧ W.cell? ⟨g, o + j * 5 + 4, none⟩ = some (.string x.value)) :=
    fun j x hj W hW => AvsAt.at5 (RowsAt.kept0 hv hW) hj
  have Hsz := hid hsz
  clear hv hsz
  go_enter Tryz.func11, Tryz.ntmps11
  go_wp2
  go_loopw [10] (fun vi wr => ∃ j : Nat, j ≤ l.length ∧ vi = .int .i64 (j : Int) ∧ Hid ((l.take j).find? (hitA k) = none ∧ Kept (fun _ => False) w wr)) (fun vi _ => l.length - (intOf vi).toNat)
  case atStart => exact ⟨0, Nat.zero_le _, rfl, rfl, Kept.refl _ _⟩
  case round =>
    obtain ⟨j, hj, rfl, HI⟩ := hrel
    by_cases hlt : j < l.length
    · have hltz : (j : Int) < (l.length : Int) := by omega
      obtain ⟨x, hx⟩ : ∃ x, l[j]? = some x := ⟨l[j], by simp [hlt]⟩
      obtain ⟨g, o, rfl, hcap, r0, r1, r2, r3, r4⟩ := Hat.out j x hx wr HI.out.2
      have hxs := Hsz.out x (List.mem_of_getElem? hx)
      have HK := hid (HI.out.2.alloc (.cells #[.bool x.must, .bool x.hidden, .int .i64 x.vendor, .int .i64 x.type, .string x.value] 59))
      have HC := hid (fun W => clone_any x.value W (by omega))
      obtain ⟨a0, a1, a2, a3, a4⟩ := (AvAt.new wr x).cells
      cases hh : hitA k x with
      | true =>
        have hF := findG_hit HI.out.1 hx hh
        have HF : Hid (findAB l k = x.value ∧ (findA l k).isSome = true) := by
          have : findA l k = some x := hF
          show _ ∧ _
          unfold findAB
          rw [this]
          exact ⟨rfl, rfl⟩
        obtain ⟨e1, e2⟩ : (x.vendor == 0) = true ∧ (x.type == k) = true := by simpa [hitA] using hh
        clear hF hx HI hh hxs
        obtain ⟨m, q, n, t, V⟩ := x
        simp only at *
        go_wp2_with fail
        refine (HC.out _).mono ?_
        rintro e w1 ⟨rfl, hb1⟩
        have HK1 := hid (HK.out.trans (kept_of hb1))
        clear hb1
        go_wp2
        go_ret2
        exact ⟨by rw [HF.out.1, HF.out.2]; rfl, HK1.out⟩
      | false =>
        have HF := hid (findG_on HI.out.1 hx hh)
        have hcase : (x.vendor == 0) = false ∨ ((x.vendor == 0) = true ∧ (x.type == k) = false) := by
          cases h1 : (x.vendor == 0) with
          | false => exact Or.inl rfl
          | true =>
            refine Or.inr ⟨rfl, ?_⟩
            unfold hitA at hh
            rw [h1, Bool.true_and] at hh
            exact hh
        clear hx HI hh hxs HC
        obtain ⟨m, q, n, t, V⟩ := x
        simp only at *
        rcases hcase with e1 | ⟨e1, e2⟩
        · go_wp2
          exact ⟨⟨j + 1, hlt, by go_num, HF.out, HK.out⟩, by simp [intOf]; omega⟩
        · go_wp2
          exact ⟨⟨j + 1, hlt, by go_num, HF.out, HK.out⟩, by simp [intOf]; omega⟩
    · obtain rfl : j = l.length := by omega
      have hltz : ¬ (l.length : Int) < (l.length : Int) := by omega
      obtain ⟨hF, hk⟩ := HI.out
      rw [List.take_length] at hF
      have HF : Hid (findAB l k = ⟨#[]⟩ ∧ (findA l k).isSome = false) := by
        have : findA l k = none := hF
        show _ ∧ _
        unfold findAB
        rw [this]
        exact ⟨rfl, rfl⟩
      clear hF HI hlt
      go_wp2
      go_ret2
      exact ⟨by rw [HF.out.1, HF.out.2]; rfl, hk⟩

set_option maxHeartbeats 2000000 in
set_option maxRecDepth 100000 in
theorem numberA_any (v : Value) (l : List Av) (k : Int) (w : World) (hv : AvsAt w v l) (hl : l.length ≤ 1000000) (hsz : ∀ x ∈ l, x.value.size ≤ 140737488351232) :
    Calls Tryz.prog 13 #[v, .int .i64 k] w fun e w' => e = .returned (.tuple #[.int .i64 ((numberA l k).1 : Int), .bool (numberA l k).2]) ∧ Kept (fun _ => False) w w' := by
  have HF := hid (findA_any v l k w hv hl hsz)
  have hs : (findAB l k).size ≤ 140737488351232 := by
    unfold findAB
    cases h : findA l k with
    | none => exact Nat.zero_le _
    | some x => exact hsz x (List.mem_of_find?_eq_some h)
  unfold numberA
  obtain ⟨p, cap, rfl⟩ := RowsAt.slice hv
  clear hv hl hsz
  generalize findAB l k = s at *
  generalize (findA l k).isSome = B at *
  cases B with
  | false =>
    rw [if_neg (by simp)]
    go_enter Tryz.func13, Tryz.ntmps13
    go_wp2_with fail
    refine HF.out.mono ?_
    rintro e w1 ⟨rfl, hk1⟩
    go_wp2
    go_ret2
    exact ⟨rfl, hk1⟩
  | true =>
    by_cases h0 : s.size = 0
    · rw [if_neg (by omega)]
      obtain rfl := str_nil s h0
      clear h0
      go_enter Tryz.func13, Tryz.ntmps13
      go_wp2_with fail
      refine HF.out.mono ?_
      rintro e w1 ⟨rfl, hk1⟩
      go_wp2
      go_ret2
      exact ⟨rfl, hk1⟩
    · have hne := str_full h0
      by_cases h7 : 7 < s.size
      · rw [if_neg (by omega)]
        have h7z : (7 : Int) < (s.size : Int) := by omega
        clear h0
        go_enter Tryz.func13, Tryz.ntmps13
        go_wp2_with fail
        refine HF.out.mono ?_
        rintro e w1 ⟨rfl, hk1⟩
        go_wp2
        go_ret2
        exact ⟨rfl, hk1⟩
      · rw [if_pos ⟨rfl, by omega, by omega⟩]
        have h7z : ¬ (7 : Int) < (s.size : Int) := by omega
        clear h0
        go_enter Tryz.func13, Tryz.ntmps13
        go_wp2_with fail
        refine HF.out.mono ?_
        rintro e w1 ⟨rfl, hk1⟩
        have HK1 := hid hk1
        clear hk1
        go_wp2
        go_loopw [8, 29] (fun v i wr => ∃ k : Nat, k ≤ s.size ∧ i = .int .i64 (k : Int) ∧ v = .int .i64 (numOf (s.data.toList.take k) : Int) ∧ wr = w1) (fun _ i _ => s.size - (intOf i).toNat)
        case atStart => exact ⟨0, Nat.zero_le _, rfl, rfl, rfl⟩
        case round =>
          obtain ⟨k, hk, rfl, rfl, rfl⟩ := hrel
          have hl := numOf_lt (s.data.toList.take k)
          have hle : (s.data.toList.take k).length = k := by rw [List.length_take, ← Lib.size_eq]; omega
          rw [hle] at hl
          by_cases hlt : k < s.size
          · have hp : 256 ^ k ≤ 256 ^ 6 := Nat.pow_le_pow_right (by decide) (by omega)
            have hlt4 : numOf (s.data.toList.take k) < 281474976710656 := by omega
            have hltz : (k : Int) < (s.size : Int) := by omega
            have hts := take_snoc s k hlt
            have hb := s[k].toNat_lt
            have e1 := i64_or_byte (numOf (s.data.toList.take k)) s[k].toNat (by omega) hb
            have HS : Hid (numOf (s.data.toList.take (k + 1)) = numOf (s.data.toList.take k) * 256 + s[k].toNat) := by rw [hts]; exact numOf_snoc _ _
            clear hts hl hle hp
            go_wp2
            exact ⟨⟨k + 1, by omega, by go_num, by rw [HS.out]; go_num, by first | rfl | trivial⟩, by simp [intOf]; omega⟩
          · obtain rfl : k = s.size := by omega
            have hltz : ¬ (s.size : Int) < (s.size : Int) := by omega
            have hA : s.data.toList.take s.size = s.data.toList := List.take_of_length_le (by rw [← Lib.size_eq]; omega)
            rw [hA]
            clear hl hle hA
            go_wp2
            go_ret2
            exact ⟨rfl, HK1.out⟩
end Go.Proofs.YtnghakhgogfemaaGreatDoor

namespace Go.Proofs.YtnghakhgogfemaaGreatDoor
open Go.RowKit

theorem ba_app_data (a b : ByteArray) : (a ++ b).data.toList = a.data.toList ++ b.data.toList := by rw [ByteArray.data_append, Array.toList_append]
theorem ba_app_assoc (a b c : ByteArray) : (a ++ b) ++ c = a ++ (b ++ c) := by
  apply bytes_ext
  simp only [ba_app_data, List.append_assoc]
theorem ba_nil_app (x : ByteArray) : (⟨#[]⟩ : ByteArray) ++ x = x := by
  apply bytes_ext
  rw [ba_app_data]
  rfl
theorem ba_app_nil (x : ByteArray) : x ++ (⟨#[]⟩ : ByteArray) = x := by
  apply bytes_ext
  rw [ba_app_data]
  exact List.append_nil _
theorem ba_nil {b : ByteArray} (h : b.size = 0) : b = ⟨#[]⟩ := by
  apply bytes_ext
  exact List.eq_nil_of_length_eq_zero (by rw [← Lib.size_eq]; exact h)
theorem ext_data (b : ByteArray) (i j : Nat) : (b.extract i j).data.toList = (b.data.toList.drop i).take (j - i) := Lib.extract_data b i j
theorem ext_left (a r : ByteArray) : (a ++ r).extract a.size (a ++ r).size = r := by
  apply bytes_ext
  rw [ext_data, ba_app_data, ByteArray.size_append, Lib.size_eq a, List.drop_left]
  exact List.take_of_length_le (by rw [← Lib.size_eq r]; omega)
theorem ext_part (a v r : ByteArray) : ((a ++ v) ++ r).extract a.size (a.size + v.size) = v := by
  apply bytes_ext
  rw [ext_data, ba_app_assoc, ba_app_data, Lib.size_eq a, List.drop_left, Nat.add_sub_cancel_left, ba_app_data, Lib.size_eq v, List.take_left]
theorem ext_more (a r : ByteArray) {m : Nat} (h : a.size ≤ m) : (a ++ r).extract 0 m = a ++ r.extract 0 (m - a.size) := by
  apply bytes_ext
  rw [ext_data, ba_app_data, ba_app_data, ext_data, List.drop_zero, List.drop_zero, Nat.sub_zero, Nat.sub_zero, List.take_append, ← Lib.size_eq, List.take_of_length_le (by rw [← Lib.size_eq]; exact h)]

theorem numAt_app (a r : ByteArray) (k : Nat) (h : k + 2 ≤ a.size) : numAt (a ++ r) k = numAt a k := by
  unfold numAt
  rw [ba_app_data, List.drop_append_of_le_length (by rw [← Lib.size_eq]; omega), List.take_append_of_le_length (by rw [List.length_drop, ← Lib.size_eq]; omega)]
theorem numAt_ext (a : ByteArray) (k m : Nat) (h : k + 2 ≤ m) : numAt (a.extract 0 m) k = numAt a k := by
  unfold numAt
  rw [ext_data, List.drop_zero, Nat.sub_zero, List.drop_take, List.take_take]
  congr 2
  omega
theorem numAt_low (n : Nat) (r : ByteArray) (h : n < 65536) : numAt (two n ++ r) 0 = n := by
  unfold numAt two
  rw [ba_app_data, List.drop_zero]
  have e : (low n 2).length = 2 := low_length n 2
  rw [show (⟨(low n 2).toArray⟩ : ByteArray).data.toList = low n 2 from rfl, List.take_append_of_le_length (by omega), List.take_of_length_le (by omega), numOf_low]
  omega
theorem numAt_skip (a r : ByteArray) (k : Nat) (h : a.size = k) : numAt (a ++ r) k = numAt r 0 := by
  unfold numAt
  rw [ba_app_data, ← h, Lib.size_eq a, List.drop_left, List.drop_zero]
theorem head_0 (x : Av) (n : Nat) (r : ByteArray) (h : 6 + n < 1024) : numAt (headF x n ++ r) 0 = shareN x.must x.hidden (6 + n) := by
  unfold headF
  rw [ba_app_assoc]
  exact numAt_low _ _ (shareN_lt h)
theorem head_2 (x : Av) (n : Nat) (r : ByteArray) (h : wordB x.vendor = true) : (numAt (headF x n ++ r) 2 : Int) = x.vendor := by
  have hv : 0 ≤ x.vendor ∧ x.vendor ≤ 65535 := by simpa [wordB] using h
  unfold headF
  rw [ba_app_assoc, numAt_skip _ _ 2 (two_size _), ba_app_assoc, numAt_low _ _ (by omega)]
  omega
theorem head_4 (x : Av) (n : Nat) (r : ByteArray) (h : wordB x.type = true) : (numAt (headF x n ++ r) 4 : Int) = x.type := by
  have hv : 0 ≤ x.type ∧ x.type ≤ 65535 := by simpa [wordB] using h
  unfold headF
  rw [← ba_app_assoc, ba_app_assoc, numAt_skip _ _ 4 (by rw [ByteArray.size_append, two_size, two_size]), numAt_low _ _ (by omega)]
  omega
theorem share_parts (must hidden : Bool) (n : Nat) (h : n < 1024) : shareN must hidden n % 1024 = n ∧ shareN must hidden n / 1024 % 16 = 0 ∧ hidB (shareN must hidden n) = hidden ∧ mustB (shareN must hidden n) = must := by
  unfold shareN hidB mustB
  cases must <;> cases hidden <;> simp <;> omega

/-- One value's bytes, and what is behind them, are cut into both. -/
theorem cut_laid (x : Av) (v r : ByteArray) (hn : namesB x = true) (hv : v.size ≤ mostF x.hidden) : cutF (laidA x v ++ r) = (⟨x.must, x.hidden, x.vendor, x.type, v⟩, r, 0) := by
  have hm : mostF x.hidden ≤ 1002 := by unfold mostF; split <;> omega
  have hs : (laidA x v ++ r).size = 6 + v.size + r.size := by rw [ByteArray.size_append, laidA_size]
  have ea : laidA x v ++ r = headF x v.size ++ (v ++ r) := ba_app_assoc _ _ _
  obtain ⟨p1, p2, p3, p4⟩ := share_parts x.must x.hidden (6 + v.size) (by omega)
  unfold namesB at hn
  simp only [Bool.and_eq_true] at hn
  have h0 : numAt (laidA x v ++ r) 0 = shareN x.must x.hidden (6 + v.size) := by rw [ea]; exact head_0 x v.size _ (by omega)
  have h2 : (numAt (laidA x v ++ r) 2 : Int) = x.vendor := by rw [ea]; exact head_2 x v.size _ hn.1
  have h4 : (numAt (laidA x v ++ r) 4 : Int) = x.type := by rw [ea]; exact head_4 x v.size _ hn.2
  unfold cutF
  rw [if_neg (by omega), h0, p1, p2, p3, p4, h2, h4, if_neg (by omega), if_neg (by omega), if_neg (by omega)]
  have e1 : (laidA x v ++ r).extract 6 (6 + v.size) = v := by
    have := ext_part (headF x v.size) v r
    rw [headF_size] at this
    exact this
  have e2 : (laidA x v ++ r).extract (6 + v.size) (laidA x v ++ r).size = r := by
    have := ext_left (laidA x v) r
    rw [laidA_size] at this
    exact this
  rw [e1, e2]
/-- A value that is cut is short. -/
theorem cut_short (x : Av) (v r : ByteArray) (m : Nat) (hv : v.size ≤ 1002) (h0 : 0 < m) (hm : m < 6 + v.size) : (cutF ((laidA x v ++ r).extract 0 m)).2.2 = 5 := by
  have hs : (laidA x v ++ r).size = 6 + v.size + r.size := by rw [ByteArray.size_append, laidA_size]
  have hx : ((laidA x v ++ r).extract 0 m).size = m := by rw [ByteArray.size_extract]; omega
  unfold cutF
  by_cases h6 : m < 6
  · rw [if_pos (by omega)]
  · have ea : laidA x v ++ r = headF x v.size ++ (v ++ r) := ba_app_assoc _ _ _
    have e0 : numAt ((laidA x v ++ r).extract 0 m) 0 = shareN x.must x.hidden (6 + v.size) := by
      rw [numAt_ext _ 0 m (by omega), ea]
      exact head_0 x v.size _ (by omega)
    obtain ⟨p1, p2, p3, p4⟩ := share_parts x.must x.hidden (6 + v.size) (by omega)
    rw [if_neg (by omega), e0, p1, p2, if_neg (by omega), if_pos (by omega)]

theorem unmask (k : Int) (s v x : ByteArray) : maskA true k s v (maskA false k s v x) = x := by
  apply bytes_ext
  exact unmask_mask _ _ _ (firstF_length _ _ _)
theorem show_hide (c : Cov) (k : Int) (x : ByteArray) (hx : x.size ≤ 1000) (h : (hideF c k x).2 = 0) : showF c k (hideF c k x).1 = (x, 0) := by
  unfold hideF at h ⊢
  split at h
  · rename_i h0
    rw [if_pos h0]
    have hs : (maskA false k c.secret c.vector (two x.size ++ x)).size = 2 + x.size := by rw [maskA_size, ByteArray.size_append, two_size]
    unfold showF
    rw [if_pos h0]
    simp only
    rw [if_neg (by omega), unmask, numAt_low _ _ (by omega), if_pos (by omega), hs]
    have e := ext_left (two x.size) x
    rw [ByteArray.size_append, two_size] at e
    rw [e]
  · rename_i h0
    exact absurd h h0

/-- What a value is laid as, and that it is told as it was. -/
theorem one_back {x : Av} {c : Cov} (h : (putOneF x c).2 = 0) : ∃ v : ByteArray, (putOneF x c).1 = laidA x v ∧ v.size ≤ 1002 ∧ (∀ r, cutF (laidA x v ++ r) = (⟨x.must, x.hidden, x.vendor, x.type, v⟩, r, 0)) ∧ toldF c ⟨x.must, x.hidden, x.vendor, x.type, v⟩ = (x, 0) := by
  unfold putOneF at h ⊢
  split at h
  · cases h
  rename_i hn
  rw [if_neg hn]
  have hn' : namesB x = true := by simpa using hn
  split at h
  · cases h
  rename_i hv
  rw [if_neg hv]
  split at h
  · rename_i hh
    rw [if_pos hh]
    split at h
    · rename_i h2
      rw [if_pos h2]
      have hds := hideF_size (c := c) (k := x.type) (x := x.value)
      refine ⟨_, rfl, by omega, fun r => cut_laid x _ r hn' (by rw [hh]; show _ ≤ 1002; omega), ?_⟩
      unfold toldF
      simp only [hh, if_true]
      rw [show_hide c x.type x.value (by omega) h2]
      obtain ⟨m, q, n, t, v⟩ := x
      simp only at hh
      subst hh
      rfl
    · rename_i h2
      exact absurd h h2
  · rename_i hh
    rw [if_neg hh]
    have hf : x.hidden = false := by simpa using hh
    refine ⟨_, rfl, by omega, fun r => cut_laid x _ r hn' (by rw [hf]; show _ ≤ 1000; omega), ?_⟩
    unfold toldF
    simp only [hf]
    obtain ⟨m, q, n, t, v⟩ := x
    simp only at hf
    subst hf
    rfl

/-- The bytes of some values, and that they can be laid. -/
def encA : List Av → Cov → ByteArray
  | [], _ => ⟨#[]⟩
  | x :: r, c => (putOneF x c).1 ++ encA r (passF c x)
def okA : List Av → Cov → Prop
  | [], _ => True
  | x :: r, c => (putOneF x c).2 = 0 ∧ okA r (passF c x)
theorem put_enc {l : List Av} {c : Cov} {acc S : ByteArray} (h : putOn acc l c = (S, 0)) : okA l c ∧ S = acc ++ encA l c := by
  induction l generalizing acc c with
  | nil =>
    simp only [putOn, Prod.mk.injEq, and_true] at h
    exact ⟨trivial, by rw [encA, ba_app_nil]; exact h.symm⟩
  | cons x r ih =>
    simp only [putOn] at h
    split at h
    · rename_i h0
      obtain ⟨h1, h2⟩ := ih h
      exact ⟨⟨h0, h1⟩, by rw [h2, encA, ba_app_assoc]⟩
    · rename_i h0
      exact absurd (congrArg Prod.snd h) h0
theorem get_enc {l : List Av} {c : Cov} {acc : List Av} (h : okA l c) (hn : acc.length + l.length ≤ 40) : getOn (encA l c) acc c = (acc ++ l, 0) := by
  induction l generalizing acc c with
  | nil =>
    rw [getOn_eq, encA, if_pos (show (⟨#[]⟩ : ByteArray).size = 0 from rfl), List.append_nil]
  | cons x r ih =>
    obtain ⟨h0, h1⟩ := h
    rw [List.length_cons] at hn
    obtain ⟨v, e1, hv, e2, e3⟩ := one_back h0
    rw [getOn_eq, encA, e1, e2]
    simp only
    rw [if_neg (by rw [ByteArray.size_append, laidA_size]; omega), if_pos trivial, if_neg (by omega), e3]
    simp only
    rw [if_pos trivial, ih h1 (by rw [List.length_append, List.length_singleton]; omega), List.append_assoc, List.singleton_append]
theorem get_cut {l : List Av} {c : Cov} {acc : List Av} (h : okA l c) (hn : acc.length + l.length ≤ 40) (m : Nat) (hm : m < (encA l c).size) :
    getOn ((encA l c).extract 0 m) acc c = ([], 5) ∨ ∃ k, k ≤ l.length ∧ getOn ((encA l c).extract 0 m) acc c = (acc ++ l.take k, 0) := by
  induction l generalizing acc c m with
  | nil => exact absurd hm (Nat.not_lt_zero _)
  | cons x r ih =>
    obtain ⟨h0, h1⟩ := h
    rw [List.length_cons] at hn
    obtain ⟨v, e1, hv, e2, e3⟩ := one_back h0
    rw [encA, e1] at hm ⊢
    by_cases hz : m = 0
    · subst hz
      refine Or.inr ⟨0, Nat.zero_le _, ?_⟩
      rw [getOn_eq, if_pos (by rw [ByteArray.size_extract]; omega), List.take_zero, List.append_nil]
    · by_cases hs : m < 6 + v.size
      · left
        rw [getOn_eq, cut_short x v _ m hv (by omega) hs, if_neg (by rw [ByteArray.size_extract]; omega), if_neg (by decide)]
      · have e4 := ext_more (laidA x v) (encA r (passF c x)) (m := m) (by rw [laidA_size]; omega)
        rw [laidA_size] at e4
        rw [ByteArray.size_append, laidA_size] at hm
        rw [e4, getOn_eq, e2]
        simp only
        rw [if_neg (by rw [ByteArray.size_append, laidA_size]; omega), if_pos trivial, if_neg (by omega), e3]
        simp only
        rw [if_pos trivial]
        rcases ih h1 (acc := acc ++ [x]) (by rw [List.length_append, List.length_singleton]; omega) (m - (6 + v.size)) (by omega) with hk | ⟨k, hk, hk2⟩
        · exact Or.inl hk
        · refine Or.inr ⟨k + 1, by rw [List.length_cons]; omega, ?_⟩
          rw [hk2, List.append_assoc, List.take_succ_cons, List.singleton_append]

/-- Where Put is well. -/
theorem putAF_ok {l : List Av} {s : ByteArray} (h : (putAF l s).2 = 0) : okA l (cov0 s) ∧ (putAF l s).1 = encA l (cov0 s) ∧ l.length ≤ 40 ∧ (putAF l s).1.size ≤ 1488 := by
  unfold putAF at h ⊢
  split at h
  · cases h
  rename_i h40
  rw [if_neg h40]
  split at h
  · rename_i h0
    rw [if_pos h0]
    split at h
    · cases h
    rename_i h8
    rw [if_neg h8]
    obtain ⟨h1, h2⟩ := put_enc (S := (putOn ⟨#[]⟩ l (cov0 s)).1) (Prod.ext rfl h0)
    exact ⟨h1, by rw [h2, ba_nil_app], by omega, by show (putOn ⟨#[]⟩ l (cov0 s)).1.size ≤ 1488; omega⟩
  · rename_i h0
    exact absurd h h0
theorem putAF_err {l : List Av} {s : ByteArray} (h : (putAF l s).2 ≠ 0) : (putAF l s).1 = ⟨#[]⟩ := by
  unfold putAF at h ⊢
  split
  · rfl
  split
  · split
    · rfl
    · rename_i h1 h2 h3
      rw [if_neg h1, if_pos h2, if_neg h3] at h
      exact absurd rfl h
  · rfl
theorem back_all {l : List Av} {s : ByteArray} (h : (putAF l s).2 = 0) : getAF (putAF l s).1 s = (l, 0) := by
  obtain ⟨h1, h2, h3, _⟩ := putAF_ok h
  rw [h2]
  exact get_enc h1 (by simpa using h3)
theorem back_cut {l : List Av} {s : ByteArray} (h : (putAF l s).2 = 0) (m : Nat) (hm : m < (putAF l s).1.size) : getAF ((putAF l s).1.extract 0 m) s = ([], 5) ∨ ∃ k, k ≤ l.length ∧ getAF ((putAF l s).1.extract 0 m) s = (l.take k, 0) := by
  obtain ⟨h1, h2, h3, _⟩ := putAF_ok h
  rw [h2] at hm ⊢
  exact get_cut h1 (by simpa using h3) m hm
end Go.Proofs.YtnghakhgogfemaaGreatDoor

namespace Go.Proofs.YtnghakhgogfemaaGreatDoor
open Go.RowKit

theorem encAv : EncG avCells 5 := ⟨fun _ => rfl, avCells_one, by decide⟩
/-- The slice v holds the values of l, in a row of the call's own. -/
def OwnAv (w : World) (base : Nat) (v : Value) (l : List Av) : Prop := OwnG avCells 5 59 w base v l
theorem cells_new (w : World) (cs : List Value) (t : TypeId) : ∀ (j : Nat) (u : Value), cs[j]? = some u → (w.alloc (.cells cs.toArray t)).cell? ((⟨w.heap.size, 0, none⟩ : Addr).add j) = some u := by
  intro j u h
  rw [addr_add, World.cell?_alloc_new]
  simpa using h
theorem OwnAv.alloc {w : World} {base : Nat} {v : Value} {l : List Av} (h : OwnAv w base v l) (o : Obj) : OwnAv (w.alloc o) base v l := World.ownsRow.alloc h o
theorem OwnAv.cover {W : World} {b base : Nat} {c : Cov} {v : Value} {l : List Av} (h : OwnAv W base v l) (hc : CvAt W b c) : v.ownBlock ≠ some b := by
  intro e
  obtain ⟨⟨cur, hg⟩, _⟩ := OwnG.block h e
  rw [show W.heap[b]? = _ from hc] at hg
  simp at hg
theorem own_moreAv {w' : World} {base : Nat} {v' : Value} {l : List Av} {x : Av}
    (hown' : w'.ownsRow base 59 5 v' (l.length + 1) (rowG avCells l ++ avCells x)) : OwnAv w' base v' (l ++ [x]) := by
  show World.ownsRow _ _ _ _ _ _ _
  rw [rowG_append, List.length_append]
  simpa [rowG] using hown'
theorem toldF_size {c : Cov} {x : Av} (h : x.value.size ≤ 1002) : (toldF c x).1.value.size ≤ 1002 := by
  unfold toldF
  split
  · show (showF c x.type x.value).1.size ≤ 1002
    unfold showF
    split
    · split
      · exact Nat.zero_le _
      split
      · rw [ByteArray.size_extract, maskA_size]
        omega
      · exact Nat.zero_le _
    · exact Nat.zero_le _
  · exact h
theorem cutF_size (b : ByteArray) : (cutF b).1.value.size ≤ 1002 := by
  unfold cutF
  split
  · exact Nat.zero_le _
  split
  · exact Nat.zero_le _
  split
  · exact Nat.zero_le _
  split
  · exact Nat.zero_le _
  · rename_i h1 h2 h3 h4
    show (b.extract _ _).size ≤ 1002
    rw [ByteArray.size_extract]
    have : mostF (hidB (numAt b 0)) ≤ 1002 := by unfold mostF; split <;> omega
    omega
/-- How far the loop has come. -/
structure GetI (w : World) (s : ByteArray) (R : List Av × Int) (cb : Nat) (b : ByteArray) (acc : List Av) (vl : Value) (c : Cov) (W : World) : Prop where
  own : OwnAv W w.heap.size vl acc
  cov : CvAt W cb c
  few : Few c
  secret : c.secret = s
  on : getOn b acc c = R
  size : b.size ≤ 140737488351232
  most : acc.length ≤ 40
  kept : Kept (fun _ => False) w W

set_option maxHeartbeats 8000000 in
set_option maxRecDepth 100000 in
theorem getA_any (b s : ByteArray) (hb : b.size ≤ 140737488351232) (hs : s.size ≤ 1000000) (w : World) (hM : s.size ≠ 0 → UnmAt w) :
    Calls Tryz.prog 9 #[.string b, .string s] w fun e w' => ∃ v, e = .returned (.tuple #[v, .int .i64 (getAF b s).2]) ∧ OwnAv w' w.heap.size v (getAF b s).1 ∧ Kept (fun _ => False) w w' := by
  obtain ⟨i0, hi, hz0, hz1, hz2⟩ := info_parts infoAv
  obtain ⟨R, hR⟩ : ∃ R, R = getAF b s := ⟨_, rfl⟩
  rw [← hR]
  have HM := hid hM
  have hc0 : CvAt (w.alloc (.cells #[.string s, .string ⟨#[]⟩, .bool false] 65)) w.heap.size (cov0 s) := CvAt.new w (cov0 s)
  have HI0 : Hid (GetI w s R w.heap.size b [] (.slice none 0 0) (cov0 s) (w.alloc (.cells #[.string s, .string ⟨#[]⟩, .bool false] 65))) :=
    ⟨World.ownsRow_nil _ _ _ _, hc0, ⟨hs, Nat.zero_le _⟩, rfl, hR.symm, hb, Nat.zero_le _, (Kept.refl (fun _ => False) w).alloc _⟩
  clear hM hR hc0
  go_enter Tryz.func9, Tryz.ntmps9
  go_upto_region 3 with fail
  generalize w.alloc (.cells #[.string s, .string ⟨#[]⟩, .bool false] 65) = W0 at *
  go_loopw [0, 6] (fun vb vl wr => ∃ (d : ByteArray) (acc : List Av) (c : Cov), vb = .string d ∧ Hid (GetI w s R w.heap.size d acc vl c wr)) (fun vb _ _ => (strV vb).size)
  case atStart => exact ⟨b, [], cov0 s, rfl, HI0.out⟩
  case round =>
    obtain ⟨d, acc, c, rfl, HI⟩ := hrel
    have hT := HI.out.on
    rw [getOn_eq] at hT
    by_cases h0 : d.size = 0
    · rw [if_pos h0] at hT
      obtain rfl := str_nil d h0
      have HO := hid HI.out.own
      have HK := hid HI.out.kept
      have HT := hid hT
      clear hT h0 HI
      go_wp2
      go_ret2
      exact ⟨_, by rw [← HT.out]; rfl, by rw [← HT.out]; exact HO.out, HK.out⟩
    · rw [if_neg h0] at hT
      have hne0 := str_full h0
      have HCut := hid (cut_any d HI.out.size)
      have HSz := hid (cutF_size d)
      by_cases he : (cutF d).2.2 = 0
      · rw [if_pos he] at hT
        have hrest := cutF_rest he
        rw [he] at HCut
        obtain ⟨x, hx⟩ : ∃ x, x = (cutF d).1 := ⟨_, rfl⟩
        obtain ⟨d2, hd2⟩ : ∃ d2, d2 = (cutF d).2.1 := ⟨_, rfl⟩
        rw [← hx] at HCut HSz hT
        rw [← hd2] at HCut hrest hT
        have hds := HI.out.size
        clear he hx hd2 h0
        by_cases h40 : acc.length = 40
        · rw [if_pos h40] at hT
          have HT := hid hT
          obtain ⟨p, cap, hv⟩ := slice_of HI.out.own
          rw [h40] at hv
          subst hv
          have HK := hid HI.out.kept
          clear hT HI h40
          go_wp2_with fail
          refine (HCut.out _).mono ?_
          rintro e w1 ⟨rfl, hk1⟩
          unfold avV
          have HK1 := hid ((HK.out.trans hk1).alloc (.cells #[.bool x.must, .bool x.hidden, .int .i64 x.vendor, .int .i64 x.type, .string x.value] 59))
          clear hk1
          go_wp2
          go_ret2
          exact ⟨_, by rw [← HT.out]; rfl, by rw [← HT.out]; exact OwnG.nil _ _, HK1.out⟩
        · rw [if_neg h40] at hT
          obtain ⟨p, cap, hv⟩ := slice_of HI.out.own
          subst hv
          have hlz : ((acc.length : Int) == 40) = false := by rw [beq_eq_false_iff_ne]; omega
          have H40 : Hid (acc.length < 40) := by have := HI.out.most; show _ < _; omega
          have hmost := HI.out.most
          obtain ⟨m, q, n, t, v⟩ := x
          cases q with
          | false =>
            have e1 : toldF c ⟨m, false, n, t, v⟩ = (⟨m, false, n, t, v⟩, 0) := rfl
            rw [e1, if_pos rfl] at hT
            have HT := hid hT
            clear hT e1 h40
            unfold avV at HCut
            go_wp2_with fail
            refine (HCut.out _).mono ?_
            rintro e w1 ⟨rfl, hk1⟩
            have HSep := hid (fun e : (Value.slice p acc.length cap).ownBlock = some w1.heap.size => show False by have := (OwnG.block HI.out.own e).2.2; have := hk1.size; omega)
            have HA3 : Hid (AvAt (w1.alloc (.cells #[.bool m, .bool false, .int .i64 n, .int .i64 t, .string v] 59)) w1.heap.size ⟨m, false, n, t, v⟩) := AvAt.new w1 ⟨m, false, n, t, v⟩
            have hk3 : Kept (fun _ => False) wr (w1.alloc (.cells #[.bool m, .bool false, .int .i64 n, .int .i64 t, .string v] 59)) := hk1.alloc _
            obtain ⟨a0, a1, a2, a3, a4⟩ := HA3.out.cells
            simp only at a1
            have HC3 := hid (HI.out.cov.kept0 hk3)
            have HO3 := hid (OwnG.kept0 HI.out.own hk3)
            have HK3 := hid (HI.out.kept.trans hk3)
            have HF := hid HI.out.few
            have HS := hid HI.out.secret
            clear hk1 hk3 HI a0 a2 a3 a4
            go_upto_region 13 with fail
            generalize w1.alloc (.cells #[.bool m, .bool false, .int .i64 n, .int .i64 t, .string v] 59) = W3 at *
            generalize w1.heap.size = bx at *
            clear a1
            obtain ⟨a0, a1, a2, a3, a4⟩ := HA3.out.cells
            simp only at a0 a1 a2 a3 a4
            have hown4 := World.ownsRow.alloc HO3.out (.cells #[.bool m, .bool false, .int .i64 n, .int .i64 t, .string v] 59)
            have hs3 := HK3.out.size
            go_wp2_with (at_builtin; refine wpList_append_own _ rfl _ _ 22 rfl w.heap.size 59 i0 (.agg #[.bool false, .bool false, .int .i64 0, .int .i64 0, .string ⟨#[]⟩]) 5 40 Tryz.underlying22 hi hz0 hz1 hz2 rfl (by decide) _ _ _ rfl hown4 ⟨W3.heap.size, 0, none⟩ 1 1 [.bool m, .bool false, .int .i64 n, .int .i64 t, .string v] rfl rfl ?c1 ?c2 ?c3 ?c4 ?c5 ?_)
            case c1 => exact cells_new W3 [.bool m, .bool false, .int .i64 n, .int .i64 t, .string v] _
            case c2 => intro u hu; simp at hu; rcases hu with rfl | rfl | rfl | rfl | rfl <;> rfl
            case c3 => unfold maxLen; omega
            case c4 => omega
            case c5 => simp; omega
            intro v5 w5 hown5 hg5 _
            have HO5 := hid (own_moreAv (x := ⟨m, false, n, t, v⟩) hown5)
            have hk5 : Kept (fun i => (Value.slice p acc.length cap).ownBlock = some i) W3 w5 := ((Kept.refl _ W3).alloc _).grown hg5 (fun j hj => Or.inr hj)
            have HA5 := hid (HA3.out.kept hk5 (fun e => HSep.out e))
            have HC5 := hid (HC3.out.kept hk5 (OwnAv.cover HO3.out HC3.out))
            have HK5 := hid (HK3.out.andThen hk5 (fun i hi e => by have := (OwnG.block HO3.out e).2.1; omega))
            clear hown5 hg5 hown4 a0 a1 a2 a3 a4 hk5
            obtain ⟨a0, a1, a2, a3, a4⟩ := HA5.out.cells
            simp only at a0 a1 a2 a3 a4
            have HP5 := hid (pass_any w.heap.size c ⟨m, false, n, t, v⟩ w5 HC5.out)
            unfold avV at HP5
            go_wp2_with fail
            refine HP5.out.mono ?_
            rintro e w6 ⟨rfl, hc6, hk6⟩
            have HN : Hid (GetI w s R w.heap.size d2 (acc ++ [⟨m, false, n, t, v⟩]) v5 (passF c ⟨m, false, n, t, v⟩) w6) :=
              ⟨OwnG.keptS HO5.out hk6 (fun i hi e => OwnAv.cover HO5.out HC5.out (by rw [hi, e])), hc6, few_pass HF.out (by have := HSz.out; show _ ≤ 1000000; simp only at this ⊢; omega), (passF_secret _ _).trans HS.out, HT.out, by omega, by have := H40.out; simp; omega, HK5.out.andThen hk6 (fun i hi e => by omega)⟩
            clear hc6 hk6 HP5 a0 a1 a2 a3 a4
            go_wp2
            exact ⟨⟨_, _, _, rfl, HN.out⟩, by simp [strV]; omega⟩
          | true =>
            have e1 : toldF c ⟨m, true, n, t, v⟩ = (⟨m, true, n, t, (showF c t v).1⟩, (showF c t v).2) := rfl
            rw [e1] at hT
            simp only at hT HSz
            have HSh := hid (fun W (hk : Kept (fun _ => False) w W) => show_any c t v HI.out.few HSz.out W (fun h => (HM.out (by rw [← HI.out.secret]; exact (lacksF_0 h).1)).kept hk))
            have HVz : Hid ((showF c t v).1.size ≤ 1002) := toldF_size (c := c) (x := ⟨m, true, n, t, v⟩) HSz.out
            obtain ⟨v', hv'⟩ : ∃ v', v' = (showF c t v).1 := ⟨_, rfl⟩
            rw [← hv'] at HSh HVz hT
            clear hv' e1 h40 HSz
            unfold avV at HCut
            unfold cvV at HSh
            by_cases h2 : (showF c t v).2 = 0
            · rw [if_pos h2] at hT
              rw [h2] at HSh
              have HT := hid hT
              have HSz := HVz
              clear hT h2 HVz
              go_wp2_with fail
              refine (HCut.out _).mono ?_
              rintro e w1 ⟨rfl, hk1⟩
              have HSep := hid (fun e : (Value.slice p acc.length cap).ownBlock = some w1.heap.size => show False by have := (OwnG.block HI.out.own e).2.2; have := hk1.size; omega)
              have hb1 : Hid (wr.heap.size ≤ w1.heap.size) := hk1.size
              have HA2 : Hid (AvAt (w1.alloc (.cells #[.bool m, .bool true, .int .i64 n, .int .i64 t, .string v] 59)) w1.heap.size ⟨m, true, n, t, v⟩) := AvAt.new w1 ⟨m, true, n, t, v⟩
              have hk2 : Kept (fun _ => False) wr (w1.alloc (.cells #[.bool m, .bool true, .int .i64 n, .int .i64 t, .string v] 59)) := hk1.alloc _
              obtain ⟨a0, a1, a2, a3, a4⟩ := HA2.out.cells
              simp only at a0 a1 a2 a3 a4
              have HC2 := hid (HI.out.cov.kept0 hk2)
              obtain ⟨c0, c1, c2⟩ := HC2.out.cells
              have HK2 := hid hk2
              have HW := hid (HI.out.kept.trans hk2)
              clear hk1 hk2
              go_upto_region 10 with fail
              generalize w1.alloc (.cells #[.bool m, .bool true, .int .i64 n, .int .i64 t, .string v] 59) = W2 at *
              generalize w1.heap.size = bx at *
              go_wp2_with fail
              refine (HSh.out _ HW.out).mono ?_
              rintro e w3 ⟨rfl, hk3⟩
              have HA2' := HA2.out.kept0 hk3
              have f4 := HA2'.frozen 4
              have hk4 : Kept (fun _ => False) wr (w3.setCell ⟨bx, 4, none⟩ (.string v')) := (HK2.out.trans hk3).setCell (Or.inl hb1.out) _
              have HA3 : Hid (AvAt (w3.setCell ⟨bx, 4, none⟩ (.string v')) bx ⟨m, true, n, t, v'⟩) := HA2'.setValue v'
              have HC3 := hid (HI.out.cov.kept0 hk4)
              have HO3 := hid (OwnG.kept0 HI.out.own hk4)
              have HK3 := hid (HI.out.kept.trans hk4)
              have HF := hid HI.out.few
              have HS := hid HI.out.secret
              obtain ⟨b0, b1, b2, b3, b4⟩ := HA2'.cells
              simp only at b0 b1 b2 b3 b4
              clear a0 a1 a2 a3 a4 c0 c1 c2 hk3 hk4 HI HK2 HC2 HA2' HA2 HW
              go_upto_region 13 with fail
              generalize w3.setCell ⟨bx, 4, none⟩ (.string v') = W3 at *
              clear b0 b1 b2 b3 b4 f4
              obtain ⟨a0, a1, a2, a3, a4⟩ := HA3.out.cells
              simp only at a0 a1 a2 a3 a4
              have hown4 := World.ownsRow.alloc HO3.out (.cells #[.bool m, .bool true, .int .i64 n, .int .i64 t, .string v'] 59)
              have hs3 := HK3.out.size
              go_wp2_with (at_builtin; refine wpList_append_own _ rfl _ _ 22 rfl w.heap.size 59 i0 (.agg #[.bool false, .bool false, .int .i64 0, .int .i64 0, .string ⟨#[]⟩]) 5 40 Tryz.underlying22 hi hz0 hz1 hz2 rfl (by decide) _ _ _ rfl hown4 ⟨W3.heap.size, 0, none⟩ 1 1 [.bool m, .bool true, .int .i64 n, .int .i64 t, .string v'] rfl rfl ?c1 ?c2 ?c3 ?c4 ?c5 ?_)
              case c1 => exact cells_new W3 [.bool m, .bool true, .int .i64 n, .int .i64 t, .string v'] _
              case c2 => intro u hu; simp at hu; rcases hu with rfl | rfl | rfl | rfl | rfl <;> rfl
              case c3 => unfold maxLen; omega
              case c4 => omega
              case c5 => simp; omega
              intro v5 w5 hown5 hg5 _
              have HO5 := hid (own_moreAv (x := ⟨m, true, n, t, v'⟩) hown5)
              have hk5 : Kept (fun i => (Value.slice p acc.length cap).ownBlock = some i) W3 w5 := ((Kept.refl _ W3).alloc _).grown hg5 (fun j hj => Or.inr hj)
              have HA5 := hid (HA3.out.kept hk5 (fun e => HSep.out e))
              have HC5 := hid (HC3.out.kept hk5 (OwnAv.cover HO3.out HC3.out))
              have HK5 := hid (HK3.out.andThen hk5 (fun i hi e => by have := (OwnG.block HO3.out e).2.1; omega))
              clear hown5 hg5 hown4 a0 a1 a2 a3 a4 hk5
              obtain ⟨a0, a1, a2, a3, a4⟩ := HA5.out.cells
              simp only at a0 a1 a2 a3 a4
              have HP5 := hid (pass_any w.heap.size c ⟨m, true, n, t, v'⟩ w5 HC5.out)
              unfold avV at HP5
              go_wp2_with fail
              refine HP5.out.mono ?_
              rintro e w6 ⟨rfl, hc6, hk6⟩
              have HN : Hid (GetI w s R w.heap.size d2 (acc ++ [⟨m, true, n, t, v'⟩]) v5 (passF c ⟨m, true, n, t, v'⟩) w6) :=
                ⟨OwnG.keptS HO5.out hk6 (fun i hi e => OwnAv.cover HO5.out HC5.out (by rw [hi, e])), hc6, few_pass HF.out (by have := HSz.out; show _ ≤ 1000000; simp only at this ⊢; omega), (passF_secret _ _).trans HS.out, HT.out, by omega, by have := H40.out; simp; omega, HK5.out.andThen hk6 (fun i hi e => by omega)⟩
              clear hc6 hk6 HP5 a0 a1 a2 a3 a4
              go_wp2
              exact ⟨⟨_, _, _, rfl, HN.out⟩, by simp [strV]; omega⟩
            · rw [if_neg h2] at hT
              have hne : ((showF c t v).2 != 0) = true := by rw [bne_iff_ne]; exact h2
              have HT := hid hT
              generalize (showF c t v).2 = L at *
              clear hT h2
              go_wp2_with fail
              refine (HCut.out _).mono ?_
              rintro e w1 ⟨rfl, hk1⟩
              have HA2 : Hid (AvAt (w1.alloc (.cells #[.bool m, .bool true, .int .i64 n, .int .i64 t, .string v] 59)) w1.heap.size ⟨m, true, n, t, v⟩) := AvAt.new w1 ⟨m, true, n, t, v⟩
              have hk2 : Kept (fun _ => False) wr (w1.alloc (.cells #[.bool m, .bool true, .int .i64 n, .int .i64 t, .string v] 59)) := hk1.alloc _
              have hb1 : Hid (wr.heap.size ≤ w1.heap.size) := hk1.size
              obtain ⟨a0, a1, a2, a3, a4⟩ := HA2.out.cells
              simp only at a0 a1 a2 a3 a4
              have HC2 := hid (HI.out.cov.kept0 hk2)
              obtain ⟨c0, c1, c2⟩ := HC2.out.cells
              have HK2 := hid hk2
              have HW := hid (HI.out.kept.trans hk2)
              clear hk1 hk2
              go_upto_region 10 with fail
              generalize w1.alloc (.cells #[.bool m, .bool true, .int .i64 n, .int .i64 t, .string v] 59) = W2 at *
              generalize w1.heap.size = bx at *
              go_wp2_with fail
              refine (HSh.out _ HW.out).mono ?_
              rintro e w3 ⟨rfl, hk3⟩
              have HA2' := HA2.out.kept0 hk3
              have f4 := HA2'.frozen 4
              have hk4 : Kept (fun _ => False) wr (w3.setCell ⟨bx, 4, none⟩ (.string v')) := (HK2.out.trans hk3).setCell (Or.inl hb1.out) _
              have HK3 := hid (HI.out.kept.trans hk4)
              obtain ⟨b0, b1, b2, b3, b4⟩ := HA2'.cells
              simp only at b0 b1 b2 b3 b4
              clear a0 a1 a2 a3 a4 c0 c1 c2 hk3 hk4 HI HK2 HC2 HA2' HA2 HW
              go_wp2
              go_ret2
              exact ⟨_, by rw [← HT.out]; rfl, by rw [← HT.out]; exact OwnG.nil _ _, HK3.out⟩
      · rw [if_neg he] at hT
        have hne : ((cutF d).2.2 != 0) = true := by rw [bne_iff_ne]; exact he
        have HT := hid hT
        generalize (cutF d).2.2 = L at *
        generalize (cutF d).2.1 = Y at *
        generalize (cutF d).1 = x at *
        have HK := hid HI.out.kept
        clear hT he h0 HI
        unfold avV at HCut
        go_wp2_with fail
        refine (HCut.out _).mono ?_
        rintro e w1 ⟨rfl, hk1⟩
        have HK1 := hid ((HK.out.trans hk1).alloc (.cells #[.bool x.must, .bool x.hidden, .int .i64 x.vendor, .int .i64 x.type, .string x.value] 59))
        clear hk1
        go_wp2
        go_ret2
        exact ⟨_, by rw [← HT.out]; rfl, by rw [← HT.out]; exact OwnG.nil _ _, HK1.out⟩
end Go.Proofs.YtnghakhgogfemaaGreatDoor
