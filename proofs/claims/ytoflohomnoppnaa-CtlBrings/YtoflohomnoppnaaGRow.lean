/- Rows of a call's own, of whatever elements, as plain data: what lies where, one cell written, one element or a list behind them. (No function of the program is named.) -/
import Derived.Test.YtoflohomnoppnaaBookKit
import Derived.Lib.SmallJoins
import Derived.Lib.AppendZeros
import Derived.Deep.Upon
import Derived.Deep.RegionHeld
namespace Go.Proofs.Ytoflohomnoppnaa
open Go.RowKit

section
variable {α : Type} {enc : α → List Value} {k : Nat} {e : TypeId}

def rowG (enc : α → List Value) (l : List α) : List Value := l.flatMap enc
/-- Each element has k cells. -/
structure EncG (enc : α → List Value) (k : Nat) : Prop where
  len : ∀ x, (enc x).length = k
  one : ∀ x, ∀ u ∈ enc x, u.oneCell' = true
  pos : 0 < k
theorem rowG_append (a b : List α) : rowG enc (a ++ b) = rowG enc a ++ rowG enc b := by simp [rowG]
theorem rowG_cons (a : α) (b : List α) : rowG enc (a :: b) = enc a ++ rowG enc b := by simp [rowG]
theorem EncG.length (E : EncG enc k) (l : List α) : (rowG enc l).length = l.length * k := by
  induction l with
  | nil => simp [rowG]
  | cons a r ih => rw [rowG_cons, List.length_append, E.len, ih, List.length_cons, Nat.add_mul, Nat.one_mul, Nat.add_comm]
theorem EncG.get (E : EncG enc k) {l : List α} {j : Nat} {x : α} (h : l[j]? = some x) (i : Nat) (hi : i < k) : (rowG enc l)[j * k + i]? = (enc x)[i]? := by
  induction l generalizing j with
  | nil => simp at h
  | cons a r ih =>
    rw [rowG_cons]
    cases j with
    | zero =>
      simp at h
      subst h
      rw [List.getElem?_append_left (by rw [E.len]; omega)]
      simp
    | succ j =>
      simp at h
      rw [List.getElem?_append_right (by rw [E.len, Nat.add_mul]; omega), ← ih h, E.len]
      congr 1
      rw [Nat.add_mul]
      omega
theorem EncG.oneCell (E : EncG enc k) (l : List α) : ∀ u ∈ rowG enc l, u.oneCell' = true := by
  intro u hu
  obtain ⟨x, _, hx⟩ := List.mem_flatMap.1 hu
  exact E.one x u hx
theorem EncG.set (E : EncG enc k) {l : List α} {j : Nat} {x y : α} (h : l[j]? = some x) (i : Nat) (hi : i < k) (u : Value) (hy : enc y = (enc x).set i u) : (rowG enc l).set (j * k + i) u = rowG enc (l.set j y) := by
  induction l generalizing j with
  | nil => simp at h
  | cons a r ih =>
    cases j with
    | zero =>
      simp at h
      subst h
      rw [rowG_cons, List.set_cons_zero, rowG_cons, hy, List.set_append_left _ _ (by rw [E.len]; omega)]
      simp
    | succ j =>
      simp at h
      rw [rowG_cons, List.set_cons_succ, rowG_cons, ← ih h, List.set_append_right _ _ (by rw [E.len, Nat.add_mul]; omega), E.len]
      congr 2
      rw [Nat.add_mul]
      omega
theorem EncG.drop (E : EncG enc k) (l : List α) (m : Nat) : (rowG enc l).drop (m * k) = rowG enc (l.drop m) := by
  induction m generalizing l with
  | zero => simp
  | succ m ih =>
    cases l with
    | nil => simp [rowG]
    | cons a r =>
      rw [rowG_cons, List.drop_succ_cons, ← ih r, Nat.add_mul, Nat.one_mul, Nat.add_comm, ← List.drop_drop]
      congr 1
      rw [← E.len a, List.drop_left]
theorem EncG.take (E : EncG enc k) (l : List α) (m : Nat) : (rowG enc l).take (m * k) = rowG enc (l.take m) := by
  induction m generalizing l with
  | zero => simp [rowG]
  | succ m ih =>
    cases l with
    | nil => simp [rowG]
    | cons a r =>
      rw [rowG_cons, List.take_succ_cons, rowG_cons, ← ih r, Nat.add_mul, Nat.one_mul, Nat.add_comm]
      rw [← E.len a, List.take_length_add_append]

/-- The slice v holds the elements of l, in a row that lies at base or behind. -/
def OwnG (enc : α → List Value) (k : Nat) (e : TypeId) (w : World) (base : Nat) (v : Value) (l : List α) : Prop := w.ownsRow base e k v l.length (rowG enc l)
variable {w w' : World} {base : Nat} {v : Value} {l : List α}
theorem OwnG.nil (w : World) (base : Nat) : OwnG enc k e w base (.slice none 0 0) [] := World.ownsRow_nil _ _ _ _
theorem OwnG.mono {base' : Nat} (h : OwnG enc k e w base v l) (hb : base' ≤ base) : OwnG enc k e w base' v l := by
  rcases h.2 with ⟨rfl, h0⟩ | ⟨g, cap, cur, rfl, hb', r⟩
  · exact ⟨h.1, Or.inl ⟨rfl, h0⟩⟩
  · exact ⟨h.1, Or.inr ⟨g, cap, cur, rfl, Nat.le_trans hb hb', r⟩⟩
theorem OwnG.same (h : OwnG enc k e w base v l) (hb : ∀ i, v.ownBlock = some i → w'.heap[i]? = w.heap[i]?) : OwnG enc k e w' base v l := by
  rcases h.2 with ⟨rfl, h0⟩ | ⟨g, cap, cur, rfl, hb', hg, r⟩
  · exact ⟨h.1, Or.inl ⟨rfl, h0⟩⟩
  · exact ⟨h.1, Or.inr ⟨g, cap, cur, rfl, hb', (hb g rfl).trans hg, r⟩⟩
theorem OwnG.block (h : OwnG enc k e w base v l) {i : Nat} (hi : v.ownBlock = some i) : (∃ cur, w.heap[i]? = some (.cells cur e (0, 0))) ∧ base ≤ i ∧ i < w.heap.size := by
  rcases h.2 with ⟨rfl, _⟩ | ⟨g, cap, cur, rfl, hb, hg, _⟩
  · cases hi
  · have : g = i := by simpa [Value.ownBlock] using hi
    subst this
    exact ⟨⟨cur, hg⟩, hb, (Array.getElem?_eq_some_iff.1 hg).1⟩
theorem OwnG.keptS {S : Nat → Prop} (h : OwnG enc k e w base v l) (hk : Kept S w w') (hS : ∀ i, v.ownBlock = some i → ¬ S i) : OwnG enc k e w' base v l :=
  h.same (fun i hi => hk.block i (h.block hi).2.2 (hS i hi))
theorem OwnG.kept0 (h : OwnG enc k e w base v l) (hk : Kept (fun _ => False) w w') : OwnG enc k e w' base v l := h.keptS hk (fun _ _ => id)
/-- Where it lies, if it has an element. -/
theorem OwnG.lies (h : OwnG enc k e w base v l) (hne : l ≠ []) : ∃ g cap, v = .slice (some ⟨g, 0, none⟩) l.length cap ∧ base ≤ g ∧ l.length ≤ cap ∧ cap ≤ maxLen ∧ (∀ i, i < l.length * k → w.cell? ⟨g, i, none⟩ = (rowG enc l)[i]?) ∧ ∀ i, w.frozen? ⟨g, i, none⟩ = false := by
  rcases h.2 with ⟨_, h0⟩ | ⟨g, cap, cur, rfl, hb, hg, h1, h2, h3, h4⟩
  · exact absurd (List.eq_nil_of_length_eq_zero h0) hne
  · refine ⟨g, cap, rfl, hb, h1, h2, fun i hi => ?_, fun i => frozen_of_row _ g i _ _ hg⟩
    rw [← h4, List.getElem?_take_of_lt hi]
    simp [World.cell?, hg]
/-- The cells of one of its elements. -/
theorem OwnG.at {p : Option Addr} {n cap : Nat} (h : OwnG enc k e w base (.slice p n cap) l) (E : EncG enc k) {j : Nat} {x : α} (hj : l[j]? = some x) : ∃ g, p = some ⟨g, 0, none⟩ ∧ n = l.length ∧ base ≤ g ∧ l.length ≤ cap ∧ cap ≤ maxLen ∧ (∀ i u, (enc x)[i]? = some u → w.cell? ⟨g, j * k + i, none⟩ = some u) ∧ ∀ i, w.frozen? ⟨g, i, none⟩ = false := by
  have hlt := (List.getElem?_eq_some_iff.1 hj).1
  obtain ⟨g, cap', e', hb, h1, h2, hc, hf⟩ := h.lies (fun e => by rw [e] at hlt; simp at hlt)
  simp only [Value.slice.injEq] at e'
  obtain ⟨rfl, rfl, rfl⟩ := e'
  refine ⟨g, rfl, rfl, hb, h1, h2, fun i u hu => ?_, hf⟩
  have hi := (List.getElem?_eq_some_iff.1 hu).1
  rw [E.len] at hi
  have hm : (j + 1) * k ≤ l.length * k := Nat.mul_le_mul_right k hlt
  rw [Nat.add_mul, Nat.one_mul] at hm
  rw [hc _ (by omega), E.get hj i hi, hu]
/-- One cell of an element is written. -/
theorem OwnG.setAt {g n cap : Nat} (h : OwnG enc k e w base (.slice (some ⟨g, 0, none⟩) n cap) l) (E : EncG enc k) {j : Nat} {x y : α} (hj : l[j]? = some x) (i : Nat) (hi : i < k) (u : Value) (hy : enc y = (enc x).set i u) :
    OwnG enc k e (w.setCell ⟨g, j * k + i, none⟩ u) base (.slice (some ⟨g, 0, none⟩) n cap) (l.set j y) := by
  rcases h.2 with ⟨e', _⟩ | ⟨g', cap', cur, e', hb, hg, h1, h2, h3, h4⟩
  · cases e'
  · simp only [Value.slice.injEq, Option.some.injEq, Addr.mk.injEq, and_true] at e'
    obtain ⟨rfl, hn, rfl⟩ := e'
    have hn' : n = l.length := hn
    subst hn'
    refine ⟨E.length _, Or.inr ⟨g, cap, cur.setIfInBounds (j * k + i) u, by rw [List.length_set], hb, Joins.block_setCell hg u, by rw [List.length_set]; exact h1, h2, by rw [Array.size_setIfInBounds]; exact h3, ?_⟩⟩
    rw [List.length_set, Array.toList_setIfInBounds, List.take_set, h4]
    exact E.set hj i hi u hy

/-- What 'append' makes of two lists. -/
def AppG (P : Program) (t : TypeId) (w : World) (v u v' : Value) (w' : World) : Prop := ∀ ty, (Builtin.append_ #[t, t] ty #[v, u]).run P w = .ok v' w'
/-- What is known of an element's type. -/
structure TyG (P : Program) (t e : TypeId) (k : Nat) (z : Value) (bytes : Nat) : Prop where
  sl : P.underlying t = Option.some (.slice e)
  info : (P.info? e).map (fun i => (i.zero, i.size, i.bytes)) = Option.some (Option.some z, k, bytes)
  zs : z.cells.size = k
  by' : bytes ≤ 1000
/-- 'append' of elements that lie somewhere onto a row of the call's own. -/
theorem OwnG.append {P : Program} {t : TypeId} {z : Value} {bytes : Nat} (T : TyG P t e k z bytes) (E : EncG enc k) (h : OwnG enc k e w base v l) (hbase : base ≤ w.heap.size) (ad : Addr) (c : Nat) (news : List α) (hm : news ≠ []) (hc : ∀ j u, (rowG enc news)[j]? = some u → w.cell? (ad.add j) = some u) (hroom : l.length + news.length ≤ 1000000) :
    ∃ v' w', AppG P t w v (.slice (Option.some ad) news.length c) v' w' ∧ OwnG enc k e w' base v' (l ++ news) ∧ Grew w w' v v' l.length news.length := by
  obtain ⟨i0, hi0, hz0, hz1, hz2⟩ := info_parts T.info
  obtain ⟨v', w', h1, h2, h3⟩ := owned_append (P := P) T.sl hi0 hz0 hz1 hz2 T.zs E.pos h hbase ad news.length c (rowG enc news) (List.length_pos_iff.2 hm) (E.length _) hc (E.oneCell _) hroom T.by'
  refine ⟨v', w', h1, ?_, h3⟩
  unfold OwnG
  rw [rowG_append, List.length_append]
  exact h2
/-- 'append' of nothing. -/
theorem OwnG.appendNone {P : Program} {t : TypeId} {z : Value} {bytes : Nat} (T : TyG P t e k z bytes) (h : OwnG enc k e w base v l) (p : Option Addr) (c : Nat) : AppG P t w v (.slice p 0 c) v w := by
  obtain ⟨i0, hi0, hz0, hz1, hz2⟩ := info_parts T.info
  have hsrc : Src P i0.size t (.slice p 0 c) 0 [] w := by
    cases p with
    | none => exact Src.ofNil w T.sl c
    | some a => exact Src.ofSlice w T.sl a 0 c [] (by simp) (fun j u hj => by simp at hj) (fun u hu => by simp at hu)
  intro ty
  rcases h.2 with ⟨rfl, _⟩ | ⟨g, cap, cur, rfl, _, _, h1, _⟩
  · exact run_append_nothing w _ _ _ _ i0 T.sl hi0 Option.none 0 0 (Nat.le_refl _) _ hsrc
  · exact run_append_nothing w _ _ _ _ i0 T.sl hi0 _ _ _ h1 _ hsrc
theorem Grew.kept {v' : Value} {n m : Nat} (h : Grew w w' v v' n m) : Kept (fun i => v.ownBlock = some i) w w' := by
  rcases h with ⟨g, cap, rfl, rfl, hk⟩ | ⟨cap', rfl, hk, _⟩
  · exact hk.mono (fun i _ e => by rw [e]; rfl)
  · exact hk.mono (fun i _ e => e.elim)
/-- 'append' of a list that lies somewhere, or of nothing. -/
theorem OwnG.appendList {P : Program} {t : TypeId} {z : Value} {bytes : Nat} (T : TyG P t e k z bytes) (E : EncG enc k) (h : OwnG enc k e w base v l) (hbase : base ≤ w.heap.size) (p : Option Addr) (c : Nat) (news : List α) (hc : news ≠ [] → ∃ ad, p = some ad ∧ ∀ j u, (rowG enc news)[j]? = some u → w.cell? (ad.add j) = some u) (hroom : l.length + news.length ≤ 1000000) :
    ∃ v' w', AppG P t w v (.slice p news.length c) v' w' ∧ OwnG enc k e w' base v' (l ++ news) ∧ Kept (fun i => v.ownBlock = some i) w w' := by
  by_cases hn : news = []
  · subst hn
    exact ⟨v, w, h.appendNone T p c, by rw [List.append_nil]; exact h, Kept.refl _ _⟩
  · obtain ⟨ad, rfl, hcs⟩ := hc hn
    obtain ⟨v', w', h1, h2, h3⟩ := h.append T E hbase ad c news hn hcs hroom
    exact ⟨v', w', h1, h2, h3.kept⟩
end
/-- 'append' whose run is known, in a region that draws. -/
theorem stepG_append {P : Program} {ops : Array Oper} {o : Oper} {a : Act} {w : World} {K : Act → World → Prop} {Q : Exit → Act → World → Prop} {E : Prop} (hg : o.guard = none) (d x : Operand) (t : TypeId) (hop : o.op = Op.call { callee := Callee.builtin Builtin.append, args := #[d, x], argTypes := #[t, t] })
    (v u : Value) (hd : a.eval d = v) (hx : a.eval x = u) {v' : Value} {w' : World} (hr : (Builtin.append_ #[t, t] o.type #[v, u]).run P w = .ok v' w') (hK : K (a.put o.dst v') w') :
    if Region.wanted o (yielded ops a.tmps) = true then Oper.wp P o a w K Q else E := by
  rw [if_pos (by simp [Region.wanted, hg])]
  unfold Oper.wp execOp
  simp only [hop, resolve, invoke, builtin, Sem.run_bind, Sem.run_pure, Result.andThen_ok, List.map_toArray, List.map_cons, List.map_nil, hd, hx, hr]
  exact hK
end Go.Proofs.Ytoflohomnoppnaa
