/- Lists of tags that a book keeps, in memory: their rows, each apart from the others. -/
import Derived.Test.YtnghakhgogfemaaGreatDoorVaMark
namespace Go.Proofs.YtnghakhgogfemaaGreatDoor.BAvps
open Go.RowKit

/-- A row of lists. -/
def RowS (W : World) (base : Nat) (v : Value) (vs : List Value) : Prop := W.ownsRow base 22 1 v vs.length vs

/-- The lists vs hold the packets of Ls. -/
structure Fam (W : World) (base : Nat) (vs : List Value) (Ls : List (List El)) : Prop where
  len : vs.length = Ls.length
  own : ∀ (r : Nat) (v : Value) (L : List El), vs[r]? = some v → Ls[r]? = some L → OwnB W base v L

theorem own_lt {W : World} {base : Nat} {v : Value} {L : List El} (h : OwnB W base v L) {g : Nat} (hg : v.ownBlock = some g) : base ≤ g ∧ g < W.heap.size := World.ownsRow.lt h g hg

theorem own_kept {W W' : World} {S : Nat → Prop} {base : Nat} {v : Value} {L : List El} (h : OwnB W base v L) (hk : Kept S W W') (hS : ∀ i, v.ownBlock = some i → ¬ S i) : OwnB W' base v L := owned_kept h hk hS

theorem Fam.kept {W W' : World} {S : Nat → Prop} {base : Nat} {vs : List Value} {Ls : List (List El)} (h : Fam W base vs Ls) (hk : Kept S W W') (hS : ∀ (r : Nat) (v : Value) (i : Nat), vs[r]? = some v → v.ownBlock = some i → ¬ S i) : Fam W' base vs Ls :=
  ⟨h.len, fun r v L hv hL => own_kept (h.own r v L hv hL) hk (fun i hi => hS r v i hv hi)⟩

theorem Fam.kept0 {W W' : World} {base : Nat} {vs : List Value} {Ls : List (List El)} (h : Fam W base vs Ls) (hk : Kept (fun _ => False) W W') : Fam W' base vs Ls := h.kept hk (fun _ _ _ _ _ => id)

theorem Fam.nil (W : World) (base : Nat) : Fam W base [] [] := ⟨rfl, fun r v L hv => by simp at hv⟩

theorem Fam.at {W : World} {base : Nat} {vs : List Value} {Ls : List (List El)} (h : Fam W base vs Ls) {r : Nat} {v : Value} (hv : vs[r]? = some v) : ∃ L, Ls[r]? = some L ∧ OwnB W base v L := by
  have hlt := (List.getElem?_eq_some_iff.1 hv).1
  have hl : r < Ls.length := by rw [← h.len]; exact hlt
  exact ⟨Ls[r], by simp, h.own r v _ hv (by simp)⟩

theorem Fam.snoc {W : World} {base : Nat} {vs : List Value} {Ls : List (List El)} (h : Fam W base vs Ls) {v : Value} {L : List El} (hv : OwnB W base v L) : Fam W base (vs ++ [v]) (Ls ++ [L]) := by
  refine ⟨by simp [h.len], fun r u M hu hM => ?_⟩
  by_cases hr : r < vs.length
  · rw [List.getElem?_append_left hr] at hu
    rw [List.getElem?_append_left (by rw [← h.len]; exact hr)] at hM
    exact h.own r u M hu hM
  · rw [List.getElem?_append_right (by omega)] at hu
    rw [List.getElem?_append_right (by rw [← h.len]; omega)] at hM
    have e : r - vs.length = 0 := by
      have := (List.getElem?_eq_some_iff.1 hu).1
      simp at this
      omega
    rw [e] at hu
    rw [← h.len, e] at hM
    simp at hu hM
    rw [← hu, ← hM]
    exact hv

/-- One list's packets turn. -/
theorem Fam.set {W W' : World} {base : Nat} {vs : List Value} {Ls : List (List El)} (h : Fam W base vs Ls) (ha : Apart vs) {j : Nat} {v : Value} (hj : vs[j]? = some v) (hk : Kept (fun i => v.ownBlock = some i) W W') {L' : List El} (hown : OwnB W' base v L') : Fam W' base vs (Ls.set j L') := by
  refine ⟨by rw [List.length_set]; exact h.len, fun r u M hu hM => ?_⟩
  by_cases hr : r = j
  · subst hr
    have hlt := (List.getElem?_eq_some_iff.1 hj).1
    rw [List.getElem?_set_self (by rw [← h.len]; exact hlt)] at hM
    cases hM
    rw [hj] at hu
    cases hu
    exact hown
  · rw [List.getElem?_set_ne (fun e => hr e.symm)] at hM
    exact own_kept (h.own r u M hu hM) hk (fun i hi hS => hr (ha r j u v hu hj ⟨i, hi, hS⟩))

/-- A list that is a part of another one's row holds its first packets. -/
theorem own_part {W : World} {base : Nat} {g n m cap : Nat} {L G : List El} (hL : OwnB W base (.slice (some ⟨g, 0, none⟩) n cap) L) (hG : OwnB W base (.slice (some ⟨g, 0, none⟩) m cap) G) : L.length = n ∧ G.length = m ∧ ∃ cur : Array Value, cur.toList.take (n * 5) = rowB L ∧ cur.toList.take (m * 5) = rowB G := by
  rcases hL.2 with ⟨h', _⟩ | ⟨g', cap', cur, h', hb, hg, h1, h2, h3, h4⟩
  · simp at h'
  · rcases hG.2 with ⟨k', _⟩ | ⟨g2, cap2, cur2, k', kb, kg, k1, k2, k3, k4⟩
    · simp at k'
    · simp only [Value.slice.injEq, Option.some.injEq, Addr.mk.injEq, and_true] at h' k'
      obtain ⟨rfl, rfl, rfl⟩ := h'
      obtain ⟨rfl, rfl, rfl⟩ := k'
      rw [hg] at kg
      simp at kg
      subst kg
      exact ⟨rfl, rfl, cur, h4, k4⟩

/-- What is under way while lists grow. -/
structure GrowSt (W : World) (base : Nat) (vs : List Value) (Ls : List (List El)) (gs : List Value) (Gs : List (List El)) : Prop where
  fam : Fam W base vs Ls
  grown : Fam W base gs Gs
  apart : Apart vs
  gapart : Apart gs
  cross : ∀ (r q : Nat) (u v : Value), gs[r]? = some u → vs[q]? = some v → Shares u v → r = q

/-- The list that grows: v, which was vs[j]. -/
structure Cur (W : World) (base : Nat) (vs gs : List Value) (j : Nat) (v : Value) (G : List El) : Prop where
  own : OwnB W base v G
  links : ∀ (r : Nat) (u : Value), vs[r]? = some u → Shares u v → r = j ∧ ∃ g n cap, n ≤ G.length ∧ u = .slice (some ⟨g, 0, none⟩) n cap ∧ v = .slice (some ⟨g, 0, none⟩) G.length cap
  far : ∀ (r : Nat) (u : Value), gs[r]? = some u → ¬ Shares u v

theorem cur_start {W : World} {base : Nat} {vs gs : List Value} {Ls Gs : List (List El)} (h : GrowSt W base vs Ls gs Gs) {v : Value} {L : List El} (hv : vs[gs.length]? = some v) (hL : Ls[gs.length]? = some L) : Cur W base vs gs gs.length v L := by
  refine ⟨h.fam.own _ v L hv hL, fun r u hu hs => ?_, fun r u hu hs => ?_⟩
  · have e := h.apart r gs.length u v hu hv hs
    subst e
    rw [hv] at hu
    cases hu
    refine ⟨rfl, ?_⟩
    obtain ⟨g, hg, _⟩ := hs
    have ho := h.fam.own _ v L hv hL
    rcases ho.2 with ⟨rfl, _⟩ | ⟨g', cap, cur, rfl, _⟩
    · cases hg
    · exact ⟨g', _, cap, Nat.le_refl _, rfl, rfl⟩
  · have e := h.cross r gs.length u v hu hv hs
    have := (List.getElem?_eq_some_iff.1 hu).1
    omega

/-- It grows. -/
theorem cur_step {W W' : World} {base : Nat} {vs gs : List Value} {Ls Gs : List (List El)} {j m : Nat} {v v' : Value} {G N : List El} (h : GrowSt W base vs Ls gs Gs) (hc : Cur W base vs gs j v G) (hm : N.length = m) (hg : Grew W W' v v' G.length m) (ho : OwnB W' base v' (G ++ N)) :
    GrowSt W' base vs Ls gs Gs ∧ Cur W' base vs gs j v' (G ++ N) := by
  rcases hg with ⟨g, cap, rfl, rfl, hk⟩ | ⟨cap', rfl, hk, hlt⟩
  · have hfar : ∀ (r : Nat) (u : Value) (i : Nat), gs[r]? = some u → u.ownBlock = some i → ¬ i = g := fun r u i hu hi e => by
      subst e
      exact hc.far r u hu ⟨i, hi, rfl⟩
    refine ⟨⟨⟨h.fam.len, fun r u L hu hL => ?_⟩, h.grown.kept hk hfar, h.apart, h.gapart, h.cross⟩, ho, fun r u hu hs => ?_, fun r u hu hs => ?_⟩
    · have hou := h.fam.own r u L hu hL
      by_cases hsh : Shares u (.slice (some ⟨g, 0, none⟩) G.length cap)
      · obtain ⟨_, g', n, cap', hn, rfl, e⟩ := hc.links r u hu hsh
        simp only [Value.slice.injEq, Option.some.injEq, Addr.mk.injEq, and_true, true_and] at e
        obtain ⟨rfl, rfl⟩ := e
        obtain ⟨q1, q2, cur, q3, q4⟩ := own_part hou hc.own
        have ho' : W'.ownsRow base 59 5 (.slice (some ⟨g, 0, none⟩) (G.length + m) cap) (G.length + m) (rowB (G ++ N)) := by
          have : (G ++ N).length = G.length + m := by rw [List.length_append, hm]
          rw [← this]
          rw [← this] at ho
          exact ho
        have hp := owned_first (m := n) ho' (by omega)
        have e2 : (rowB (G ++ N)).take (n * 5) = rowB L := by
          rw [rowB_append, List.take_append_of_le_length (by rw [rowB_length]; omega), ← q4, List.take_take, Nat.min_eq_left (by omega), q3]
        rw [e2] at hp
        unfold OwnB
        rw [q1]
        exact hp
      · refine own_kept hou hk (fun i hi e => hsh ?_)
        subst e
        exact ⟨i, hi, rfl⟩
    · obtain ⟨g0, h1, h2⟩ := hs
      obtain ⟨hr, g', n, cap', hn, rfl, e⟩ := hc.links r u hu ⟨g0, h1, h2⟩
      simp only [Value.slice.injEq, Option.some.injEq, Addr.mk.injEq, and_true, true_and] at e
      obtain ⟨rfl, rfl⟩ := e
      exact ⟨hr, g, n, cap, by rw [List.length_append]; omega, rfl, by rw [List.length_append, hm]⟩
    · obtain ⟨g0, h1, h2⟩ := hs
      exact hc.far r u hu ⟨g0, h1, h2⟩
  · have hnew : ∀ u, (∃ L, OwnB W base u L) → ¬ Shares u (.slice (some ⟨W.heap.size, 0, none⟩) (G.length + m) cap') := fun u ⟨L, hL⟩ ⟨g, h1, h2⟩ => by
      have := (own_lt hL h1).2
      have e : W.heap.size = g := by simpa [Value.ownBlock] using h2
      omega
    refine ⟨⟨h.fam.kept0 hk, h.grown.kept0 hk, h.apart, h.gapart, h.cross⟩, ho, fun r u hu hs => ?_, fun r u hu hs => ?_⟩
    · obtain ⟨L, _, hL⟩ := h.fam.at hu
      exact absurd hs (hnew u ⟨L, hL⟩)
    · obtain ⟨L, _, hL⟩ := h.grown.at hu
      exact absurd hs (hnew u ⟨L, hL⟩)

/-- Nothing of these turns. -/
theorem GrowSt.kept0 {W W' : World} {base : Nat} {vs gs : List Value} {Ls Gs : List (List El)} (h : GrowSt W base vs Ls gs Gs) (hk : Kept (fun _ => False) W W') : GrowSt W' base vs Ls gs Gs := ⟨h.fam.kept0 hk, h.grown.kept0 hk, h.apart, h.gapart, h.cross⟩
theorem Cur.kept0 {W W' : World} {base : Nat} {vs gs : List Value} {j : Nat} {v : Value} {G : List El} (h : Cur W base vs gs j v G) (hk : Kept (fun _ => False) W W') : Cur W' base vs gs j v G := ⟨h.own.kept hk, h.links, h.far⟩
/-- A row of lists that turns is none of theirs. -/
theorem GrowSt.row {W W' : World} {base base' n : Nat} {vs gs : List Value} {Ls Gs : List (List El)} {x : Value} {xs : List Value} (h : GrowSt W base vs Ls gs Gs) (hx : W.ownsRow base' 22 1 x n xs) (hk : Kept (fun i => x.ownBlock = some i) W W') : GrowSt W' base vs Ls gs Gs :=
  ⟨h.fam.kept hk (fun r v i hv hi hS => by
    obtain ⟨L, _, hL⟩ := h.fam.at hv
    exact owned_unlike hL hx (by decide) i hi hS), h.grown.kept hk (fun r v i hv hi hS => by
    obtain ⟨L, _, hL⟩ := h.grown.at hv
    exact owned_unlike hL hx (by decide) i hi hS), h.apart, h.gapart, h.cross⟩

/-- It is grown. -/
theorem grow_end {W : World} {base : Nat} {vs gs : List Value} {Ls Gs : List (List El)} {v : Value} {G : List El} (h : GrowSt W base vs Ls gs Gs) (hc : Cur W base vs gs gs.length v G) : GrowSt W base vs Ls (gs ++ [v]) (Gs ++ [G]) := by
  refine ⟨h.fam, h.grown.snoc hc.own, h.apart, h.gapart.snoc hc.far, fun r q u x hu hx hs => ?_⟩
  by_cases hr : r < gs.length
  · rw [List.getElem?_append_left hr] at hu
    exact h.cross r q u x hu hx hs
  · rw [List.getElem?_append_right (by omega)] at hu
    have := (List.getElem?_eq_some_iff.1 hu).1
    simp at this
    have e : r - gs.length = 0 := by omega
    rw [e] at hu
    simp at hu
    subst hu
    obtain ⟨g, g1, g2⟩ := hs
    have := (hc.links q x hx ⟨g, g2, g1⟩).1
    omega
end Go.Proofs.YtnghakhgogfemaaGreatDoor.BAvps
