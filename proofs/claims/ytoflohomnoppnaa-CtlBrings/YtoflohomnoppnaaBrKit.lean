/- Two ends, what each was given and told, the ways between them, in one memory: whose each block is. (Written by gen_brkit.py.) -/
import Derived.Test.YtoflohomnoppnaaBrP
import Derived.Test.YtoflohomnoppnaaFairKit
namespace Go.Proofs.Ytoflohomnoppnaa
open Go.RowKit

def upd {α : Type} (f : Nat → α) (k : Nat) (v : α) : Nat → α := fun i => if i = k then v else f i
theorem upd_at {α : Type} (f : Nat → α) (k : Nat) (v : α) : upd f k v k = v := if_pos rfl
theorem upd_far {α : Type} (f : Nat → α) {k i : Nat} (v : α) (h : i ≠ k) : upd f k v i = f i := if_neg h
/-- What stays true of two ends and what is on its way. -/
structure InvB (first window : Int) (c : Nat → Cn) (S G : Nat → List ByteArray) (W : Nat → List Ite) (a h : Nat → Nat) : Prop where
  half : ∀ k, k < 2 → Half first (c k) (c (1 - k)) (S k) (G (1 - k)) (a k) (h k)
  win : ∀ k, k < 2 → WinQ window (c k)
  items : ∀ k, k < 2 → ∀ x ∈ W k, ItemOk first (S k) (a k + (c k).flies.length) (h (1 - k)) x
section
variable {first window : Int} {c : Nat → Cn} {S G : Nat → List ByteArray} {W : Nat → List Ite} {a h : Nat → Nat}
theorem two_cases {k j : Nat} (hk : k < 2) (hj : j < 2) : j = k ∧ 1 - j = 1 - k ∧ 1 - k ≠ k ∨ j = 1 - k ∧ 1 - j = k ∧ 1 - k ≠ k := by omega
theorem InvB.tick (H : InvB first window c S G W a h) {k : Nat} (hk : k < 2) : InvB first window (upd c k (tickN (c k))) S G W a h := by
  obtain ⟨e1, e2, e3, e4⟩ := tickN_same (c k)
  refine ⟨fun j hj => ?_, fun j hj => ?_, fun j hj x hx => ?_⟩
  · rcases two_cases hk hj with ⟨rfl, q, n⟩ | ⟨rfl, q, n⟩
    · rw [upd_at, upd_far _ _ n]
      exact (H.half j hj).same e2 e3 e4 rfl
    · rw [upd_far _ _ n, q, upd_at]
      have := H.half (1 - k) hj
      rw [q] at this
      exact this.same rfl rfl rfl e1
  · rcases two_cases hk hj with ⟨rfl, q, n⟩ | ⟨rfl, q, n⟩
    · rw [upd_at]
      exact (H.win j hj).tick
    · rw [upd_far _ _ n]
      exact H.win _ hj
  · rcases two_cases hk hj with ⟨rfl, q, n⟩ | ⟨rfl, q, n⟩
    · rw [upd_at, e2]
      exact H.items j hj x hx
    · rw [upd_far _ _ n]
      exact H.items _ hj x hx
theorem InvB.give0 (H : InvB first window c S G W a h) {k : Nat} (hk : k < 2) {m : ByteArray} (hm : ¬ m.size = 0) (hr : (giveN (c k) m).2 = 0) : InvB first window (upd c k (giveN (c k) m).1) (upd S k (S k ++ [m])) G W a h := by
  obtain ⟨e1, e2⟩ := giveN_come (c k) m
  refine ⟨fun j hj => ?_, fun j hj => ?_, fun j hj x hx => ?_⟩
  · rcases two_cases hk hj with ⟨rfl, q, n⟩ | ⟨rfl, q, n⟩
    · rw [upd_at, upd_at, upd_far _ _ n]
      exact (H.half j hj).give hm hr
    · rw [upd_far _ _ n, upd_far _ _ n, q, upd_at]
      have := H.half (1 - k) hj
      rw [q] at this
      exact this.same rfl rfl rfl e1
  · rcases two_cases hk hj with ⟨rfl, q, n⟩ | ⟨rfl, q, n⟩
    · rw [upd_at]
      exact (H.win j hj).give m
    · rw [upd_far _ _ n]
      exact H.win _ hj
  · rcases two_cases hk hj with ⟨rfl, q, n⟩ | ⟨rfl, q, n⟩
    · rw [upd_at, upd_at, e2]
      exact (H.items j hj x hx).mono (fun t y hy => by rw [List.getElem?_append_left (List.getElem?_eq_some_iff.1 hy).1]; exact hy) (Nat.le_refl _) (Nat.le_refl _)
    · rw [upd_far _ _ n, upd_far _ _ n]
      exact H.items _ hj x hx
theorem upd_self {α : Type} (f : Nat → α) (k : Nat) : upd f k (f k) = f := funext fun i => by
  unfold upd
  split
  · rename_i e
    rw [e]
  · rfl
theorem InvB.out (H : InvB first window c S G W a h) {k : Nat} (hk : k < 2) : InvB first window (upd c k (outN (c k)).1) S G (upd W k (W k ++ (outN (c k)).2)) a h := by
  have hc : (c k).come = wrapN (first + (h (1 - k) : Int)) := by
    have := (H.half (1 - k) (by omega)).come
    rw [show 1 - (1 - k) = k by omega] at this
    exact this
  obtain ⟨o1, o2, o3, o4, o5⟩ := (H.half k hk).out (H.win k hk) hc
  refine ⟨fun j hj => ?_, fun j hj => ?_, fun j hj x hx => ?_⟩
  · rcases two_cases hk hj with ⟨rfl, q, n⟩ | ⟨rfl, q, n⟩
    · rw [upd_at, upd_far _ _ n]
      exact o1
    · rw [upd_far _ _ n, q, upd_at]
      have := H.half (1 - k) hj
      rw [q] at this
      exact this.same rfl rfl rfl o3
  · rcases two_cases hk hj with ⟨rfl, q, n⟩ | ⟨rfl, q, n⟩
    · rw [upd_at]
      exact o2
    · rw [upd_far _ _ n]
      exact H.win _ hj
  · rcases two_cases hk hj with ⟨rfl, q, n⟩ | ⟨rfl, q, n⟩
    · rw [upd_at] at hx ⊢
      rcases List.mem_append.1 hx with g | g
      · exact (H.items j hj x g).mono (fun _ _ e => e) o4 (Nat.le_refl _)
      · exact o5 x g
    · rw [upd_far _ _ n] at hx ⊢
      exact H.items _ hj x hx
theorem InvB.take (H : InvB first window c S G W a h) {k : Nat} (hk : k < 2) (h60 : ∀ j, j < 2 → (S j).length ≤ 60) {x : Ite} (hx : ItemOk first (S k) (a k + (c k).flies.length) (h (1 - k)) x) : ∃ a' h', InvB first window (upd c (1 - k) (takeN (c (1 - k)) x).1) S (upd G (1 - k) (G (1 - k) ++ (takeN (c (1 - k)) x).2)) W a' h' := by
  have hk1 : 1 - k < 2 := by omega
  have hkk : 1 - (1 - k) = k := by omega
  have hne : k ≠ 1 - k := by omega
  have H1 := H.half k hk
  have H2 := H.half (1 - k) hk1
  rw [hkk] at H2
  obtain ⟨a2, h2, T1, T2, T3, T4⟩ := H1.take H2 hx (h60 k hk) (h60 _ hk1)
  refine ⟨upd a (1 - k) a2, upd h k h2, fun j hj => ?_, fun j hj => ?_, fun j hj y hy => ?_⟩
  · rcases two_cases hk hj with ⟨rfl, q, n⟩ | ⟨rfl, q, n⟩
    · rw [upd_far c _ hne, upd_at, upd_at, upd_far a _ hne, upd_at]
      exact T1
    · rw [upd_at, q, upd_far c _ hne, upd_far G _ hne, upd_at, upd_far h _ n]
      exact T2
  · rcases two_cases hk hj with ⟨rfl, q, n⟩ | ⟨rfl, q, n⟩
    · rw [upd_far c _ hne]
      exact H.win _ hj
    · rw [upd_at]
      exact (H.win _ hj).take x
  · rcases two_cases hk hj with ⟨rfl, q, n⟩ | ⟨rfl, q, n⟩
    · rw [upd_far c _ hne, upd_far a _ hne, upd_far h _ n]
      exact H.items j hj y hy
    · rw [upd_at, upd_at, T4, q, upd_at]
      have := H.items (1 - k) hj y hy
      rw [q] at this
      exact this.mono (fun _ _ e => e) (Nat.le_refl _) T3
theorem InvB.lose (H : InvB first window c S G W a h) {k : Nat} {L : List Ite} (hL : ∀ x ∈ L, x ∈ W k) : InvB first window c S G (upd W k L) a h :=
  ⟨H.half, H.win, fun j hj x hx => by
    by_cases e : j = k
    · subst e
      rw [upd_at] at hx
      exact H.items j hj x (hL x hx)
    · rw [upd_far _ _ e] at hx
      exact H.items j hj x hx⟩
theorem InvB.told (H : InvB first window c S G W a h) {k : Nat} (hk : k < 2) : (G (1 - k)).length ≤ (S k).length ∧ (S k).take (G (1 - k)).length = G (1 - k) ∧ ((c k).flies.length : Int) ≤ window := by
  have h1 := H.half k hk
  have h2 := h1.le
  have h3 := h1.hn
  have h4 := h1.got
  have h5 : (G (1 - k)).length = h k := by rw [h4, List.length_take]; omega
  exact ⟨by omega, by rw [h5]; exact h4.symm, (H.win k hk).fly⟩
end

/-- Two ends, six rows, four boxes: the blocks of each have its colour. -/
structure BrE (col : Nat → Nat) (w wr : World) (ad : Nat → Nat) (c : Nat → Cn) (p q vs vg vx : Nat → Value) (S G : Nat → List ByteArray) (W : Nat → List Ite) (be bs bg bx : Nat) : Prop where
  m : ∀ k, k < 2 → CnIn wr (ad k) (c k) (p k) (q k)
  s : ∀ k, k < 2 → OwnS wr w.heap.size (vs k) (S k)
  g : ∀ k, k < 2 → OwnS wr w.heap.size (vg k) (G k)
  x : ∀ k, k < 2 → OwnI wr w.heap.size (vx k) (W k)
  cm : ∀ k, k < 2 → ∀ i, Sn (ad k) (p k) (q k) i → col i = k ∧ w.heap.size ≤ i
  cs : ∀ k, k < 2 → ∀ i, (vs k).ownBlock = some i → col i = 2 + k
  cg : ∀ k, k < 2 → ∀ i, (vg k).ownBlock = some i → col i = 4 + k
  cx : ∀ k, k < 2 → ∀ i, (vx k).ownBlock = some i → col i = 6 + k
  ze : wr.heap[be]? = some (.cells #[.pointer (some ⟨ad 0, 0, none⟩), .pointer (some ⟨ad 1, 0, none⟩)] 44 (0, 0))
  zs : wr.heap[bs]? = some (.cells #[vs 0, vs 1] 45 (0, 0))
  zg : wr.heap[bg]? = some (.cells #[vg 0, vg 1] 45 (0, 0))
  zx : wr.heap[bx]? = some (.cells #[vx 0, vx 1] 48 (0, 0))
  ke : col be = 8 ∧ w.heap.size ≤ be
  ks : col bs = 9 ∧ w.heap.size ≤ bs
  kg : col bg = 10 ∧ w.heap.size ≤ bg
  kx : col bx = 11 ∧ w.heap.size ≤ bx
  kept : Kept (fun _ => False) w wr
section
variable {col : Nat → Nat} {w wr w1 wx : World} {ad : Nat → Nat} {c : Nat → Cn} {p q vs vg vx : Nat → Value} {S G : Nat → List ByteArray} {W : Nat → List Ite} {be bs bg bx : Nat}
theorem blk_lt {b : Nat} {cs : Array Value} {t : TypeId} (h : wr.heap[b]? = some (.cells cs t (0, 0))) : b < wr.heap.size := (Array.getElem?_eq_some_iff.1 h).1
theorem blk_cell {b : Nat} {cs : Array Value} {t : TypeId} (h : wr.heap[b]? = some (.cells cs t (0, 0))) (i : Nat) : wr.cell? ⟨b, i, none⟩ = cs[i]? := by simp [World.cell?, h]
theorem two_at {α : Type} (f : Nat → α) {k : Nat} (hk : k < 2) : (#[f 0, f 1])[k]? = some (f k) := by
  rcases (by omega : k = 0 ∨ k = 1) with rfl | rfl <;> rfl
theorem two_set {α : Type} (f : Nat → α) {k : Nat} (hk : k < 2) (v : α) : (#[f 0, f 1]).setIfInBounds k v = #[upd f k v 0, upd f k v 1] := by
  rcases (by omega : k = 0 ∨ k = 1) with rfl | rfl <;> rfl
theorem BrE.kept0 (h : BrE col w wr ad c p q vs vg vx S G W be bs bg bx) (hk : Kept (fun _ => False) wr wx) : BrE col w wx ad c p q vs vg vx S G W be bs bg bx :=
  ⟨fun k h2 => (h.m k h2).kept0 hk, fun k h2 => (h.s k h2).kept0 hk, fun k h2 => (h.g k h2).kept0 hk, fun k h2 => (h.x k h2).kept0 hk, h.cm, h.cs, h.cg, h.cx, (hk.block _ (blk_lt h.ze) id).trans h.ze, (hk.block _ (blk_lt h.zs) id).trans h.zs, (hk.block _ (blk_lt h.zg) id).trans h.zg, (hk.block _ (blk_lt h.zx) id).trans h.zx, h.ke, h.ks, h.kg, h.kx, h.kept.trans hk⟩
/-- A call of one end. -/
theorem BrE.call (h : BrE col w wr ad c p q vs vg vx S G W be bs bg bx) {k : Nat} (h2 : k < 2) {c' : Cn} {p' q' : Value} (n : NextN wr wx (ad k) (p k) (q k) c' p' q') : BrE (colN wr.heap.size k col) w wx ad (upd c k c') (upd p k p') (upd q k q') vs vg vx S G W be bs bg bx := by
  have hs := h.kept.size
  have ne : ∀ {i e : Nat}, col i = e → e ≠ k → ¬ Sn (ad k) (p k) (q k) i := fun {i e} h3 h4 g => by
    have := (h.cm k h2 i g).1
    omega
  have bk : ∀ {b e : Nat} {cs : Array Value} {t : TypeId}, wr.heap[b]? = some (.cells cs t (0, 0)) → col b = e → e ≠ k → wx.heap[b]? = some (.cells cs t (0, 0)) := fun h3 h4 h5 => (n.kept.block _ (blk_lt h3) (ne h4 h5)).trans h3
  have cb : ∀ {b e : Nat} {cs : Array Value} {t : TypeId}, wr.heap[b]? = some (.cells cs t (0, 0)) → col b = e ∧ w.heap.size ≤ b → colN wr.heap.size k col b = e ∧ w.heap.size ≤ b := fun h3 h4 => ⟨by rw [colN_old (blk_lt h3)]; exact h4.1, h4.2⟩
  refine ⟨fun j hj => ?_, fun j hj => (h.s j hj).keptS n.kept (fun i hi => ne (h.cs j hj i hi) (by omega)), fun j hj => (h.g j hj).keptS n.kept (fun i hi => ne (h.cg j hj i hi) (by omega)), fun j hj => (h.x j hj).keptS n.kept (fun i hi => ne (h.cx j hj i hi) (by omega)), fun j hj i hi => ?_, fun j hj i hi => by rw [colN_old ((h.s j hj).block hi).2.2]; exact h.cs j hj i hi, fun j hj i hi => by rw [colN_old ((h.g j hj).block hi).2.2]; exact h.cg j hj i hi, fun j hj i hi => by rw [colN_old ((h.x j hj).block hi).2.2]; exact h.cx j hj i hi,
    bk h.ze h.ke.1 (by omega), bk h.zs h.ks.1 (by omega), bk h.zg h.kg.1 (by omega), bk h.zx h.kx.1 (by omega), cb h.ze h.ke, cb h.zs h.ks, cb h.zg h.kg, cb h.zx h.kx, h.kept.andThen n.kept (fun i hi g => by have := (h.cm k h2 i g).2; omega)⟩
  · by_cases e : j = k
    · subst e
      rw [upd_at, upd_at, upd_at]
      exact n.mem
    · rw [upd_far _ _ e, upd_far _ _ e, upd_far _ _ e]
      exact (h.m j hj).keptS n.kept (fun i hi => ne (h.cm j hj i hi).1 e)
  · by_cases e : j = k
    · subst e
      rw [upd_at, upd_at] at hi
      rcases n.new i hi with g | g
      · exact ⟨by rw [colN_old ((h.m j hj).lt g)]; exact (h.cm j hj i g).1, (h.cm j hj i g).2⟩
      · exact ⟨colN_new g, by omega⟩
    · rw [upd_far _ _ e, upd_far _ _ e] at hi
      exact ⟨by rw [colN_old ((h.m j hj).lt hi)]; exact (h.cm j hj i hi).1, (h.cm j hj i hi).2⟩

theorem BrE.growS (h : BrE col w wr ad c p q vs vg vx S G W be bs bg bx) {k : Nat} (h2 : k < 2) {v' : Value} {L' : List ByteArray} (ho : OwnS w1 w.heap.size v' L') (hk : Kept (fun i => (vs k).ownBlock = some i) wr w1) (hn : ∀ i, v'.ownBlock = some i → (vs k).ownBlock = some i ∨ wr.heap.size ≤ i) :
    BrE (colN wr.heap.size (2 + k) col) w (w1.setCell ⟨bs, k, none⟩ v') ad c p q (upd vs k v') vg vx (upd S k L') G W be bs bg bx := by
  have hs := h.kept.size
  have hlt := blk_lt h.zs
  have hkX : Kept (fun i => i = bs) w1 (w1.setCell ⟨bs, k, none⟩ v') := (Kept.refl (fun i => i = bs) w1).setCell (p := ⟨bs, k, none⟩) (Or.inr rfl) v'
  have hkk : Kept (fun i => (vs k).ownBlock = some i ∨ i = bs) wr (w1.setCell ⟨bs, k, none⟩ v') := (hk.mono (fun _ _ e => Or.inl e)).andThen hkX (fun _ _ e => Or.inr e)
  have ne : ∀ {i e : Nat}, col i = e → e ≠ 2 + k → e ≠ 9 → ¬ ((vs k).ownBlock = some i ∨ i = bs) := fun {i e} h3 h4 h5 g => by
    rcases g with g | rfl
    · have := h.cs k h2 i g
      omega
    · have := h.ks.1
      omega
  have bk : ∀ {b e : Nat} {cs : Array Value} {t : TypeId}, wr.heap[b]? = some (.cells cs t (0, 0)) → col b = e → e ≠ 2 + k → e ≠ 9 → (w1.setCell ⟨bs, k, none⟩ v').heap[b]? = some (.cells cs t (0, 0)) := fun h3 h4 h5 h6 => (hkk.block _ (blk_lt h3) (ne h4 h5 h6)).trans h3
  have cb : ∀ {b e : Nat} {cs : Array Value} {t : TypeId}, wr.heap[b]? = some (.cells cs t (0, 0)) → col b = e ∧ w.heap.size ≤ b → colN wr.heap.size (2 + k) col b = e ∧ w.heap.size ≤ b := fun h3 h4 => ⟨by rw [colN_old (blk_lt h3)]; exact h4.1, h4.2⟩
  refine ⟨fun j hj => (h.m j hj).keptS hkk (fun i hi => ne (h.cm j hj i hi).1 (by omega) (by omega)), fun j hj => ?_, fun j hj => (h.g j hj).keptS hkk (fun i hi => ne (h.cg j hj i hi) (by omega) (by omega)), fun j hj => (h.x j hj).keptS hkk (fun i hi => ne (h.cx j hj i hi) (by omega) (by omega)), fun j hj i hi => ⟨by rw [colN_old ((h.m j hj).lt hi)]; exact (h.cm j hj i hi).1, (h.cm j hj i hi).2⟩, fun j hj i hi => ?_, fun j hj i hi => by rw [colN_old ((h.g j hj).block hi).2.2]; exact h.cg j hj i hi, fun j hj i hi => by rw [colN_old ((h.x j hj).block hi).2.2]; exact h.cx j hj i hi,
    bk h.ze h.ke.1 (by omega) (by omega), ?_, bk h.zg h.kg.1 (by omega) (by omega), bk h.zx h.kx.1 (by omega) (by omega), cb h.ze h.ke, cb h.zs h.ks, cb h.zg h.kg, cb h.zx h.kx, h.kept.andThen hkk (fun i hi g => ?_)⟩
  · by_cases e : j = k
    · subst e
      rw [upd_at, upd_at]
      refine ho.keptS hkX (fun i hi e2 => ?_)
      rcases hn i hi with g | g
      · have h3 := h.cs j h2 i g
        have h4 := h.ks.1
        rw [← e2] at h4
        omega
      · omega
    · rw [upd_far _ _ e, upd_far _ _ e]
      exact (h.s j hj).keptS hkk (fun i hi => ne (h.cs j hj i hi) (by omega) (by omega))
  · by_cases e : j = k
    · subst e
      rw [upd_at] at hi
      rcases hn i hi with g | g
      · rw [colN_old ((h.s j hj).block g).2.2]
        exact h.cs j hj i g
      · exact colN_new g
    · rw [upd_far _ _ e] at hi
      rw [colN_old ((h.s j hj).block hi).2.2]
      exact h.cs j hj i hi
  · rw [← two_set vs h2 v']
    exact Joins.block_setCell ((hk.block _ hlt (fun e => by have h3 := h.cs k h2 _ e; have h4 := h.ks.1; omega)).trans h.zs) v'
  · rcases g with g | rfl
    · have := ((h.s k h2).block g).2.1
      omega
    · have := h.ks.2
      omega

theorem BrE.growG (h : BrE col w wr ad c p q vs vg vx S G W be bs bg bx) {k : Nat} (h2 : k < 2) {v' : Value} {L' : List ByteArray} (ho : OwnS w1 w.heap.size v' L') (hk : Kept (fun i => (vg k).ownBlock = some i) wr w1) (hn : ∀ i, v'.ownBlock = some i → (vg k).ownBlock = some i ∨ wr.heap.size ≤ i) :
    BrE (colN wr.heap.size (4 + k) col) w (w1.setCell ⟨bg, k, none⟩ v') ad c p q vs (upd vg k v') vx S (upd G k L') W be bs bg bx := by
  have hs := h.kept.size
  have hlt := blk_lt h.zg
  have hkX : Kept (fun i => i = bg) w1 (w1.setCell ⟨bg, k, none⟩ v') := (Kept.refl (fun i => i = bg) w1).setCell (p := ⟨bg, k, none⟩) (Or.inr rfl) v'
  have hkk : Kept (fun i => (vg k).ownBlock = some i ∨ i = bg) wr (w1.setCell ⟨bg, k, none⟩ v') := (hk.mono (fun _ _ e => Or.inl e)).andThen hkX (fun _ _ e => Or.inr e)
  have ne : ∀ {i e : Nat}, col i = e → e ≠ 4 + k → e ≠ 10 → ¬ ((vg k).ownBlock = some i ∨ i = bg) := fun {i e} h3 h4 h5 g => by
    rcases g with g | rfl
    · have := h.cg k h2 i g
      omega
    · have := h.kg.1
      omega
  have bk : ∀ {b e : Nat} {cs : Array Value} {t : TypeId}, wr.heap[b]? = some (.cells cs t (0, 0)) → col b = e → e ≠ 4 + k → e ≠ 10 → (w1.setCell ⟨bg, k, none⟩ v').heap[b]? = some (.cells cs t (0, 0)) := fun h3 h4 h5 h6 => (hkk.block _ (blk_lt h3) (ne h4 h5 h6)).trans h3
  have cb : ∀ {b e : Nat} {cs : Array Value} {t : TypeId}, wr.heap[b]? = some (.cells cs t (0, 0)) → col b = e ∧ w.heap.size ≤ b → colN wr.heap.size (4 + k) col b = e ∧ w.heap.size ≤ b := fun h3 h4 => ⟨by rw [colN_old (blk_lt h3)]; exact h4.1, h4.2⟩
  refine ⟨fun j hj => (h.m j hj).keptS hkk (fun i hi => ne (h.cm j hj i hi).1 (by omega) (by omega)), fun j hj => (h.s j hj).keptS hkk (fun i hi => ne (h.cs j hj i hi) (by omega) (by omega)), fun j hj => ?_, fun j hj => (h.x j hj).keptS hkk (fun i hi => ne (h.cx j hj i hi) (by omega) (by omega)), fun j hj i hi => ⟨by rw [colN_old ((h.m j hj).lt hi)]; exact (h.cm j hj i hi).1, (h.cm j hj i hi).2⟩, fun j hj i hi => by rw [colN_old ((h.s j hj).block hi).2.2]; exact h.cs j hj i hi, fun j hj i hi => ?_, fun j hj i hi => by rw [colN_old ((h.x j hj).block hi).2.2]; exact h.cx j hj i hi,
    bk h.ze h.ke.1 (by omega) (by omega), bk h.zs h.ks.1 (by omega) (by omega), ?_, bk h.zx h.kx.1 (by omega) (by omega), cb h.ze h.ke, cb h.zs h.ks, cb h.zg h.kg, cb h.zx h.kx, h.kept.andThen hkk (fun i hi g => ?_)⟩
  · by_cases e : j = k
    · subst e
      rw [upd_at, upd_at]
      refine ho.keptS hkX (fun i hi e2 => ?_)
      rcases hn i hi with g | g
      · have h3 := h.cg j h2 i g
        have h4 := h.kg.1
        rw [← e2] at h4
        omega
      · omega
    · rw [upd_far _ _ e, upd_far _ _ e]
      exact (h.g j hj).keptS hkk (fun i hi => ne (h.cg j hj i hi) (by omega) (by omega))
  · by_cases e : j = k
    · subst e
      rw [upd_at] at hi
      rcases hn i hi with g | g
      · rw [colN_old ((h.g j hj).block g).2.2]
        exact h.cg j hj i g
      · exact colN_new g
    · rw [upd_far _ _ e] at hi
      rw [colN_old ((h.g j hj).block hi).2.2]
      exact h.cg j hj i hi
  · rw [← two_set vg h2 v']
    exact Joins.block_setCell ((hk.block _ hlt (fun e => by have h3 := h.cg k h2 _ e; have h4 := h.kg.1; omega)).trans h.zg) v'
  · rcases g with g | rfl
    · have := ((h.g k h2).block g).2.1
      omega
    · have := h.kg.2
      omega

theorem BrE.growX (h : BrE col w wr ad c p q vs vg vx S G W be bs bg bx) {k : Nat} (h2 : k < 2) {v' : Value} {L' : List Ite} (ho : OwnI w1 w.heap.size v' L') (hk : Kept (fun i => (vx k).ownBlock = some i) wr w1) (hn : ∀ i, v'.ownBlock = some i → (vx k).ownBlock = some i ∨ wr.heap.size ≤ i) :
    BrE (colN wr.heap.size (6 + k) col) w (w1.setCell ⟨bx, k, none⟩ v') ad c p q vs vg (upd vx k v') S G (upd W k L') be bs bg bx := by
  have hs := h.kept.size
  have hlt := blk_lt h.zx
  have hkX : Kept (fun i => i = bx) w1 (w1.setCell ⟨bx, k, none⟩ v') := (Kept.refl (fun i => i = bx) w1).setCell (p := ⟨bx, k, none⟩) (Or.inr rfl) v'
  have hkk : Kept (fun i => (vx k).ownBlock = some i ∨ i = bx) wr (w1.setCell ⟨bx, k, none⟩ v') := (hk.mono (fun _ _ e => Or.inl e)).andThen hkX (fun _ _ e => Or.inr e)
  have ne : ∀ {i e : Nat}, col i = e → e ≠ 6 + k → e ≠ 11 → ¬ ((vx k).ownBlock = some i ∨ i = bx) := fun {i e} h3 h4 h5 g => by
    rcases g with g | rfl
    · have := h.cx k h2 i g
      omega
    · have := h.kx.1
      omega
  have bk : ∀ {b e : Nat} {cs : Array Value} {t : TypeId}, wr.heap[b]? = some (.cells cs t (0, 0)) → col b = e → e ≠ 6 + k → e ≠ 11 → (w1.setCell ⟨bx, k, none⟩ v').heap[b]? = some (.cells cs t (0, 0)) := fun h3 h4 h5 h6 => (hkk.block _ (blk_lt h3) (ne h4 h5 h6)).trans h3
  have cb : ∀ {b e : Nat} {cs : Array Value} {t : TypeId}, wr.heap[b]? = some (.cells cs t (0, 0)) → col b = e ∧ w.heap.size ≤ b → colN wr.heap.size (6 + k) col b = e ∧ w.heap.size ≤ b := fun h3 h4 => ⟨by rw [colN_old (blk_lt h3)]; exact h4.1, h4.2⟩
  refine ⟨fun j hj => (h.m j hj).keptS hkk (fun i hi => ne (h.cm j hj i hi).1 (by omega) (by omega)), fun j hj => (h.s j hj).keptS hkk (fun i hi => ne (h.cs j hj i hi) (by omega) (by omega)), fun j hj => (h.g j hj).keptS hkk (fun i hi => ne (h.cg j hj i hi) (by omega) (by omega)), fun j hj => ?_, fun j hj i hi => ⟨by rw [colN_old ((h.m j hj).lt hi)]; exact (h.cm j hj i hi).1, (h.cm j hj i hi).2⟩, fun j hj i hi => by rw [colN_old ((h.s j hj).block hi).2.2]; exact h.cs j hj i hi, fun j hj i hi => by rw [colN_old ((h.g j hj).block hi).2.2]; exact h.cg j hj i hi, fun j hj i hi => ?_,
    bk h.ze h.ke.1 (by omega) (by omega), bk h.zs h.ks.1 (by omega) (by omega), bk h.zg h.kg.1 (by omega) (by omega), ?_, cb h.ze h.ke, cb h.zs h.ks, cb h.zg h.kg, cb h.zx h.kx, h.kept.andThen hkk (fun i hi g => ?_)⟩
  · by_cases e : j = k
    · subst e
      rw [upd_at, upd_at]
      refine ho.keptS hkX (fun i hi e2 => ?_)
      rcases hn i hi with g | g
      · have h3 := h.cx j h2 i g
        have h4 := h.kx.1
        rw [← e2] at h4
        omega
      · omega
    · rw [upd_far _ _ e, upd_far _ _ e]
      exact (h.x j hj).keptS hkk (fun i hi => ne (h.cx j hj i hi) (by omega) (by omega))
  · by_cases e : j = k
    · subst e
      rw [upd_at] at hi
      rcases hn i hi with g | g
      · rw [colN_old ((h.x j hj).block g).2.2]
        exact h.cx j hj i g
      · exact colN_new g
    · rw [upd_far _ _ e] at hi
      rw [colN_old ((h.x j hj).block hi).2.2]
      exact h.cx j hj i hi
  · rw [← two_set vx h2 v']
    exact Joins.block_setCell ((hk.block _ hlt (fun e => by have h3 := h.cx k h2 _ e; have h4 := h.kx.1; omega)).trans h.zx) v'
  · rcases g with g | rfl
    · have := ((h.x k h2).block g).2.1
      omega
    · have := h.kx.2
      omega
end
end Go.Proofs.Ytoflohomnoppnaa
