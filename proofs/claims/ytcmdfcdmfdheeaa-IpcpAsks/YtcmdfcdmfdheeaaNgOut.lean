/- Rows of packets that are sent: 'append' of one packet; what actions become, as plain functions; how far an act has come. -/
import Derived.Test.YtcmdfcdmfdheeaaNgRefuse
namespace Go.Proofs.Ytcmdfcdmfdheeaa
open Go.RowKit

theorem infoPk : (Try.prog.info? 40).map (fun i => (i.zero, i.size, i.bytes)) = some (some (.agg #[.int .i64 0, .int .i64 0, .slice none 0 0, .string ⟨#[]⟩]), 4, 56) := by kernel_rfl

def pkCells (q : Pk0 × Value) : List Value := [.int .i64 q.1.code, .int .i64 q.1.id, q.2, .string q.1.data]
def rowP (l : List (Pk0 × Value)) : List Value := l.flatMap pkCells
theorem rowP_append (l m : List (Pk0 × Value)) : rowP (l ++ m) = rowP l ++ rowP m := by simp [rowP]
theorem rowP_one (q : Pk0 × Value) : rowP [q] = [.int .i64 q.1.code, .int .i64 q.1.id, q.2, .string q.1.data] := by simp [rowP, pkCells]
theorem rowP_length (l : List (Pk0 × Value)) : (rowP l).length = l.length * 4 := by
  induction l with
  | nil => rfl
  | cons q l ih =>
    have : rowP (q :: l) = pkCells q ++ rowP l := by simp [rowP]
    rw [this, List.length_append, ih, List.length_cons]
    simp [pkCells]
    omega
theorem rowP_get {l : List (Pk0 × Value)} {k : Nat} {q : Pk0 × Value} (h : l[k]? = some q) (j : Nat) (hj : j < 4) : (rowP l)[k * 4 + j]? = (pkCells q)[j]? := by
  induction l generalizing k with
  | nil => simp at h
  | cons x l ih =>
    have e : rowP (x :: l) = pkCells x ++ rowP l := by simp [rowP]
    have hx : (pkCells x).length = 4 := rfl
    rw [e]
    cases k with
    | zero =>
      have : x = q := by simpa using h
      subst this
      rw [Nat.zero_mul, Nat.zero_add, List.getElem?_append_left (by omega)]
    | succ k =>
      rw [List.getElem?_append_right (by omega), hx, show (k + 1) * 4 + j - 4 = k * 4 + j by omega]
      exact ih (by simpa using h)

/-- A list of packets of a call's own. -/
structure OutP (W : World) (lo base b : Nat) (a : Nm) (u v : Value) (l : List (Pk0 × Value)) : Prop where
  row : W.ownsRow lo 40 4 v l.length (rowP l)
  opts : ∀ q ∈ l, OwnO W base q.2 q.1.opts
  fresh : ∀ q ∈ l, ∀ i, q.2.ownBlock = some i → u.ownBlock = some i ∨ lo ≤ i
  far : ∀ q ∈ l, ∀ i, q.2.ownBlock = some i → ¬ Sn b a i

def AppP (w : World) (v u v' : Value) (w' : World) : Prop := ∀ ty, (Builtin.append_ #[36, 36] ty #[v, u]).run Try.prog w = .ok v' w'

theorem row_blk {w : World} {lo n k i : Nat} {t : TypeId} {v : Value} {xs : List Value} (h : w.ownsRow lo t k v n xs) (hi : v.ownBlock = some i) : (∃ cur, w.heap[i]? = some (.cells cur t (0, 0))) ∧ lo ≤ i := by
  rcases h.2 with ⟨rfl, _⟩ | ⟨g, cap, cur, rfl, hb, hg, _⟩
  · cases hi
  · have : g = i := by simpa [Value.ownBlock] using hi
    subst this
    exact ⟨⟨cur, hg⟩, hb⟩
theorem row_kept {S : Nat → Prop} {w w' : World} {lo n k : Nat} {t : TypeId} {v : Value} {xs : List Value} (h : w.ownsRow lo t k v n xs) (hk : Kept S w w') (hS : ∀ i, v.ownBlock = some i → ¬ S i) : w'.ownsRow lo t k v n xs := by
  rcases h.2 with ⟨rfl, h0⟩ | ⟨g, cap, cur, rfl, hb, hg, r⟩
  · exact ⟨h.1, Or.inl ⟨rfl, h0⟩⟩
  · exact ⟨h.1, Or.inr ⟨g, cap, cur, rfl, hb, (hk.block g (Array.getElem?_eq_some_iff.1 hg).1 (hS g rfl)).trans hg, r⟩⟩

theorem cells_four_new' (w : World) (q : Pk0 × Value) : ∀ (j : Nat) (x : Value), (rowP [q])[j]? = some x → (w.alloc (.cells #[.int .i64 q.1.code, .int .i64 q.1.id, q.2, .string q.1.data] 40)).cell? ((⟨w.heap.size, 0, none⟩ : Addr).add j) = some x := by
  rw [rowP_one]
  exact cells_four_new _ _ _ _ _ _

theorem pushP {w : World} {lo : Nat} {v : Value} {l : List (Pk0 × Value)} (q : Pk0 × Value) (hq : q.2.oneCell' = true) (hb : lo ≤ w.heap.size) (h : w.ownsRow lo 40 4 v l.length (rowP l)) (hn : l.length ≤ 100000) :
    ∃ v' w', AppP (w.alloc (.cells #[.int .i64 q.1.code, .int .i64 q.1.id, q.2, .string q.1.data] 40)) v (.slice (some ⟨w.heap.size, 0, none⟩) 1 1) v' w' ∧ w'.ownsRow lo 40 4 v' (l ++ [q]).length (rowP (l ++ [q])) ∧ Kept (fun i => v.ownBlock = some i) w w' := by
  obtain ⟨i0, hi0, hz0, hz1, hz2⟩ := info_parts infoPk
  have hsz : (w.alloc (.cells #[.int .i64 q.1.code, .int .i64 q.1.id, q.2, .string q.1.data] 40)).heap.size = w.heap.size + 1 := by simp
  obtain ⟨v', w', h1, h2, h3⟩ := owned_append (P := Try.prog) Try.underlying36 hi0 hz0 hz1 hz2 rfl (by decide) (World.ownsRow.alloc h (.cells #[.int .i64 q.1.code, .int .i64 q.1.id, q.2, .string q.1.data] 40)) (by omega) ⟨w.heap.size, 0, none⟩ 1 1 (rowP [q]) (by decide) (rowP_length _) (cells_four_new' w q) (by
    rw [rowP_one]
    intro x hx
    simp only [List.mem_cons, List.not_mem_nil, or_false] at hx
    rcases hx with rfl | rfl | rfl | rfl
    · rfl
    · rfl
    · exact hq
    · rfl) (by omega) (by decide)
  refine ⟨v', w', h1, ?_, ?_⟩
  · rw [rowP_append, List.length_append]
    exact h2
  · have hk0 := (Kept.refl (fun i => v.ownBlock = some i) w).alloc (.cells #[.int .i64 q.1.code, .int .i64 q.1.id, q.2, .string q.1.data] 40)
    rcases h3 with ⟨g', cap', rfl, rfl, hk⟩ | ⟨cap', rfl, hk, _⟩
    · exact hk0.andThen hk (fun i _ e => by rw [e]; rfl)
    · exact hk0.andThen hk (fun i _ e => e.elim)

def sendF (c : Cz) (n : Ng) (x : Int) : Ng × List Pk0 :=
  if x = 6 then (askN n, [⟨1, nextId n.id, n.req, ⟨#[]⟩⟩])
  else if x = 7 then ({ n with theirs := c.ans.opts }, [c.ans])
  else if x = 8 then ((refuseF n c).1, [(refuseF n c).2])
  else if x = 9 then (endN n, [⟨5, nextId n.id, [], ⟨#[]⟩⟩])
  else if x = 10 then (n, [⟨6, c.came.id, [], ⟨#[]⟩⟩])
  else if x = 11 then ({ n with id := nextId n.id }, [⟨7, nextId n.id, [], rejBytes c.came.code c.came.id c.came.opts c.came.data⟩])
  else (n, [])
def actF (c : Cz) (s : Ng × List Pk0) (x : Int) : Ng × List Pk0 := ((sendF c (tallyF s.1 x) x).1, s.2 ++ (sendF c (tallyF s.1 x) x).2)
def actsF (c : Cz) (n : Ng) (l : List Int) : Ng × List Pk0 := l.foldl (actF c) (n, [])
theorem actsF_take (c : Cz) (n : Ng) {l : List Int} {j : Nat} {x : Int} (h : l[j]? = some x) : actsF c n (l.take (j + 1)) = actF c (actsF c n (l.take j)) x := by
  unfold actsF
  rw [List.take_add_one, h, List.foldl_append]
  rfl

/-- How far an act has come: what was sent, and the negotiation. -/
structure ActU (A W : World) (base b : Nat) (a : Nm) (u : Value) (s : Ng × List Pk0) (vt vo : Value) (l : List (Pk0 × Value)) : Prop where
  nx : NNext A W base b a { a with vt := vt } s.1
  out : OutP W A.heap.size base b a u vo l
  is : l.map (·.1) = s.2

section
variable {A W W' : World} {base b : Nat} {a : Nm} {u vt vo : Value} {s : Ng × List Pk0} {l : List (Pk0 × Value)}
/-- The negotiation goes on; what was sent stays. -/
theorem ActU.go (h : ActU A W base b a u s vt vo l) {n' : Ng} {vt' : Value} (k : NNext W W' base b { a with vt := vt } { a with vt := vt' } n') : ActU A W' base b a u (n', s.2) vt' vo l := by
  have hSn : ∀ i, Sn b { a with vt := vt } i → Sn b a i := fun i h => h
  refine ⟨h.nx.trans k, ⟨row_kept h.out.row k.kept fun i hi hs => ?_, fun q hq => (h.out.opts q hq).keptS k.kept (fun i hi hs => h.out.far q hq i hi hs), h.out.fresh, h.out.far⟩, h.is⟩
  obtain ⟨⟨cur, hc⟩, _⟩ := row_blk h.out.row hi
  rcases hs with rfl | rfl | hs
  · rw [h.nx.neg.cells] at hc; simp at hc
  · have h1 := h.nx.neg.auto
    unfold AutoIn at h1
    rw [h1] at hc; simp at hc
  · obtain ⟨c, h1⟩ := h.nx.neg.req.cellsB hs
    rw [h1] at hc; simp at hc
/-- One packet more. -/
theorem ActU.push (h : ActU A W base b a u s vt vo l) (p : Pk0) (u' : Value) (hu : OwnO W base u' p.opts) (hfr : ∀ i, u'.ownBlock = some i → u.ownBlock = some i ∨ A.heap.size ≤ i) (hfar : ∀ i, u'.ownBlock = some i → ¬ Sn b a i) (hn : l.length ≤ 1000) :
    ∃ v' w', AppP (W.alloc (.cells #[.int .i64 p.code, .int .i64 p.id, u', .string p.data] 40)) vo (.slice (some ⟨W.heap.size, 0, none⟩) 1 1) v' w' ∧ ActU A w' base b a u (s.1, s.2 ++ [p]) vt v' (l ++ [(p, u')]) := by
  obtain ⟨pu, cu, rfl⟩ := slice_of hu
  have hs := h.nx.kept.size
  obtain ⟨v', w', h1, h2, h3⟩ := pushP (p, .slice pu p.opts.length cu) rfl hs h.out.row (by omega)
  have hblk : ∀ i, vo.ownBlock = some i → ∃ cur, W.heap[i]? = some (.cells cur 40 (0, 0)) := fun i hi => (row_blk h.out.row hi).1
  have hne : ∀ (base' : Nat) (v : Value) (m : List Tg), OwnO W base' v m → ∀ i, v.ownBlock = some i → vo.ownBlock ≠ some i := fun base' v m ho i hi e => by
    obtain ⟨c, hc⟩ := ho.cellsB hi
    obtain ⟨c2, hc2⟩ := hblk i e
    rw [hc] at hc2; simp at hc2
  refine ⟨v', w', h1, ⟨⟨?_, rfl, rfl, h.nx.fr, h.nx.fm, h.nx.ft, h.nx.kept.andThen h3 (fun i hi e => ?_)⟩, ⟨h2, fun q hq => ?_, fun q hq => ?_, fun q hq => ?_⟩, ?_⟩⟩
  · have hh := h.nx.neg
    refine hh.keptS h3 (fun i e _ => ?_) (fun e => ?_) (fun e => ?_) (fun i hi => hne _ _ _ hh.req i hi) (fun i hi => hne _ _ _ hh.mine i hi) (fun i hi => hne _ _ _ hh.theirs i hi)
    · obtain ⟨cur, hc⟩ := hblk i e
      exact ⟨_, _, _, hc⟩
    · obtain ⟨cur, hc⟩ := hblk b e
      rw [hh.cells] at hc; simp at hc
    · obtain ⟨cur, hc⟩ := hblk _ e
      have h9 := hh.auto
      unfold AutoIn at h9
      rw [h9] at hc; simp at hc
  · have := (row_blk h.out.row e).2
    omega
  · rcases List.mem_append.1 hq with hq | hq
    · exact (h.out.opts q hq).keptS h3 (fun i hi => hne _ _ _ (h.out.opts q hq) i hi)
    · rw [List.mem_singleton.1 hq]
      exact hu.keptS h3 (fun i hi => hne _ _ _ hu i hi)
  · rcases List.mem_append.1 hq with hq | hq
    · exact h.out.fresh q hq
    · rw [List.mem_singleton.1 hq]
      exact hfr
  · rcases List.mem_append.1 hq with hq | hq
    · exact h.out.far q hq
    · rw [List.mem_singleton.1 hq]
      exact hfar
  · rw [List.map_append, h.is]
    rfl
end
end Go.Proofs.Ytcmdfcdmfdheeaa
