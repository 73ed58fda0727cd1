/- A map's block as the list of its entries, in whatever order: what a look-up, a store, a delete, len and a range's step give, for every key type that can be read. -/
import Derived.Maps.RangeWalk
namespace Go.Proofs.YtkneogfeokckjaaGreatDoor
open Go.ChangeMaps Go.MapKept
open Go.Maps (Keyed)

def kv (e : MapEntry) : Value × Value := (e.key, e.val)

/-- Block b of w is a map whose entries are those of L, in some order. -/
def Assoc (w : World) (P : Program) (k : TypeId) (b : Nat) (L : List (Value × Value)) : Prop :=
  ∃ es clock, w.heap[b]? = some (.map es clock) ∧ Stamped es clock ∧ es.size ≤ maxLen ∧ (∀ x ∈ es.toList, ∃ l, keyOf P k x.key = some l) ∧ (es.toList.map kv).Perm L

section
variable {P : Program} {k : TypeId} {w : World} {b : Nat} {L : List (Value × Value)}

theorem Assoc.perm (h : Assoc w P k b L) {M : List (Value × Value)} (hp : L.Perm M) : Assoc w P k b M := by
  obtain ⟨es, clock, hb, hs, hm, hk, hL⟩ := h
  exact ⟨es, clock, hb, hs, hm, hk, hL.trans hp⟩

theorem Assoc.lt (h : Assoc w P k b L) : b < w.heap.size := by
  obtain ⟨es, clock, hb, _⟩ := h
  exact (Array.getElem?_eq_some_iff.1 hb).1

theorem Assoc.size (h : Assoc w P k b L) : L.length ≤ maxLen := by
  obtain ⟨es, clock, hb, _, hm, _, hL⟩ := h
  rw [← hL.length_eq]
  simpa using hm

theorem Assoc.keys (h : Assoc w P k b L) : L.Pairwise (fun p q => p.1 ≠ q.1) := by
  obtain ⟨es, clock, hb, hs, _, _, hL⟩ := h
  have h1 := ((stamped_iff es clock).1 hs).2.2
  refine (hL.pairwise_iff (fun {a b} (h : a.1 ≠ b.1) => h.symm)).1 ?_
  rw [List.pairwise_map]
  exact h1

theorem Assoc.made (w : World) (P : Program) (k : TypeId) : Assoc (w.alloc (.map #[] 0)) P k w.heap.size [] :=
  ⟨#[], 0, (MapKept.heap_alloc w _).1, stamped_empty 0, by simp, by simp, by simp⟩

theorem Assoc.same {w' : World} (h : Assoc w P k b L) (hb' : w'.heap[b]? = w.heap[b]?) : Assoc w' P k b L := by
  obtain ⟨es, clock, hb, r⟩ := h
  exact ⟨es, clock, hb'.trans hb, r⟩

theorem Assoc.kept {w' : World} {row : Option Nat} (h : Assoc w P k b L) (hg : w.grownBy w' row) (hne : some b ≠ row) : Assoc w' P k b L := h.same (hg.block b h.lt hne)

theorem Assoc.alloc (h : Assoc w P k b L) (o : Obj) : Assoc (w.alloc o) P k b L := h.kept (World.grownBy_alloc w o none) (by simp)

theorem Assoc.setCell (h : Assoc w P k b L) {a : Addr} (ha : b ≠ a.block) (u : Value) : Assoc (w.setCell a u) P k b L := h.same (RowKit.Below.heap_setCell _ _ _ _ ha)

theorem entry_of_mem {es : List MapEntry} {p : Value × Value} (h : p ∈ es.map kv) : ∃ x ∈ es, x.key = p.1 ∧ x.val = p.2 := by
  obtain ⟨x, hx, rfl⟩ := List.mem_map.1 h
  exact ⟨x, hx, rfl, rfl⟩

/-- 'm[k]' and 'v, ok := m[k]'. -/
theorem Assoc.look {t e : TypeId} (c : Bool) (h : Assoc w P k b L) (K : Keyed P k) (ht : P.underlying t = some (.map k e)) {z : Value} (hz : (zeroValue e).run P w = .ok z w) {key : Value} {kl : Lit} (hkey : keyOf P k key = some kl) :
    ((∀ p ∈ L, p.1 ≠ key) ∧ (Instr.lookup t (.map (some b)) key c).run P w = .ok (if c then .tuple #[z, .bool false] else z) w) ∨
    ∃ v, (key, v) ∈ L ∧ (Instr.lookup t (.map (some b)) key c).run P w = .ok (if c then .tuple #[v, .bool true] else v) w := by
  obtain ⟨es, clock, hb, hs, hm, hk, hL⟩ := h
  rcases K.find w hkey es.toList hk with ⟨h1, h2⟩ | ⟨j, e0, h1, h2, h3⟩
  · refine Or.inl ⟨fun p hp => ?_, by simp [Instr.lookup, run_underlying ht, MapKept.run_getObj_map hb, K.check w _ hkey, h1, hz, Result.andThen]⟩
    obtain ⟨x, hx, hx1, _⟩ := entry_of_mem (hL.mem_iff.2 hp)
    rw [← hx1]
    exact h2 x hx
  · have hm0 : e0 ∈ es.toList := List.mem_of_getElem? h2
    refine Or.inr ⟨e0.val, hL.mem_iff.1 (List.mem_map.2 ⟨e0, hm0, by rw [kv, h3]⟩), by simp [Instr.lookup, run_underlying ht, MapKept.run_getObj_map hb, K.check w _ hkey, h1, Result.andThen]⟩

/-- Of the entries of L those at another key are M's. -/
def Strikes (L : List (Value × Value)) (key : Value) (M : List (Value × Value)) : Prop := (L.Perm M ∧ ∀ p ∈ M, p.1 ≠ key) ∨ ∃ v, L.Perm ((key, v) :: M)

theorem perm_of_pair {a b : Value × Value} {l m : List (Value × Value)} (hd : (a :: l).Pairwise (fun p q => p.1 ≠ q.1)) (hp : (a :: l).Perm (b :: m)) (hk : a.1 = b.1) : a = b ∧ l.Perm m := by
  have hb : b ∈ a :: l := hp.mem_iff.2 (List.mem_cons_self ..)
  rcases List.mem_cons.1 hb with e | hb
  · subst e
    exact ⟨rfl, hp.cons_inv⟩
  · exact absurd hk ((List.pairwise_cons.1 hd).1 b hb)

theorem erase_perm {α : Type} : ∀ (l : List α) (j : Nat) (hj : j < l.length), l.Perm (l[j] :: l.eraseIdx j)
  | a :: l, 0, _ => by simp
  | a :: l, j + 1, hj => by
    have := erase_perm l j (by simpa using hj)
    simpa using (this.cons a).trans (List.Perm.swap _ _ _)

/-- 'm[k] = v'. -/
theorem Assoc.store {t e : TypeId} (h : Assoc w P k b L) (K : Keyed P k) (ht : P.underlying t = some (.map k e)) (hroom : L.length < maxLen) {key val : Value} {kl : Lit} (hkey : keyOf P k key = some kl) {M : List (Value × Value)} (hM : Strikes L key M) :
    ∃ w', (Instr.mapUpdate t (.map (some b)) key val).run P w = .ok () w' ∧ Assoc w' P k b ((key, val) :: M) ∧ w.mapTurned w' b := by
  have hkeys := h.keys
  obtain ⟨es, clock, hb, hs, hm, hk, hL⟩ := h
  have hlen : es.size < maxLen := by
    have := hL.length_eq
    simp at this
    omega
  have hnd : (es.toList.map kv).Pairwise (fun p q => p.1 ≠ q.1) := by
    rw [List.pairwise_map]
    exact ((stamped_iff es clock).1 hs).2.2
  rcases K.find w hkey es.toList hk with ⟨h1, h2⟩ | ⟨j, e0, h1, h2, h3⟩
  · refine ⟨setBlock w b (.map (es.push ⟨key, val, clock⟩) (clock + 1)), by simp [Instr.mapUpdate, run_underlying ht, MapKept.run_getObj_map hb, K.check w false hkey, h1, MapKept.run_setObj_map _ hb, Result.andThen, setBlock], ⟨es.push ⟨key, val, clock⟩, clock + 1, heap_setBlock_same hb _, stamped_push hs h2, by simp; omega, ?_, ?_⟩, ⟨es, clock, _, _, hb, rfl⟩⟩
    · intro x hx
      simp only [Array.toList_push, List.mem_append, List.mem_singleton] at hx
      rcases hx with hx | rfl
      · exact hk x hx
      · exact ⟨kl, hkey⟩
    · rw [Array.toList_push, List.map_append, List.map_singleton]
      refine (List.perm_append_singleton _ _).trans ?_
      refine List.Perm.cons (key, val) ?_
      rcases hM with ⟨hp, _⟩ | ⟨v, hp⟩
      · exact hL.trans hp
      · obtain ⟨x, hx, hx1, _⟩ := entry_of_mem ((hL.trans hp).mem_iff.2 (List.mem_cons_self ..))
        exact absurd hx1 (h2 x hx)
  · have hj : es[j]? = some e0 := by simpa using h2
    have hjl : j < es.toList.length := (List.getElem?_eq_some_iff.1 h2).1
    have hlist : (es.modify j (fun e' => { e' with key := key, val := val })).toList = es.toList.set j { e0 with key := key, val := val } := by rw [Array.toList_modify, modify_eq_set _ _ _ _ h2]
    have hkeyf : ∀ e', es[j]? = some e' → ({ e' with key := key, val := val } : MapEntry).key = e'.key := fun e' he' => by rw [hj] at he'; cases he'; exact h3.symm
    have hpm : (es.toList.map kv).Perm ((key, e0.val) :: (es.toList.map kv).eraseIdx j) := by
      have hget : (es.toList.map kv)[j]? = some (key, e0.val) := by rw [List.getElem?_map, h2]; simp [kv, h3]
      obtain ⟨hj', hg⟩ := List.getElem?_eq_some_iff.1 hget
      have := erase_perm (es.toList.map kv) j hj'
      rw [hg] at this
      exact this
    refine ⟨setBlock w b (.map (es.modify j (fun e' => { e' with key := key, val := val })) clock), by simp [Instr.mapUpdate, run_underlying ht, MapKept.run_getObj_map hb, K.check w false hkey, h1, hj, h3, K.stays w hkey, MapKept.run_setObj_map _ hb, Result.andThen, setBlock], ⟨es.modify j (fun e' => { e' with key := key, val := val }), clock, heap_setBlock_same hb _, stamped_modify hs _ _ (fun _ _ => rfl) (fun e' _ he' => hkeyf e' he'), by simpa using hm, ?_, ?_⟩, ⟨es, clock, _, _, hb, rfl⟩⟩
    · intro x hx
      rw [hlist] at hx
      obtain ⟨i, hi, ex⟩ := List.getElem_of_mem hx
      rw [List.getElem_set] at ex
      split at ex
      · rw [← ex]; exact ⟨kl, hkey⟩
      · exact hk x (ex ▸ List.getElem_mem _)
    · rw [hlist, List.map_set]
      refine (set_perm _ _ (by simpa using hjl) _).trans ?_
      refine List.Perm.cons (key, val) ?_
      rcases hM with ⟨hp, hne⟩ | ⟨v, hp⟩
      · have := (hL.trans hp).mem_iff.1 (hpm.mem_iff.2 (List.mem_cons_self ..))
        exact absurd rfl (hne _ this)
      · have h5 := hpm.symm.trans (hL.trans hp)
        have hd : ((key, e0.val) :: (es.toList.map kv).eraseIdx j).Pairwise (fun p q => p.1 ≠ q.1) := (hpm.pairwise_iff (fun {a b} (h : a.1 ≠ b.1) => h.symm)).1 hnd
        exact (perm_of_pair hd h5 rfl).2

/-- 'delete(m, k)'. -/
theorem Assoc.drop {t e ty : TypeId} (h : Assoc w P k b L) (K : Keyed P k) (ht : P.underlying t = some (.map k e)) {key : Value} {kl : Lit} (hkey : keyOf P k key = some kl) {M : List (Value × Value)} (hM : Strikes L key M) :
    ∃ w', (Builtin.delete_ #[t, k] ty #[.map (some b), key]).run P w = .ok (.tuple #[]) w' ∧ Assoc w' P k b M ∧ w.mapTurned w' b := by
  obtain ⟨es, clock, hb, hs, hm, hk, hL⟩ := h
  have hnd : (es.toList.map kv).Pairwise (fun p q => p.1 ≠ q.1) := by
    rw [List.pairwise_map]
    exact ((stamped_iff es clock).1 hs).2.2
  rcases K.find w hkey es.toList hk with ⟨h1, h2⟩ | ⟨j, e0, h1, h2, h3⟩
  · refine ⟨setBlock w b (.map es clock), by simp [Builtin.delete_, run_underlying ht, MapKept.run_getObj_map hb, K.check w _ hkey, h1, MapKept.run_setObj_map _ hb, Result.andThen, setBlock], ⟨es, clock, heap_setBlock_same hb _, hs, hm, hk, ?_⟩, ⟨es, clock, es, clock, hb, rfl⟩⟩
    rcases hM with ⟨hp, _⟩ | ⟨v, hp⟩
    · exact hL.trans hp
    · obtain ⟨x, hx, hx1, _⟩ := entry_of_mem ((hL.trans hp).mem_iff.2 (List.mem_cons_self ..))
      exact absurd hx1 (h2 x hx)
  · have hjl : j < es.toList.length := (List.getElem?_eq_some_iff.1 h2).1
    have hjs : j < es.size := by simpa using hjl
    have hsub : (es.eraseIdxIfInBounds j).toList = es.toList.eraseIdx j := by
      unfold Array.eraseIdxIfInBounds
      rw [dif_pos hjs]
      simp
    have hpm : (es.toList.map kv).Perm ((key, e0.val) :: (es.toList.map kv).eraseIdx j) := by
      have hget : (es.toList.map kv)[j]? = some (key, e0.val) := by rw [List.getElem?_map, h2]; simp [kv, h3]
      obtain ⟨hj', hg⟩ := List.getElem?_eq_some_iff.1 hget
      have := erase_perm (es.toList.map kv) j hj'
      rw [hg] at this
      exact this
    refine ⟨setBlock w b (.map (es.eraseIdxIfInBounds j) clock), by simp [Builtin.delete_, run_underlying ht, MapKept.run_getObj_map hb, K.check w _ hkey, h1, MapKept.run_setObj_map _ hb, Result.andThen, setBlock], ⟨es.eraseIdxIfInBounds j, clock, heap_setBlock_same hb _, stamped_erase hs j, Nat.le_trans (MapFrom.size_erase es j) hm, ?_, ?_⟩, ⟨es, clock, _, _, hb, rfl⟩⟩
    · intro x hx
      rw [hsub] at hx
      exact hk x ((List.eraseIdx_sublist _ _).subset hx)
    · rw [hsub, map_eraseIdx]
      rcases hM with ⟨hp, hne⟩ | ⟨v, hp⟩
      · have := (hL.trans hp).mem_iff.1 (hpm.mem_iff.2 (List.mem_cons_self ..))
        exact absurd rfl (hne _ this)
      · have h5 := hpm.symm.trans (hL.trans hp)
        have hd : ((key, e0.val) :: (es.toList.map kv).eraseIdx j).Pairwise (fun p q => p.1 ≠ q.1) := (hpm.pairwise_iff (fun {a b} (h : a.1 ≠ b.1) => h.symm)).1 hnd
        exact (perm_of_pair hd h5 rfl).2

/-- 'len(m)'. -/
theorem Assoc.len {t e ty : TypeId} (h : Assoc w P k b L) (ht : P.underlying t = some (.map k e)) :
    (Builtin.len_ #[t] ty #[.map (some b)]).run P w = .ok (.int .i64 (L.length : Nat)) w := by
  obtain ⟨es, clock, hb, hs, hm, hk, hL⟩ := h
  have : L.length = es.size := by rw [← hL.length_eq]; simp
  simp [Builtin.len_, run_underlying ht, MapKept.run_getObj_map hb, Result.andThen, this, goInt]

/-- A range over such a map under way: the iterator lies in block r; N is still to come. -/
def Ranging (w : World) (P : Program) (k : TypeId) (b r : Nat) (L N : List (Value × Value)) : Prop :=
  ∃ es clock since seen c0, w.heap[b]? = some (.map es clock) ∧ Stamped es clock ∧ es.size ≤ maxLen ∧ (∀ x ∈ es.toList, ∃ l, keyOf P k x.key = some l) ∧ (es.toList.map kv).Perm L ∧
    w.heap[r]? = some (.mapIter (some b) since seen c0) ∧ (∀ x ∈ es.toList, x.born < since) ∧ ((leftOf es seen).toList.map kv).Perm N ∧ since ≤ c0 ∧ since ≤ clock

theorem Ranging.owns {r : Nat} {N : List (Value × Value)} (h : Ranging w P k b r L N) : Assoc w P k b L := by
  obtain ⟨es, clock, _, _, _, hb, hs, hm, hk, hL, _⟩ := h
  exact ⟨es, clock, hb, hs, hm, hk, hL⟩

theorem Ranging.lt {r : Nat} {N : List (Value × Value)} (h : Ranging w P k b r L N) : r < w.heap.size := by
  obtain ⟨es, clock, since, seen, c0, _, _, _, _, _, hr, _⟩ := h
  exact (Array.getElem?_eq_some_iff.1 hr).1

theorem Ranging.ne {r : Nat} {N : List (Value × Value)} (h : Ranging w P k b r L N) : r ≠ b := by
  obtain ⟨es, clock, since, seen, c0, hb, _, _, _, _, hr, _⟩ := h
  intro e
  rw [e, hb] at hr
  cases hr

theorem Ranging.same {r : Nat} {N : List (Value × Value)} {w' : World} (h : Ranging w P k b r L N) (hb' : w'.heap[b]? = w.heap[b]?) (hr' : w'.heap[r]? = w.heap[r]?) : Ranging w' P k b r L N := by
  obtain ⟨es, clock, since, seen, c0, hb, hs, hm, hk, hL, hr, rest⟩ := h
  exact ⟨es, clock, since, seen, c0, hb'.trans hb, hs, hm, hk, hL, hr'.trans hr, rest⟩

theorem Ranging.kept {r : Nat} {N : List (Value × Value)} {w' : World} {row : Option Nat} (h : Ranging w P k b r L N) (hg : w.grownBy w' row) (hb' : some b ≠ row) (hr' : some r ≠ row) : Ranging w' P k b r L N :=
  h.same (hg.block b h.owns.lt hb') (hg.block r h.lt hr')

/-- 'range m'. -/
theorem Assoc.range {t e : TypeId} (h : Assoc w P k b L) (ht : P.underlying t = some (.map k e)) :
    ∃ w', (Instr.range t (.map (some b))).run P w = .ok (.pointer (some ⟨w.heap.size, 0, none⟩)) w' ∧ Ranging w' P k b w.heap.size L L ∧ w.grownBy w' none ∧ w'.heap.size = w.heap.size + 1 := by
  have hlt := h.lt
  obtain ⟨es, clock, hb, hs, hm, hk, hL⟩ := h
  refine ⟨_, run_range_map w t k e b es clock ht hb, ⟨es, clock, clock, #[], clock, ((MapKept.heap_alloc w _).2 b hlt).trans hb, hs, hm, hk, hL, (MapKept.heap_alloc w _).1, hs.1, ?_, Nat.le_refl _, Nat.le_refl _⟩, World.grownBy_alloc w _ none, by simp⟩
  have e1 : leftOf es #[] = es := by unfold leftOf; exact Array.filter_eq_self.2 (fun x _ => by simp)
  rw [e1]
  exact hL

/-- The range's step. -/
theorem Ranging.next {r : Nat} {N : List (Value × Value)} (h : Ranging w P k b r L N) (ty : TypeId) :
    (N = [] ∧ (Instr.next (.pointer (some ⟨r, 0, none⟩)) false ty).run P w = .ok (.tuple #[.bool false]) w) ∨
    ∃ key v M w', N.Perm ((key, v) :: M) ∧ (Instr.next (.pointer (some ⟨r, 0, none⟩)) false ty).run P w = .ok (.tuple #[.bool true, key, v]) w' ∧ Ranging w' P k b r L M ∧ w.grownBy w' (some r) ∧ w'.heap.size = w.heap.size ∧
      (Instr.entry (.pointer (some ⟨r, 0, none⟩))).run P w' = .ok (.tuple #[key, v]) w' := by
  have hne := h.ne
  obtain ⟨es, clock, since, seen, c0, hb, hs, hm, hk, hL, hr, hold, hN, hsc, hsk⟩ := h
  rcases run_next_at (P := P) w ty r b since c0 seen es clock hr hb hold hsc with ⟨h0, hrun⟩ | ⟨e, he, w1, hal, hrun⟩
  · refine Or.inl ⟨?_, hrun⟩
    have : (leftOf es seen).toList = [] := by
      apply List.eq_nil_of_length_eq_zero
      simpa using h0
    rw [this] at hN
    exact List.nil_perm.1 hN
  · obtain ⟨hem, hes⟩ := mem_left he
    have hr1 : w1.heap[r]? = some (.mapIter (some b) since seen c0) := by rcases hal with rfl | rfl <;> exact hr
    have hb1 : w1.heap[b]? = some (.map es clock) := by rcases hal with rfl | rfl <;> exact hb
    have hset := heap_set (o' := .mapIter (some b) since (seen.push e.born) clock) hr1
    have hst := (stamped_iff es clock).1 hs
    refine Or.inr ⟨e.key, e.val, (leftOf es (seen.push e.born)).toList.map kv, _, ?_, hrun, ⟨es, clock, since, seen.push e.born, clock, (hset.2 b (Ne.symm hne)).trans hb1, hs, hm, hk, hL, hset.1, hold, List.Perm.refl _, hsk, hsk⟩, ?_, ?_, ?_⟩
    · refine hN.symm.trans ?_
      have hp : (leftOf es seen).toList.Perm (e :: (leftOf es (seen.push e.born)).toList) := by
        have e1 : ∀ s : Array Nat, (leftOf es s).toList = es.toList.filter (fun x => !s.contains x.born) := fun s => by unfold leftOf; exact Array.toList_filter
        rw [e1] at he ⊢
        rw [e1]
        have hnb : (es.toList.map (·.born)).Nodup := hst.2.1
        have hq : ∀ l : List MapEntry, (l.map (·.born)).Nodup → e ∈ l.filter (fun x => !seen.contains x.born) → (l.filter (fun x => !seen.contains x.born)).Perm (e :: l.filter (fun x => !(seen.push e.born).contains x.born)) := by
          intro l
          induction l with
          | nil => intro _ h; simp at h
          | cons a l ih =>
            intro hnd hmem
            rw [List.map_cons, List.nodup_cons] at hnd
            by_cases hae : a = e
            · subst hae
              have hsa : (!seen.contains a.born) = true := (List.mem_filter.1 hmem).2
              have hrest : l.filter (fun x => !(seen.push a.born).contains x.born) = l.filter (fun x => !seen.contains x.born) := by
                refine List.filter_congr (fun x hx => ?_)
                have hx1 : x.born ≠ a.born := fun e1 => hnd.1 (e1 ▸ List.mem_map.2 ⟨x, hx, rfl⟩)
                simp [hx1]
              have hself : (!(seen.push a.born).contains a.born) = false := by simp
              rw [List.filter_cons, if_pos hsa, List.filter_cons, if_neg (by rw [hself]; simp), hrest]
            · have hel : e ∈ l := by
                rcases List.mem_cons.1 (List.mem_filter.1 hmem).1 with h1 | h1
                · exact absurd h1.symm hae
                · exact h1
              have ha1 : a.born ≠ e.born := fun e1 => hnd.1 (e1 ▸ List.mem_map.2 ⟨e, hel, rfl⟩)
              have hal2 : (!(seen.push e.born).contains a.born) = !seen.contains a.born := by simp [ha1]
              have hrec := ih hnd.2 (List.mem_filter.2 ⟨hel, (List.mem_filter.1 hmem).2⟩)
              rw [List.filter_cons, List.filter_cons, hal2]
              split
              · exact (hrec.cons a).trans (List.Perm.swap e a _)
              · exact hrec
        exact hq es.toList hnb he
      exact (hp.map kv)
    · rcases hal with rfl | rfl <;> exact ⟨rfl, rfl, rfl, by simp [setBlock], fun i _ hi => hset.2 i (fun e1 => hi (by rw [e1]))⟩
    · rcases hal with rfl | rfl <;> simp [setBlock]
    · exact run_entry_at _ r b since seen es clock e hset.1 ((hset.2 b (Ne.symm hne)).trans hb1) hem hst.2.1

end
end Go.Proofs.YtkneogfeokckjaaGreatDoor
