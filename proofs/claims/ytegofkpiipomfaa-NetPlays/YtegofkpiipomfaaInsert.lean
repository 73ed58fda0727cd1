/- The contract of slices.Insert of one datagram: in place, at the end, or in a new row. -/
import Derived.Test.YtegofkpiipomfaaNetOps
import Derived.Lib.Overlaps
import Derived.Lib.AppendZerosOnto
import Derived.Lib.AppendZeros
import Derived.Laws.Externs
namespace Go.Proofs.Ytegofkpiipomfaa
open Go.RowKit

/-- From the place k on the row is written anew. -/
theorem RowG.tail {w : World} {g cap : Nat} {l : List Gr} (h : RowG w g cap l) (k : Nat) (news : List Gr) (hk : k ≤ l.length) (hc : k + news.length ≤ cap) : RowG (w.setCells g (k * 4) (rowCells news)) g cap (l.take k ++ news) := by
  obtain ⟨cur, hg, h1, h2, h3, h4⟩ := h.block
  have hvl := rowCells_length news
  obtain ⟨cur', hg', hcur⟩ := heap_setCells (g := g) (rowCells news) (k * 4) w cur hg (by omega)
  have hlen : cur'.size = cur.size := by
    have := congrArg List.length hcur
    rw [splice_length _ _ _ (by simp; omega)] at this
    simpa using this
  have hK : (l.take k ++ news).length = k + news.length := by rw [List.length_append, List.length_take]; omega
  have hck : (cur.toList.take (k * 4)).length = k * 4 := by rw [List.length_take, Array.length_toList]; omega
  refine RowG.of hg' (by omega) h2 (by rw [hlen, h3]) ?_
  rw [hcur, hK, rowCells_append, ← rowCells_take, ← h4, List.take_take, Nat.min_eq_left (by omega : k * 4 ≤ l.length * 4)]
  unfold splice
  rw [List.take_append_of_le_length (by rw [List.length_append, hck]; omega)]
  refine List.take_of_length_le ?_
  rw [List.length_append, hck]
  omega

/-- 'copy' into a row. -/
theorem run_copy_row {w : World} {g cap : Nat} {l : List Gr} (h : RowG w g cap l) (o dLen dCap : Nat) (a : Addr) (sLen sCap : Nat) (cs : List Gr) (ty : TypeId) (hn : cs.length = Nat.min sLen dLen) (hsrc : ∀ j v, (rowCells cs)[j]? = some v → w.cell? (a.add j) = some v) (hc : o + cs.length ≤ cap) :
    (Builtin.copy_ #[31, 31] ty #[.slice (some ⟨g, o * 4, none⟩) dLen dCap, .slice (some a) sLen sCap]).run Try.prog w = .ok (goInt cs.length) (w.setCells g (o * 4) (rowCells cs)) := by
  have hvl := rowCells_length cs
  have hl := run_loadCells_list (P := Try.prog) w a (rowCells cs) hsrc
  have hst := run_storeCells_cells (P := Try.prog) g (o * 4) (rowCells cs) 0 w (fun j hj => h.isCell (by omega)) (fun j _ => h.frozenAt _) (rowCells_oneCell cs)
  obtain ⟨i0, hi0, hz0, hz1, hz2⟩ := info_parts infoGram
  rw [hvl] at hl
  simp [Builtin.copy_, run_underlying Try.underlying31, Builtin.lenOf, Builtin.firstCells, sizeOf, typeInfo, hi0, hz1, ← hn, hl, hst]

/-- 'copy' whose run is known: at a plain region, in one that draws. -/
theorem wp_copy_run {P : Program} {o : Oper} {a : Act} {w : World} {K : Act → World → Prop} {Q : Exit → Act → World → Prop} (d x : Operand) (t : TypeId) (hop : o.op = Op.call { callee := Callee.builtin Builtin.copy, args := #[d, x], argTypes := #[t, t] })
    (v u : Value) (hd : a.eval d = v) (hx : a.eval x = u) {v' : Value} {w' : World} (hr : (Builtin.copy_ #[t, t] o.type #[v, u]).run P w = .ok v' w') (hK : K (a.put o.dst v') w') : Oper.wp P o a w K Q := by
  unfold Oper.wp execOp
  simp only [hop, resolve, invoke, builtin, Sem.run_bind, Sem.run_pure, Result.andThen_ok, List.map_toArray, List.map_cons, List.map_nil, hd, hx, hr]
  exact hK
theorem step_copy_run {P : Program} {ops : Array Oper} {o : Oper} {a : Act} {w : World} {K : Act → World → Prop} {Q : Exit → Act → World → Prop} {E : Prop} (hg : o.guard = none) (d x : Operand) (t : TypeId) (hop : o.op = Op.call { callee := Callee.builtin Builtin.copy, args := #[d, x], argTypes := #[t, t] })
    (v u : Value) (hd : a.eval d = v) (hx : a.eval x = u) {v' : Value} {w' : World} (hr : (Builtin.copy_ #[t, t] o.type #[v, u]).run P w = .ok v' w') (hK : K (a.put o.dst v') w') :
    if Region.wanted o (yielded ops a.tmps) = true then Oper.wp P o a w K Q else E := by
  rw [if_pos (by simp [Region.wanted, hg])]
  exact wp_copy_run d x t hop v u hd hx hr hK
theorem wpList_copy_run {P : Program} {ops : Array Oper} {rest : List Oper} {o : Oper} {a : Act} {w : World} {Q : Exit → Act → World → Prop} (hg : o.guard = none) (d x : Operand) (t : TypeId) (hop : o.op = Op.call { callee := Callee.builtin Builtin.copy, args := #[d, x], argTypes := #[t, t] })
    (v u : Value) (hd : a.eval d = v) (hx : a.eval x = u) {v' : Value} {w' : World} (hr : (Builtin.copy_ #[t, t] o.type #[v, u]).run P w = .ok v' w') (hK : wpList P ops Q rest (a.put o.dst v') w') : wpList P ops Q (o :: rest) a w :=
  wpList_plain hg fun _ hK' => wp_copy_run d x t hop v u hd hx hr (hK' _ _ hK)

/-- x stands at the place i, what stood there and behind it right behind. -/
def insG (l : List Gr) (i : Nat) (x : Gr) : List Gr := l.take i ++ x :: l.drop i

theorem insG_length (l : List Gr) (i : Nat) (x : Gr) (h : i ≤ l.length) : (insG l i x).length = l.length + 1 := by
  unfold insG
  simp
  omega

/-- The block vb bears the one datagram x. -/
def One (w : World) (vb : Nat) (x : Gr) : Prop := w.heap[vb]? = some (.cells (grCells x).toArray 56 (0, 0))

theorem One.cells {w : World} {vb : Nat} {x : Gr} (h : One w vb x) : ∀ j v, (rowCells [x])[j]? = some v → w.cell? ((⟨vb, 0, none⟩ : Addr).add j) = some v := fun j v hj => by
  rw [rowCells_one] at hj
  exact World.news_of_block h j v (by simpa using hj)

/-- The first i datagrams' cells of the block g are as they were. -/
def Low (w w' : World) (g i : Nat) : Prop := ∀ r, r < i * 4 → w'.cell? ⟨g, r, none⟩ = w.cell? ⟨g, r, none⟩

/-- 'append' of one datagram, with or without room. -/
theorem append_one (g cap n vb : Nat) (l : List Gr) (x : Gr) (hn : l.length = n) (h600 : n < 600) (w : World) (hr : RowG w g cap l) (hv : One w vb x) :
    ∃ g' cap' w', (∀ ty, (Builtin.append_ #[31, 31] ty #[.slice (some ⟨g, 0, none⟩) n cap, .slice (some ⟨vb, 0, none⟩) 1 1]).run Try.prog w = .ok (.slice (some ⟨g', 0, none⟩) (n + 1) cap') w') ∧ RowG w' g' cap' (l ++ [x]) ∧ (g' = g ∨ w.heap.size ≤ g') ∧ Kept (fun i => i = g) w w' ∧ Low w w' g n := by
  subst hn
  by_cases hroom : l.length + 1 ≤ cap
  · obtain ⟨w', h1, h2, h3⟩ := run_append_row hr ⟨vb, 0, none⟩ 1 1 [x] rfl hv.cells hroom 0
    refine ⟨g, cap, w', fun ty => h1, h2, Or.inl rfl, (Kept.refl _ w).grown h3 (fun j hj => Or.inr (Option.some.inj hj).symm), fun r hrr => ?_⟩
    rw [World.ownsRow.cellAt hr r hrr]
    unfold RowG at h2
    rw [World.ownsRow.cellAt h2 r (by simp; omega), rowCells_append, List.getElem?_append_left (by rw [rowCells_length]; exact hrr)]
  · obtain ⟨i0, hi0, hz0, hzs, hzb⟩ := info_parts infoGram
    have hlc := hr.le
    have h1 := fun ty => run_append_grow (P := Try.prog) w 31 ty 56 i0 z4 Try.underlying31 hi0 hz0 ⟨g, 0, none⟩ l.length cap (rowCells l) (by rw [rowCells_length, hzs]) (World.ownsRow.cells hr rfl) ⟨vb, 0, none⟩ 1 1 (rowCells [x]) (by rw [rowCells_length, hzs]; rfl) hv.cells (by omega) (by omega) (by rw [hzb]; exact growslice_fits (by omega) (by omega))
    obtain ⟨G, hG⟩ : ∃ G, G = grownCap w (l.length + 1) cap 56 := ⟨_, rfl⟩
    have hGn : l.length + 1 ≤ G := by rw [hG]; exact grownCap_ge w _ _ _
    have hGm : G ≤ maxLen := by rw [hG]; exact grownCap_le_maxLen w (l.length + 1) cap _ (by unfold maxLen; omega)
    rw [← hG] at h1
    have hk1 : Kept (fun _ => False) w (w.drew.alloc (.cells ((rowCells l).toArray ++ (rowCells [x]).toArray ++ Builtin.zeroCells z4.cells (G - (l.length + 1))) 56)) := (Kept.refl _ w).drew.alloc _
    refine ⟨w.heap.size, G, _, h1, ?_, Or.inr (Nat.le_refl _), hk1.mono (fun _ _ h => h.elim), fun r _ => hk1.cell hr.lt id⟩
    refine RowG.of (heap_alloc_new w.drew _) (by simp; omega) hGm ?_ ?_
    · rw [Array.size_append, Array.size_append, size_zeroCells, List.size_toArray, List.size_toArray, rowCells_length, rowCells_length, show z4.cells.size = 4 from rfl, List.length_singleton]
      omega
    · rw [Array.toList_append, Array.toList_append, rowCells_append]
      rw [List.take_append_of_le_length (by simp only [List.length_append, rowCells_length]; simp; omega)]
      exact List.take_of_length_le (by simp only [List.length_append, rowCells_length]; simp; omega)

set_option maxHeartbeats 1000000 in
set_option maxRecDepth 100000 in
theorem insert_end (g cap n vb : Nat) (l : List Gr) (x : Gr) (hn : l.length = n) (h600 : n < 600) (w : World) (hr : RowG w g cap l) (hv : One w vb x) :
    Calls Try.prog 34 #[.slice (some ⟨g, 0, none⟩) n cap, .int .i64 (n : Int), .slice (some ⟨vb, 0, none⟩) 1 1] w fun e w' =>
      ∃ g' cap', e = .returned (.slice (some ⟨g', 0, none⟩) (n + 1) cap') ∧ RowG w' g' cap' (insG l n x) ∧ (g' = g ∨ w.heap.size ≤ g') ∧ Kept (fun i => i = g) w w' ∧ Low w w' g n := by
  obtain ⟨g', cap', w2, hrun, h1, h2, h3, h4⟩ := append_one g cap n vb l x hn h600 w hr hv
  have HI : insG l n x = l ++ [x] := by
    unfold insG
    rw [List.take_of_length_le (by omega), List.drop_of_length_le (by omega)]
  rw [← HI] at h1
  have fin := hid (⟨h1, h2, h3, h4⟩ : RowG w2 g' cap' (insG l n x) ∧ (g' = g ∨ w.heap.size ≤ g') ∧ Kept (fun i => i = g) w w2 ∧ Low w w2 g n)
  have hlc := hr.le
  have h63 := hr.le63
  rw [hn] at hlc
  clear hr hv hn HI h1 h2 h3 h4
  go_enter Try.func34, Try.ntmps34
  go_wp2_with (at_builtin; refine Lib.wpList_append_run _ rfl _ _ _ _ rfl _ _ rfl rfl _ _ (hrun _) ?_)
  all_goals go_ret
  all_goals exact ⟨g', cap', rfl, fin.out⟩

theorem ins_shift {l : List Gr} {i : Nat} (x : Gr) (h : i < l.length) : splice (l.take (i + 1) ++ l.drop i) i [x] = insG l i x := by
  have hl : (l.take (i + 1)).length = i + 1 := by rw [List.length_take]; omega
  unfold splice insG
  rw [List.take_append_of_le_length (by omega), List.take_take, Nat.min_eq_left (by omega), List.length_singleton, List.drop_append, hl, List.drop_of_length_le (by omega), Nat.sub_self]
  simp

set_option maxHeartbeats 1000000 in
set_option maxRecDepth 100000 in
theorem insert_shift (g cap n vb i : Nat) (l : List Gr) (x : Gr) (hn : l.length = n) (hi : i < n) (hroom : n + 1 ≤ cap) (hvb : vb ≠ g) (w : World) (hr : RowG w g cap l) (hv : One w vb x) :
    Calls Try.prog 34 #[.slice (some ⟨g, 0, none⟩) n cap, .int .i64 (i : Int), .slice (some ⟨vb, 0, none⟩) 1 1] w fun e w' =>
      e = .returned (.slice (some ⟨g, 0, none⟩) (n + 1) cap) ∧ RowG w' g cap (insG l i x) ∧ Kept (fun i => i = g) w w' ∧ Low w w' g i := by
  have h63 := hr.le63
  obtain ⟨cur, hgb, _, _, hcs, _⟩ := hr.block
  have hov : ∀ lb cb, (callFunc 41 #[.slice (some ⟨vb, 0, none⟩) 1 1, .slice (some ⟨g, (i + 1) * 4, none⟩) lb cb]).run Try.prog w = .ok (.value (.bool false)) w := fun lb cb => by
    rw [run_callFunc_extern Try.func41 (by kernel_rfl) (by kernel_rfl) (by kernel_rfl) (e := Extern.SlicesOverlaps.overlaps #[31, 31] #[4]) (by kernel_rfl),
      Lib.run_overlaps_apart w 31 4 56 Try.underlying31 4 (fun w => by kernel_rfl) ⟨vb, 0, none⟩ ⟨g, (i + 1) * 4, none⟩ 1 1 lb cb hvb 56 56 4 (cap * 4) (by unfold World.shape?; rw [hv]; rfl) (by unfold World.shape?; rw [hgb]; simp [hcs]) (by omega) (by unfold World.frozen?; rw [hv]; simp) (by unfold World.frozen?; rw [hv]; simp)]
    rfl
  have hdl : (l.drop i).length = n - i := by rw [List.length_drop, hn]
  have hr1 : RowG w.drew g cap l := hr.same rfl
  have hc1 : ∀ ty dc sc, (Builtin.copy_ #[31, 31] ty #[.slice (some ⟨g, (i + 1) * 4, none⟩) (n + 1 - (i + 1)) dc, .slice (some ⟨g, i * 4, none⟩) (n + 1 - i) sc]).run Try.prog w.drew = .ok (goInt (l.drop i).length) (w.drew.setCells g ((i + 1) * 4) (rowCells (l.drop i))) := fun ty dc sc =>
    run_copy_row hr1 (i + 1) (n + 1 - (i + 1)) dc ⟨g, i * 4, none⟩ (n + 1 - i) sc (l.drop i) ty (by rw [hdl]; simp only [Nat.min_def]; split <;> omega) (fun j v hj => by
      have hq := (List.getElem?_eq_some_iff.1 hj).1
      rw [rowCells_length, hdl] at hq
      rw [Addr.add_lit, ← hj, ← rowCells_drop, List.getElem?_drop]
      exact World.ownsRow.cellAt hr1 _ (by omega)) (by omega)
  have hr2 : RowG (w.drew.setCells g ((i + 1) * 4) (rowCells (l.drop i))) g cap (l.take (i + 1) ++ l.drop i) := hr1.tail (i + 1) (l.drop i) (by omega) (by omega)
  have hk2 : Kept (fun i => i = g) w (w.drew.setCells g ((i + 1) * 4) (rowCells (l.drop i))) := (Kept.refl _ w).drew.grown (grown_setCells _ _ _) (fun j hj => Or.inr (Option.some.inj hj).symm)
  have hv2 : One (w.drew.setCells g ((i + 1) * 4) (rowCells (l.drop i))) vb x := (hk2.block vb (Array.getElem?_eq_some_iff.1 hv).1 hvb).trans hv
  have hlo : ∀ r, r < i * 4 → (w.drew.setCells g ((i + 1) * 4) (rowCells (l.drop i))).cell? ⟨g, r, none⟩ = w.cell? ⟨g, r, none⟩ := fun r hrr => World.cell?_setCells_out g _ _ _ _ (fun _ _ => Or.inl (by show r < _; omega))
  generalize w.drew.setCells g ((i + 1) * 4) (rowCells (l.drop i)) = W1 at *
  have HL : Hid (Low w (W1.setCells g (i * 4) (rowCells [x])) g i) := fun r hrr => (World.cell?_setCells_out g _ _ _ _ (fun _ _ => Or.inl (by show r < _; omega))).trans (hlo r hrr)
  clear hlo
  have hc2 : ∀ ty dc, (Builtin.copy_ #[31, 31] ty #[.slice (some ⟨g, i * 4, none⟩) (n + 1 - i) dc, .slice (some ⟨vb, 0, none⟩) 1 1]).run Try.prog W1 = .ok (goInt [x].length) (W1.setCells g (i * 4) (rowCells [x])) := fun ty dc =>
    run_copy_row hr2 i (n + 1 - i) dc ⟨vb, 0, none⟩ 1 1 [x] ty (by simp only [Nat.min_def, List.length_singleton]; split <;> omega) hv2.cells (by simp; omega)
  have HR : Hid (RowG (W1.setCells g (i * 4) (rowCells [x])) g cap (insG l i x)) := by
    have := hr2.set i [x] (by simp; omega)
    rwa [ins_shift x (by omega)] at this
  have HK := hid (hk2.grown (grown_setCells (g := g) (rowCells [x]) (i * 4) W1) (fun j hj => Or.inr (Option.some.inj hj).symm))
  generalize W1.setCells g (i * 4) (rowCells [x]) = W2 at *
  have hw1 : IntKind.i64.wrap ((i : Int) + 1) = (i : Int) + 1 := by rw [IntKind.wrap_i64]; omega
  have hz2 : ¬ ((i : Int) = (n : Int)) := by omega
  have hb1 : (0 : Int) ≤ (i : Int) + 1 := by omega
  have hin : i ≤ n := by omega
  have htn : ((i : Int) + 1).toNat = i + 1 := by omega
  have hb2 : ¬ (cap = i + 1) := by omega
  have hb3 : (i : Int) ≤ (n : Int) + 1 := by omega
  have hb4 : ¬ (cap = i) := by omega
  simp only [List.length_singleton] at hc2
  clear hr hr1 hr2 hv hv2 hk2 hgb hcs hdl hn
  generalize (l.drop i).length = q at *
  go_enter Try.func34, Try.ntmps34
  go_wp2_with (simp only [hov])
  go_region_law (refine step_copy_run rfl (.tmp 73) (.tmp 76) 31 rfl (.slice (some ⟨g, (i + 1) * 4, none⟩) (n + 1 - (i + 1)) (cap - (i + 1))) (.slice (some ⟨g, i * 4, none⟩) (n + 1 - i) (cap - i)) (by simp [Act.eval, Act.put]) (by simp [Act.eval, Act.put]) (hc1 _ _ _) ?_)
  all_goals go_wp2_with (at_builtin; refine wpList_copy_run rfl _ _ 31 rfl _ _ rfl rfl (hc2 _ _) ?_)
  all_goals go_ret
  all_goals exact ⟨rfl, HR.out, HK.out, HL.out⟩

set_option maxHeartbeats 1000000 in
set_option maxRecDepth 100000 in
theorem insert_grow (g cap n vb i : Nat) (l : List Gr) (x : Gr) (hn : l.length = n) (h600 : n < 600) (hi : i < n) (hroom : cap < n + 1) (w : World) (hr : RowG w g cap l) (hv : One w vb x) :
    Calls Try.prog 34 #[.slice (some ⟨g, 0, none⟩) n cap, .int .i64 (i : Int), .slice (some ⟨vb, 0, none⟩) 1 1] w fun e w' =>
      ∃ cap', e = .returned (.slice (some ⟨w.heap.size, 0, none⟩) (n + 1) cap') ∧ RowG w' w.heap.size cap' (insG l i x) ∧ Kept (fun _ => False) w w' := by
  have hlc := hr.le
  rw [hn] at hlc
  have hg := hr.lt
  have hvl := (Array.getElem?_eq_some_iff.1 hv).1
  obtain ⟨i0, hi0, hz0, hzs, hzb⟩ := info_parts infoGram
  have hkk : (n : Int) + 1 - (i : Int) = ((n + 1 - i : Nat) : Int) := by omega
  have hik : i + (n + 1 - i) = n + 1 := by omega
  have hold : (Builtin.firstCells i0.size i (.slice (some ⟨g, 0, none⟩) i cap)).run Try.prog w.drew = .ok (rowCells (l.take i)).toArray w.drew := by
    rw [hzs]
    exact run_firstCells_some w.drew 4 i ⟨g, 0, none⟩ i cap (rowCells (l.take i)) (by rw [rowCells_length, List.length_take]; omega) (fun j v hj => by
      have hq := (List.getElem?_eq_some_iff.1 hj).1
      rw [rowCells_length, List.length_take] at hq
      rw [Addr.add_lit, Nat.zero_add, ← hj]
      have h1 := World.ownsRow.cellAt hr j (by omega)
      rw [← rowCells_take, List.getElem?_take_of_lt (by omega)]
      exact h1)
  obtain ⟨G, hG⟩ : ∃ G, G = grownCap w (n + 1) cap 56 := ⟨_, rfl⟩
  obtain ⟨ROW, hROW⟩ : ∃ ROW : Array Value, ROW = (rowCells (l.take i)).toArray ++ Builtin.zeroCells z4.cells (n + 1 - i) ++ Builtin.zeroCells z4.cells (G - (n + 1)) := ⟨_, rfl⟩
  have hGn : n + 1 ≤ G := by rw [hG]; exact grownCap_ge w _ _ _
  have hGm : G ≤ maxLen := by rw [hG]; exact grownCap_le_maxLen w (n + 1) cap _ (by unfold maxLen; omega)
  have hrz : ∀ ty, (Builtin.append_ #[31, 3] ty #[.slice (some ⟨g, 0, none⟩) i cap, .int .i64 ((n : Int) + 1 - (i : Int))]).run Try.prog w = .ok (.slice (some ⟨w.heap.size, 0, none⟩) (n + 1) G) (w.drew.alloc (.cells ROW 56)) := fun ty => by
    have h := Lib.run_append_grow_zeros w 31 3 ty 56 i0 z4 .i64 .i64 Try.underlying31 Try.underlying3 hi0 hz0 (some ⟨g, 0, none⟩) i cap (rowCells (l.take i)) hold (n + 1 - i) (by omega) (by omega) (by omega) (by omega) (by rw [hzb]; omega) (by rw [hzb, hik]; exact growslice_fits (by omega) (by omega))
    rw [hik, ← hG, ← hROW] at h
    rw [hkk]
    exact h
  have htl : (l.take i).length = i := by rw [List.length_take]; omega
  have hrsz : ROW.size = G * 4 := by
    rw [hROW, Array.size_append, Array.size_append, size_zeroCells, size_zeroCells, List.size_toArray, rowCells_length, htl, show z4.cells.size = 4 from rfl]
    omega
  have hr1 : RowG (w.drew.alloc (.cells ROW 56)) w.heap.size G (l.take i) := by
    refine RowG.of (heap_alloc_new w.drew _) (by omega) hGm hrsz ?_
    rw [hROW, Array.toList_append, Array.toList_append, List.append_assoc, List.take_append_of_le_length (by rw [rowCells_length]; exact Nat.le_refl _)]
    exact List.take_of_length_le (by rw [rowCells_length]; exact Nat.le_refl _)
  have hk1 : Kept (fun _ => False) w (w.drew.alloc (.cells ROW 56)) := (Kept.refl _ w).drew.alloc _
  have hv1 : One (w.drew.alloc (.cells ROW 56)) vb x := (hk1.block vb hvl id).trans hv
  have hs1 : RowG (w.drew.alloc (.cells ROW 56)) g cap l := hr.same (hk1.block g hg id)
  clear hG hROW hrsz hold hkk hik hr hv
  generalize w.drew.alloc (.cells ROW 56) = W1 at *
  have hgN : g ≠ w.heap.size := by omega
  have hc1 : ∀ ty dc, (Builtin.copy_ #[31, 31] ty #[.slice (some ⟨w.heap.size, i * 4, none⟩) (n + 1 - i) dc, .slice (some ⟨vb, 0, none⟩) 1 1]).run Try.prog W1 = .ok (goInt [x].length) (W1.setCells w.heap.size (i * 4) (rowCells [x])) := fun ty dc =>
    run_copy_row hr1 i (n + 1 - i) dc ⟨vb, 0, none⟩ 1 1 [x] ty (by simp only [Nat.min_def, List.length_singleton]; split <;> omega) hv1.cells (by simp; omega)
  have hr2 : RowG (W1.setCells w.heap.size (i * 4) (rowCells [x])) w.heap.size G (l.take i ++ [x]) := by
    have := hr1.tail i [x] (by omega) (by simp; omega)
    rwa [List.take_take, Nat.min_self] at this
  have hk2 : Kept (fun _ => False) w (W1.setCells w.heap.size (i * 4) (rowCells [x])) := hk1.grown (grown_setCells _ _ _) (fun j hj => Or.inl (Nat.le_of_eq (Option.some.inj hj)))
  have hs2 : RowG (W1.setCells w.heap.size (i * 4) (rowCells [x])) g cap l := hs1.same ((grown_setCells (g := w.heap.size) (rowCells [x]) (i * 4) W1).block g hs1.lt (fun e => hgN (Option.some.inj e)))
  generalize W1.setCells w.heap.size (i * 4) (rowCells [x]) = W2 at *
  have hdl : (l.drop i).length = n - i := by rw [List.length_drop, hn]
  have hr2' : RowG W2.drew w.heap.size G (l.take i ++ [x]) := hr2.same rfl
  have hs2' : RowG W2.drew g cap l := hs2.same rfl
  have hc2 : ∀ ty dc sc, (Builtin.copy_ #[31, 31] ty #[.slice (some ⟨w.heap.size, (i + 1) * 4, none⟩) (n + 1 - (i + 1)) dc, .slice (some ⟨g, i * 4, none⟩) (n - i) sc]).run Try.prog W2.drew = .ok (goInt (l.drop i).length) (W2.drew.setCells w.heap.size ((i + 1) * 4) (rowCells (l.drop i))) := fun ty dc sc =>
    run_copy_row hr2' (i + 1) (n + 1 - (i + 1)) dc ⟨g, i * 4, none⟩ (n - i) sc (l.drop i) ty (by rw [hdl]; simp only [Nat.min_def]; split <;> omega) (fun j v hj => by
      have hq := (List.getElem?_eq_some_iff.1 hj).1
      rw [rowCells_length, hdl] at hq
      rw [Addr.add_lit, ← hj, ← rowCells_drop, List.getElem?_drop]
      exact World.ownsRow.cellAt hs2' _ (by omega)) (by omega)
  have HR : Hid (RowG (W2.drew.setCells w.heap.size ((i + 1) * 4) (rowCells (l.drop i))) w.heap.size G (insG l i x)) := by
    have := hr2'.tail (i + 1) (l.drop i) (by simp; omega) (by omega)
    rw [List.take_of_length_le (by simp; omega), List.append_assoc] at this
    exact this
  have HK := hid (hk2.drew.grown (grown_setCells (g := w.heap.size) (rowCells (l.drop i)) ((i + 1) * 4) W2.drew) (fun j hj => Or.inl (Nat.le_of_eq (Option.some.inj hj))))
  generalize W2.drew.setCells w.heap.size ((i + 1) * 4) (rowCells (l.drop i)) = W3 at *
  have h63 : G ≤ 9223372036854775807 := by unfold maxLen at hGm; omega
  have hw1 : IntKind.i64.wrap ((i : Int) + 1) = (i : Int) + 1 := by rw [IntKind.wrap_i64]; omega
  have hz2 : ¬ ((i : Int) = (n : Int)) := by omega
  have hz3 : (cap : Int) < (n : Int) + 1 := by omega
  have hb1 : (0 : Int) ≤ (i : Int) + 1 := by omega
  have hin : i ≤ n := by omega
  have htn : ((i : Int) + 1).toNat = i + 1 := by omega
  have hb2 : ¬ (G = i + 1) := by omega
  have hb3 : (i : Int) ≤ (n : Int) := by omega
  have hb4 : ¬ (G = i) := by omega
  have hb5 : ¬ (cap = i) := by omega
  have hb6 : (i : Int) + 1 ≤ (n : Int) + 1 := by omega
  simp only [List.length_singleton] at hc1
  clear hr1 hr2 hv1 hk2 hs1 hs2 hr2' hs2' hdl hn htl hGm hk1 hvl
  generalize (l.drop i).length = q at *
  go_enter Try.func34, Try.ntmps34
  go_wp2_with (first
    | (at_builtin; refine Lib.wpList_append_run _ rfl _ _ _ _ rfl _ _ rfl rfl _ _ (hrz _) ?_)
    | (at_builtin; refine wpList_copy_run rfl _ _ 31 rfl _ _ rfl rfl (hc1 _ _) ?_))
  go_region_law (refine step_copy_run rfl (.tmp 50) (.tmp 53) 31 rfl (.slice (some ⟨w.heap.size, (i + 1) * 4, none⟩) (n + 1 - (i + 1)) (G - (i + 1))) (.slice (some ⟨g, i * 4, none⟩) (n - i) (cap - i)) (by simp [Act.eval, Act.put]) (by simp [Act.eval, Act.put]) (hc2 _ _ _) ?_)
  all_goals go_wp2
  all_goals go_ret
  all_goals exact ⟨G, rfl, HR.out, HK.out⟩

/-- slices.Insert of one datagram, wherever there is a row. -/
theorem insert_any (g cap vb i : Nat) (l : List Gr) (x : Gr) (h600 : l.length < 600) (hi : i ≤ l.length) (hvb : vb ≠ g) (w : World) (hr : RowG w g cap l) (hv : One w vb x) :
    Calls Try.prog 34 #[.slice (some ⟨g, 0, none⟩) l.length cap, .int .i64 (i : Int), .slice (some ⟨vb, 0, none⟩) 1 1] w fun e w' =>
      ∃ g' cap', e = .returned (.slice (some ⟨g', 0, none⟩) (l.length + 1) cap') ∧ RowG w' g' cap' (insG l i x) ∧ (g' = g ∨ w.heap.size ≤ g') ∧ Kept (fun i => i = g) w w' ∧ Low w w' g i := by
  by_cases h1 : i = l.length
  · subst h1
    exact insert_end g cap l.length vb l x rfl h600 w hr hv
  · by_cases h2 : l.length + 1 ≤ cap
    · refine (insert_shift g cap l.length vb i l x rfl (by omega) h2 hvb w hr hv).mono ?_
      rintro e w' ⟨rfl, hr', hk', hl'⟩
      exact ⟨g, cap, rfl, hr', Or.inl rfl, hk', hl'⟩
    · refine (insert_grow g cap l.length vb i l x rfl h600 (by omega) (by omega) w hr hv).mono ?_
      rintro e w' ⟨cap', rfl, hr', hk'⟩
      exact ⟨_, cap', rfl, hr', Or.inr (Nat.le_refl _), hk'.mono (fun _ _ h => h.elim), fun r _ => hk'.cell hr.lt id⟩

end Go.Proofs.Ytegofkpiipomfaa
