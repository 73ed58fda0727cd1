/- The contract of slices.Delete of one option of a row. · The contracts of slices.IndexFunc with the closure of change, of change where the peer's value fits, of isHeard, and of TakeNak at one option that fits. · A request without what was rejected: the contract of without. · The contracts of isMust, whatever must be, and of change at every option. · The contracts of isHeard, takeAck, TakeNak and takeRej at every packet, whatever must be. · The contracts of takeAck and takeRej at every packet, whatever must be. · The contracts of ContainsFunc with isMust, and of takeRej at every packet, whatever must be. · The contract of TakeNak at every packet, whatever must be. · The contract of Take at every packet, whatever must be. -/
import Derived.Test.YtcmdfcdmfdheeaaNgReq
import Derived.Deep.Upon
import Derived.Laws.IdiomCopy
import Derived.Maps.AppendAt
import Derived.OwnWalk
import Derived.Deep.RegionLaw
import Derived.Test.YtcmdfcdmfdheeaaNgSentK
import Derived.Deep.QuietTactic
import Derived.BigQuiet
import Derived.Test.YtcmdfcdmfdheeaaOpEqual
namespace Go.Proofs.Ytcmdfcdmfdheeaa
open Go.RowKit

/-- A list in which vs stands from the place o on. -/
def splice {α : Type} (l : List α) (o : Nat) (vs : List α) : List α := l.take o ++ vs ++ l.drop (o + vs.length)
theorem splice_nil {α : Type} (l : List α) (o : Nat) : splice l o [] = l := by simp [splice]
theorem splice_cons {α : Type} (l : List α) (o : Nat) (v : α) (r : List α) (h : o < l.length) : splice (l.set o v) (o + 1) r = splice l o (v :: r) := by
  unfold splice
  have e1 : (l.set o v).take (o + 1) = l.take o ++ [v] := by
    rw [List.take_add_one, List.getElem?_set_self h, List.take_set_of_le (Nat.le_refl o)]
    simp
  have e2 : (l.set o v).drop (o + 1 + r.length) = l.drop (o + (r.length + 1)) := by
    rw [List.drop_set_of_lt (by omega)]
    congr 1
    omega
  rw [e1, e2]
  simp
theorem splice_length {α : Type} (l : List α) (o : Nat) (vs : List α) (h : o + vs.length ≤ l.length) : (splice l o vs).length = l.length := by
  unfold splice
  simp
  omega
theorem heap_setCells {g : Nat} {e : TypeId} {fz : Nat × Nat} : ∀ (vs : List Value) (o : Nat) (w : World) (cur : Array Value), w.heap[g]? = some (.cells cur e fz) → o + vs.length ≤ cur.size → ∃ cur', (w.setCells g o vs).heap[g]? = some (.cells cur' e fz) ∧ cur'.toList = splice cur.toList o vs
  | [], o, w, cur, h, _ => ⟨cur, h, (splice_nil _ _).symm⟩
  | v :: r, o, w, cur, h, hl => by
    simp at hl
    obtain ⟨c, h1, h2⟩ := heap_setCells r (o + 1) (w.setCell ⟨g, o, none⟩ v) (cur.setIfInBounds o v) (Joins.block_setCell h v) (by simp; omega)
    refine ⟨c, h1, ?_⟩
    rw [h2, Array.toList_setIfInBounds, splice_cons _ _ _ _ (by simp; omega)]
theorem grown_setCells {g : Nat} : ∀ (vs : List Value) (o : Nat) (w : World), w.grownBy (w.setCells g o vs) (some g)
  | [], _, w => World.grownBy.refl w _
  | v :: r, o, w => World.grownBy.trans (b := w.setCell ⟨g, o, none⟩ v) ⟨rfl, rfl, rfl, by simp, fun k _ hk => heap_setCell_other w ⟨g, o, none⟩ k v (fun e => hk (by simp [e]))⟩ (grown_setCells r (o + 1) _)

theorem rowT_cons (a : Tg) (r : List Tg) : rowT (a :: r) = tgCells a ++ rowT r := by simp [rowT]
theorem rowT_take (l : List Tg) (i : Nat) : (rowT l).take (i * 2) = rowT (l.take i) := by
  induction l generalizing i with
  | nil => simp [rowT]
  | cons a r ih =>
    cases i with
    | zero => simp [rowT]
    | succ i =>
      rw [List.take_succ_cons, rowT_cons, rowT_cons, ← ih, List.take_append, List.take_of_length_le (by simp [tgCells]; omega)]
      congr 1
      simp only [tgCells, List.length_cons, List.length_nil]
      congr 1
      omega
theorem rowT_drop (l : List Tg) (i : Nat) : (rowT l).drop (i * 2) = rowT (l.drop i) := by
  induction l generalizing i with
  | nil => simp [rowT]
  | cons a r ih =>
    cases i with
    | zero => simp [rowT]
    | succ i =>
      rw [List.drop_succ_cons, rowT_cons, ← ih, List.drop_append, List.drop_of_length_le (by simp [tgCells]; omega)]
      simp only [tgCells, List.length_cons, List.length_nil, List.nil_append]
      congr 1
      omega

/-- The block g is a row of room for cap options, the first ones l's. -/
def RowO (w : World) (g cap : Nat) (l : List Tg) : Prop := w.ownsRow 0 51 2 (.slice (some ⟨g, 0, none⟩) l.length cap) l.length (rowT l)

section
variable {w : World} {base g cap : Nat} {l : List Tg}
theorem RowO.block (h : RowO w g cap l) : ∃ cur, w.heap[g]? = some (.cells cur 51 (0, 0)) ∧ l.length ≤ cap ∧ cap ≤ maxLen ∧ cur.size = cap * 2 ∧ cur.toList.take (l.length * 2) = rowT l := by
  rcases h.2 with ⟨h', _⟩ | ⟨g', cap', cur, h', _, hg, h1, h2, h3, h4⟩
  · simp at h'
  · simp only [Value.slice.injEq, Option.some.injEq, Addr.mk.injEq, and_true, true_and] at h'
    obtain ⟨rfl, rfl⟩ := h'
    exact ⟨cur, hg, h1, h2, h3, h4⟩
theorem RowO.of {cur : Array Value} (hg : w.heap[g]? = some (.cells cur 51 (0, 0))) (h1 : l.length ≤ cap) (h2 : cap ≤ maxLen) (h3 : cur.size = cap * 2) (h4 : cur.toList.take (l.length * 2) = rowT l) : RowO w g cap l :=
  ⟨rowT_length l, Or.inr ⟨g, cap, cur, rfl, Nat.zero_le _, hg, h1, h2, h3, h4⟩⟩
theorem RowO.lt (h : RowO w g cap l) : g < w.heap.size := by
  obtain ⟨cur, hg, _⟩ := h.block
  exact (Array.getElem?_eq_some_iff.1 hg).1
theorem RowO.le (h : RowO w g cap l) : l.length ≤ cap := by
  obtain ⟨cur, _, h1, _⟩ := h.block
  exact h1
theorem RowO.le63 (h : RowO w g cap l) : cap ≤ 9223372036854775807 := by
  obtain ⟨cur, _, _, h1, _⟩ := h.block
  simp only [maxLen] at h1
  omega
theorem RowO.isCell (h : RowO w g cap l) {j : Nat} (hj : j < cap * 2) : (w.cell? ⟨g, j, none⟩).isSome = true := by
  obtain ⟨cur, hg, _, _, h3, _⟩ := h.block
  simp [World.cell?, hg, h3, hj]
theorem RowO.frozenAt (h : RowO w g cap l) (j : Nat) : w.frozen? ⟨g, j, none⟩ = false := World.ownsRow.frozenAt h j
theorem RowO.same {w' : World} (h : RowO w g cap l) (hb : w'.heap[g]? = w.heap[g]?) : RowO w' g cap l := by
  obtain ⟨cur, hg, h1, h2, h3, h4⟩ := h.block
  exact RowO.of (hb.trans hg) h1 h2 h3 h4
theorem RowO.ahead (h : RowO w g cap l) (i : Nat) : RowO w g cap (l.take i) := by
  obtain ⟨cur, hg, h1, h2, h3, h4⟩ := h.block
  refine RowO.of hg (by simp; omega) h2 h3 ?_
  rw [← rowT_take, ← h4, List.take_take, List.length_take]
  congr 1
  omega
theorem RowO.more (h : RowO w g cap l) (x : Tg) (hl : l.length < cap) : RowO (w.setCells g (l.length * 2) (tgCells x)) g cap (l ++ [x]) := by
  obtain ⟨cur, hg, h1, h2, h3, h4⟩ := h.block
  obtain ⟨cur', hg', hc⟩ := heap_setCells (g := g) (tgCells x) (l.length * 2) w cur hg (by simp [tgCells]; omega)
  have hlen : cur'.size = cur.size := by
    have := congrArg List.length hc
    rw [splice_length _ _ _ (by simp [tgCells]; omega)] at this
    simpa using this
  refine RowO.of hg' (by simp; omega) h2 (by rw [hlen, h3]) ?_
  rw [hc, rowT_append, rowT_one, ← h4]
  unfold splice
  rw [show (l ++ [x]).length * 2 = (cur.toList.take (l.length * 2) ++ tgCells x).length by simp [tgCells]; omega, List.take_append_of_le_length (Nat.le_refl _), List.take_of_length_le (Nat.le_refl _)]
  rfl
theorem RowO.own (h : RowO w g cap l) (hb : base ≤ g) : OwnO w base (.slice (some ⟨g, 0, none⟩) l.length cap) l := by
  obtain ⟨cur, hg, h1, h2, h3, h4⟩ := h.block
  exact ⟨rowT_length l, Or.inr ⟨g, cap, cur, rfl, hb, hg, h1, h2, h3, h4⟩⟩
end
theorem OwnO.casesR {w : World} {base : Nat} {v : Value} {l : List Tg} (h : OwnO w base v l) : (v = .slice none 0 0 ∧ l = []) ∨ ∃ g cap, v = .slice (some ⟨g, 0, none⟩) l.length cap ∧ base ≤ g ∧ RowO w g cap l := by
  rcases h.2 with ⟨h', h0⟩ | ⟨g', cap', cur, h', hb, hg, h1, h2, h3, h4⟩
  · exact Or.inl ⟨h', List.eq_nil_of_length_eq_zero h0⟩
  · exact Or.inr ⟨g', cap', h', hb, RowO.of hg h1 h2 h3 h4⟩

def z2 : Value := .agg #[.int .i64 0, .string ⟨#[]⟩]
def tg0 : Tg := ⟨0, ⟨#[]⟩⟩
theorem zeroOpt (w : World) : (zeroValue 51).run Try.prog w = .ok z2 w := by kernel_rfl
theorem z2_cells : (Builtin.zeroCells z2.cells 1).toList = tgCells tg0 := by kernel_rfl

/-- 'clear' of one option of a row. -/
theorem run_clear_opt {w : World} {g cap : Nat} {l : List Tg} (h : RowO w g cap l) (o c : Nat) (ty : TypeId) (hc : o + 1 ≤ cap) :
    (Builtin.clear_ #[22] ty #[.slice (some ⟨g, o * 2, none⟩) 1 c]).run Try.prog w = .ok (.tuple #[]) (w.setCells g (o * 2) (tgCells tg0)) := by
  have hst := run_storeCells_cells (P := Try.prog) g (o * 2) (Builtin.zeroCells z2.cells 1).toList 0 w (fun j hj => by
    rw [z2_cells] at hj
    simp [tgCells] at hj
    exact h.isCell (by omega)) (fun j _ => h.frozenAt _) (by
    rw [z2_cells]
    intro v hv
    simp [tgCells] at hv
    rcases hv with rfl | rfl <;> rfl)
  simp only [Nat.add_zero] at hst
  rw [z2_cells] at hst
  have hz := zeroOpt w
  have hzc := z2_cells
  generalize z2 = z at *
  simp [Builtin.clear_, run_underlying Try.underlying22, hz, hzc, hst]

/-- 'append' whose run is known, in a region that draws. -/
theorem step_append_run {P : Program} {ops : Array Oper} {o : Oper} {a : Act} {w : World} {K : Act → World → Prop} {Q : Exit → Act → World → Prop} {E : Prop} (hg : o.guard = none) (d x : Operand) (t : TypeId) (hop : o.op = Op.call { callee := Callee.builtin Builtin.append, args := #[d, x], argTypes := #[t, t] })
    (v u : Value) (hd : a.eval d = v) (hx : a.eval x = u) {v' : Value} {w' : World} (hr : (Builtin.append_ #[t, t] o.type #[v, u]).run P w = .ok v' w') (hK : K (a.put o.dst v') w') :
    if Region.wanted o (yielded ops a.tmps) = true then Oper.wp P o a w K Q else E := by
  rw [if_pos (by simp [Region.wanted, hg])]
  unfold Oper.wp execOp
  simp only [hop, resolve, invoke, builtin, Sem.run_bind, Sem.run_pure, Result.andThen_ok, List.map_toArray, List.map_cons, List.map_nil, hd, hx, hr]
  exact hK

theorem run_append_opts {w : World} {g cap : Nat} {l : List Tg} (h : RowO w g cap l) (ad : Addr) (m c : Nat) (news : List Tg) (hl : news.length = m) (hc : ∀ j u, (rowT news)[j]? = some u → w.cell? (ad.add j) = some u) (hroom : l.length + m ≤ cap) (ty : TypeId) :
    ∃ w', (Builtin.append_ #[22, 22] ty #[.slice (some ⟨g, 0, none⟩) l.length cap, .slice (some ad) m c]).run Try.prog w = .ok (.slice (some ⟨g, 0, none⟩) (l.length + m) cap) w' ∧ RowO w' g cap (l ++ news) ∧ w.grownBy w' (some g) := by
  obtain ⟨i0, hi0, hz0, hz1, hz2⟩ := info_parts infoOpt
  obtain ⟨w', h1, h2, h3⟩ := run_append_fits (P := Try.prog) w 0 22 ty 51 i0 2 Try.underlying22 hi0 hz1 g l.length cap (rowT l) h ad m c (rowT news) (by rw [rowT_length, hl]) hc (rowT_oneCell news) hroom
  refine ⟨w', h1, ?_, h3⟩
  unfold RowO
  rw [rowT_append, List.length_append, hl]
  exact h2

set_option maxHeartbeats 1000000 in
set_option maxRecDepth 100000 in
theorem delO_any (g cap n j : Nat) (l : List Tg) (hn : l.length = n) (hj : j < n) (w : World) (hr : RowO w g cap l) :
    Calls Try.prog 74 #[.slice (some ⟨g, 0, none⟩) n cap, .int .i64 (j : Int), .int .i64 ((j : Int) + 1)] w fun e w' =>
      e = .returned (.slice (some ⟨g, 0, none⟩) (n - 1) cap) ∧ RowO w' g cap (l.eraseIdx j ++ [tg0]) ∧ Kept (fun i => i = g) w w' := by
  have hlc := hr.le
  have h63 := hr.le63
  have hpre := (hr.ahead j).same (w' := w.drew) rfl
  have hpl : (l.take j).length = j := by rw [List.length_take]; omega
  have hel : (l.eraseIdx j).length = n - 1 := by rw [List.length_eraseIdx, if_pos (by omega), hn]
  have hrun : ∃ w', (∀ ty, (Builtin.append_ #[22, 22] ty #[.slice (some ⟨g, 0, none⟩) j cap, .slice (some ⟨g, if cap = j + 1 then 0 else (j + 1) * 2, none⟩) (n - (j + 1)) (cap - (j + 1))]).run Try.prog w.drew = .ok (.slice (some ⟨g, 0, none⟩) (n - 1) cap) w') ∧ RowO w' g cap (l.eraseIdx j) ∧ w.drew.grownBy w' (some g) := by
    obtain ⟨w', h1, h2, h3⟩ := run_append_opts hpre ⟨g, if cap = j + 1 then 0 else (j + 1) * 2, none⟩ (n - (j + 1)) (cap - (j + 1)) (l.drop (j + 1)) (by rw [List.length_drop, hn]) (fun q u hu => by
      have hq : q < (rowT (l.drop (j + 1))).length := (List.getElem?_eq_some_iff.1 hu).1
      rw [rowT_length, List.length_drop] at hq
      have hne : ¬ (cap = j + 1) := by omega
      rw [if_neg hne, Addr.add_lit, ← hu, ← rowT_drop, List.getElem?_drop]
      exact World.ownsRow.cellAt hr _ (by omega)) (by rw [hpl]; omega) 0
    rw [hpl, show j + (n - (j + 1)) = n - 1 by omega] at h1
    rw [← List.eraseIdx_eq_take_drop_succ] at h2
    exact ⟨w', fun ty => h1, h2, h3⟩
  obtain ⟨w', hrun, hrow, hgrow⟩ := hrun
  have hce := fun ty => run_clear_opt hrow (n - 1) (cap - (n - 1)) ty (by omega)
  have HR : Hid (RowO (w'.setCells g ((n - 1) * 2) (tgCells tg0)) g cap (l.eraseIdx j ++ [tg0])) := by
    have := hrow.more tg0 (by omega)
    rw [hel] at this
    exact this
  have HK : Hid (Kept (fun i => i = g) w (w'.setCells g ((n - 1) * 2) (tgCells tg0))) :=
    (((Kept.refl _ w).drew).grown hgrow (fun j hj => Or.inr (Option.some.inj hj).symm)).grown (grown_setCells _ _ _) (fun j hj => Or.inr (Option.some.inj hj).symm)
  rw [hn] at hlc
  clear hr hpre hpl hrow hgrow hel
  generalize w'.setCells g ((n - 1) * 2) (tgCells tg0) = wz at *
  have hnc : ¬ (cap = n - 1) := by omega
  have hnn : n - (n - 1) = 1 := by omega
  have hb1 : j ≤ cap := by omega
  have hb2 : (j : Int) ≤ (j : Int) + 1 := by omega
  have hb3 : (j : Int) + 1 ≤ (n : Int) := by omega
  have hb4 : (0 : Int) ≤ (j : Int) + 1 := by omega
  have hb5 : ((j : Int) + 1).toNat = j + 1 := by omega
  have hb6 : j + 1 ≤ n := hj
  by_cases hcap : cap = j + 1
  · rw [if_pos hcap] at hrun
    subst hcap
    rw [Nat.sub_self] at hrun
    go_enter Try.func74, Try.ntmps74
    go_wp2
    go_region_law (refine step_append_run rfl (.tmp 22) (.tmp 25) 22 rfl (.slice (some ⟨g, 0, none⟩) j (j + 1)) (.slice (some ⟨g, 0, none⟩) (n - (j + 1)) 0) (by simp [Act.eval, Act.put]) (by simp [Act.eval, Act.put]; omega) (hrun _) ?_)
    all_goals go_wp2
    all_goals go_ret
    all_goals exact ⟨rfl, HR.out, HK.out⟩
  · rw [if_neg hcap] at hrun
    go_enter Try.func74, Try.ntmps74
    go_wp2
    go_region_law (refine step_append_run rfl (.tmp 22) (.tmp 25) 22 rfl (.slice (some ⟨g, 0, none⟩) j cap) (.slice (some ⟨g, (j + 1) * 2, none⟩) (n - (j + 1)) (cap - (j + 1))) (by simp [Act.eval, Act.put]) (by simp [Act.eval, Act.put]) (hrun _) ?_)
    all_goals go_wp2
    all_goals go_ret
    all_goals exact ⟨rfl, HR.out, HK.out⟩
end Go.Proofs.Ytcmdfcdmfdheeaa

namespace Go.Proofs.Ytcmdfcdmfdheeaa
open Go.RowKit

set_option maxHeartbeats 1000000 in
set_option maxRecDepth 100000 in
theorem change_fn (ob : Nat) (o r : Tg) (w : World) (hb : BoxO w ob o) : Calls Try.prog 72 #[.agg #[.int .i64 r.type, .string r.value], .pointer (some ⟨ob, 0, none⟩)] w fun e w' => e = .returned (.bool (r.type == o.type)) ∧ Kept (fun _ => False) w w' := by
  have k0 := (Kept.refl (fun _ => False) w).alloc (.cells #[.int .i64 r.type, .string r.value] 51)
  have b0 := (BoxO.new w r).c0
  have hb1 : BoxO (w.alloc (.cells #[.int .i64 r.type, .string r.value] 51)) ob o := (k0.block _ hb.lt id).trans hb
  have c0 := hb1.c0
  have HK := hid k0
  clear k0 hb hb1
  cases hq : (r.type == o.type) with
  | true =>
    go_enter Try.func72, Try.ntmps72
    go_wp2
    go_ret
    exact ⟨by rw [← hq]; rfl, HK.out⟩
  | false =>
    go_enter Try.func72, Try.ntmps72
    go_wp2
    go_ret
    exact ⟨by rw [← hq]; rfl, HK.out⟩

/-- The place of the first option of a type; -1, if there is none. -/
def FoundO (l : List Tg) (t : Int) (r : Int) : Prop := (r = -1 ∧ ∀ x ∈ l, (x.type == t) = false) ∨ ∃ (j : Nat) (x : Tg), r = (j : Int) ∧ l[j]? = some x ∧ (x.type == t) = true ∧ ∀ y ∈ l.take j, (y.type == t) = false

set_option maxHeartbeats 2000000 in
set_option maxRecDepth 100000 in
theorem indexF_any (v : Value) (l : List Tg) (ob : Nat) (o : Tg) (w : World) (hv : TagsAt w v l) (hl : l.length ≤ 1000000) (hb : BoxO w ob o) :
    Calls Try.prog 71 #[v, .func (.func 72) #[] #[.pointer (some ⟨ob, 0, none⟩)]] w fun e w' => ∃ r, e = .returned (.int .i64 r) ∧ FoundO l o.type r ∧ Kept (fun _ => False) w w' := by
  obtain ⟨p, cap, rfl⟩ := hv.slice
  have HT := hid (fun (W : World) (k : Kept (fun _ => False) w W) => hv.kept0 k)
  have HF := hid (fun (r : Tg) (W : World) (k : Kept (fun _ => False) w W) => change_fn ob o r W ((k.block _ hb.lt id).trans hb))
  clear hv hb
  go_enter Try.func71, Try.ntmps71
  go_wp2
  go_loopw [5, 8] (fun _ s wr => ∃ j : Nat, j ≤ l.length ∧ s = .int .i64 (j : Int) ∧ Hid (∀ y ∈ l.take j, (y.type == o.type) = false) ∧ Hid (Kept (fun _ => False) w wr)) (fun _ s _ => l.length - (intOf s).toNat)
  case atStart => exact ⟨0, Nat.zero_le _, rfl, (fun y hy => by simp at hy), Kept.refl _ _⟩
  case round =>
    obtain ⟨j, hj, rfl, HA, HK⟩ := hrel
    by_cases hlt : j < l.length
    · obtain ⟨x, hx⟩ : ∃ x, l[j]? = some x := ⟨l[j], by simp [hlt]⟩
      have hltz : (j : Int) < (l.length : Int) := by omega
      obtain ⟨g, of, rfl, hcap, c0, c1⟩ := (HT.out wr HK.out).at hx
      have Hx := hid hx
      have Hc := hid (HF.out x wr HK.out)
      have hst := hid (take_next hx)
      clear hx
      generalize hqq : (x.type == o.type) = q at Hc
      have Hq := hid hqq
      clear hqq
      go_wp2_with fail
      refine Hc.out.mono ?_
      rintro e w2 ⟨rfl, hk2⟩
      have HK2 := hid (HK.out.trans hk2)
      clear hk2 c0 c1 Hc
      cases q with
      | true =>
        go_wp2
        go_ret
        exact ⟨_, rfl, Or.inr ⟨j, x, rfl, Hx.out, Hq.out, HA.out⟩, HK2.out⟩
      | false =>
        go_wp2
        refine ⟨⟨j + 1, hlt, by go_num, fun y hy => ?_, HK2.out⟩, by simp [intOf]; omega⟩
        rw [hst.out, List.mem_append] at hy
        rcases hy with hy | hy
        · exact HA.out y hy
        · rw [List.mem_singleton] at hy
          rw [hy]
          exact Hq.out
    · obtain rfl : j = l.length := by omega
      have hltz : ¬ (l.length : Int) < (l.length : Int) := by omega
      go_wp2
      go_ret
      refine ⟨_, rfl, Or.inl ⟨rfl, fun y hy => HA.out y (by rw [List.take_of_length_le (Nat.le_refl _)]; exact hy)⟩, HK.out⟩

theorem rowT_set {l : List Tg} {j : Nat} {x : Tg} (hj : l[j]? = some x) (s : ByteArray) : rowT (l.set j ⟨x.type, s⟩) = (rowT l).set (j * 2 + 1) (.string s) := by
  induction l generalizing j with
  | nil => simp at hj
  | cons y l ih =>
    cases j with
    | zero =>
      have : y = x := by simpa using hj
      subst this
      simp [rowT, tgCells]
    | succ j =>
      have e := ih (j := j) (by simpa using hj)
      have e1 : rowT (y :: l) = .int .i64 y.type :: .string y.value :: rowT l := by simp [rowT, tgCells]
      have e2 : rowT (y :: l.set j ⟨x.type, s⟩) = .int .i64 y.type :: .string y.value :: rowT (l.set j ⟨x.type, s⟩) := by simp [rowT, tgCells]
      rw [List.set_cons_succ, e2, e, e1, show (j + 1) * 2 + 1 = (j * 2 + 1) + 1 + 1 by omega, List.set_cons_succ, List.set_cons_succ]

theorem OwnO.setVal {W : World} {base g n cap j : Nat} {l : List Tg} {x : Tg} (h : OwnO W base (.slice (some ⟨g, 0, none⟩) n cap) l) (hj : l[j]? = some x) (s : ByteArray) : OwnO (W.setCell ⟨g, j * 2 + 1, none⟩ (.string s)) base (.slice (some ⟨g, 0, none⟩) n cap) (l.set j ⟨x.type, s⟩) := by
  rcases h.2 with ⟨h', _⟩ | ⟨g', cap', cur, e, hb, hg, h1, h2, h3, h4⟩
  · simp at h'
  · simp only [Value.slice.injEq, Option.some.injEq, Addr.mk.injEq, and_true] at e
    obtain ⟨rfl, rfl, rfl⟩ := e
    refine ⟨by rw [rowT_length], Or.inr ⟨g, cap, cur.setIfInBounds (j * 2 + 1) (.string s), by rw [List.length_set], hb, Joins.block_setCell hg _, by rw [List.length_set]; exact h1, h2, by simpa using h3, ?_⟩⟩
    rw [List.length_set, rowT_set hj, ← h4, Array.toList_setIfInBounds, List.take_set]

section
variable {W W' : World} {base b : Nat} {a : Nm} {n : Ng}
/-- The request's own row has turned. -/
theorem NegIn.setRow (h : NegIn W base b a n) {l : List Tg} (hk : Kept (fun i => a.vr.ownBlock = some i) W W') (ho : OwnO W' base a.vr l) (hf : FineO l) : NNext W W' base b a a { n with req := l } := by
  have hc : ∀ j, a.vr.ownBlock = some j → j < W.heap.size → ∃ cur e fz, W.heap[j]? = some (.cells cur e fz) := fun j e _ => by
    obtain ⟨cur, hc⟩ := h.req.cellsB e
    exact ⟨_, _, _, hc⟩
  refine ⟨⟨(hk.block b h.lt (fun e => h.ne_b h.req e rfl)).trans h.cells, h.auto.kept hk (fun e => h.ne_a h.req e rfl), ho, h.own.kept hk hc, h.peer.kept hk hc, h.mine.keptS hk (fun i hi e => h.far1 i e hi), h.theirs.keptS hk (fun i hi e => h.far2 i e hi), h.far1, h.far2, h.lo, h.lo2, ?_⟩, rfl, rfl, fun _ h => Or.inl h, fun _ h => Or.inl h, fun _ h => Or.inl h, hk.mono (fun j _ e => Or.inr (Or.inr e))⟩
  have g := h.good
  exact ⟨g.au, g.fails, g.wait, g.id, g.naks, g.ticks, g.ups, g.downs, hf, g.mine, g.theirs⟩
end

set_option maxHeartbeats 4000000 in
set_option maxRecDepth 100000 in
theorem change_fits {base b : Nat} {a : Nm} {n : Ng} (o : Tg) (w : World) (h : NegIn w base b a n) (ho64 : In64 o.type) (hos : o.value.size ≤ 140737488351232) (r : Tg) (hr : n.req = [r]) (ht : r.type = o.type) (hl : letsB n.own o = true) :
    Calls Try.prog 51 #[.pointer (some ⟨b, 0, none⟩), .agg #[.int .i64 o.type, .string o.value]] w fun e w' => e = .returned (.bool true) ∧ NNext w w' base b a a { n with req := [⟨r.type, o.value⟩] } := by
  have k0 := (Kept.refl (fun _ => False) w).alloc (.cells #[.int .i64 o.type, .string o.value] 51)
  have hA := h.kept0 k0
  have HIx := hid (indexF_any a.vr n.req w.heap.size o _ hA.req.tags (by have := hA.good.req.1; omega) (BoxO.new w o))
  have hB := BoxO.new w o
  generalize hAe : w.alloc (.cells #[.int .i64 o.type, .string o.value] 51) = A at *
  have HAe := hid hAe
  obtain ⟨pr, cr, hvr⟩ := slice_of hA.req
  have hTg : TagsAt A (.slice pr n.req.length cr) n.req := by
    have := hA.req.tags
    rw [hvr] at this
    exact this
  obtain ⟨g, og, hpr, hcap, _, _⟩ := hTg.at (j := 0) (x := r) (by rw [hr]; rfl)
  clear hTg
  have hg0 : og = 0 := by
    rcases hA.req.2 with ⟨e, _⟩ | ⟨g', cap', cur, e, _⟩
    · rw [hvr] at e; simp at e; rw [e.1] at hpr; cases hpr
    · rw [hvr] at e
      simp only [Value.slice.injEq] at e
      rw [e.1] at hpr
      simp at hpr
      exact hpr.2.symm
  subst hg0
  subst hpr
  rw [hr, List.length_singleton] at hvr hcap
  have d1 := hA.n1
  have d2 := hA.n2
  rw [hvr] at HIx d1
  obtain ⟨mb, L, hvo, _⟩ := id hA.own
  rw [hvo] at d2
  have HN := hid hA
  have HK := hid k0
  have HBo := hid hB
  have HR := hid hr
  have HT := hid ht
  have HL := hid hl
  have HV := hid hvr
  have HVo := hid hvo
  clear h k0 hA hB hr ht hl hAe hvr hvo
  go_enter Try.func51, Try.ntmps51
  go_upto_region 1 with fail
  rw [HAe.out]
  clear HAe
  go_wp2_with fail
  refine HIx.out.mono ?_
  rintro e w1 ⟨i, rfl, hF, hk1⟩
  have hi0 : i = 0 := by
    rcases hF with ⟨rfl, h9⟩ | ⟨j, x, rfl, hj, _, _⟩
    · have := h9 r (by rw [HR.out]; simp)
      rw [HT.out] at this
      simp at this
    · have := (List.getElem?_eq_some_iff.1 hj).1
      rw [HR.out, List.length_singleton] at this
      omega
  subst hi0
  have N1 := HN.out.kept0 hk1
  have hB1 : BoxO w1 w.heap.size o := (hk1.block _ HBo.out.lt id).trans HBo.out
  have kd := (Kept.refl (fun _ => False) w1).drew
  have HFi := hid (bookFits_any a.vo n.own o w1.drew (N1.kept0 kd).own ho64 hos)
  rw [HL.out, HVo.out] at HFi
  unfold tgV at HFi
  have b0 := hB1.c0
  have b1 := hB1.c1
  have e1 := N1.n1
  have e2 := N1.n2
  rw [HV.out] at e1
  rw [HVo.out] at e2
  have HN1 := hid N1
  have HB1 := hid hB1
  have HK1 := hid (HK.out.trans hk1)
  clear hF hk1 N1 hB1 d1 d2 HIx
  go_wp2_with fail
  go_region_with (first | (go_at_call 73; refine HFi.out.mono ?_; rintro e w2 ⟨rfl, hk2⟩; have K2 := hid (kd.trans hk2); clear hk2))
  all_goals
    have N2 := hid (HN1.out.kept0 K2.out)
    have hB2 : BoxO w2 w.heap.size o := (K2.out.block _ HB1.out.lt id).trans HB1.out
    clear e1 e2 b0 b1
    have b0 := hB2.c0
    have b1 := hB2.c1
    have e1 := N2.out.n1
    rw [HV.out] at e1
    have O2 := N2.out.req
    rw [HV.out] at O2
    have hrow : w2.cell? ⟨g, 1, none⟩ = some (.string r.value) := by
      have h5 : TagsAt w2 (.slice (some ⟨g, 0, none⟩) 1 cr) n.req := O2.tags
      obtain ⟨g', o', e5, _, _, q1⟩ := h5.at (j := 0) (x := r) (by rw [HR.out]; rfl)
      simp only [Option.some.injEq, Addr.mk.injEq, and_true] at e5
      obtain ⟨rfl, rfl⟩ := e5
      exact q1
    have hfrz : w2.frozen? ⟨g, 1, none⟩ = false := by
      obtain ⟨cur, hcur⟩ := O2.cellsB (i := g) rfl
      exact frozen_of_row _ g 1 _ _ hcur
    have O3 := OwnO.setVal (j := 0) (x := r) O2 (by rw [HR.out]; rfl) o.value
    have NF : Hid (NNext w ((w2.setCell ⟨g, 1, none⟩ (.string o.value)).drew) base b a a { n with req := [⟨r.type, o.value⟩] }) := by
      have h6 : NNext w2 (w2.setCell ⟨g, 1, none⟩ (.string o.value)) base b a a { n with req := [⟨r.type, o.value⟩] } := by
        refine N2.out.setRow ((kept_cell w2 g 1 (.string o.value)).mono (fun i _ e => by rw [HV.out, e]; rfl)) ?_ (fine1 ?_ hos)
        · rw [HV.out]
          rw [HR.out] at O3
          exact O3
        · exact (N2.out.good.req.2.1 r (by rw [HR.out]; simp))
      exact ((NNext.before0 HK1.out (NNext.of0 HN1.out K2.out)).trans h6).then0 (Kept.refl _ _).drew
    clear O2 O3
    go_wp2_with fail
    go_region
    all_goals
      go_wp2
      go_ret
      exact ⟨rfl, NF.out⟩


set_option maxHeartbeats 2000000 in
set_option maxRecDepth 100000 in
theorem isHeard_yes {base b : Nat} {a : Nm} {n : Ng} (c i : Int) (p : Option Addr) (m cap : Nat) (s : ByteArray) (w : World) (h : NegIn w base b a n) (hb : n.begun = true) (hi : i = n.last) :
    Calls Try.prog 49 #[.pointer (some ⟨b, 0, none⟩), .agg #[.int .i64 c, .int .i64 i, .slice p m cap, .string s]] w fun e w' => e = .returned (.bool true) ∧ Kept (fun _ => False) w w' := by
  have k0 := (Kept.refl (fun _ => False) w).alloc (.cells #[.int .i64 c, .int .i64 i, .slice p m cap, .string s] 40)
  have O0 := own4_new w 40 (.int .i64 c) (.int .i64 i) (.slice p m cap) (.string s)
  have hA := h.kept0 k0
  have d8 := hA.n8
  have d9 := hA.n9
  obtain ⟨⟨q0, q1, q2, q3⟩, _⟩ := O0
  rw [hb] at d9
  rw [← hi] at d8
  have HK := hid k0
  clear h hA hb k0
  generalize hA : w.alloc (.cells #[.int .i64 c, .int .i64 i, .slice p m cap, .string s] 40) = A at *
  have HA := hid hA
  clear hA hi
  go_enter Try.func49, Try.ntmps49
  go_upto_region 1 with fail
  rw [HA.out]
  clear HA
  go_quiet (fail)
  go_wp2
  go_ret
  exact ⟨rfl, HK.out.drewN _⟩

/-- How far TakeNak has come. -/
structure NakU (A : World) (base b : Nat) (a : Nm) (n : Ng) (o r : Tg) (k : Nat) (v6 : Value) (W : World) : Prop where
  a0 : k = 0 → v6 = .slice none 0 0 ∧ NNext A W base b a a n
  a1 : k = 1 → NNext A W base b a a { n with req := [⟨r.type, o.value⟩] } ∧ OwnO W A.heap.size v6 [o]

set_option maxHeartbeats 8000000 in
set_option maxRecDepth 100000 in
theorem takeNak_one {base b : Nat} {a : Nm} {n : Ng} (i : Int) (v : Value) (o r : Tg) (s : ByteArray) (w : World) (h : NegIn w base b a n) (hp : PkIn w b a ⟨3, i, [o], s⟩ v) (hb : n.begun = true) (hi : i = n.last) (hr : n.req = [r]) (ht : r.type = o.type) (hl : letsB n.own o = true) :
    Calls Try.prog 32 #[.pointer (some ⟨b, 0, none⟩), .agg #[.int .i64 3, .int .i64 i, v, .string s]] w fun e w' => ∃ vo vt, e = .returned (.tuple #[vo, vt]) ∧ Sent w w' base b a (happenF ⟨⟨3, i, [o], s⟩, pk00, []⟩ { n with req := [⟨r.type, o.value⟩] } 9) vo ∧ OwnO w' w.heap.size vt [o] := by
  obtain ⟨pv, cv, hv⟩ := hp.at_.1.slice
  have hv : v = .slice pv 1 cv := hv
  have k0 := (Kept.refl (fun _ => False) w).alloc (.cells #[.int .i64 3, .int .i64 i, v, .string s] 40)
  have O0 := hid (own4_new w 40 (.int .i64 3) (.int .i64 i) v (.string s))
  have HA := hid (h.kept0 k0)
  have HP := hid (hp.kept0 k0)
  have HZ := hid (ngNone_any _ HA.out)
  have HH := hid (isHeard_yes 3 i pv 1 cv s _ HA.out hb hi)
  have HK0 := hid k0
  have hnS : Hid (¬ Sn b a w.heap.size) := fun s => by have := h.sn_lt _ s; omega
  have ho64 := hid (hp.fine.2.1 o (by simp))
  have hos := hid (hp.fine.2.2 o (by simp))
  have HR := hid (And.intro hr (And.intro ht hl))
  subst hv
  generalize hAe : w.alloc (.cells #[.int .i64 3, .int .i64 i, .slice pv 1 cv, .string s] 40) = A at *
  have HAe := hid hAe
  obtain ⟨⟨q0, q1, q2, q3⟩, _⟩ := O0.out
  clear h hp k0 hAe hb hi hr ht hl
  go_enter Try.func32, Try.ntmps32
  go_upto_region 1 with fail
  rw [HAe.out]
  clear HAe
  go_wp2_with (first | (go_at_call 27; refine HZ.out.mono ?_; rintro e w' ⟨rfl, hw⟩; rw [hw]; clear hw w'))
  refine HH.out.mono ?_
  rintro e w1 ⟨rfl, hk1⟩
  obtain ⟨⟨y0, y1, y2, y3⟩, _⟩ := O0.out.kept hk1
  have U0 : Hid (NakU A base b a n o r 0 (.slice none 0 0) w1) := ⟨fun _ => ⟨rfl, NNext.of0 HA.out hk1⟩, fun h => absurd h (by decide)⟩
  clear hk1 q0 q1 q2 q3 HZ HH
  go_wp2
  go_loopw [6, 20] (fun v6 v20 wr => ∃ k : Nat, k ≤ 1 ∧ v20 = .int .i64 (k : Int) ∧ Hid (NakU A base b a n o r k v6 wr)) (fun _ v20 _ => 1 - (intOf v20).toNat)
  case atStart => exact ⟨0, by decide, rfl, U0.out⟩
  case round =>
    obtain ⟨k, hk, rfl, HU⟩ := hrel
    clear U0 y0 y1 y2 y3
    by_cases hlt : k < 1
    · obtain rfl : k = 0 := by omega
      obtain ⟨rfl, hN⟩ := HU.out.a0 rfl
      have P1 := HP.out.step hN
      obtain ⟨g, og, hpv, hcap, c0, c1⟩ := P1.at_.1.at (j := 0) (x := o) rfl
      simp only [Nat.zero_mul, Nat.add_zero] at c0 c1
      subst hpv
      have ka := (Kept.refl (fun _ => False) wr).alloc (.cells #[.int .i64 o.type, .string o.value] 51)
      have Bx := BoxO.new wr o
      have b0 := Bx.c0
      have b1 := Bx.c1
      have NA := hid (hN.then0 ka)
      have HCh := hid (change_fits o _ NA.out.neg ho64.out hos.out r HR.out.1 HR.out.2.1 HR.out.2.2)
      have HBx := hid Bx
      have hlw := hN.kept.size
      have hSnl : Hid (¬ Sn b a wr.heap.size) := fun s => by have := hN.neg.sn_lt _ s; omega
      clear hN P1 ka Bx HU
      go_wp2_with fail
      refine HCh.out.mono ?_
      rintro e w2 ⟨rfl, hN2⟩
      have hB2 : BoxO w2 wr.heap.size o := (hN2.kept.block _ HBx.out.lt hSnl.out).trans HBx.out
      have d0 := hB2.c0
      have d1 := hB2.c1
      have NB := hid (NA.out.trans hN2)
      obtain ⟨v', w3, hrn, ho3, hk3, _⟩ := pushO o NB.out.kept.size (OwnO.nil w2 A.heap.size) (by simp)
      obtain ⟨p3, c3, rfl⟩ := slice_of ho3
      have UF : Hid (NakU A base b a n o r 1 (.slice p3 1 c3) w3) := ⟨fun h => absurd h (by decide), fun _ => ⟨NB.out.then0 (hk3.mono (fun _ _ e => by cases e)), ho3⟩⟩
      unfold AppO at hrn
      clear hN2 ho3 hk3 HCh NA NB hB2
      go_wp2_with (at_builtin; refine Lib.wpList_append_run _ rfl _ _ _ _ rfl _ _ rfl rfl _ _ (hrn _) ?_)
      exact ⟨⟨1, Nat.le_refl _, by go_num, UF.out⟩, by simp [intOf]⟩
    · obtain rfl : k = 1 := by omega
      obtain ⟨hN, ho⟩ := HU.out.a1 rfl
      obtain ⟨p6, c6, rfl⟩ := slice_of ho
      have P1 := hid (HP.out.step hN)
      obtain ⟨⟨y0, y1, y2, y3⟩, _⟩ := O0.out.keptS hN.kept hnS.out
      have HHp := hid (happen_any ⟨⟨3, i, [o], s⟩, pk00, []⟩ (.slice pv 1 cv) (.slice none 0 0) none 9 ⟨by decide, by decide⟩ wr hN.neg P1.out.cz)
      unfold czV pk00 at HHp
      simp only at HHp
      have HN := hid hN
      have HO := hid ho
      clear hN ho HU
      go_wp2_with fail
      refine HHp.out.mono ?_
      rintro e w4 ⟨vo, rfl, vt, l, w5, N5, U⟩
      have HS := hid (Sent.of (NNext.before0 HK0.out (HN.out.trans N5)) U (fun i hi => by cases hi))
      have hOt : OwnO w4 w.heap.size (.slice p6 [o].length c6) [o] := by
        exact (HO.out.keptS (N5.kept.trans U.nx.kept) (fun i hi s => by have := HA.out.sn_lt i s; have := HO.out.baseB hi; omega)).mono HK0.out.size
      obtain ⟨po, co, rfl⟩ := slice_of U.out.row
      have HOt := hid hOt
      clear U N5 hOt
      go_wp2
      go_ret2
      exact ⟨_, _, rfl, HS.out, HOt.out⟩
end Go.Proofs.Ytcmdfcdmfdheeaa

namespace Go.Proofs.Ytcmdfcdmfdheeaa
open Go.RowKit

/-- One option of the request more: is it the next one of those that are taken away? -/
def woStep (s : List Tg × List Tg) (x : Tg) : List Tg × List Tg := match s.2 with | [] => (s.1 ++ [x], []) | y :: l => if sameT y x = true then (s.1, l) else (s.1 ++ [x], y :: l)
def woF (r l : List Tg) : List Tg × List Tg := r.foldl woStep ([], l)
theorem woF_take (r l : List Tg) {j : Nat} {x : Tg} (h : r[j]? = some x) : woF (r.take (j + 1)) l = woStep (woF (r.take j) l) x := by
  unfold woF
  rw [take_next h, List.foldl_append]
  rfl
theorem woStep_none {s : List Tg × List Tg} {x : Tg} (h : s.2 = []) : woStep s x = (s.1 ++ [x], []) := by unfold woStep; rw [h]
theorem woStep_is {s : List Tg × List Tg} {x y : Tg} {m : List Tg} (h : s.2 = y :: m) (hs : sameT y x = true) : woStep s x = (s.1, m) := by unfold woStep; rw [h]; simp [hs]
theorem woStep_not {s : List Tg × List Tg} {x y : Tg} {m : List Tg} (h : s.2 = y :: m) (hs : sameT y x = false) : woStep s x = (s.1 ++ [x], y :: m) := by unfold woStep; rw [h]; simp [hs]
theorem wo_mem (r l : List Tg) : ∀ j, j ≤ r.length → (∀ x ∈ (woF (r.take j) l).1, x ∈ r) ∧ (woF (r.take j) l).1.length ≤ j ∧ ∃ k, (woF (r.take j) l).2 = l.drop k := by
  intro j
  induction j with
  | zero => exact fun _ => ⟨fun x hx => by simp [woF] at hx, by simp [woF], 0, by simp [woF]⟩
  | succ j ih =>
    intro hj
    obtain ⟨h1, h2, k, h3⟩ := ih (by omega)
    obtain ⟨x, hx⟩ : ∃ x, r[j]? = some x := ⟨r[j], by simp [show j < r.length from hj]⟩
    rw [woF_take r l hx]
    have hm := List.mem_of_getElem? hx
    cases hq : (woF (r.take j) l).2 with
    | nil =>
      rw [woStep_none hq]
      refine ⟨fun y hy => ?_, by simp; omega, k, by rw [← h3, hq]⟩
      rcases List.mem_append.1 hy with hy | hy
      · exact h1 y hy
      · rw [List.mem_singleton.1 hy]; exact hm
    | cons y m =>
      cases hs : sameT y x with
      | true =>
        rw [woStep_is hq hs]
        refine ⟨h1, by simp; omega, k + 1, ?_⟩
        rw [hq] at h3
        rw [← List.drop_drop, ← h3]
        rfl
      | false =>
        rw [woStep_not hq hs]
        refine ⟨fun z hz => ?_, by simp; omega, k, by rw [← h3, hq]⟩
        rcases List.mem_append.1 hz with hz | hz
        · exact h1 z hz
        · rw [List.mem_singleton.1 hz]; exact hm
theorem wo_fine {r l : List Tg} (h : FineO r) : FineO (woF r l).1 := by
  obtain ⟨h1, h2, _⟩ := wo_mem r l r.length (Nat.le_refl _)
  rw [List.take_length] at h1 h2
  exact ⟨Nat.le_trans h2 h.1, fun x hx => h.2.1 x (h1 x hx), fun x hx => h.2.2 x (h1 x hx)⟩

theorem TagsAt.rest {W : World} {g o n cap : Nat} {y : Tg} {m : List Tg} (h : TagsAt W (.slice (some ⟨g, o, none⟩) n cap) (y :: m)) : TagsAt W (.slice (some ⟨g, o + 2, none⟩) m.length (cap - 1)) m := by
  rcases h with ⟨e, _⟩ | ⟨g', o', cap', e, h1, h2, hc⟩
  · cases e
  · simp only [Value.slice.injEq, Option.some.injEq, Addr.mk.injEq, and_true] at e
    obtain ⟨⟨rfl, rfl⟩, rfl, rfl⟩ := e
    refine Or.inr ⟨g, o + 2, cap - 1, rfl, by simp at h1; omega, by omega, fun j x hj => ?_⟩
    have := hc (j + 1) x (by simpa using hj)
    rw [show o + (j + 1) * 2 = o + 2 + j * 2 by omega] at this
    exact this

theorem TagsAt.low {W : World} {v : Value} {l : List Tg} (h : TagsAt W v l) : l = [] ∨ ∀ i, v.ownBlock = some i → i < W.heap.size := by
  rcases h with ⟨rfl, _⟩ | ⟨g, o, cap, rfl, _, _, hc⟩
  · exact Or.inl rfl
  · cases l with
    | nil => exact Or.inl rfl
    | cons x l =>
      refine Or.inr (fun i hi => ?_)
      have h1 := lt_of_cell (hc 0 x rfl).1
      have h2 : g = i := by simpa [Value.ownBlock] using hi
      rw [← h2]
      exact h1

set_option maxHeartbeats 2000000 in
set_option maxRecDepth 100000 in
theorem without_any (v u : Value) (r l : List Tg) (w : World) (hv : TagsAt w v r) (hu : TagsAt w u l) (hl : r.length ≤ 10000) :
    Calls Try.prog 52 #[v, u] w fun e w' => ∃ z, e = .returned (.tuple #[z, .bool (decide ((woF r l).2.length = 0))]) ∧ OwnO w' w.heap.size z (woF r l).1 ∧ Kept (fun _ => False) w w' := by
  obtain ⟨p, cap, rfl⟩ := hv.slice
  obtain ⟨q, cbp, rfl⟩ := hu.slice
  have Hat := hid (fun (j : Nat) (x : Tg) (hj : r[j]? = some x) (W : World) (hW : Kept (fun _ => False) w W) => (hv.kept0 hW).at hj)
  have HU := hid hu
  obtain ⟨B, hB⟩ : ∃ B, B = decide ((woF r l).2.length = 0) := ⟨_, rfl⟩
  rw [← hB]
  have HBq := hid hB
  clear hv hu hB
  go_enter Try.func52, Try.ntmps52
  go_wp2
  go_loopw [1, 6, 11] (fun vl v6 vi wr => ∃ j : Nat, j ≤ r.length ∧ vi = .int .i64 (j : Int) ∧ Hid (TagsAt wr vl (woF (r.take j) l).2 ∧ OwnO wr w.heap.size v6 (woF (r.take j) l).1 ∧ Kept (fun _ => False) w wr ∧ ((woF (r.take j) l).2 = [] ∨ ∀ i, vl.ownBlock = some i → i < w.heap.size))) (fun _ _ vi _ => r.length - (intOf vi).toNat)
  case atStart => exact ⟨0, Nat.zero_le _, rfl, HU.out, OwnO.nil _ _, Kept.refl _ _, HU.out.low⟩
  case round =>
    obtain ⟨j, hj, rfl, HI⟩ := hrel
    by_cases hlt : j < r.length
    · have hltz : (j : Int) < (r.length : Int) := by omega
      obtain ⟨x, hx⟩ : ∃ x, r[j]? = some x := ⟨r[j], by simp [hlt]⟩
      have HS := hid (woF_take r l hx)
      have HLe := hid (wo_mem r l j (by omega)).2.1
      generalize woF (r.take j) l = s at *
      obtain ⟨hT, hO, hK, hL⟩ := HI.out
      obtain ⟨g, o, rfl, hcap, c0, c1⟩ := Hat.out j x hx wr hK
      have k0 := (Kept.refl (fun _ => False) wr).alloc (.cells #[.int .i64 x.type, .string x.value] 51)
      have hk1 := hK.trans k0
      have hO1 := hO.kept k0
      have hT1 := hT.kept0 k0
      have hB := BoxO.new wr x
      have b0 := hB.c0
      have b1 := hB.c1
      obtain ⟨pl, cl, hvl⟩ := hT.slice
      obtain ⟨p6, c6, h6⟩ := slice_of hO
      subst h6
      have HO := hid hO1
      have HK := hid hk1
      have HB := hid hB
      have HL := hid hL
      clear hx hO hK hk1 hO1 hB k0 HI hL
      cases hq : s.2 with
      | nil =>
        rw [hq, List.length_nil] at hvl
        subst hvl
        have HN := hid (woStep_none (x := x) hq)
        clear hq hT hT1
        go_wp2
        go_quiet (fail)
        have kq := (Kept.refl (fun _ => False) (wr.alloc (.cells #[.int .i64 x.type, .string x.value] 51))).drewN nq
        generalize (wr.alloc (.cells #[.int .i64 x.type, .string x.value] 51)).drewN nq = W1 at *
        have hb1 : BoxO W1 wr.heap.size x := (kq.block _ HB.out.lt id).trans HB.out
        have d0 := hb1.c0
        have d1 := hb1.c1
        have hK1 := HK.out.trans kq
        obtain ⟨v', w2, hr, ho2, hk2, _⟩ := pushO x hK1.size (HO.out.kept kq) (by have := HLe.out; omega)
        have HR : Hid (TagsAt w2 (.slice pl 0 cl) (woF (r.take (j + 1)) l).2 ∧ OwnO w2 w.heap.size v' (woF (r.take (j + 1)) l).1 ∧ Kept (fun _ => False) w w2 ∧ ((woF (r.take (j + 1)) l).2 = [] ∨ ∀ i, (Value.slice pl 0 cl).ownBlock = some i → i < w.heap.size)) := by
          rw [HS.out, HN.out]
          exact ⟨Or.inl ⟨rfl, pl, cl, rfl⟩, ho2, hK1.andThen hk2 (fun i hi e => by have := HO.out.baseB e; omega), Or.inl rfl⟩
        clear ho2 hk2 hK1 hb1 kq b0 b1
        go_wp2_with (at_builtin; refine Lib.wpList_append_run _ rfl _ _ _ _ rfl _ _ rfl rfl _ _ (hr _) ?_)
        exact ⟨⟨j + 1, hlt, by go_num, HR.out⟩, by simp [intOf]; omega⟩
      | cons y m =>
        rw [hq] at hT hT1 HL
        rw [hq, List.length_cons] at hvl
        subst hvl
        obtain ⟨g2, o2, rfl, hcl, y0, y1⟩ := hT1.at (j := 0) (x := y) rfl
        rw [Nat.zero_mul, Nat.add_zero] at y0 y1
        have hm0 : (0 : Int) < ((m.length + 1 : Nat) : Int) := by omega
        have hm1 : 0 < m.length + 1 := by omega
        have HT := hid hT1
        have e0 : sameT y x = ((y.type == x.type) && (y.value.toList == x.value.toList)) := by unfold sameT; rw [bytes_same]
        clear hT hT1
        cases hs : sameT y x with
        | false =>
          have HN := hid (woStep_not hq hs)
          rw [hs] at e0
          have hcase : (y.type == x.type) = false ∨ ((y.type == x.type) = true ∧ (y.value.toList == x.value.toList) = false) := by
            cases h1 : (y.type == x.type) with
            | false => exact Or.inl rfl
            | true =>
              rw [h1] at e0
              exact Or.inr ⟨rfl, by simpa using e0.symm⟩
          clear hq hs e0
          rcases hcase with e1 | ⟨e1, e2⟩
          all_goals
            go_wp2
            go_quiet (fail)
            have kq := (Kept.refl (fun _ => False) (wr.alloc (.cells #[.int .i64 x.type, .string x.value] 51))).drewN nq
            generalize (wr.alloc (.cells #[.int .i64 x.type, .string x.value] 51)).drewN nq = W1 at *
            have hb1 : BoxO W1 wr.heap.size x := (kq.block _ HB.out.lt id).trans HB.out
            have d0 := hb1.c0
            have d1 := hb1.c1
            have hK1 := HK.out.trans kq
            obtain ⟨v', w2, hr, ho2, hk2, _⟩ := pushO x hK1.size (HO.out.kept kq) (by have := HLe.out; omega)
            have HR : Hid (TagsAt w2 (.slice (some ⟨g2, o2, none⟩) (m.length + 1) cl) (woF (r.take (j + 1)) l).2 ∧ OwnO w2 w.heap.size v' (woF (r.take (j + 1)) l).1 ∧ Kept (fun _ => False) w w2 ∧ ((woF (r.take (j + 1)) l).2 = [] ∨ ∀ i, (Value.slice (some ⟨g2, o2, none⟩) (m.length + 1) cl).ownBlock = some i → i < w.heap.size)) := by
              rw [HS.out, HN.out]
              have hlow := HL.out.resolve_left (by simp)
              exact ⟨(HT.out.kept0 kq).kept hk2 (fun i _ e f => by have := HO.out.baseB e; have := hlow i f; omega), ho2, hK1.andThen hk2 (fun i hi e => by have := HO.out.baseB e; omega), Or.inr hlow⟩
            clear ho2 hk2 hK1 hb1 kq b0 b1 y0 y1
            go_wp2_with (at_builtin; refine Lib.wpList_append_run _ rfl _ _ _ _ rfl _ _ rfl rfl _ _ (hr _) ?_)
            exact ⟨⟨j + 1, hlt, by go_num, HR.out⟩, by simp [intOf]; omega⟩
        | true =>
          have HN := hid (woStep_is hq hs)
          rw [hs] at e0
          obtain ⟨e1, e2⟩ : (y.type == x.type) = true ∧ (y.value.toList == x.value.toList) = true := by simpa using e0.symm
          clear hq hs e0
          have kq := fun n => (Kept.refl (fun _ => False) (wr.alloc (.cells #[.int .i64 x.type, .string x.value] 51))).drewN n
          by_cases hc1 : cl = 1
          · subst hc1
            obtain rfl : m = [] := List.eq_nil_of_length_eq_zero (by omega)
            go_wp2
            go_quiet (fail)
            go_wp2
            refine ⟨⟨j + 1, hlt, by go_num, ?_⟩, by simp [intOf]; omega⟩
            show TagsAt _ _ _ ∧ _
            rw [HS.out, HN.out]
            exact ⟨Or.inl ⟨rfl, _, _, rfl⟩, HO.out.kept (kq _), HK.out.trans (kq _), Or.inl rfl⟩
          · go_wp2
            go_quiet (fail)
            go_wp2
            refine ⟨⟨j + 1, hlt, by go_num, ?_⟩, by simp [intOf]; omega⟩
            show TagsAt _ _ _ ∧ _
            rw [HS.out, HN.out]
            exact ⟨(HT.out.kept0 (kq _)).rest, HO.out.kept (kq _), HK.out.trans (kq _), Or.inr (fun i hi => HL.out.resolve_left (by simp) i hi)⟩
    · obtain rfl : j = r.length := by omega
      have hltz : ¬ (r.length : Int) < (r.length : Int) := by omega
      obtain ⟨hT, hO, hk, _⟩ := HI.out
      rw [List.take_length] at hO hT
      obtain ⟨pl, cl, rfl⟩ := hT.slice
      obtain ⟨p6, c6, rfl⟩ := slice_of hO
      have HO := hid hO
      clear hO HI hlt hT
      generalize (woF r l).2.length = k at *
      by_cases hk0 : k = 0
      · subst hk0
        go_wp2
        go_ret2
        exact ⟨_, by rw [HBq.out]; rfl, HO.out, hk⟩
      · have hkz : ((k : Int) == 0) = false := by
          rw [beq_eq_false_iff_ne]
          omega
        have HKK := hid (decide_eq_false hk0)
        go_wp2
        go_ret2
        exact ⟨_, by rw [HBq.out, HKK.out]; rfl, HO.out, hk⟩

end Go.Proofs.Ytcmdfcdmfdheeaa

namespace Go.Proofs.Ytcmdfcdmfdheeaa
open Go.RowKit

/-- What must not be rejected, as it is read. -/
def MustAt (W : World) (v : Value) (l : List Int) : Prop := OwnI W 0 v l ∧ l.length ≤ 1000
theorem MustAt.kept0 {W W' : World} {v : Value} {l : List Int} (h : MustAt W v l) (hk : Kept (fun _ => False) W W') : MustAt W' v l := ⟨h.1.kept0 hk, h.2⟩
theorem MustAt.step {W W' : World} {base b : Nat} {a a' : Nm} {n n' : Ng} {l : List Int} (h : MustAt W a.vu l) (hn : NegIn W base b a n) (k : NNext W W' base b a a' n') : MustAt W' a'.vu l := by
  rw [k.vu]
  exact ⟨h.1.kept k.kept (ints_far hn h.1), h.2⟩

set_option maxHeartbeats 2000000 in
set_option maxRecDepth 100000 in
theorem isMust_any {base b : Nat} {a : Nm} {n : Ng} {ms : List Int} (o : Tg) (w : World) (h : NegIn w base b a n) (hm : MustAt w a.vu ms) :
    Calls Try.prog 54 #[.pointer (some ⟨b, 0, none⟩), .agg #[.int .i64 o.type, .string o.value]] w fun e w' => e = .returned (.bool (hasF ms o.type)) ∧ Kept (fun _ => False) w w' := by
  have k0 := (Kept.refl (fun _ => False) w).alloc (.cells #[.int .i64 o.type, .string o.value] 51)
  have hA := h.kept0 k0
  have hM := hm.kept0 k0
  have hB := BoxO.new w o
  generalize hAe : w.alloc (.cells #[.int .i64 o.type, .string o.value] 51) = A at *
  have HAe := hid hAe
  obtain ⟨pm, cm, hvu⟩ := hM.1.slice
  have d4 := hA.n4
  rw [hvu] at d4
  have b0 := hB.c0
  have HC := hid (fun (W : World) (k : Kept (fun _ => False) A W) => contains_any a.vu ms o.type 0 hm.2 W (hM.1.kept0 k))
  rw [hvu] at HC
  have HK := hid k0
  generalize hasF ms o.type = R at *
  clear h hA hB hAe k0 hm hM hvu
  go_enter Try.func54, Try.ntmps54
  go_upto_region 1 with fail
  rw [HAe.out]
  clear HAe
  go_quiet ((go_at_call 75; refine Calls.quiet_of_same (HC.out _ ?_); exact (Kept.refl _ _).drewN _))
  go_wp2
  go_ret
  exact ⟨rfl, HK.out.drewN _⟩

/-- A request that a nak's option changes; whether it takes it on. -/
def chM (own : List Rl) (ms : List Int) (o : Tg) : List Tg → List Tg
  | [] => []
  | x :: l => if (x.type == o.type) = true then (if letsB own o = true then ⟨x.type, o.value⟩ :: l else if hasF ms o.type = true then x :: l else l) else x :: chM own ms o l
def tkM (own : List Rl) (o : Tg) (l : List Tg) : Bool := l.any (fun x => x.type == o.type) && letsB own o
theorem chM_none (own : List Rl) (ms : List Int) (o : Tg) : ∀ l : List Tg, (∀ x ∈ l, (x.type == o.type) = false) → chM own ms o l = l
  | [], _ => rfl
  | x :: l, h => by
    unfold chM
    rw [h x (by simp), if_neg (by decide), chM_none own ms o l (fun y hy => h y (List.mem_cons_of_mem _ hy))]
theorem tkM_none {own : List Rl} {o : Tg} {l : List Tg} (h : ∀ x ∈ l, (x.type == o.type) = false) : tkM own o l = false := by
  unfold tkM
  have : l.any (fun x => x.type == o.type) = false := by
    rw [List.any_eq_false]
    intro x hx
    rw [h x hx]
    decide
  rw [this]
  rfl
theorem tkM_at {own : List Rl} {o x : Tg} {l : List Tg} (h : x ∈ l) (hx : (x.type == o.type) = true) : tkM own o l = letsB own o := by
  unfold tkM
  have : l.any (fun x => x.type == o.type) = true := List.any_eq_true.2 ⟨x, h, hx⟩
  rw [this]
  rfl
theorem chM_at (own : List Rl) (ms : List Int) (o : Tg) : ∀ (l : List Tg) (j : Nat) (x : Tg), l[j]? = some x → (x.type == o.type) = true → (∀ y ∈ l.take j, (y.type == o.type) = false) → chM own ms o l = if letsB own o = true then l.set j ⟨x.type, o.value⟩ else if hasF ms o.type = true then l else l.eraseIdx j
  | [], j, x, h, _, _ => by simp at h
  | z :: l, 0, x, h, hx, _ => by
    have : z = x := by simpa using h
    subst this
    unfold chM
    rw [hx, if_pos rfl]
    rfl
  | z :: l, j + 1, x, h, hx, hA => by
    unfold chM
    rw [hA z (by simp), if_neg (by decide), chM_at own ms o l j x (by simpa using h) hx (fun y hy => hA y (by simp [hy]))]
    split
    · rfl
    · split <;> rfl
theorem chM_mem (own : List Rl) (ms : List Int) (o : Tg) : ∀ (l : List Tg) (y : Tg), y ∈ chM own ms o l → y ∈ l ∨ (y.type = o.type ∧ y.value = o.value ∧ letsB own o = true)
  | [], _, h => by cases h
  | z :: l, y, h => by
    unfold chM at h
    split at h
    · rename_i hz
      split at h
      · rename_i hl
        rcases List.mem_cons.1 h with rfl | h
        · exact Or.inr ⟨by simpa using hz, rfl, hl⟩
        · exact Or.inl (List.mem_cons_of_mem _ h)
      · split at h
        · exact Or.inl h
        · exact Or.inl (List.mem_cons_of_mem _ h)
    · rcases List.mem_cons.1 h with rfl | h
      · exact Or.inl (List.mem_cons_self ..)
      · rcases chM_mem own ms o l y h with h | h
        · exact Or.inl (List.mem_cons_of_mem _ h)
        · exact Or.inr h
theorem chM_len (own : List Rl) (ms : List Int) (o : Tg) : ∀ l : List Tg, (chM own ms o l).length ≤ l.length
  | [] => Nat.le_refl _
  | z :: l => by
    unfold chM
    have := chM_len own ms o l
    split
    · split
      · simp
      · split <;> simp
    · simp; omega
theorem chM_fine {own : List Rl} {ms : List Int} {o : Tg} {l : List Tg} (h : FineO l) (h1 : In64 o.type) (h2 : o.value.size ≤ 140737488351232) : FineO (chM own ms o l) := by
  refine ⟨Nat.le_trans (chM_len own ms o l) h.1, fun x hx => ?_, fun x hx => ?_⟩
  · rcases chM_mem own ms o l x hx with h3 | ⟨h3, _, _⟩
    · exact h.2.1 x h3
    · rw [h3]; exact h1
  · rcases chM_mem own ms o l x hx with h3 | ⟨_, h3, _⟩
    · exact h.2.2 x h3
    · rw [h3]; exact h2

set_option maxHeartbeats 4000000 in
set_option maxRecDepth 100000 in
theorem change_none {base b : Nat} {a : Nm} {n : Ng} (o : Tg) (w : World) (h : NegIn w base b a n) (hn : ∀ x ∈ n.req, (x.type == o.type) = false) :
    Calls Try.prog 51 #[.pointer (some ⟨b, 0, none⟩), .agg #[.int .i64 o.type, .string o.value]] w fun e w' => e = .returned (.bool false) ∧ NNext w w' base b a a n := by
  have k0 := (Kept.refl (fun _ => False) w).alloc (.cells #[.int .i64 o.type, .string o.value] 51)
  have hA := h.kept0 k0
  have HIx := hid (indexF_any a.vr n.req w.heap.size o _ hA.req.tags (by have := hA.good.req.1; omega) (BoxO.new w o))
  obtain ⟨pr, cr, hvr⟩ := slice_of h.req
  have d1 := hA.n1
  rw [hvr] at HIx d1
  have HN := hid hA
  have HK := hid k0
  have HNo := hid hn
  clear h k0 hA hn
  go_enter Try.func51, Try.ntmps51
  go_wp2_with fail
  refine HIx.out.mono ?_
  rintro e w1 ⟨r, rfl, hF, hk1⟩
  rcases hF with ⟨rfl, _⟩ | ⟨j, x, rfl, hj, hx, _⟩
  · have NF := hid (NNext.before0 HK.out (NNext.of0 HN.out hk1))
    clear hk1
    go_wp2
    go_ret
    exact ⟨rfl, NF.out⟩
  · have := HNo.out x (List.mem_of_getElem? hj)
    rw [this] at hx
    cases hx

theorem fine_del {l : List Tg} {j : Nat} (h : FineO l) (hj : j < l.length) : FineO (l.eraseIdx j ++ [tg0]) := by
  refine ⟨?_, fun x hx => ?_, fun x hx => ?_⟩
  · rw [List.length_append, List.length_eraseIdx, if_pos hj, List.length_singleton]
    have := h.1
    omega
  · rcases List.mem_append.1 hx with hx | hx
    · exact h.2.1 x (List.mem_of_mem_eraseIdx hx)
    · rw [List.mem_singleton.1 hx]; exact ⟨by decide, by decide⟩
  · rcases List.mem_append.1 hx with hx | hx
    · exact h.2.2 x (List.mem_of_mem_eraseIdx hx)
    · rw [List.mem_singleton.1 hx]; decide

set_option maxHeartbeats 4000000 in
set_option maxRecDepth 100000 in
theorem change_any {base b : Nat} {a : Nm} {n : Ng} (o : Tg) (w : World) (h : NegIn w base b a n) {ms : List Int} (hms : MustAt w a.vu ms) (ho64 : In64 o.type) (hos : o.value.size ≤ 140737488351232) :
    Calls Try.prog 51 #[.pointer (some ⟨b, 0, none⟩), .agg #[.int .i64 o.type, .string o.value]] w fun e w' => e = .returned (.bool (tkM n.own o n.req)) ∧ ∃ a', NNext w w' base b a a' { n with req := chM n.own ms o n.req } := by
  by_cases hno : ∀ x ∈ n.req, (x.type == o.type) = false
  · rw [chM_none _ _ _ _ hno, tkM_none hno]
    refine (change_none o w h hno).mono ?_
    rintro e w' ⟨rfl, hn⟩
    exact ⟨rfl, a, hn⟩
  obtain ⟨x0, hx0, ht0⟩ : ∃ x ∈ n.req, (x.type == o.type) = true := by
    refine Classical.byContradiction fun h => hno fun x hx => ?_
    cases hq : (x.type == o.type) with
    | false => rfl
    | true => exact absurd ⟨x, hx, hq⟩ h
  rw [tkM_at hx0 ht0]
  obtain ⟨LB, hLB⟩ : ∃ LB, LB = letsB n.own o := ⟨_, rfl⟩
  rw [← hLB]
  have HLB := hid hLB
  clear hLB hx0 ht0
  have k0 := (Kept.refl (fun _ => False) w).alloc (.cells #[.int .i64 o.type, .string o.value] 51)
  have hA := h.kept0 k0
  have HIx := hid (indexF_any a.vr n.req w.heap.size o _ hA.req.tags (by have := hA.good.req.1; omega) (BoxO.new w o))
  have hB := BoxO.new w o
  generalize hAe : w.alloc (.cells #[.int .i64 o.type, .string o.value] 51) = A at *
  have HAe := hid hAe
  have hne : n.req ≠ [] := fun e => hno (fun x hx => by rw [e] at hx; cases hx)
  obtain ⟨g, cr, hvr, hbg, hrow⟩ : ∃ g cr, a.vr = .slice (some ⟨g, 0, none⟩) n.req.length cr ∧ base ≤ g ∧ RowO A g cr n.req := by
    rcases hA.req.casesR with ⟨_, e⟩ | ⟨g, cr, e, hb, hr⟩
    · exact absurd e hne
    · exact ⟨g, cr, e, hb, hr⟩
  have d1 := hA.n1
  have d2 := hA.n2
  rw [hvr] at HIx d1
  obtain ⟨mb, L, hvo, _⟩ := id hA.own
  rw [hvo] at d2
  have hll := hA.good.req.1
  have hcr := hrow.le
  have hcr2 := hrow.le63
  have HF := hid (chM_fine (own := n.own) (ms := ms) hA.good.req ho64 hos)
  have HMs := hid (hms.kept0 k0)
  have HN := hid hA
  have HK := hid k0
  have HBo := hid hB
  have HV := hid hvr
  have HVo := hid hvo
  have HRw := hid (fun (W : World) (k : Kept (fun _ => False) A W) => hrow.same (k.block g hrow.lt id))
  have HNo := hid hno
  have Hbg := hid hbg
  clear h hms k0 hA hB hAe hvr hvo hno hne hrow hbg
  go_enter Try.func51, Try.ntmps51
  go_upto_region 1 with fail
  rw [HAe.out]
  clear HAe
  go_wp2_with fail
  refine HIx.out.mono ?_
  rintro e w1 ⟨i, rfl, hF, hk1⟩
  rcases hF with ⟨rfl, h9⟩ | ⟨j, x, rfl, hj, hxt, hA0⟩
  · exact absurd h9 HNo.out
  have hCh := chM_at n.own ms o n.req j x hj hxt hA0
  have HMs1 := hid (HMs.out.kept0 hk1)
  have hjl : j < n.req.length := (List.getElem?_eq_some_iff.1 hj).1
  have hjz : ¬ (j : Int) < 0 := by omega
  have hjn : (j : Int) < (n.req.length : Int) := by omega
  have N1 := HN.out.kept0 hk1
  have hB1 : BoxO w1 w.heap.size o := (hk1.block _ HBo.out.lt id).trans HBo.out
  have kd := (Kept.refl (fun _ => False) w1).drew
  have HFi := hid (bookFits_any a.vo n.own o w1.drew (N1.kept0 kd).own ho64 hos)
  rw [HVo.out] at HFi
  unfold tgV at HFi
  have b0 := hB1.c0
  have b1 := hB1.c1
  have e1 := N1.n1
  have e2 := N1.n2
  rw [HV.out] at e1
  rw [HVo.out] at e2
  have HN1 := hid N1
  have HB1 := hid hB1
  have HK1 := hid (HK.out.trans hk1)
  have HKA := hid hk1
  have HJ := hid hj
  cases hl : letsB n.own o with
  | true =>
    rw [hl, if_pos rfl] at hCh
    rw [hl] at HFi
    have HL := hid hl
    have HCh := hid hCh
    clear hk1 N1 hB1 d1 d2 HIx hCh hl hj hxt hA0
    go_wp2_with fail
    go_region_with (first | (go_at_call 73; refine HFi.out.mono ?_; rintro e w2 ⟨rfl, hk2⟩; have K2 := hid (kd.trans hk2); clear hk2))
    all_goals
      have N2 := hid (HN1.out.kept0 K2.out)
      have hB2 : BoxO w2 w.heap.size o := (K2.out.block _ HB1.out.lt id).trans HB1.out
      clear e1 e2 b0 b1
      have b0 := hB2.c0
      have b1 := hB2.c1
      have e1 := N2.out.n1
      rw [HV.out] at e1
      have O2 := N2.out.req
      rw [HV.out] at O2
      have hrow : w2.cell? ⟨g, j * 2 + 1, none⟩ = some (.string x.value) := by
        obtain ⟨g', o', e5, _, _, q1⟩ := O2.tags.at HJ.out
        simp only [Option.some.injEq, Addr.mk.injEq, and_true] at e5
        obtain ⟨rfl, rfl⟩ := e5
        rw [Nat.zero_add] at q1
        exact q1
      have hfrz : w2.frozen? ⟨g, j * 2 + 1, none⟩ = false := by
        obtain ⟨cur, hcur⟩ := O2.cellsB (i := g) rfl
        exact frozen_of_row _ g _ _ _ hcur
      have O3 := OwnO.setVal (j := j) (x := x) O2 HJ.out o.value
      have NF : Hid (∃ a', NNext w ((w2.setCell ⟨g, j * 2 + 1, none⟩ (.string o.value)).drew) base b a a' { n with req := chM n.own ms o n.req }) := by
        have h6 : NNext w2 (w2.setCell ⟨g, j * 2 + 1, none⟩ (.string o.value)) base b a a { n with req := chM n.own ms o n.req } := by
          refine N2.out.setRow ((kept_cell w2 g (j * 2 + 1) (.string o.value)).mono (fun i _ e => by rw [HV.out, e]; rfl)) ?_ HF.out
          rw [HV.out, HCh.out]
          exact O3
        exact ⟨a, ((NNext.before0 HK1.out (NNext.of0 HN1.out K2.out)).trans h6).then0 (Kept.refl _ _).drew⟩
      clear O2 O3
      go_wp2_with fail
      go_region
      all_goals
        go_wp2
        go_ret
        exact ⟨by rw [HLB.out, HL.out]; rfl, NF.out⟩
  | false =>
    rw [hl, if_neg (by decide)] at hCh
    rw [hl] at HFi
    have HL := hid hl
    have HCh := hid hCh
    clear hk1 N1 hB1 d1 d2 HIx hCh hl hj hxt hA0
    go_wp2_with fail
    go_region_with (first | (go_at_call 73; refine HFi.out.mono ?_; rintro e w2 ⟨rfl, hk2⟩; have K2 := hid (kd.trans hk2); clear hk2))
    all_goals
      have N2 := hid (HN1.out.kept0 K2.out)
      have hB2 : BoxO w2 w.heap.size o := (K2.out.block _ HB1.out.lt id).trans HB1.out
      clear e1 e2 b0 b1
      have b0 := hB2.c0
      have b1 := hB2.c1
      have HM := hid (isMust_any o w2 N2.out (HMs1.out.kept0 K2.out))
      clear hB2
      cases hh : hasF ms o.type with
      | true =>
        rw [hh] at HM
        have HCq := hid HCh.out
        rw [hh, if_pos rfl] at HCq
        go_wp2_with fail
        refine HM.out.mono ?_
        rintro e w3 ⟨rfl, hk3⟩
        have NF : Hid (∃ a', NNext w w3 base b a a' { n with req := chM n.own ms o n.req }) := by
          rw [HCq.out]
          exact ⟨a, NNext.before0 HK1.out (NNext.of0 HN1.out (K2.out.trans hk3))⟩
        clear hk3
        go_wp2
        go_ret
        exact ⟨by rw [HLB.out, HL.out]; rfl, NF.out⟩
      | false =>
        rw [hh] at HM
        have HCq := hid HCh.out
        rw [hh, if_neg (by decide)] at HCq
        clear HCh hh
        have HCh := hid HCq.out
        clear HCq
        go_wp2_with fail
        refine HM.out.mono ?_
        rintro e w3 ⟨rfl, hk3⟩
        have N3 := hid (N2.out.kept0 hk3)
        have K3 := hid (K2.out.trans hk3)
        have e1 := N3.out.n1
        rw [HV.out] at e1
        have hw63 : IntKind.i64.wrap ((j : Int) + 1) = (j : Int) + 1 := by rw [IntKind.wrap_i64]; omega
        have HD := hid (delO_any g cr n.req.length j n.req rfl hjl w3 (HRw.out w3 (HKA.out.trans K3.out)))
        clear hk3 b0 b1
        go_wp2_with fail
        refine HD.out.mono ?_
        rintro e w4 ⟨rfl, hR4, hk4⟩
        have hel : (n.req.eraseIdx j).length = n.req.length - 1 := by rw [List.length_eraseIdx, if_pos hjl]
        have N4 : NNext w3 w4 base b a a { n with req := n.req.eraseIdx j ++ [tg0] } := by
          refine N3.out.setRow (hk4.mono (fun i _ e => by rw [HV.out, e]; rfl)) ?_ (fine_del N3.out.good.req hjl)
          rw [HV.out]
          have h7 := hR4.own Hbg.out
          rw [List.length_append, hel, List.length_singleton, show n.req.length - 1 + 1 = n.req.length by omega] at h7
          exact h7
        have hO4 : OwnO w4 base (.slice (some ⟨g, 0, none⟩) (n.req.length - 1) cr) (n.req.eraseIdx j) := by
          have h7 := (hR4.ahead (n.req.length - 1)).own Hbg.out
          rw [List.take_append_of_le_length (by omega), List.take_of_length_le (by omega), hel] at h7
          exact h7
        have NF : Hid (∃ a', NNext w (w4.setCell ⟨b, 1, none⟩ (.slice (some ⟨g, 0, none⟩) (n.req.length - 1) cr)) base b a a' { n with req := chM n.own ms o n.req }) := by
          have h6 := N4.neg.setReq (W0 := w3) hO4 (by have := HF.out; rw [HCh.out] at this; exact this) (fun i hi v hv => by
            have hr : a.vr.ownBlock = some i := by rw [HV.out]; exact hi
            rcases hv with rfl | rfl
            · exact N4.neg.far1 i hr
            · exact N4.neg.far2 i hr) (fun i hi => Or.inl (by rw [HV.out]; exact hi)) N4.kept
          rw [HCh.out]
          exact ⟨_, NNext.before0 (HK1.out.trans K3.out) h6⟩
        clear e1
        have e1 := N4.neg.n1
        rw [HV.out] at e1
        have f1 := N4.neg.fz 1
        clear hR4 hk4 hel N4 hO4 HD
        go_wp2
        go_ret
        exact ⟨by rw [HLB.out, HL.out]; rfl, NF.out⟩
end Go.Proofs.Ytcmdfcdmfdheeaa

namespace Go.Proofs.Ytcmdfcdmfdheeaa
open Go.RowKit

set_option maxHeartbeats 2000000 in
set_option maxRecDepth 100000 in
theorem isHeard_any {base b : Nat} {a : Nm} {n : Ng} (c i : Int) (p : Option Addr) (m cap : Nat) (s : ByteArray) (w : World) (h : NegIn w base b a n) :
    Calls Try.prog 49 #[.pointer (some ⟨b, 0, none⟩), .agg #[.int .i64 c, .int .i64 i, .slice p m cap, .string s]] w fun e w' => e = .returned (.bool (n.begun && (i == n.last))) ∧ Kept (fun _ => False) w w' := by
  have k0 := (Kept.refl (fun _ => False) w).alloc (.cells #[.int .i64 c, .int .i64 i, .slice p m cap, .string s] 40)
  have O0 := own4_new w 40 (.int .i64 c) (.int .i64 i) (.slice p m cap) (.string s)
  have hA := h.kept0 k0
  have d8 := hA.n8
  have d9 := hA.n9
  obtain ⟨⟨q0, q1, q2, q3⟩, _⟩ := O0
  have HK := hid k0
  clear h hA k0
  generalize hA : w.alloc (.cells #[.int .i64 c, .int .i64 i, .slice p m cap, .string s] 40) = A at *
  have HA := hid hA
  clear hA
  cases hb : n.begun with
  | false =>
    rw [hb] at d9
    clear hb
    go_enter Try.func49, Try.ntmps49
    go_upto_region 1 with fail
    rw [HA.out]
    clear HA
    go_quiet (fail)
    go_wp2
    go_ret
    exact ⟨rfl, HK.out.drewN _⟩
  | true =>
    rw [hb] at d9
    clear hb
    cases hq : (i == n.last) with
    | false =>
      go_enter Try.func49, Try.ntmps49
      go_upto_region 1 with fail
      rw [HA.out]
      clear HA
      go_quiet (fail)
      go_wp2
      go_ret
      exact ⟨rfl, HK.out.drewN _⟩
    | true =>
      go_enter Try.func49, Try.ntmps49
      go_upto_region 1 with fail
      rw [HA.out]
      clear HA
      go_quiet (fail)
      go_wp2
      go_ret
      exact ⟨rfl, HK.out.drewN _⟩
end Go.Proofs.Ytcmdfcdmfdheeaa

namespace Go.Proofs.Ytcmdfcdmfdheeaa
open Go.RowKit

/-- A boxed packet and the request, as they are read. -/
structure BoxA (r b : Nat) (c i : Int) (v vr : Value) (s : ByteArray) (W : World) : Prop where
  x0 : W.cell? ⟨r, 0, none⟩ = some (.int .i64 c)
  x1 : W.cell? ⟨r, 1, none⟩ = some (.int .i64 i)
  x2 : W.cell? ⟨r, 2, none⟩ = some v
  x3 : W.cell? ⟨r, 3, none⟩ = some (.string s)
  c1 : W.cell? ⟨b, 1, none⟩ = some vr
theorem BoxA.kept {r b : Nat} {c i : Int} {v vr : Value} {s : ByteArray} {W W' : World} (h : BoxA r b c i v vr s W) (hk : Kept (fun _ => False) W W') : BoxA r b c i v vr s W' :=
  ⟨(hk.cell (p := ⟨r, 0, none⟩) (lt_of_cell h.x0) id).trans h.x0, (hk.cell (p := ⟨r, 1, none⟩) (lt_of_cell h.x1) id).trans h.x1, (hk.cell (p := ⟨r, 2, none⟩) (lt_of_cell h.x2) id).trans h.x2, (hk.cell (p := ⟨r, 3, none⟩) (lt_of_cell h.x3) id).trans h.x3, (hk.cell (p := ⟨b, 1, none⟩) (lt_of_cell h.c1) id).trans h.c1⟩

/-- What answers the last request. -/
def heardB (n : Ng) (i : Int) : Bool := n.begun && (i == n.last)
def ackM (n : Ng) (p : Pk0) : Ng × List Pk0 := if (heardB n p.id && sameF p.opts n.req) = true then happenF ⟨p, pk00, []⟩ { n with mine := p.opts } 8 else (n, [])

set_option maxHeartbeats 8000000 in
set_option maxRecDepth 100000 in
theorem takeAckM_any {base b : Nat} {a : Nm} {n : Ng} (p : Pk0) (v : Value) (w : World) (h : NegIn w base b a n) (hp : PkIn w b a p v) :
    Calls Try.prog 31 #[.pointer (some ⟨b, 0, none⟩), .agg #[.int .i64 p.code, .int .i64 p.id, v, .string p.data]] w fun e w' => ∃ vo, e = .returned vo ∧ Sent w w' base b a (ackM n p) vo := by
  obtain ⟨pv, cv, hv⟩ := hp.at_.1.slice
  obtain ⟨pr, cr, hvr⟩ := slice_of h.req
  have k0 := (Kept.refl (fun _ => False) w).alloc (.cells #[.int .i64 p.code, .int .i64 p.id, v, .string p.data] 40)
  have O0 := hid (own4_new w 40 (.int .i64 p.code) (.int .i64 p.id) v (.string p.data))
  have HA := hid (h.kept0 k0)
  have HP0 := hid hp
  have HH := hid (fun (W : World) (k : Kept (fun _ => False) w W) => isHeard_any p.code p.id pv p.opts.length cv p.data W (h.kept0 k))
  have HSa := hid (fun (W : World) (k : Kept (fun _ => False) w W) => sameO_any v a.vr p.opts n.req W (hp.kept0 k).at_.1 (h.kept0 k).req.tags (by have := hp.fine.1; omega))
  have HCl := hid (fun (W : World) (k : Kept (fun _ => False) w W) => cloneO_any v p.opts W (hp.kept0 k).at_ (by have := hp.fine.1; omega))
  have HK0 := hid k0
  have hnS : Hid (¬ Sn b a w.heap.size) := fun s => by have := h.sn_lt _ s; omega
  have H := hid h
  subst hv
  rw [hvr] at HSa
  have HV := hid hvr
  generalize hAe : w.alloc (.cells #[.int .i64 p.code, .int .i64 p.id, .slice pv p.opts.length cv, .string p.data] 40) = A at *
  have HAe := hid hAe
  obtain ⟨⟨q0, q1, q2, q3⟩, _⟩ := O0.out
  have B0 : BoxA w.heap.size b p.code p.id (.slice pv p.opts.length cv) (.slice pr n.req.length cr) p.data A.drew := by
    have hx := HA.out.n1
    rw [hvr] at hx
    exact (BoxA.mk q0 q1 q2 q3 hx).kept ((Kept.refl _ _).drew)
  clear h hp k0 hAe hvr
  have g0 : ∀ W, BoxA w.heap.size b p.code p.id (.slice pv p.opts.length cv) (.slice pr n.req.length cr) p.data W → W.cell? ⟨w.heap.size, 0, none⟩ = some (.int .i64 p.code) := fun W h => h.x0
  have g1 : ∀ W, BoxA w.heap.size b p.code p.id (.slice pv p.opts.length cv) (.slice pr n.req.length cr) p.data W → W.cell? ⟨w.heap.size, 1, none⟩ = some (.int .i64 p.id) := fun W h => h.x1
  have g2 : ∀ W, BoxA w.heap.size b p.code p.id (.slice pv p.opts.length cv) (.slice pr n.req.length cr) p.data W → W.cell? ⟨w.heap.size, 2, none⟩ = some (.slice pv p.opts.length cv) := fun W h => h.x2
  have g3 : ∀ W, BoxA w.heap.size b p.code p.id (.slice pv p.opts.length cv) (.slice pr n.req.length cr) p.data W → W.cell? ⟨w.heap.size, 3, none⟩ = some (.string p.data) := fun W h => h.x3
  have g4 : ∀ W, BoxA w.heap.size b p.code p.id (.slice pv p.opts.length cv) (.slice pr n.req.length cr) p.data W → W.cell? ⟨b, 1, none⟩ = some (.slice pr n.req.length cr) := fun W h => h.c1
  have hR : ∃ R, R = ackM n p := ⟨_, rfl⟩
  obtain ⟨R, hR⟩ := hR
  rw [← hR]
  have HR := hid hR
  clear hR
  unfold ackM heardB at HR
  cases hq : (n.begun && (p.id == n.last)) with
  | false =>
    rw [hq] at HH HR
    clear hq
    go_enter Try.func31, Try.ntmps31
    go_upto_region 1 with fail
    rw [HAe.out]
    clear HAe
    refine wp_region_held_drew (S := BoxA w.heap.size b p.code p.id (.slice pv p.opts.length cv) (.slice pr n.req.length cr) p.data) (by kernel_rfl) (B0) (fun hSd => ?_)
    refine wpAnyH_take (i := 0) (v := ?_) rfl (by kernel_rfl) (by kernel_rfl) (by kernel_rfl) (fun _ _ _ h => h) (Or.inl ⟨by kernel_rfl, fun W hSW => by go_simp; try with_reducible rfl⟩) (by assumption) ?_
    try simp only [List.getElem_toArray]
    try simp only [List.getElem_cons_succ]
    try simp only [List.getElem_cons_zero]
    try simp only [Act.put]
    try simp only [List.setIfInBounds_toArray]
    try simp only [List.set_cons_succ]
    try simp only [List.set_cons_zero]
    refine wpAnyH_take (i := 1) (v := ?_) rfl (by kernel_rfl) (by kernel_rfl) (by kernel_rfl) (fun _ _ _ h => h) (Or.inl ⟨by kernel_rfl, fun W hSW => by go_simp; try with_reducible rfl⟩) (by assumption) ?_
    try simp only [List.getElem_toArray]
    try simp only [List.getElem_cons_succ]
    try simp only [List.getElem_cons_zero]
    try simp only [Act.put]
    try simp only [List.setIfInBounds_toArray]
    try simp only [List.set_cons_succ]
    try simp only [List.set_cons_zero]
    refine wpAnyH_ready (rs := [2]) (by kernel_rfl) (by simp) ?_
    refine AllReadyH.cons rfl (fun K hK => ?_) AllReadyH.nil
    go_simp
    refine (HH.out _ (HK0.out.trans ((Kept.refl _ _).drew))).mono ?_
    rintro e w2 ⟨rfl, hk2⟩
    have B2 := B0.kept hk2
    have KA2 := hid (((Kept.refl (fun _ => False) A).drew).trans hk2)
    clear hk2
    refine hK.out _ _ (B2) (fun _ => ?_)
    clear hK K
    try simp only [List.getElem_toArray]
    try simp only [List.getElem_cons_succ]
    try simp only [List.getElem_cons_zero]
    try simp only [Act.put]
    try simp only [List.setIfInBounds_toArray]
    try simp only [List.set_cons_succ]
    try simp only [List.set_cons_zero]
    refine wpAnyH_take (i := 3) (v := .bool true) rfl (by kernel_rfl) (by kernel_rfl) (by kernel_rfl) (fun _ _ _ h => h) (Or.inl ⟨by kernel_rfl, fun W hSW => by go_simp; try with_reducible rfl⟩) (by assumption) ?_
    try simp only [List.getElem_toArray]
    try simp only [List.getElem_cons_succ]
    try simp only [List.getElem_cons_zero]
    try simp only [Act.put]
    try simp only [List.setIfInBounds_toArray]
    try simp only [List.set_cons_succ]
    try simp only [List.set_cons_zero]
    refine wpAnyH_take (i := 4) (v := .bool true) rfl (by kernel_rfl) (by kernel_rfl) (by kernel_rfl) (fun _ _ _ h => h) (Or.inl ⟨by kernel_rfl, fun W hSW => by go_simp; try with_reducible rfl⟩) (by assumption) ?_
    try simp only [List.getElem_toArray]
    try simp only [List.getElem_cons_succ]
    try simp only [List.getElem_cons_zero]
    try simp only [Act.put]
    try simp only [List.setIfInBounds_toArray]
    try simp only [List.set_cons_succ]
    try simp only [List.set_cons_zero]
    refine wpAnyH_take (i := 5) rfl (by kernel_rfl) (by kernel_rfl) (by kernel_rfl) (fun _ _ _ h => h) (Or.inr ⟨by kernel_rfl, rfl⟩) (by assumption) ?_
    try simp only [List.getElem_toArray]
    try simp only [List.getElem_cons_succ]
    try simp only [List.getElem_cons_zero]
    try simp only [Act.put]
    try simp only [List.setIfInBounds_toArray]
    try simp only [List.set_cons_succ]
    try simp only [List.set_cons_zero]
    refine wpAnyH_take (i := 6) rfl (by kernel_rfl) (by kernel_rfl) (by kernel_rfl) (fun _ _ _ h => h) (Or.inr ⟨by kernel_rfl, rfl⟩) (by assumption) ?_
    try simp only [List.getElem_toArray]
    try simp only [List.getElem_cons_succ]
    try simp only [List.getElem_cons_zero]
    try simp only [Act.put]
    try simp only [List.setIfInBounds_toArray]
    try simp only [List.set_cons_succ]
    try simp only [List.set_cons_zero]
    refine wpAnyH_take (i := 7) rfl (by kernel_rfl) (by kernel_rfl) (by kernel_rfl) (fun _ _ _ h => h) (Or.inr ⟨by kernel_rfl, rfl⟩) (by assumption) ?_
    try simp only [List.getElem_toArray]
    try simp only [List.getElem_cons_succ]
    try simp only [List.getElem_cons_zero]
    try simp only [Act.put]
    try simp only [List.setIfInBounds_toArray]
    try simp only [List.set_cons_succ]
    try simp only [List.set_cons_zero]
    refine wpAnyH_take (i := 8) rfl (by kernel_rfl) (by kernel_rfl) (by kernel_rfl) (fun _ _ _ h => h) (Or.inr ⟨by kernel_rfl, rfl⟩) (by assumption) ?_
    try simp only [List.getElem_toArray]
    try simp only [List.getElem_cons_succ]
    try simp only [List.getElem_cons_zero]
    try simp only [Act.put]
    try simp only [List.setIfInBounds_toArray]
    try simp only [List.set_cons_succ]
    try simp only [List.set_cons_zero]
    refine wpAnyH_take (i := 9) rfl (by kernel_rfl) (by kernel_rfl) (by kernel_rfl) (fun _ _ _ h => h) (Or.inr ⟨by kernel_rfl, rfl⟩) (by assumption) ?_
    try simp only [List.getElem_toArray]
    try simp only [List.getElem_cons_succ]
    try simp only [List.getElem_cons_zero]
    try simp only [Act.put]
    try simp only [List.setIfInBounds_toArray]
    try simp only [List.set_cons_succ]
    try simp only [List.set_cons_zero]
    refine wpAnyH_take (i := 10) rfl (by kernel_rfl) (by kernel_rfl) (by kernel_rfl) (fun _ _ _ h => h) (Or.inr ⟨by kernel_rfl, rfl⟩) (by assumption) ?_
    try simp only [List.getElem_toArray]
    try simp only [List.getElem_cons_succ]
    try simp only [List.getElem_cons_zero]
    try simp only [Act.put]
    try simp only [List.setIfInBounds_toArray]
    try simp only [List.set_cons_succ]
    try simp only [List.set_cons_zero]
    refine wpAnyH_take (i := 11) rfl (by kernel_rfl) (by kernel_rfl) (by kernel_rfl) (fun _ _ _ h => h) (Or.inr ⟨by kernel_rfl, rfl⟩) (by assumption) ?_
    try simp only [List.getElem_toArray]
    try simp only [List.getElem_cons_succ]
    try simp only [List.getElem_cons_zero]
    try simp only [Act.put]
    try simp only [List.setIfInBounds_toArray]
    try simp only [List.set_cons_succ]
    try simp only [List.set_cons_zero]
    refine wpAnyH_take (i := 12) rfl (by kernel_rfl) (by kernel_rfl) (by kernel_rfl) (fun _ _ _ h => h) (Or.inr ⟨by kernel_rfl, rfl⟩) (by assumption) ?_
    try simp only [List.getElem_toArray]
    try simp only [List.getElem_cons_succ]
    try simp only [List.getElem_cons_zero]
    try simp only [Act.put]
    try simp only [List.setIfInBounds_toArray]
    try simp only [List.set_cons_succ]
    try simp only [List.set_cons_zero]
    refine wpAnyH_take (i := 13) (v := .bool true) rfl (by kernel_rfl) (by kernel_rfl) (by kernel_rfl) (fun _ _ _ h => h) (Or.inl ⟨by kernel_rfl, fun W hSW => by go_simp; try with_reducible rfl⟩) (by assumption) ?_
    try simp only [List.getElem_toArray]
    try simp only [List.getElem_cons_succ]
    try simp only [List.getElem_cons_zero]
    try simp only [Act.put]
    try simp only [List.setIfInBounds_toArray]
    try simp only [List.set_cons_succ]
    try simp only [List.set_cons_zero]
    refine wpAnyH_done (by kernel_rfl) ?_ _
    clear B0 B2 g0 g1 g2 g3 g4
    go_wp2
    go_ret
    exact ⟨_, rfl, by rw [HR.out]; exact Sent.none (NNext.of0 H.out (HK0.out.trans KA2.out))⟩
  | true =>
    rw [hq] at HH HR
    clear hq
    cases hs : sameF p.opts n.req with
    | false =>
      rw [hs] at HSa HR
      clear hs
      go_enter Try.func31, Try.ntmps31
      go_upto_region 1 with fail
      rw [HAe.out]
      clear HAe
      refine wp_region_held_drew (S := BoxA w.heap.size b p.code p.id (.slice pv p.opts.length cv) (.slice pr n.req.length cr) p.data) (by kernel_rfl) (B0) (fun hSd => ?_)
      refine wpAnyH_take (i := 0) (v := ?_) rfl (by kernel_rfl) (by kernel_rfl) (by kernel_rfl) (fun _ _ _ h => h) (Or.inl ⟨by kernel_rfl, fun W hSW => by go_simp; try with_reducible rfl⟩) (by assumption) ?_
      try simp only [List.getElem_toArray]
      try simp only [List.getElem_cons_succ]
      try simp only [List.getElem_cons_zero]
      try simp only [Act.put]
      try simp only [List.setIfInBounds_toArray]
      try simp only [List.set_cons_succ]
      try simp only [List.set_cons_zero]
      refine wpAnyH_take (i := 1) (v := ?_) rfl (by kernel_rfl) (by kernel_rfl) (by kernel_rfl) (fun _ _ _ h => h) (Or.inl ⟨by kernel_rfl, fun W hSW => by go_simp; try with_reducible rfl⟩) (by assumption) ?_
      try simp only [List.getElem_toArray]
      try simp only [List.getElem_cons_succ]
      try simp only [List.getElem_cons_zero]
      try simp only [Act.put]
      try simp only [List.setIfInBounds_toArray]
      try simp only [List.set_cons_succ]
      try simp only [List.set_cons_zero]
      refine wpAnyH_ready (rs := [2]) (by kernel_rfl) (by simp) ?_
      refine AllReadyH.cons rfl (fun K hK => ?_) AllReadyH.nil
      go_simp
      refine (HH.out _ (HK0.out.trans ((Kept.refl _ _).drew))).mono ?_
      rintro e w2 ⟨rfl, hk2⟩
      have B2 := B0.kept hk2
      have K2 := hid ((HK0.out.trans ((Kept.refl _ _).drew)).trans hk2)
      clear hk2
      refine hK.out _ _ (B2) (fun _ => ?_)
      clear hK K
      try simp only [List.getElem_toArray]
      try simp only [List.getElem_cons_succ]
      try simp only [List.getElem_cons_zero]
      try simp only [Act.put]
      try simp only [List.setIfInBounds_toArray]
      try simp only [List.set_cons_succ]
      try simp only [List.set_cons_zero]
      refine wpAnyH_take (i := 3) (v := .bool false) rfl (by kernel_rfl) (by kernel_rfl) (by kernel_rfl) (fun _ _ _ h => h) (Or.inl ⟨by kernel_rfl, fun W hSW => by go_simp; try with_reducible rfl⟩) (by assumption) ?_
      try simp only [List.getElem_toArray]
      try simp only [List.getElem_cons_succ]
      try simp only [List.getElem_cons_zero]
      try simp only [Act.put]
      try simp only [List.setIfInBounds_toArray]
      try simp only [List.set_cons_succ]
      try simp only [List.set_cons_zero]
      refine wpAnyH_take (i := 4) (v := .bool false) rfl (by kernel_rfl) (by kernel_rfl) (by kernel_rfl) (fun _ _ _ h => h) (Or.inl ⟨by kernel_rfl, fun W hSW => by go_simp; try with_reducible rfl⟩) (by assumption) ?_
      try simp only [List.getElem_toArray]
      try simp only [List.getElem_cons_succ]
      try simp only [List.getElem_cons_zero]
      try simp only [Act.put]
      try simp only [List.setIfInBounds_toArray]
      try simp only [List.set_cons_succ]
      try simp only [List.set_cons_zero]
      refine wpAnyH_take (i := 5) (v := ?_) rfl (by kernel_rfl) (by kernel_rfl) (by kernel_rfl) (fun _ _ _ h => h) (Or.inl ⟨by kernel_rfl, fun W hSW => by go_simp; try with_reducible rfl⟩) (by assumption) ?_
      try simp only [List.getElem_toArray]
      try simp only [List.getElem_cons_succ]
      try simp only [List.getElem_cons_zero]
      try simp only [Act.put]
      try simp only [List.setIfInBounds_toArray]
      try simp only [List.set_cons_succ]
      try simp only [List.set_cons_zero]
      refine wpAnyH_take (i := 6) (v := ?_) rfl (by kernel_rfl) (by kernel_rfl) (by kernel_rfl) (fun _ _ _ h => h) (Or.inl ⟨by kernel_rfl, fun W hSW => by go_simp; try with_reducible rfl⟩) (by assumption) ?_
      try simp only [List.getElem_toArray]
      try simp only [List.getElem_cons_succ]
      try simp only [List.getElem_cons_zero]
      try simp only [Act.put]
      try simp only [List.setIfInBounds_toArray]
      try simp only [List.set_cons_succ]
      try simp only [List.set_cons_zero]
      refine wpAnyH_take (i := 7) (v := ?_) rfl (by kernel_rfl) (by kernel_rfl) (by kernel_rfl) (fun _ _ _ h => h) (Or.inl ⟨by kernel_rfl, fun W hSW => by go_simp; try with_reducible rfl⟩) (by assumption) ?_
      try simp only [List.getElem_toArray]
      try simp only [List.getElem_cons_succ]
      try simp only [List.getElem_cons_zero]
      try simp only [Act.put]
      try simp only [List.setIfInBounds_toArray]
      try simp only [List.set_cons_succ]
      try simp only [List.set_cons_zero]
      refine wpAnyH_take (i := 8) (v := ?_) rfl (by kernel_rfl) (by kernel_rfl) (by kernel_rfl) (fun _ _ _ h => h) (Or.inl ⟨by kernel_rfl, fun W hSW => by go_simp; try with_reducible rfl⟩) (by assumption) ?_
      try simp only [List.getElem_toArray]
      try simp only [List.getElem_cons_succ]
      try simp only [List.getElem_cons_zero]
      try simp only [Act.put]
      try simp only [List.setIfInBounds_toArray]
      try simp only [List.set_cons_succ]
      try simp only [List.set_cons_zero]
      refine wpAnyH_take (i := 9) (v := ?_) rfl (by kernel_rfl) (by kernel_rfl) (by kernel_rfl) (fun _ _ _ h => h) (Or.inl ⟨by kernel_rfl, fun W hSW => by go_simp; try with_reducible rfl⟩) (by assumption) ?_
      try simp only [List.getElem_toArray]
      try simp only [List.getElem_cons_succ]
      try simp only [List.getElem_cons_zero]
      try simp only [Act.put]
      try simp only [List.setIfInBounds_toArray]
      try simp only [List.set_cons_succ]
      try simp only [List.set_cons_zero]
      refine wpAnyH_take (i := 10) (v := ?_) rfl (by kernel_rfl) (by kernel_rfl) (by kernel_rfl) (fun _ _ _ h => h) (Or.inl ⟨by kernel_rfl, fun W hSW => by go_simp; try with_reducible rfl⟩) (by assumption) ?_
      try simp only [List.getElem_toArray]
      try simp only [List.getElem_cons_succ]
      try simp only [List.getElem_cons_zero]
      try simp only [Act.put]
      try simp only [List.setIfInBounds_toArray]
      try simp only [List.set_cons_succ]
      try simp only [List.set_cons_zero]
      refine wpAnyH_ready (rs := [11]) (by kernel_rfl) (by simp) ?_
      refine AllReadyH.cons rfl (fun K hK => ?_) AllReadyH.nil
      go_simp
      refine (HSa.out _ K2.out).mono ?_
      rintro e w3 ⟨rfl, hk3⟩
      have B3 := B2.kept hk3
      have K3 := hid (K2.out.trans hk3)
      clear hk3
      refine hK.out _ _ (B3) (fun _ => ?_)
      clear hK K
      try simp only [List.getElem_toArray]
      try simp only [List.getElem_cons_succ]
      try simp only [List.getElem_cons_zero]
      try simp only [Act.put]
      try simp only [List.setIfInBounds_toArray]
      try simp only [List.set_cons_succ]
      try simp only [List.set_cons_zero]
      refine wpAnyH_take (i := 12) (v := .bool true) rfl (by kernel_rfl) (by kernel_rfl) (by kernel_rfl) (fun _ _ _ h => h) (Or.inl ⟨by kernel_rfl, fun W hSW => by go_simp; try with_reducible rfl⟩) (by assumption) ?_
      try simp only [List.getElem_toArray]
      try simp only [List.getElem_cons_succ]
      try simp only [List.getElem_cons_zero]
      try simp only [Act.put]
      try simp only [List.setIfInBounds_toArray]
      try simp only [List.set_cons_succ]
      try simp only [List.set_cons_zero]
      refine wpAnyH_take (i := 13) (v := .bool true) rfl (by kernel_rfl) (by kernel_rfl) (by kernel_rfl) (fun _ _ _ h => h) (Or.inl ⟨by kernel_rfl, fun W hSW => by go_simp; try with_reducible rfl⟩) (by assumption) ?_
      try simp only [List.getElem_toArray]
      try simp only [List.getElem_cons_succ]
      try simp only [List.getElem_cons_zero]
      try simp only [Act.put]
      try simp only [List.setIfInBounds_toArray]
      try simp only [List.set_cons_succ]
      try simp only [List.set_cons_zero]
      refine wpAnyH_done (by kernel_rfl) ?_ _
      clear B0 B2 B3 g0 g1 g2 g3 g4
      go_wp2
      go_ret
      exact ⟨_, rfl, by rw [HR.out]; exact Sent.none (NNext.of0 H.out K3.out)⟩
    | true =>
      rw [hs] at HSa HR
      clear hs
      go_enter Try.func31, Try.ntmps31
      go_upto_region 1 with fail
      rw [HAe.out]
      clear HAe
      refine wp_region_held_drew (S := BoxA w.heap.size b p.code p.id (.slice pv p.opts.length cv) (.slice pr n.req.length cr) p.data) (by kernel_rfl) (B0) (fun hSd => ?_)
      refine wpAnyH_take (i := 0) (v := ?_) rfl (by kernel_rfl) (by kernel_rfl) (by kernel_rfl) (fun _ _ _ h => h) (Or.inl ⟨by kernel_rfl, fun W hSW => by go_simp; try with_reducible rfl⟩) (by assumption) ?_
      try simp only [List.getElem_toArray]
      try simp only [List.getElem_cons_succ]
      try simp only [List.getElem_cons_zero]
      try simp only [Act.put]
      try simp only [List.setIfInBounds_toArray]
      try simp only [List.set_cons_succ]
      try simp only [List.set_cons_zero]
      refine wpAnyH_take (i := 1) (v := ?_) rfl (by kernel_rfl) (by kernel_rfl) (by kernel_rfl) (fun _ _ _ h => h) (Or.inl ⟨by kernel_rfl, fun W hSW => by go_simp; try with_reducible rfl⟩) (by assumption) ?_
      try simp only [List.getElem_toArray]
      try simp only [List.getElem_cons_succ]
      try simp only [List.getElem_cons_zero]
      try simp only [Act.put]
      try simp only [List.setIfInBounds_toArray]
      try simp only [List.set_cons_succ]
      try simp only [List.set_cons_zero]
      refine wpAnyH_ready (rs := [2]) (by kernel_rfl) (by simp) ?_
      refine AllReadyH.cons rfl (fun K hK => ?_) AllReadyH.nil
      go_simp
      refine (HH.out _ (HK0.out.trans ((Kept.refl _ _).drew))).mono ?_
      rintro e w2 ⟨rfl, hk2⟩
      have B2 := B0.kept hk2
      have K2 := hid ((HK0.out.trans ((Kept.refl _ _).drew)).trans hk2)
      have KA2 := hid (((Kept.refl (fun _ => False) A).drew).trans hk2)
      clear hk2
      refine hK.out _ _ (B2) (fun _ => ?_)
      clear hK K
      try simp only [List.getElem_toArray]
      try simp only [List.getElem_cons_succ]
      try simp only [List.getElem_cons_zero]
      try simp only [Act.put]
      try simp only [List.setIfInBounds_toArray]
      try simp only [List.set_cons_succ]
      try simp only [List.set_cons_zero]
      refine wpAnyH_take (i := 3) (v := .bool false) rfl (by kernel_rfl) (by kernel_rfl) (by kernel_rfl) (fun _ _ _ h => h) (Or.inl ⟨by kernel_rfl, fun W hSW => by go_simp; try with_reducible rfl⟩) (by assumption) ?_
      try simp only [List.getElem_toArray]
      try simp only [List.getElem_cons_succ]
      try simp only [List.getElem_cons_zero]
      try simp only [Act.put]
      try simp only [List.setIfInBounds_toArray]
      try simp only [List.set_cons_succ]
      try simp only [List.set_cons_zero]
      refine wpAnyH_take (i := 4) (v := .bool false) rfl (by kernel_rfl) (by kernel_rfl) (by kernel_rfl) (fun _ _ _ h => h) (Or.inl ⟨by kernel_rfl, fun W hSW => by go_simp; try with_reducible rfl⟩) (by assumption) ?_
      try simp only [List.getElem_toArray]
      try simp only [List.getElem_cons_succ]
      try simp only [List.getElem_cons_zero]
      try simp only [Act.put]
      try simp only [List.setIfInBounds_toArray]
      try simp only [List.set_cons_succ]
      try simp only [List.set_cons_zero]
      refine wpAnyH_take (i := 5) (v := ?_) rfl (by kernel_rfl) (by kernel_rfl) (by kernel_rfl) (fun _ _ _ h => h) (Or.inl ⟨by kernel_rfl, fun W hSW => by go_simp; try with_reducible rfl⟩) (by assumption) ?_
      try simp only [List.getElem_toArray]
      try simp only [List.getElem_cons_succ]
      try simp only [List.getElem_cons_zero]
      try simp only [Act.put]
      try simp only [List.setIfInBounds_toArray]
      try simp only [List.set_cons_succ]
      try simp only [List.set_cons_zero]
      refine wpAnyH_take (i := 6) (v := ?_) rfl (by kernel_rfl) (by kernel_rfl) (by kernel_rfl) (fun _ _ _ h => h) (Or.inl ⟨by kernel_rfl, fun W hSW => by go_simp; try with_reducible rfl⟩) (by assumption) ?_
      try simp only [List.getElem_toArray]
      try simp only [List.getElem_cons_succ]
      try simp only [List.getElem_cons_zero]
      try simp only [Act.put]
      try simp only [List.setIfInBounds_toArray]
      try simp only [List.set_cons_succ]
      try simp only [List.set_cons_zero]
      refine wpAnyH_take (i := 7) (v := ?_) rfl (by kernel_rfl) (by kernel_rfl) (by kernel_rfl) (fun _ _ _ h => h) (Or.inl ⟨by kernel_rfl, fun W hSW => by go_simp; try with_reducible rfl⟩) (by assumption) ?_
      try simp only [List.getElem_toArray]
      try simp only [List.getElem_cons_succ]
      try simp only [List.getElem_cons_zero]
      try simp only [Act.put]
      try simp only [List.setIfInBounds_toArray]
      try simp only [List.set_cons_succ]
      try simp only [List.set_cons_zero]
      refine wpAnyH_take (i := 8) (v := ?_) rfl (by kernel_rfl) (by kernel_rfl) (by kernel_rfl) (fun _ _ _ h => h) (Or.inl ⟨by kernel_rfl, fun W hSW => by go_simp; try with_reducible rfl⟩) (by assumption) ?_
      try simp only [List.getElem_toArray]
      try simp only [List.getElem_cons_succ]
      try simp only [List.getElem_cons_zero]
      try simp only [Act.put]
      try simp only [List.setIfInBounds_toArray]
      try simp only [List.set_cons_succ]
      try simp only [List.set_cons_zero]
      refine wpAnyH_take (i := 9) (v := ?_) rfl (by kernel_rfl) (by kernel_rfl) (by kernel_rfl) (fun _ _ _ h => h) (Or.inl ⟨by kernel_rfl, fun W hSW => by go_simp; try with_reducible rfl⟩) (by assumption) ?_
      try simp only [List.getElem_toArray]
      try simp only [List.getElem_cons_succ]
      try simp only [List.getElem_cons_zero]
      try simp only [Act.put]
      try simp only [List.setIfInBounds_toArray]
      try simp only [List.set_cons_succ]
      try simp only [List.set_cons_zero]
      refine wpAnyH_take (i := 10) (v := ?_) rfl (by kernel_rfl) (by kernel_rfl) (by kernel_rfl) (fun _ _ _ h => h) (Or.inl ⟨by kernel_rfl, fun W hSW => by go_simp; try with_reducible rfl⟩) (by assumption) ?_
      try simp only [List.getElem_toArray]
      try simp only [List.getElem_cons_succ]
      try simp only [List.getElem_cons_zero]
      try simp only [Act.put]
      try simp only [List.setIfInBounds_toArray]
      try simp only [List.set_cons_succ]
      try simp only [List.set_cons_zero]
      refine wpAnyH_ready (rs := [11]) (by kernel_rfl) (by simp) ?_
      refine AllReadyH.cons rfl (fun K hK => ?_) AllReadyH.nil
      go_simp
      refine (HSa.out _ K2.out).mono ?_
      rintro e w3 ⟨rfl, hk3⟩
      have B3 := B2.kept hk3
      have K3 := hid (K2.out.trans hk3)
      have KA3 := hid (KA2.out.trans hk3)
      clear hk3
      refine hK.out _ _ (B3) (fun _ => ?_)
      clear hK K
      try simp only [List.getElem_toArray]
      try simp only [List.getElem_cons_succ]
      try simp only [List.getElem_cons_zero]
      try simp only [Act.put]
      try simp only [List.setIfInBounds_toArray]
      try simp only [List.set_cons_succ]
      try simp only [List.set_cons_zero]
      refine wpAnyH_take (i := 12) (v := .bool false) rfl (by kernel_rfl) (by kernel_rfl) (by kernel_rfl) (fun _ _ _ h => h) (Or.inl ⟨by kernel_rfl, fun W hSW => by go_simp; try with_reducible rfl⟩) (by assumption) ?_
      try simp only [List.getElem_toArray]
      try simp only [List.getElem_cons_succ]
      try simp only [List.getElem_cons_zero]
      try simp only [Act.put]
      try simp only [List.setIfInBounds_toArray]
      try simp only [List.set_cons_succ]
      try simp only [List.set_cons_zero]
      refine wpAnyH_take (i := 13) (v := .bool false) rfl (by kernel_rfl) (by kernel_rfl) (by kernel_rfl) (fun _ _ _ h => h) (Or.inl ⟨by kernel_rfl, fun W hSW => by go_simp; try with_reducible rfl⟩) (by assumption) ?_
      try simp only [List.getElem_toArray]
      try simp only [List.getElem_cons_succ]
      try simp only [List.getElem_cons_zero]
      try simp only [Act.put]
      try simp only [List.setIfInBounds_toArray]
      try simp only [List.set_cons_succ]
      try simp only [List.set_cons_zero]
      refine wpAnyH_done (by kernel_rfl) ?_ _
      obtain ⟨y0, y1, y2, y3, _⟩ := id B3
      clear B0 B2 B3 g0 g1 g2 g3 g4 q0 q1 q2 q3 HH HSa
      go_wp2_with fail
      refine (HCl.out _ K3.out).mono ?_
      rintro e w4 ⟨u4, rfl, ho4, hk4⟩
      have K4 := K3.out.trans hk4
      have h4 := H.out.kept0 K4
      have d12 := h4.n12
      have f12 := h4.fz 12
      have hs3 := K3.out.size
      have N5 := h4.setMine (l := p.opts) (ho4.mono (by have := H.out.lo; have := H.out.lt; omega)) HP0.out.fine (fun i hi e => by have := H.out.sn_lt i (Or.inr (Or.inr hi)); have := ho4.baseB e; omega) (W0 := w) (fun i hi => by have := ho4.baseB hi; omega) K4
      obtain ⟨p4, c4, rfl⟩ := slice_of ho4
      have NT := hid N5
      have OX := hid ((O0.out.kept (KA3.out.trans hk4)).keptS (kept_cell w4 b 12 (.slice p4 p.opts.length c4)) (fun e => hnS.out (Or.inl e)))
      clear ho4 hk4 K4 h4 N5 HCl y0 y1 y2 y3
      go_upto_region 4 with fail
      generalize w4.setCell ⟨b, 12, none⟩ (.slice p4 p.opts.length c4) = w5 at *
      clear d12 f12
      obtain ⟨⟨y0, y1, y2, y3⟩, _⟩ := OX.out
      have HPn : PkIn w b a p (.slice pv p.opts.length cv) := HP0.out
      have HP5 := hid (HPn.step NT.out)
      have HHp := hid (happen_any ⟨p, pk00, []⟩ (.slice pv p.opts.length cv) (.slice none 0 0) none 8 ⟨by decide, by decide⟩ w5 NT.out.neg HP5.out.cz)
      unfold czV pk00 at HHp
      simp only at HHp
      go_wp2_with fail
      refine HHp.out.mono ?_
      rintro e w6 ⟨vo, rfl, vt, l, w7, N7, U⟩
      have HS := hid (Sent.of (NT.out.trans N7) U (fun i hi => by cases hi))
      obtain ⟨po, co, rfl⟩ := slice_of U.out.row
      clear U N7
      go_wp2
      go_ret
      exact ⟨_, rfl, by rw [HR.out]; exact HS.out⟩
end Go.Proofs.Ytcmdfcdmfdheeaa

namespace Go.Proofs.Ytcmdfcdmfdheeaa
open Go.RowKit

def mustB (ms : List Int) (l : List Tg) : Bool := l.any (fun o => hasF ms o.type)
theorem mustB_take {ms : List Int} {l : List Tg} {j : Nat} {x : Tg} (h : l[j]? = some x) (h1 : mustB ms (l.take j) = false) (h2 : hasF ms x.type = false) : mustB ms (l.take (j + 1)) = false := by
  unfold mustB at h1 ⊢
  rw [take_next h, List.any_append, h1]
  simp [h2]
theorem mustB_hit {ms : List Int} {l : List Tg} {j : Nat} {x : Tg} (h : l[j]? = some x) (h2 : hasF ms x.type = true) : mustB ms l = true := List.any_eq_true.2 ⟨x, List.mem_of_getElem? h, h2⟩

/-- What the place tells. -/
def MustI (ms : List Int) (l : List Tg) (r : Int) : Prop := decide (0 ≤ r) = mustB ms l

set_option maxHeartbeats 1000000 in
set_option maxRecDepth 100000 in
theorem indexMustM_any {base b : Nat} {a : Nm} {n : Ng} {ms : List Int} (v : Value) (l : List Tg) (w : World) (hv : TagsAt w v l) (hl : l.length ≤ 1000000) (h : NegIn w base b a n) (hms : MustAt w a.vu ms) :
    Calls Try.prog 71 #[v, .func (.func 54) #[.pointer (some ⟨b, 0, none⟩)] #[]] w fun e w' => ∃ r : Int, e = .returned (.int .i64 r) ∧ MustI ms l r ∧ Kept (fun _ => False) w w' := by
  obtain ⟨p, cap, rfl⟩ := hv.slice
  have HT := hid (fun (W : World) (k : Kept (fun _ => False) w W) => hv.kept0 k)
  have HF := hid (fun (r : Tg) (W : World) (k : Kept (fun _ => False) w W) => isMust_any r W (h.kept0 k) (hms.kept0 k))
  clear hv h hms
  go_enter Try.func71, Try.ntmps71
  go_wp2
  go_loopw [5, 8] (fun _ s wr => ∃ j : Nat, j ≤ l.length ∧ s = .int .i64 (j : Int) ∧ Hid (mustB ms (l.take j) = false) ∧ Hid (Kept (fun _ => False) w wr)) (fun _ s _ => l.length - (intOf s).toNat)
  case atStart => exact ⟨0, Nat.zero_le _, rfl, hid rfl, Kept.refl _ _⟩
  case round =>
    obtain ⟨j, hj, rfl, HB, HK⟩ := hrel
    by_cases hlt : j < l.length
    · obtain ⟨x, hx⟩ : ∃ x, l[j]? = some x := ⟨l[j], by simp [hlt]⟩
      have hltz : (j : Int) < (l.length : Int) := by omega
      obtain ⟨g, of, rfl, hcap, c0, c1⟩ := (HT.out wr HK.out).at hx
      have Hc := hid (HF.out x wr HK.out)
      cases hq : hasF ms x.type with
      | true =>
        have HH := hid (mustB_hit hx hq)
        rw [hq] at Hc
        clear hx hq
        go_wp2_with fail
        refine Hc.out.mono ?_
        rintro e w2 ⟨rfl, hk2⟩
        have HK2 := hid (HK.out.trans hk2)
        clear hk2 c0 c1 Hc
        go_wp2
        go_ret
        exact ⟨_, rfl, by unfold MustI; rw [HH.out]; exact decide_eq_true (by omega), HK2.out⟩
      | false =>
        have HH := hid (mustB_take hx HB.out hq)
        rw [hq] at Hc
        clear hx hq
        go_wp2_with fail
        refine Hc.out.mono ?_
        rintro e w2 ⟨rfl, hk2⟩
        have HK2 := hid (HK.out.trans hk2)
        clear hk2 c0 c1 Hc
        go_wp2
        exact ⟨⟨j + 1, hlt, by go_num, HH.out, HK2.out⟩, by simp [intOf]; omega⟩
    · obtain rfl : j = l.length := by omega
      have hltz : ¬ (l.length : Int) < (l.length : Int) := by omega
      have HH : Hid (mustB ms l = false) := by
        have h := HB.out
        rw [List.take_length] at h
        exact h
      go_wp2
      go_ret
      exact ⟨_, rfl, by unfold MustI; rw [HH.out]; rfl, HK.out⟩

set_option maxHeartbeats 1000000 in
set_option maxRecDepth 100000 in
theorem hasMustM_any {base b : Nat} {a : Nm} {n : Ng} {ms : List Int} (v : Value) (l : List Tg) (w : World) (hv : TagsAt w v l) (hl : l.length ≤ 1000000) (h : NegIn w base b a n) (hms : MustAt w a.vu ms) :
    Calls Try.prog 53 #[v, .func (.func 54) #[.pointer (some ⟨b, 0, none⟩)] #[]] w fun e w' => e = .returned (.bool (mustB ms l)) ∧ Kept (fun _ => False) w w' := by
  have HE := hid (indexMustM_any v l w hv hl h hms)
  obtain ⟨p, cap, rfl⟩ := hv.slice
  clear hv h hms
  go_enter Try.func53, Try.ntmps53
  go_wp2_with fail
  refine HE.out.mono ?_
  rintro e w' ⟨r, rfl, hr, hk⟩
  have HR := hid hr
  clear hr
  go_wp2
  go_ret
  exact ⟨by rw [← show decide (0 ≤ r) = mustB ms l from HR.out]; rfl, hk⟩

/-- What a reject of the last request does. -/
def rejM (ms : List Int) (n : Ng) (p : Pk0) : Ng × List Pk0 :=
  if (decide ((woF n.req p.opts).2.length = 0) && heardB n p.id) = true then (if mustB ms p.opts = true then happenF ⟨p, pk00, []⟩ n 14 else happenF ⟨p, pk00, []⟩ { n with req := (woF n.req p.opts).1 } 9) else (n, [])

set_option maxHeartbeats 8000000 in
set_option maxRecDepth 100000 in
theorem takeRejM_any {base b : Nat} {a : Nm} {n : Ng} {ms : List Int} (p : Pk0) (v : Value) (w : World) (h : NegIn w base b a n) (hp : PkIn w b a p v) (hms : MustAt w a.vu ms) :
    Calls Try.prog 33 #[.pointer (some ⟨b, 0, none⟩), .agg #[.int .i64 p.code, .int .i64 p.id, v, .string p.data]] w fun e w' => ∃ vo, e = .returned vo ∧ Sent w w' base b a (rejM ms n p) vo := by
  obtain ⟨pv, cv, hv⟩ := hp.at_.1.slice
  obtain ⟨pr, cr, hvr⟩ := slice_of h.req
  have k0 := (Kept.refl (fun _ => False) w).alloc (.cells #[.int .i64 p.code, .int .i64 p.id, v, .string p.data] 40)
  have O0 := hid (own4_new w 40 (.int .i64 p.code) (.int .i64 p.id) v (.string p.data))
  have HA := hid (h.kept0 k0)
  have HPA := hid (hp.kept0 k0)
  have HM := hid (hms.kept0 k0)
  subst hv
  have HH := hid (fun (W : World) (k : Kept (fun _ => False) w W) => isHeard_any p.code p.id pv p.opts.length cv p.data W (h.kept0 k))
  have HWo := (fun (W : World) (k : Kept (fun _ => False) w W) => without_any a.vr (.slice pv p.opts.length cv) n.req p.opts W (h.kept0 k).req.tags (hp.kept0 k).at_.1 h.good.req.1)
  rw [hvr] at HWo
  have HWo := hid HWo
  have HFi := hid (wo_fine (l := p.opts) h.good.req)
  have HK0 := hid k0
  have hnS : Hid (¬ Sn b a w.heap.size) := fun s => by have := h.sn_lt _ s; omega
  have H := hid h
  have hbase : base ≤ w.heap.size := by have := h.lo; have := h.lt; omega
  generalize hAe : w.alloc (.cells #[.int .i64 p.code, .int .i64 p.id, .slice pv p.opts.length cv, .string p.data] 40) = A at *
  have HAe := hid hAe
  obtain ⟨⟨q0, q1, q2, q3⟩, _⟩ := O0.out
  have d1 := HA.out.n1
  rw [hvr] at d1
  have hR : ∃ R, R = rejM ms n p := ⟨_, rfl⟩
  obtain ⟨R, hR⟩ := hR
  rw [← hR]
  have HR := hid hR
  clear hR
  unfold rejM heardB at HR
  obtain ⟨Z, hZ⟩ : ∃ Z, Z = decide ((woF n.req p.opts).2.length = 0) := ⟨_, rfl⟩
  rw [← hZ] at HWo HR
  clear h hp k0 hAe hvr hms hZ
  go_enter Try.func33, Try.ntmps33
  go_upto_region 1 with fail
  rw [HAe.out]
  clear HAe
  have S0 : BoxA w.heap.size b p.code p.id (.slice pv p.opts.length cv) (.slice pr n.req.length cr) p.data A.drew := (BoxA.mk q0 q1 q2 q3 d1).kept ((Kept.refl _ _).drew)
  have g2 : ∀ W, BoxA w.heap.size b p.code p.id (.slice pv p.opts.length cv) (.slice pr n.req.length cr) p.data W → W.cell? ⟨w.heap.size, 2, none⟩ = some (.slice pv p.opts.length cv) := fun W h => h.x2
  have g4 : ∀ W, BoxA w.heap.size b p.code p.id (.slice pv p.opts.length cv) (.slice pr n.req.length cr) p.data W → W.cell? ⟨b, 1, none⟩ = some (.slice pr n.req.length cr) := fun W h => h.c1
  refine wp_region_held_drew (S := BoxA w.heap.size b p.code p.id (.slice pv p.opts.length cv) (.slice pr n.req.length cr) p.data) (by kernel_rfl) (S0) (fun hSd => ?_)
  refine wpAnyH_take (i := 0) (v := ?_) rfl (by kernel_rfl) (by kernel_rfl) (by kernel_rfl) (fun _ _ _ h => h) (Or.inl ⟨by kernel_rfl, fun W hSW => by go_simp; try with_reducible rfl⟩) (by assumption) ?_
  try simp only [List.getElem_toArray]
  try simp only [List.getElem_cons_succ]
  try simp only [List.getElem_cons_zero]
  try simp only [Act.put]
  try simp only [List.setIfInBounds_toArray]
  try simp only [List.set_cons_succ]
  try simp only [List.set_cons_zero]
  refine wpAnyH_take (i := 1) (v := ?_) rfl (by kernel_rfl) (by kernel_rfl) (by kernel_rfl) (fun _ _ _ h => h) (Or.inl ⟨by kernel_rfl, fun W hSW => by go_simp; try with_reducible rfl⟩) (by assumption) ?_
  try simp only [List.getElem_toArray]
  try simp only [List.getElem_cons_succ]
  try simp only [List.getElem_cons_zero]
  try simp only [Act.put]
  try simp only [List.setIfInBounds_toArray]
  try simp only [List.set_cons_succ]
  try simp only [List.set_cons_zero]
  refine wpAnyH_take (i := 2) (v := ?_) rfl (by kernel_rfl) (by kernel_rfl) (by kernel_rfl) (fun _ _ _ h => h) (Or.inl ⟨by kernel_rfl, fun W hSW => by go_simp; try with_reducible rfl⟩) (by assumption) ?_
  try simp only [List.getElem_toArray]
  try simp only [List.getElem_cons_succ]
  try simp only [List.getElem_cons_zero]
  try simp only [Act.put]
  try simp only [List.setIfInBounds_toArray]
  try simp only [List.set_cons_succ]
  try simp only [List.set_cons_zero]
  refine wpAnyH_take (i := 3) (v := ?_) rfl (by kernel_rfl) (by kernel_rfl) (by kernel_rfl) (fun _ _ _ h => h) (Or.inl ⟨by kernel_rfl, fun W hSW => by go_simp; try with_reducible rfl⟩) (by assumption) ?_
  try simp only [List.getElem_toArray]
  try simp only [List.getElem_cons_succ]
  try simp only [List.getElem_cons_zero]
  try simp only [Act.put]
  try simp only [List.setIfInBounds_toArray]
  try simp only [List.set_cons_succ]
  try simp only [List.set_cons_zero]
  refine wpAnyH_take (i := 4) (v := ?_) rfl (by kernel_rfl) (by kernel_rfl) (by kernel_rfl) (fun _ _ _ h => h) (Or.inl ⟨by kernel_rfl, fun W hSW => by go_simp; try with_reducible rfl⟩) (by assumption) ?_
  try simp only [List.getElem_toArray]
  try simp only [List.getElem_cons_succ]
  try simp only [List.getElem_cons_zero]
  try simp only [Act.put]
  try simp only [List.setIfInBounds_toArray]
  try simp only [List.set_cons_succ]
  try simp only [List.set_cons_zero]
  refine wpAnyH_take (i := 5) (v := ?_) rfl (by kernel_rfl) (by kernel_rfl) (by kernel_rfl) (fun _ _ _ h => h) (Or.inl ⟨by kernel_rfl, fun W hSW => by go_simp; try with_reducible rfl⟩) (by assumption) ?_
  try simp only [List.getElem_toArray]
  try simp only [List.getElem_cons_succ]
  try simp only [List.getElem_cons_zero]
  try simp only [Act.put]
  try simp only [List.setIfInBounds_toArray]
  try simp only [List.set_cons_succ]
  try simp only [List.set_cons_zero]
  refine wpAnyH_ready (rs := [6]) (by kernel_rfl) (by simp) ?_
  refine AllReadyH.cons rfl (fun K hK => ?_) AllReadyH.nil
  go_simp
  refine (HWo.out _ (HK0.out.trans ((Kept.refl _ _).drew))).mono ?_
  rintro e w1 ⟨z, rfl, hoz, hk1⟩
  obtain ⟨pz, cz, ez⟩ := slice_of hoz
  subst ez
  have S1 := S0.kept hk1
  have KA1 := hid (((Kept.refl (fun _ => False) A).drew).trans hk1)
  have HZ := hid hoz
  have hAs : Hid (A.drew.heap.size = A.heap.size) := rfl
  clear hk1 hoz
  refine hK.out _ _ (S1) (fun _ => ?_)
  clear hK K
  try simp only [List.getElem_toArray]
  try simp only [List.getElem_cons_succ]
  try simp only [List.getElem_cons_zero]
  try simp only [Act.put]
  try simp only [List.setIfInBounds_toArray]
  try simp only [List.set_cons_succ]
  try simp only [List.set_cons_zero]
  refine wpAnyH_take (i := 7) (v := ?_) rfl (by kernel_rfl) (by kernel_rfl) (by kernel_rfl) (fun _ _ _ h => h) (Or.inl ⟨by kernel_rfl, fun W hSW => by go_simp; try with_reducible rfl⟩) (by assumption) ?_
  try simp only [List.getElem_toArray]
  try simp only [List.getElem_cons_succ]
  try simp only [List.getElem_cons_zero]
  try simp only [Act.put]
  try simp only [List.setIfInBounds_toArray]
  try simp only [List.set_cons_succ]
  try simp only [List.set_cons_zero]
  refine wpAnyH_take (i := 8) (v := ?_) rfl (by kernel_rfl) (by kernel_rfl) (by kernel_rfl) (fun _ _ _ h => h) (Or.inl ⟨by kernel_rfl, fun W hSW => by go_simp; try with_reducible rfl⟩) (by assumption) ?_
  try simp only [List.getElem_toArray]
  try simp only [List.getElem_cons_succ]
  try simp only [List.getElem_cons_zero]
  try simp only [Act.put]
  try simp only [List.setIfInBounds_toArray]
  try simp only [List.set_cons_succ]
  try simp only [List.set_cons_zero]
  refine wpAnyH_take (i := 9) (v := ?_) rfl (by kernel_rfl) (by kernel_rfl) (by kernel_rfl) (fun _ _ _ h => h) (Or.inl ⟨by kernel_rfl, fun W hSW => by go_simp; try with_reducible rfl⟩) (by assumption) ?_
  try simp only [List.getElem_toArray]
  try simp only [List.getElem_cons_succ]
  try simp only [List.getElem_cons_zero]
  try simp only [Act.put]
  try simp only [List.setIfInBounds_toArray]
  try simp only [List.set_cons_succ]
  try simp only [List.set_cons_zero]
  refine wpAnyH_take (i := 10) (v := ?_) rfl (by kernel_rfl) (by kernel_rfl) (by kernel_rfl) (fun _ _ _ h => h) (Or.inl ⟨by kernel_rfl, fun W hSW => by go_simp; try with_reducible rfl⟩) (by assumption) ?_
  try simp only [List.getElem_toArray]
  try simp only [List.getElem_cons_succ]
  try simp only [List.getElem_cons_zero]
  try simp only [Act.put]
  try simp only [List.setIfInBounds_toArray]
  try simp only [List.set_cons_succ]
  try simp only [List.set_cons_zero]
  refine wpAnyH_take (i := 11) (v := ?_) rfl (by kernel_rfl) (by kernel_rfl) (by kernel_rfl) (fun _ _ _ h => h) (Or.inl ⟨by kernel_rfl, fun W hSW => by go_simp; try with_reducible rfl⟩) (by assumption) ?_
  try simp only [List.getElem_toArray]
  try simp only [List.getElem_cons_succ]
  try simp only [List.getElem_cons_zero]
  try simp only [Act.put]
  try simp only [List.setIfInBounds_toArray]
  try simp only [List.set_cons_succ]
  try simp only [List.set_cons_zero]
  refine wpAnyH_done (by kernel_rfl) ?_ _
  obtain ⟨y0, y1, y2, y3, _⟩ := id S1
  clear S0 S1 g2 g4 q0 q1 q2 q3 d1 HWo
  have K1 := hid (HK0.out.trans KA1.out)
  cases Z with
  | false =>
    go_wp2_with fail
    go_ret
    exact ⟨_, rfl, by rw [HR.out]; exact Sent.none (NNext.of0 H.out K1.out)⟩
  | true =>
    cases hq : (n.begun && (p.id == n.last)) with
    | false =>
      rw [hq] at HH HR
      clear hq
      go_wp2_with fail
      refine (HH.out _ K1.out).mono ?_
      rintro e w2 ⟨rfl, hk2⟩
      have K2 := hid (K1.out.trans hk2)
      clear hk2
      go_wp2_with fail
      go_ret
      exact ⟨_, rfl, by rw [HR.out]; exact Sent.none (NNext.of0 H.out K2.out)⟩
    | true =>
      rw [hq] at HH HR
      clear hq
      go_wp2_with fail
      refine (HH.out _ K1.out).mono ?_
      rintro e w2 ⟨rfl, hk2⟩
      have K2 := hid (K1.out.trans hk2)
      have KA2 := hid (KA1.out.trans hk2)
      have HZ2 := hid (HZ.out.kept hk2)
      have HC := hid (hasMustM_any (.slice pv p.opts.length cv) p.opts w2 (HPA.out.kept0 KA2.out).at_.1 (by have := HPA.out.fine.1; omega) (H.out.kept0 K2.out) (HM.out.kept0 KA2.out))
      clear hk2 y0 y1 y2 y3
      obtain ⟨⟨y0, y1, y2, y3⟩, _⟩ := O0.out.kept KA2.out
      cases hm : mustB ms p.opts with
      | true =>
        rw [hm] at HC HR
        clear hm
        go_wp2_with fail
        refine HC.out.mono ?_
        rintro e w3 ⟨rfl, hk3⟩
        have K3 := hid (K2.out.trans hk3)
        have KA3 := hid (KA2.out.trans hk3)
        clear hk3 y0 y1 y2 y3
        obtain ⟨⟨y0, y1, y2, y3⟩, _⟩ := O0.out.kept KA3.out
        have HHp := hid (happen_any ⟨p, pk00, []⟩ (.slice pv p.opts.length cv) (.slice none 0 0) none 14 ⟨by decide, by decide⟩ w3 (H.out.kept0 K3.out) (HPA.out.kept0 KA3.out).cz)
        unfold czV pk00 at HHp
        simp only at HHp
        go_wp2_with fail
        refine HHp.out.mono ?_
        rintro e w6 ⟨vo, rfl, vt, l, w7, N7, U⟩
        have HS := hid (Sent.of (NNext.before0 K3.out N7) U (fun i hi => by cases hi))
        obtain ⟨po, co, rfl⟩ := slice_of U.out.row
        clear U N7
        go_wp2
        go_ret
        exact ⟨_, rfl, by rw [HR.out]; exact HS.out⟩
      | false =>
        rw [hm] at HC HR
        clear hm
        go_wp2_with fail
        refine HC.out.mono ?_
        rintro e w3 ⟨rfl, hk3⟩
        have K3 := hid (K2.out.trans hk3)
        have KA3 := hid (KA2.out.trans hk3)
        have NA := H.out.kept0 K3.out
        have e1 := NA.n1
        have f1 := NA.fz 1
        have hoz2 := HZ2.out.kept hk3
        have hlowA : ∀ i, a.vm.ownBlock = some i ∨ a.vt.ownBlock = some i → i < A.heap.size := fun i hi => by
          have hs0 := HK0.out.size
          rcases hi with hi | hi
          · obtain ⟨cur, hc⟩ := H.out.mine.cellsB hi
            have := (Array.getElem?_eq_some_iff.1 hc).1
            omega
          · obtain ⟨cur, hc⟩ := H.out.theirs.cellsB hi
            have := (Array.getElem?_eq_some_iff.1 hc).1
            omega
        have NM := NA.setReq (W0 := A) (hoz2.mono (by have := HK0.out.size; have := hAs.out; omega)) HFi.out (fun i hi u hu e => by
          have h1 : A.heap.size ≤ i := HZ.out.baseB hi
          have h2 : i < A.heap.size := hlowA i (by rcases hu with rfl | rfl; exact Or.inl e; exact Or.inr e)
          omega) (fun i hi => Or.inr (HZ.out.baseB hi)) (KA3.out.mono (T := Sn b a) (fun _ _ h => h.elim))
        have NT := hid (NNext.before0 HK0.out NM)
        have P3 := hid (HPA.out.step NM)
        have O3 := hid ((O0.out.kept KA3.out).keptS (kept_cell w3 b 1 (.slice pz (woF n.req p.opts).1.length cz)) (fun e => hnS.out (Or.inl e)))
        clear hk3 NA NM hoz2 hlowA y0 y1 y2 y3
        go_upto_region 7 with fail
        generalize w3.setCell ⟨b, 1, none⟩ (.slice pz (woF n.req p.opts).1.length cz) = w5 at *
        clear e1 f1
        obtain ⟨⟨y0, y1, y2, y3⟩, _⟩ := O3.out
        have HHp := hid (happen_any ⟨p, pk00, []⟩ (.slice pv p.opts.length cv) (.slice none 0 0) none 9 ⟨by decide, by decide⟩ w5 NT.out.neg P3.out.cz)
        unfold czV pk00 at HHp
        simp only at HHp
        go_wp2_with fail
        refine HHp.out.mono ?_
        rintro e w6 ⟨vo, rfl, vt, l, w7, N7, U⟩
        have HS := hid (Sent.of (NT.out.trans N7) U (fun i hi => by cases hi))
        obtain ⟨po, co, rfl⟩ := slice_of U.out.row
        clear U N7
        go_wp2
        go_ret
        exact ⟨_, rfl, by rw [HR.out]; exact HS.out⟩
end Go.Proofs.Ytcmdfcdmfdheeaa

namespace Go.Proofs.Ytcmdfcdmfdheeaa
open Go.RowKit

/-- What one option of a nak turns, and what of it was taken on. -/
def nakS (ms : List Int) (s : Ng × List Tg) (o : Tg) : Ng × List Tg := ({ s.1 with req := chM s.1.own ms o s.1.req }, if tkM s.1.own o s.1.req = true then s.2 ++ [o] else s.2)
def nakL (ms : List Int) (n : Ng) (l : List Tg) : Ng × List Tg := l.foldl (nakS ms) (n, [])
theorem nakL_take (ms : List Int) (n : Ng) {l : List Tg} {j : Nat} {x : Tg} (h : l[j]? = some x) : nakL ms n (l.take (j + 1)) = nakS ms (nakL ms n (l.take j)) x := by
  unfold nakL
  rw [take_next h, List.foldl_append]
  rfl
theorem nakL_len (ms : List Int) (n : Ng) (l : List Tg) : ∀ j, j ≤ l.length → (nakL ms n (l.take j)).2.length ≤ j := by
  intro j
  induction j with
  | zero => intro _; exact Nat.le_refl _
  | succ j ih =>
    intro hj
    obtain ⟨x, hx⟩ : ∃ x, l[j]? = some x := ⟨l[j], by simp [show j < l.length from hj]⟩
    rw [nakL_take ms n hx]
    have := ih (by omega)
    unfold nakS
    simp only
    split
    · simp; omega
    · omega
def nakM (ms : List Int) (n : Ng) (p : Pk0) : Ng × List Pk0 := if (n.begun && (p.id == n.last)) = true then happenF ⟨p, pk00, []⟩ (nakL ms n p.opts).1 9 else (n, [])

/-- All blocks of a negotiation. -/
def SnA (b : Nat) (a : Nm) (i : Nat) : Prop := Sn b a i ∨ a.vm.ownBlock = some i ∨ a.vt.ownBlock = some i
theorem NNext.snA {W W' : World} {base b : Nat} {a a' : Nm} {n' : Ng} (h : NNext W W' base b a a' n') : ∀ i, SnA b a' i → SnA b a i ∨ W.heap.size ≤ i := by
  rintro i (hi | hi | hi)
  · exact (h.sn i hi).imp Or.inl id
  · exact (h.fm i hi).imp (fun h => Or.inr (Or.inl h)) id
  · exact (h.ft i hi).imp (fun h => Or.inr (Or.inr h)) id
theorem NegIn.snA_lt {W : World} {base b : Nat} {a : Nm} {n : Ng} (h : NegIn W base b a n) : ∀ i, SnA b a i → i < W.heap.size := by
  rintro i (hi | hi | hi)
  · exact h.sn_lt i hi
  · obtain ⟨c, hc⟩ := h.mine.cellsB hi
    exact (Array.getElem?_eq_some_iff.1 hc).1
  · obtain ⟨c, hc⟩ := h.theirs.cellsB hi
    exact (Array.getElem?_eq_some_iff.1 hc).1
/-- What else turns, behind a call. -/
theorem NNext.other {S : Nat → Prop} {A W W' : World} {base b : Nat} {a a' : Nm} {n' : Ng} (h : NNext A W base b a a' n') (hk : Kept S W W') (hc : ∀ i, S i → i < W.heap.size → ∃ cur e fz, W.heap[i]? = some (.cells cur e fz)) (hS : ∀ i, SnA b a' i → ¬ S i) (hlow : ∀ i, i < A.heap.size → ¬ S i) : NNext A W' base b a a' n' :=
  ⟨h.neg.keptS hk hc (hS b (Or.inl (Or.inl rfl))) (hS _ (Or.inl (Or.inr (Or.inl rfl)))) (fun i hi => hS i (Or.inl (Or.inr (Or.inr hi)))) (fun i hi => hS i (Or.inr (Or.inl hi))) (fun i hi => hS i (Or.inr (Or.inr hi))), h.am, h.vu, h.fr, h.fm, h.ft, h.kept.andThen hk (fun i hi s => absurd s (hlow i hi))⟩

/-- How far TakeNak has come. -/
structure NakW (A : World) (base b : Nat) (a : Nm) (s : Ng × List Tg) (v6 : Value) (W : World) : Prop where
  nx : ∃ a', NNext A W base b a a' s.1 ∧ ∀ i, v6.ownBlock = some i → ¬ SnA b a' i
  own : OwnO W A.heap.size v6 s.2

set_option maxHeartbeats 8000000 in
set_option maxRecDepth 100000 in
theorem takeNakM_any {base b : Nat} {a : Nm} {n : Ng} {ms : List Int} (p : Pk0) (v : Value) (w : World) (h : NegIn w base b a n) (hp : PkIn w b a p v) (hms : MustAt w a.vu ms) :
    Calls Try.prog 32 #[.pointer (some ⟨b, 0, none⟩), .agg #[.int .i64 p.code, .int .i64 p.id, v, .string p.data]] w fun e w' => ∃ vo vt, e = .returned (.tuple #[vo, vt]) ∧ Sent w w' base b a (nakM ms n p) vo ∧ ∃ pt nt ct, vt = .slice pt nt ct := by
  obtain ⟨pv, cv, hv⟩ := hp.at_.1.slice
  have k0 := (Kept.refl (fun _ => False) w).alloc (.cells #[.int .i64 p.code, .int .i64 p.id, v, .string p.data] 40)
  have O0 := hid (own4_new w 40 (.int .i64 p.code) (.int .i64 p.id) v (.string p.data))
  have HA := hid (h.kept0 k0)
  have HP := hid (hp.kept0 k0)
  have HM := hid (hms.kept0 k0)
  have HZ := hid (ngNone_any _ HA.out)
  subst hv
  have HH := hid (isHeard_any p.code p.id pv p.opts.length cv p.data _ HA.out)
  have HK0 := hid k0
  have hnS : Hid (¬ Sn b a w.heap.size) := fun s => by have := h.sn_lt _ s; omega
  have hll := hp.fine.1
  generalize hAe : w.alloc (.cells #[.int .i64 p.code, .int .i64 p.id, .slice pv p.opts.length cv, .string p.data] 40) = A at *
  have HAe := hid hAe
  obtain ⟨⟨q0, q1, q2, q3⟩, _⟩ := O0.out
  obtain ⟨R, hR⟩ : ∃ R, R = nakM ms n p := ⟨_, rfl⟩
  rw [← hR]
  have HR := hid hR
  clear hR
  unfold nakM at HR
  clear h hp k0 hAe hms
  cases hq : (n.begun && (p.id == n.last)) with
  | false =>
    rw [hq] at HH HR
    clear hq
    go_enter Try.func32, Try.ntmps32
    go_upto_region 1 with fail
    rw [HAe.out]
    clear HAe
    go_wp2_with (first | (go_at_call 27; refine HZ.out.mono ?_; rintro e w' ⟨rfl, hw⟩; rw [hw]; clear hw w'))
    refine HH.out.mono ?_
    rintro e w1 ⟨rfl, hk1⟩
    have HF := hid (NNext.before0 HK0.out (NNext.of0 HA.out hk1))
    clear hk1
    go_wp2
    go_ret2
    exact ⟨_, _, rfl, by rw [HR.out]; exact Sent.none HF.out, _, _, _, rfl⟩
  | true =>
    rw [hq] at HH HR
    clear hq
    go_enter Try.func32, Try.ntmps32
    go_upto_region 1 with fail
    rw [HAe.out]
    clear HAe
    go_wp2_with (first | (go_at_call 27; refine HZ.out.mono ?_; rintro e w' ⟨rfl, hw⟩; rw [hw]; clear hw w'))
    refine HH.out.mono ?_
    rintro e w1 ⟨rfl, hk1⟩
    obtain ⟨⟨y0, y1, y2, y3⟩, _⟩ := O0.out.kept hk1
    have U0 : Hid (NakW A base b a (n, []) (.slice none 0 0) w1) := ⟨⟨a, NNext.of0 HA.out hk1, fun i hi => by cases hi⟩, OwnO.nil _ _⟩
    clear hk1 q0 q1 q2 q3 HZ HH
    go_wp2
    go_loopw [6, 20] (fun v6 v20 wr => ∃ (k : Nat) (p6 : Option Addr) (n6 c6 : Nat), k ≤ p.opts.length ∧ v20 = .int .i64 (k : Int) ∧ v6 = .slice p6 n6 c6 ∧ Hid (NakW A base b a (nakL ms n (p.opts.take k)) (.slice p6 n6 c6) wr)) (fun _ v20 _ => p.opts.length - (intOf v20).toNat)
    case atStart => exact ⟨0, none, 0, 0, Nat.zero_le _, rfl, rfl, U0.out⟩
    case round =>
      obtain ⟨k, p6, n6, c6, hk, rfl, rfl, HU⟩ := hrel
      clear U0 y0 y1 y2 y3
      by_cases hlt : k < p.opts.length
      · have hltz : (k : Int) < (p.opts.length : Int) := by omega
        obtain ⟨x, hx⟩ : ∃ x, p.opts[k]? = some x := ⟨p.opts[k], by simp [hlt]⟩
        have HSt := hid (nakL_take ms n hx)
        have HLe := hid (nakL_len ms n p.opts k (by omega))
        generalize nakL ms n (p.opts.take k) = s at *
        obtain ⟨⟨a', hN, hfar⟩, hO⟩ := HU.out
        have P1 := HP.out.step hN
        have M1 := HM.out.step HA.out hN
        obtain ⟨g, og, hpv, hcap, c0, c1⟩ := P1.at_.1.at hx
        have hx64 := P1.fine.2.1 x (List.mem_of_getElem? hx)
        have hxs := P1.fine.2.2 x (List.mem_of_getElem? hx)
        subst hpv
        have ka := (Kept.refl (fun _ => False) wr).alloc (.cells #[.int .i64 x.type, .string x.value] 51)
        have Bx := BoxO.new wr x
        have b0 := Bx.c0
        have b1 := Bx.c1
        have NA := hid (hN.then0 ka)
        have HCh := hid (change_any x _ NA.out.neg (M1.kept0 ka) hx64 hxs)
        have HBx := hid Bx
        have hlw := hid hN.kept.size
        have hSnl : Hid (¬ Sn b a' wr.heap.size) := fun s => by have := hN.neg.sn_lt _ s; omega
        have HO := hid (hO.kept ka)
        have HOlt : Hid (∀ i, (Value.slice p6 n6 c6).ownBlock = some i → i < wr.heap.size) := fun i hi => by
          obtain ⟨cur, hc⟩ := hO.cellsB hi
          exact (Array.getElem?_eq_some_iff.1 hc).1
        have Hfar := hid hfar
        have Hn6 : Hid (n6 = s.2.length) := by
          obtain ⟨p7, c7, h6⟩ := slice_of hO
          simp only [Value.slice.injEq] at h6
          exact h6.2.1
        clear hN P1 ka Bx HU hx hx64 hxs hO M1 hfar
        go_wp2_with fail
        refine HCh.out.mono ?_
        rintro e w2 ⟨rfl, a2, hN2⟩
        have hB2 : BoxO w2 wr.heap.size x := (hN2.kept.block _ HBx.out.lt hSnl.out).trans HBx.out
        have NB := hid (NA.out.trans hN2)
        have HO2 : Hid (OwnO w2 A.heap.size (.slice p6 n6 c6) s.2) := HO.out.keptS hN2.kept (fun i hi h => Hfar.out i hi (Or.inl h))
        have HF2 : Hid (∀ i, (Value.slice p6 n6 c6).ownBlock = some i → ¬ SnA b a2 i) := fun i hi t => by
          have h1 := HOlt.out i hi
          rcases hN2.snA i t with h2 | h2
          · exact Hfar.out i hi h2
          · have h3 : (wr.alloc (.cells #[.int .i64 x.type, .string x.value] 51)).heap.size = wr.heap.size + 1 := by simp
            omega
        cases ht : tkM s.1.own x s.1.req with
        | false =>
          have UF : Hid (NakW A base b a (nakL ms n (p.opts.take (k + 1))) (.slice p6 n6 c6) w2) := by
            rw [HSt.out]
            unfold nakS
            rw [ht, if_neg (by decide)]
            exact ⟨⟨a2, NB.out, HF2.out⟩, HO2.out⟩
          clear hN2 HCh NA NB hB2 HO HO2 HF2 ht b0 b1 c0 c1
          go_wp2
          exact ⟨⟨k + 1, _, _, _, hlt, by go_num, rfl, UF.out⟩, by simp [intOf]; omega⟩
        | true =>
          clear b0 b1 c0 c1
          have d0 := hB2.c0
          have d1 := hB2.c1
          obtain ⟨v', w3, hrn, ho3, hk3, hv3⟩ := pushO x NB.out.kept.size HO2.out (by have := HLe.out; omega)
          obtain ⟨p3, c3, e3⟩ := slice_of ho3
          have UF : Hid (NakW A base b a (nakL ms n (p.opts.take (k + 1))) v' w3) := by
            rw [HSt.out]
            unfold nakS
            rw [ht, if_pos rfl]
            refine ⟨⟨a2, NB.out.other hk3 (fun i hi _ => ?_) (fun i hi s => HF2.out i s hi) (fun i hi s => by have := HO2.out.baseB s; omega), fun i hi t => ?_⟩, ho3⟩
            · obtain ⟨cur, hc⟩ := HO2.out.cellsB hi
              exact ⟨_, _, _, hc⟩
            · rcases hv3 i hi with h1 | h1
              · exact HF2.out i h1 t
              · have := NB.out.neg.snA_lt i t
                omega
          rw [List.length_append, List.length_singleton] at e3
          subst e3
          unfold AppO at hrn
          clear hN2 ho3 hk3 HCh NA NB hB2 HO HO2 HF2 ht
          go_wp2_with (at_builtin; refine Lib.wpList_append_run _ rfl _ _ _ _ rfl _ _ rfl rfl _ _ (hrn _) ?_)
          exact ⟨⟨k + 1, _, _, _, hlt, by go_num, rfl, UF.out⟩, by simp [intOf]; omega⟩
      · obtain rfl : k = p.opts.length := by omega
        have hltz : ¬ (p.opts.length : Int) < (p.opts.length : Int) := by omega
        have HU2 := HU.out
        rw [List.take_length] at HU2
        obtain ⟨⟨a', hN, _⟩, ho⟩ := HU2
        have P1 := hid (HP.out.step hN)
        obtain ⟨⟨y0, y1, y2, y3⟩, _⟩ := O0.out.keptS hN.kept hnS.out
        have HHp := hid (happen_any ⟨p, pk00, []⟩ (.slice pv p.opts.length cv) (.slice none 0 0) none 9 ⟨by decide, by decide⟩ wr hN.neg P1.out.cz)
        unfold czV pk00 at HHp
        simp only at HHp
        have HN := hid hN
        clear hN ho HU
        go_wp2_with fail
        refine HHp.out.mono ?_
        rintro e w4 ⟨vo, rfl, vt, l, w5, N5, U⟩
        have HS := hid (Sent.of (NNext.before0 HK0.out (HN.out.trans N5)) U (fun i hi => by cases hi))
        obtain ⟨po, co, rfl⟩ := slice_of U.out.row
        clear U N5
        go_wp2
        go_ret2
        exact ⟨_, _, rfl, by rw [HR.out]; exact HS.out, _, _, _, rfl⟩
end Go.Proofs.Ytcmdfcdmfdheeaa

namespace Go.Proofs.Ytcmdfcdmfdheeaa
open Go.RowKit

def rjN (n : Ng) (p : Pk0) : Ng × List Pk0 :=
  if p.data.size = 0 then (n, []) else if 1 ≤ (p.data.data.toList.getD 0 0).toNat ∧ (p.data.data.toList.getD 0 0).toNat ≤ 7 then happenF ⟨p, pk00, []⟩ n 14 else happenF ⟨p, pk00, []⟩ n 13

set_option maxHeartbeats 4000000 in
set_option maxRecDepth 100000 in
theorem takeReject_any {base b : Nat} {a : Nm} {n : Ng} (p : Pk0) (v : Value) (w : World) (h : NegIn w base b a n) (hp : PkIn w b a p v) :
    Calls Try.prog 34 #[.pointer (some ⟨b, 0, none⟩), pkV p.code p.id v p.data] w fun e w' => ∃ vo, e = .returned vo ∧ Sent w w' base b a (rjN n p) vo := by
  unfold pkV
  obtain ⟨pv, cv, hv⟩ := hp.at_.1.slice
  have hk0 := (Kept.refl (fun _ => False) w).alloc (.cells #[.int .i64 p.code, .int .i64 p.id, v, .string p.data] 40)
  have O0 := hid (own4_new w 40 (.int .i64 p.code) (.int .i64 p.id) v (.string p.data))
  have hA := h.kept0 hk0
  have hPA := hp.kept0 hk0
  generalize hAe : w.alloc (.cells #[.int .i64 p.code, .int .i64 p.id, v, .string p.data] 40) = A at *
  have HAe := hid hAe
  obtain ⟨⟨q0, q1, q2, q3⟩, _⟩ := O0.out
  have H13 := hid (happen_any ⟨p, pk00, []⟩ v (.slice none 0 0) none 13 ⟨by decide, by decide⟩ A hA hPA.cz)
  have H14 := hid (happen_any ⟨p, pk00, []⟩ v (.slice none 0 0) none 14 ⟨by decide, by decide⟩ A hA hPA.cz)
  unfold czV pk00 at H13 H14
  simp only at H13 H14
  have HN := hid hA
  have HK0 := hid hk0
  subst hv
  unfold rjN
  clear hAe h hp hk0 hA hPA
  by_cases h0 : p.data.size = 0
  · rw [if_pos h0]
    have hz : p.data = ⟨#[]⟩ := str_nil p.data h0
    rw [hz] at q3
    clear hz h0
    go_enter Try.func34, Try.ntmps34
    go_upto_region 1 with fail
    rw [HAe.out]
    clear HAe
    go_wp2
    go_ret
    exact ⟨_, rfl, (Sent.none (NNext.refl HN.out)).before0 HK0.out⟩
  · rw [if_neg h0]
    have hE : p.data.toList.isEmpty = false := by
      have hne := str_some h0
      cases hl : p.data.toList with
      | nil => exact absurd hl hne
      | cons x l => rfl
    have i0 := index_at p.data 0 (by omega) 0 rfl
    obtain ⟨B, hB⟩ : ∃ B, B = (p.data.data.toList.getD 0 0).toNat := ⟨_, rfl⟩
    have hB8 : B < 256 := by rw [hB]; exact UInt8.toNat_lt _
    rw [← hB] at i0 ⊢
    have hwB : IntKind.i64.wrap (B : Int) = (B : Int) := by rw [IntKind.wrap_i64]; omega
    clear hB
    by_cases h1 : 1 ≤ B
    · have h1z : (1 : Int) ≤ (B : Int) := by omega
      by_cases h7 : B ≤ 7
      · have h7z : (B : Int) ≤ 7 := by omega
        rw [if_pos ⟨h1, h7⟩]
        go_enter Try.func34, Try.ntmps34
        go_upto_region 1 with fail
        rw [HAe.out]
        clear HAe
        go_wp2_with fail
        refine H14.out.mono ?_
        rintro e w4 ⟨vo, rfl, vt, l, w5, N5, U⟩
        have HS := hid (Sent.of (NNext.before0 HK0.out N5) U (fun i hi => by cases hi))
        obtain ⟨po, co, rfl⟩ := slice_of U.out.row
        clear U N5
        go_wp2
        go_ret
        exact ⟨_, rfl, HS.out⟩
      · have h7z : ¬ (B : Int) ≤ 7 := by omega
        rw [if_neg (fun h => h7 h.2)]
        go_enter Try.func34, Try.ntmps34
        go_upto_region 1 with fail
        rw [HAe.out]
        clear HAe
        go_wp2_with fail
        refine H13.out.mono ?_
        rintro e w4 ⟨vo, rfl, vt, l, w5, N5, U⟩
        have HS := hid (Sent.of (NNext.before0 HK0.out N5) U (fun i hi => by cases hi))
        obtain ⟨po, co, rfl⟩ := slice_of U.out.row
        clear U N5
        go_wp2
        go_ret
        exact ⟨_, rfl, HS.out⟩
    · have h1z : ¬ (1 : Int) ≤ (B : Int) := by omega
      rw [if_neg (fun h => h1 h.1)]
      go_enter Try.func34, Try.ntmps34
      go_upto_region 1 with fail
      rw [HAe.out]
      clear HAe
      go_wp2_with fail
      refine H13.out.mono ?_
      rintro e w4 ⟨vo, rfl, vt, l, w5, N5, U⟩
      have HS := hid (Sent.of (NNext.before0 HK0.out N5) U (fun i hi => by cases hi))
      obtain ⟨po, co, rfl⟩ := slice_of U.out.row
      clear U N5
      go_wp2
      go_ret
      exact ⟨_, rfl, HS.out⟩
/-- What every packet does. -/
def takeM (ms : List Int) (n : Ng) (p : Pk0) : Ng × List Pk0 :=
  if p.code = 1 then reqN n n.peer p else if p.code = 2 then ackM n p else if p.code = 3 then nakM ms n p else if p.code = 4 then rejM ms n p
  else if p.code = 5 then happenF ⟨p, pk00, []⟩ n 10 else if p.code = 6 then happenF ⟨p, pk00, []⟩ n 11 else if p.code = 7 then rjN n p else happenF ⟨p, pk00, []⟩ n 12

/-- What a Take stands upon. -/
structure TakeA (w A : World) (base b : Nat) (a : Nm) (n : Ng) (p : Pk0) (v : Value) : Prop where
  k : Kept (fun _ => False) w A
  neg : NegIn A base b a n
  pk : PkIn A b a p v
  own : Own4 A w.heap.size (.int .i64 p.code) (.int .i64 p.id) v (.string p.data)
theorem TakeA.of {w : World} {base b : Nat} {a : Nm} {n : Ng} {p : Pk0} {v : Value} (h : NegIn w base b a n) (hp : PkIn w b a p v) : TakeA w (w.alloc (.cells #[.int .i64 p.code, .int .i64 p.id, v, .string p.data] 40)) base b a n p v := by
  have hk0 := (Kept.refl (fun _ => False) w).alloc (.cells #[.int .i64 p.code, .int .i64 p.id, v, .string p.data] 40)
  exact ⟨hk0, h.kept0 hk0, hp.kept0 hk0, own4_new w _ _ _ _ _⟩
theorem NegIn.peerMap {W : World} {base b : Nat} {a : Nm} {n : Ng} (h : NegIn W base b a n) : ∃ mb, a.vp = .map (some mb) := by
  obtain ⟨mb, L, hv, _⟩ := h.peer
  exact ⟨mb, hv⟩

set_option maxHeartbeats 4000000 in
set_option maxRecDepth 100000 in
theorem take_1 {base b : Nat} {a : Nm} {n : Ng} (p : Pk0) (v : Value) (w : World) (h : NegIn w base b a n) (hp : PkIn w b a p v) (hc : p.code = 1) (hsr : ShortR n.peer) :
    Calls Try.prog 16 #[.pointer (some ⟨b, 0, none⟩), pkV p.code p.id v p.data] w fun e w' => ∃ vo, e = .returned vo ∧ Sent w w' base b a (reqN n n.peer p) vo := by
  unfold pkV
  obtain ⟨pv, cv, hv⟩ := hp.at_.1.slice
  have T := TakeA.of h hp
  generalize hAe : w.alloc (.cells #[.int .i64 p.code, .int .i64 p.id, v, .string p.data] 40) = A at *
  have HAe := hid hAe
  obtain ⟨⟨q0, q1, q2, q3⟩, _⟩ := T.own
  have HN := hid (ngNone_any A T.neg)
  obtain ⟨mb, hmb⟩ := T.neg.peerMap
  have HH := hid (fun (W : World) (k : Kept (fun _ => False) A W) => takeRequest_any p v mb n.peer W (T.neg.kept0 k) (T.pk.kept0 k) (by rw [← hmb]; exact (T.neg.kept0 k).peer) hsr)
  have n3 := T.neg.n3
  rw [hmb] at n3
  unfold pkV at HH
  have KD := hid ((Kept.refl (fun _ => False) A).drew)
  rw [hc] at HH q0
  rw [hc] at hAe HAe ⊢
  have HT := hid T
  subst hv
  clear hAe h hp T hc hmb
  go_enter Try.func16, Try.ntmps16
  go_upto_region 1 with fail
  rw [HAe.out]
  clear HAe
  go_wp2_with (first | (go_at_call 27; refine HN.out.mono ?_; rintro e w' ⟨rfl, hw⟩; rw [hw]; clear hw w'))
  go_region_with (first | (go_at_call 30; refine (HH.out _ KD.out).mono ?_; rintro e w4 ⟨vo, rfl, HS0⟩; have HS := hid ((HS0.before0 KD.out).before0 HT.out.k); obtain ⟨po, co, rfl⟩ := HS0.slice; clear HS0))
  all_goals
    go_wp2
    go_ret
    exact ⟨_, rfl, HS.out⟩

set_option maxHeartbeats 4000000 in
set_option maxRecDepth 100000 in
theorem take_2 {base b : Nat} {a : Nm} {n : Ng} (p : Pk0) (v : Value) (w : World) (h : NegIn w base b a n) (hp : PkIn w b a p v) (hc : p.code = 2) :
    Calls Try.prog 16 #[.pointer (some ⟨b, 0, none⟩), pkV p.code p.id v p.data] w fun e w' => ∃ vo, e = .returned vo ∧ Sent w w' base b a (ackM n p) vo := by
  unfold pkV
  obtain ⟨pv, cv, hv⟩ := hp.at_.1.slice
  have T := TakeA.of h hp
  generalize hAe : w.alloc (.cells #[.int .i64 p.code, .int .i64 p.id, v, .string p.data] 40) = A at *
  have HAe := hid hAe
  obtain ⟨⟨q0, q1, q2, q3⟩, _⟩ := T.own
  have HN := hid (ngNone_any A T.neg)
  have HH := hid (takeAckM_any p v A T.neg T.pk)
  rw [hc] at HH q0
  rw [hc] at hAe HAe ⊢
  have HT := hid T
  subst hv
  clear hAe h hp T hc
  go_enter Try.func16, Try.ntmps16
  go_upto_region 1 with fail
  rw [HAe.out]
  clear HAe
  go_wp2_with (first | (go_at_call 27; refine HN.out.mono ?_; rintro e w' ⟨rfl, hw⟩; rw [hw]; clear hw w'))
  refine HH.out.mono ?_
  rintro e w4 ⟨vo, rfl, HS0⟩
  have HS := hid (HS0.before0 HT.out.k)
  obtain ⟨po, co, rfl⟩ := HS0.slice
  clear HS0
  go_wp2
  go_ret
  exact ⟨_, rfl, HS.out⟩

set_option maxHeartbeats 4000000 in
set_option maxRecDepth 100000 in
theorem take_3 {base b : Nat} {a : Nm} {n : Ng} {ms : List Int} (p : Pk0) (v : Value) (w : World) (h : NegIn w base b a n) (hp : PkIn w b a p v) (hc : p.code = 3) (hms : MustAt w a.vu ms) :
    Calls Try.prog 16 #[.pointer (some ⟨b, 0, none⟩), pkV p.code p.id v p.data] w fun e w' => ∃ vo, e = .returned vo ∧ Sent w w' base b a (nakM ms n p) vo := by
  unfold pkV
  obtain ⟨pv, cv, hv⟩ := hp.at_.1.slice
  have T := TakeA.of h hp
  have HMs := hms.kept0 T.k
  generalize hAe : w.alloc (.cells #[.int .i64 p.code, .int .i64 p.id, v, .string p.data] 40) = A at *
  have HAe := hid hAe
  obtain ⟨⟨q0, q1, q2, q3⟩, _⟩ := T.own
  have HN := hid (ngNone_any A T.neg)
  have HH := hid (takeNakM_any p v A T.neg T.pk HMs)
  rw [hc] at HH q0
  rw [hc] at hAe HAe ⊢
  have HT := hid T
  subst hv
  clear hAe h hp T hc hms HMs
  go_enter Try.func16, Try.ntmps16
  go_upto_region 1 with fail
  rw [HAe.out]
  clear HAe
  go_wp2_with (first | (go_at_call 27; refine HN.out.mono ?_; rintro e w' ⟨rfl, hw⟩; rw [hw]; clear hw w'))
  refine HH.out.mono ?_
  rintro e w4 ⟨vo, vt, rfl, HS0, pt, nt, ct, rfl⟩
  have HS := hid (HS0.before0 HT.out.k)
  obtain ⟨po, co, rfl⟩ := HS0.slice
  clear HS0
  go_wp2
  go_ret
  exact ⟨_, rfl, HS.out⟩

set_option maxHeartbeats 4000000 in
set_option maxRecDepth 100000 in
theorem take_4 {base b : Nat} {a : Nm} {n : Ng} {ms : List Int} (p : Pk0) (v : Value) (w : World) (h : NegIn w base b a n) (hp : PkIn w b a p v) (hc : p.code = 4) (hms : MustAt w a.vu ms) :
    Calls Try.prog 16 #[.pointer (some ⟨b, 0, none⟩), pkV p.code p.id v p.data] w fun e w' => ∃ vo, e = .returned vo ∧ Sent w w' base b a (rejM ms n p) vo := by
  unfold pkV
  obtain ⟨pv, cv, hv⟩ := hp.at_.1.slice
  have T := TakeA.of h hp
  have HMs := hms.kept0 T.k
  generalize hAe : w.alloc (.cells #[.int .i64 p.code, .int .i64 p.id, v, .string p.data] 40) = A at *
  have HAe := hid hAe
  obtain ⟨⟨q0, q1, q2, q3⟩, _⟩ := T.own
  have HN := hid (ngNone_any A T.neg)
  have HH := hid (takeRejM_any p v A T.neg T.pk HMs)
  rw [hc] at HH q0
  rw [hc] at hAe HAe ⊢
  have HT := hid T
  subst hv
  clear hAe h hp T hc hms HMs
  go_enter Try.func16, Try.ntmps16
  go_upto_region 1 with fail
  rw [HAe.out]
  clear HAe
  go_wp2_with (first | (go_at_call 27; refine HN.out.mono ?_; rintro e w' ⟨rfl, hw⟩; rw [hw]; clear hw w'))
  refine HH.out.mono ?_
  rintro e w4 ⟨vo, rfl, HS0⟩
  have HS := hid (HS0.before0 HT.out.k)
  obtain ⟨po, co, rfl⟩ := HS0.slice
  clear HS0
  go_wp2
  go_ret
  exact ⟨_, rfl, HS.out⟩

set_option maxHeartbeats 4000000 in
set_option maxRecDepth 100000 in
theorem take_5 {base b : Nat} {a : Nm} {n : Ng} (p : Pk0) (v : Value) (w : World) (h : NegIn w base b a n) (hp : PkIn w b a p v) (hc : p.code = 5) :
    Calls Try.prog 16 #[.pointer (some ⟨b, 0, none⟩), pkV p.code p.id v p.data] w fun e w' => ∃ vo, e = .returned vo ∧ Sent w w' base b a (happenF ⟨p, pk00, []⟩ n 10) vo := by
  unfold pkV
  obtain ⟨pv, cv, hv⟩ := hp.at_.1.slice
  have T := TakeA.of h hp
  generalize hAe : w.alloc (.cells #[.int .i64 p.code, .int .i64 p.id, v, .string p.data] 40) = A at *
  have HAe := hid hAe
  obtain ⟨⟨q0, q1, q2, q3⟩, _⟩ := T.own
  have HN := hid (ngNone_any A T.neg)
  have HH := hid (happen_any ⟨p, pk00, []⟩ v (.slice none 0 0) none 10 ⟨by decide, by decide⟩ A T.neg T.pk.cz)
  unfold czV pk00 at HH
  simp only at HH
  have HR : Hid (({ code := 0, id := 0, opts := [], data := ⟨#[]⟩ } : Pk0) = pk00) := rfl
  rw [hc] at HH q0
  rw [hc] at hAe HAe ⊢
  have HT := hid T
  subst hv
  clear hAe h hp T hc
  go_enter Try.func16, Try.ntmps16
  go_upto_region 1 with fail
  rw [HAe.out]
  clear HAe
  go_wp2_with (first | (go_at_call 27; refine HN.out.mono ?_; rintro e w' ⟨rfl, hw⟩; rw [hw]; clear hw w'))
  refine HH.out.mono ?_
  rintro e w4 ⟨vo, rfl, vt, l, w5, N5, U⟩
  have HS := hid (Sent.of (NNext.before0 HT.out.k N5) U (fun i hi => by cases hi))
  obtain ⟨po, co, rfl⟩ := slice_of U.out.row
  clear U N5
  go_wp2
  go_ret
  exact ⟨_, rfl, HS.out⟩

set_option maxHeartbeats 4000000 in
set_option maxRecDepth 100000 in
theorem take_6 {base b : Nat} {a : Nm} {n : Ng} (p : Pk0) (v : Value) (w : World) (h : NegIn w base b a n) (hp : PkIn w b a p v) (hc : p.code = 6) :
    Calls Try.prog 16 #[.pointer (some ⟨b, 0, none⟩), pkV p.code p.id v p.data] w fun e w' => ∃ vo, e = .returned vo ∧ Sent w w' base b a (happenF ⟨p, pk00, []⟩ n 11) vo := by
  unfold pkV
  obtain ⟨pv, cv, hv⟩ := hp.at_.1.slice
  have T := TakeA.of h hp
  generalize hAe : w.alloc (.cells #[.int .i64 p.code, .int .i64 p.id, v, .string p.data] 40) = A at *
  have HAe := hid hAe
  obtain ⟨⟨q0, q1, q2, q3⟩, _⟩ := T.own
  have HN := hid (ngNone_any A T.neg)
  have HH := hid (happen_any ⟨p, pk00, []⟩ v (.slice none 0 0) none 11 ⟨by decide, by decide⟩ A T.neg T.pk.cz)
  unfold czV pk00 at HH
  simp only at HH
  have HR : Hid (({ code := 0, id := 0, opts := [], data := ⟨#[]⟩ } : Pk0) = pk00) := rfl
  rw [hc] at HH q0
  rw [hc] at hAe HAe ⊢
  have HT := hid T
  subst hv
  clear hAe h hp T hc
  go_enter Try.func16, Try.ntmps16
  go_upto_region 1 with fail
  rw [HAe.out]
  clear HAe
  go_wp2_with (first | (go_at_call 27; refine HN.out.mono ?_; rintro e w' ⟨rfl, hw⟩; rw [hw]; clear hw w'))
  refine HH.out.mono ?_
  rintro e w4 ⟨vo, rfl, vt, l, w5, N5, U⟩
  have HS := hid (Sent.of (NNext.before0 HT.out.k N5) U (fun i hi => by cases hi))
  obtain ⟨po, co, rfl⟩ := slice_of U.out.row
  clear U N5
  go_wp2
  go_ret
  exact ⟨_, rfl, HS.out⟩

set_option maxHeartbeats 4000000 in
set_option maxRecDepth 100000 in
theorem take_7 {base b : Nat} {a : Nm} {n : Ng} (p : Pk0) (v : Value) (w : World) (h : NegIn w base b a n) (hp : PkIn w b a p v) (hc : p.code = 7) :
    Calls Try.prog 16 #[.pointer (some ⟨b, 0, none⟩), pkV p.code p.id v p.data] w fun e w' => ∃ vo, e = .returned vo ∧ Sent w w' base b a (rjN n p) vo := by
  unfold pkV
  obtain ⟨pv, cv, hv⟩ := hp.at_.1.slice
  have T := TakeA.of h hp
  generalize hAe : w.alloc (.cells #[.int .i64 p.code, .int .i64 p.id, v, .string p.data] 40) = A at *
  have HAe := hid hAe
  obtain ⟨⟨q0, q1, q2, q3⟩, _⟩ := T.own
  have HN := hid (ngNone_any A T.neg)
  have HH := hid (takeReject_any p v A T.neg T.pk)
  unfold pkV at HH
  rw [hc] at HH q0
  rw [hc] at hAe HAe ⊢
  have HT := hid T
  subst hv
  clear hAe h hp T hc
  go_enter Try.func16, Try.ntmps16
  go_upto_region 1 with fail
  rw [HAe.out]
  clear HAe
  go_wp2_with (first | (go_at_call 27; refine HN.out.mono ?_; rintro e w' ⟨rfl, hw⟩; rw [hw]; clear hw w'))
  refine HH.out.mono ?_
  rintro e w4 ⟨vo, rfl, HS0⟩
  have HS := hid (HS0.before0 HT.out.k)
  obtain ⟨po, co, rfl⟩ := HS0.slice
  clear HS0
  go_wp2
  go_ret
  exact ⟨_, rfl, HS.out⟩

set_option maxHeartbeats 4000000 in
set_option maxRecDepth 100000 in
theorem take_else {base b : Nat} {a : Nm} {n : Ng} (p : Pk0) (v : Value) (w : World) (h : NegIn w base b a n) (hp : PkIn w b a p v) (h1 : ¬ p.code = 1) (h2 : ¬ p.code = 2) (h3 : ¬ p.code = 3) (h4 : ¬ p.code = 4) (h5 : ¬ p.code = 5) (h6 : ¬ p.code = 6) (h7 : ¬ p.code = 7) :
    Calls Try.prog 16 #[.pointer (some ⟨b, 0, none⟩), pkV p.code p.id v p.data] w fun e w' => ∃ vo, e = .returned vo ∧ Sent w w' base b a (happenF ⟨p, pk00, []⟩ n 12) vo := by
  unfold pkV
  obtain ⟨pv, cv, hv⟩ := hp.at_.1.slice
  have T := TakeA.of h hp
  generalize hAe : w.alloc (.cells #[.int .i64 p.code, .int .i64 p.id, v, .string p.data] 40) = A at *
  have HAe := hid hAe
  obtain ⟨⟨q0, q1, q2, q3⟩, _⟩ := T.own
  have HN := hid (ngNone_any A T.neg)
  have HH := hid (happen_any ⟨p, pk00, []⟩ v (.slice none 0 0) none 12 ⟨by decide, by decide⟩ A T.neg T.pk.cz)
  unfold czV pk00 at HH
  simp only at HH
  have HT := hid T
  subst hv
  clear hAe h hp T
  go_enter Try.func16, Try.ntmps16
  go_upto_region 1 with fail
  rw [HAe.out]
  clear HAe
  go_wp2_with (first | (go_at_call 27; refine HN.out.mono ?_; rintro e w' ⟨rfl, hw⟩; rw [hw]; clear hw w'))
  refine HH.out.mono ?_
  rintro e w4 ⟨vo, rfl, vt, l, w5, N5, U⟩
  have HS := hid (Sent.of (NNext.before0 HT.out.k N5) U (fun i hi => by cases hi))
  obtain ⟨po, co, rfl⟩ := slice_of U.out.row
  clear U N5
  go_wp2
  go_ret
  exact ⟨_, rfl, HS.out⟩

theorem takeM_any {base b : Nat} {a : Nm} {n : Ng} {ms : List Int} (p : Pk0) (v : Value) (w : World) (h : NegIn w base b a n) (hp : PkIn w b a p v) (hms : MustAt w a.vu ms) (hsr : ShortR n.peer) :
    Calls Try.prog 16 #[.pointer (some ⟨b, 0, none⟩), pkV p.code p.id v p.data] w fun e w' => ∃ vo, e = .returned vo ∧ Sent w w' base b a (takeM ms n p) vo := by
  unfold takeM
  split
  · rename_i h1; exact take_1 p v w h hp h1 hsr
  split
  · rename_i h2; exact take_2 p v w h hp h2
  split
  · rename_i h3; exact take_3 p v w h hp h3 hms
  split
  · rename_i h4; exact take_4 p v w h hp h4 hms
  split
  · rename_i h5; exact take_5 p v w h hp h5
  split
  · rename_i h6; exact take_6 p v w h hp h6
  split
  · rename_i h7; exact take_7 p v w h hp h7
  · rename_i h1 h2 h3 h4 h5 h6 h7
    exact take_else p v w h hp h1 h2 h3 h4 h5 h6 h7
end Go.Proofs.Ytcmdfcdmfdheeaa
