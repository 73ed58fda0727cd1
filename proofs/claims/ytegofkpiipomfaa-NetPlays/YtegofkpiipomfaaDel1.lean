/- The contract of slices.Delete of one element. -/
import Derived.Test.YtegofkpiipomfaaSend
namespace Go.Proofs.Ytegofkpiipomfaa
open Go.RowKit

theorem run_append_row {w : World} {g cap : Nat} {l : List Gr} (h : RowG w g cap l) (ad : Addr) (m c : Nat) (news : List Gr) (hl : news.length = m) (hc : ∀ j u, (rowCells news)[j]? = some u → w.cell? (ad.add j) = some u) (hroom : l.length + m ≤ cap) (ty : TypeId) :
    ∃ w', (Builtin.append_ #[31, 31] ty #[.slice (some ⟨g, 0, none⟩) l.length cap, .slice (some ad) m c]).run Try.prog w = .ok (.slice (some ⟨g, 0, none⟩) (l.length + m) cap) w' ∧ RowG w' g cap (l ++ news) ∧ w.grownBy w' (some g) := by
  obtain ⟨i0, hi0, hz0, hz1, hz2⟩ := info_parts infoGram
  obtain ⟨w', h1, h2, h3⟩ := run_append_fits (P := Try.prog) w 0 31 ty 56 i0 4 Try.underlying31 hi0 hz1 g l.length cap (rowCells l) h ad m c (rowCells news) (by rw [rowCells_length, hl]) hc (rowCells_oneCell news) hroom
  refine ⟨w', h1, ?_, h3⟩
  unfold RowG
  rw [rowCells_append, List.length_append, hl]
  exact h2

/-- 'append' whose run is known, in a region that draws. -/
theorem step_append_run {P : Program} {ops : Array Oper} {o : Oper} {a : Act} {w : World} {K : Act → World → Prop} {Q : Exit → Act → World → Prop} {E : Prop} (hg : o.guard = none) (d x : Operand) (t : TypeId) (hop : o.op = Op.call { callee := Callee.builtin Builtin.append, args := #[d, x], argTypes := #[t, t] })
    (v u : Value) (hd : a.eval d = v) (hx : a.eval x = u) {v' : Value} {w' : World} (hr : (Builtin.append_ #[t, t] o.type #[v, u]).run P w = .ok v' w') (hK : K (a.put o.dst v') w') :
    if Region.wanted o (yielded ops a.tmps) = true then Oper.wp P o a w K Q else E := by
  rw [if_pos (by simp [Region.wanted, hg])]
  unfold Oper.wp execOp
  simp only [hop, resolve, invoke, builtin, Sem.run_bind, Sem.run_pure, Result.andThen_ok, List.map_toArray, List.map_cons, List.map_nil, hd, hx, hr]
  exact hK

theorem erase_split (l : List Gr) (j : Nat) : l.eraseIdx j = l.take j ++ l.drop (j + 1) := List.eraseIdx_eq_take_drop_succ l j

set_option maxHeartbeats 1000000 in
set_option maxRecDepth 100000 in
theorem del1_row (g cap n j : Nat) (l : List Gr) (hn : l.length = n) (hj : j < n) (w : World) (hr : RowG w g cap l) :
    Calls Try.prog 40 #[.slice (some ⟨g, 0, none⟩) n cap, .int .i64 (j : Int), .int .i64 ((j : Int) + 1)] w fun e w' =>
      e = .returned (.slice (some ⟨g, 0, none⟩) (n - 1) cap) ∧ RowG w' g cap (l.eraseIdx j) ∧ Kept (fun i => i = g) w w' := by
  have hlc := hr.le
  have h63 := hr.le63
  have hpre := (hr.ahead j).same (w' := w.drew) rfl
  have hpl : (l.take j).length = j := by rw [List.length_take]; omega
  have hrun : ∃ w', (∀ ty, (Builtin.append_ #[31, 31] ty #[.slice (some ⟨g, 0, none⟩) j cap, .slice (some ⟨g, if cap = j + 1 then 0 else (j + 1) * 4, none⟩) (n - (j + 1)) (cap - (j + 1))]).run Try.prog w.drew = .ok (.slice (some ⟨g, 0, none⟩) (n - 1) cap) w') ∧ RowG w' g cap (l.eraseIdx j) ∧ w.drew.grownBy w' (some g) := by
    obtain ⟨w', h1, h2, h3⟩ := run_append_row hpre ⟨g, if cap = j + 1 then 0 else (j + 1) * 4, none⟩ (n - (j + 1)) (cap - (j + 1)) (l.drop (j + 1)) (by rw [List.length_drop, hn]) (fun q u hu => by
      have hq : q < (rowCells (l.drop (j + 1))).length := (List.getElem?_eq_some_iff.1 hu).1
      rw [rowCells_length, List.length_drop] at hq
      have hne : ¬ (cap = j + 1) := by omega
      rw [if_neg hne, Addr.add_lit, ← hu, ← rowCells_drop, List.getElem?_drop]
      exact World.ownsRow.cellAt hr _ (by omega)) (by rw [hpl]; omega) 0
    rw [hpl, show j + (n - (j + 1)) = n - 1 by omega] at h1
    rw [← erase_split] at h2
    exact ⟨w', fun ty => h1, h2, h3⟩
  obtain ⟨w', hrun, hrow, hgrow⟩ := hrun
  have hce := fun ty => run_clear_row hrow (n - 1) 1 (cap - (n - 1)) ty (by omega) (by omega)
  have HR : Hid (RowG (w'.setCells g ((n - 1) * 4) (Builtin.zeroCells z4.cells 1).toList) g cap (l.eraseIdx j)) := hrow.behind _ _ (by rw [List.length_eraseIdx, if_pos (by omega), hn]; exact Nat.le_refl _) (by rw [z4_len]; omega)
  have HK : Hid (Kept (fun i => i = g) w (w'.setCells g ((n - 1) * 4) (Builtin.zeroCells z4.cells 1).toList)) :=
    (((Kept.refl _ w).drew).grown hgrow (fun j hj => Or.inr (Option.some.inj hj).symm)).grown (grown_setCells _ _ _) (fun j hj => Or.inr (Option.some.inj hj).symm)
  rw [hn] at hlc
  clear hr hpre hpl hrow hgrow
  generalize w'.setCells g ((n - 1) * 4) (Builtin.zeroCells z4.cells 1).toList = wz at *
  have hnc : ¬ (cap = n - 1) := by omega
  have hnn : n - (n - 1) = 1 := by omega
  have hb1 : j ≤ cap := by omega
  have hb2 : (j : Int) ≤ (j : Int) + 1 := by omega
  have hb3 : (j : Int) + 1 ≤ (n : Int) := by omega
  have hb4 : (0 : Int) ≤ (j : Int) + 1 := by omega
  have hb5 : ((j : Int) + 1).toNat = j + 1 := by omega
  have hb6 : j + 1 ≤ n := hj
  by_cases hcap : cap = j + 1
  · rw [if_pos hcap] at hrun
    subst hcap
    rw [Nat.sub_self] at hrun
    go_enter Try.func40, Try.ntmps40
    go_wp2
    go_region_law (refine step_append_run rfl (.tmp 22) (.tmp 25) 31 rfl (.slice (some ⟨g, 0, none⟩) j (j + 1)) (.slice (some ⟨g, 0, none⟩) (n - (j + 1)) 0) (by simp [Act.eval, Act.put]) (by simp [Act.eval, Act.put]; omega) (hrun _) ?_)
    all_goals go_wp2
    all_goals go_ret
    all_goals exact ⟨rfl, HR.out, HK.out⟩
  · rw [if_neg hcap] at hrun
    go_enter Try.func40, Try.ntmps40
    go_wp2
    go_region_law (refine step_append_run rfl (.tmp 22) (.tmp 25) 31 rfl (.slice (some ⟨g, 0, none⟩) j cap) (.slice (some ⟨g, (j + 1) * 4, none⟩) (n - (j + 1)) (cap - (j + 1))) (by simp [Act.eval, Act.put]) (by simp [Act.eval, Act.put]) (hrun _) ?_)
    all_goals go_wp2
    all_goals go_ret
    all_goals exact ⟨rfl, HR.out, HK.out⟩

/-- The datagram at the place j, and its answer. -/
def getG (l : List Gr) (j : Nat) : Gr := l.getD j ⟨0, 0, ⟨#[]⟩, 0⟩

theorem getG_at {l : List Gr} {j : Nat} (h : j < l.length) : l[j]? = some (getG l j) := by
  unfold getG
  simp [h]

section
variable {S : Nat → Prop} {w : World} {b : Nat} {s : NetSt}

set_option maxHeartbeats 1000000 in
set_option maxRecDepth 100000 in
theorem take_any (h : NetAt S w b s) (j : Nat) (hj : j < s.grams.length) :
    Calls Try.prog 32 #[.pointer (some ⟨b, 0, none⟩), .int .i64 (j : Int)] w fun e w' => e = .returned (grV (getG s.grams j)) ∧ Next S w w' b { s with grams := s.grams.eraseIdx j } := by
  obtain ⟨gv, tm, cm, hN, hS⟩ := h
  rcases hN.own.cases with ⟨_, e⟩ | ⟨g, cap, rfl, _, hr⟩
  · rw [e] at hj
    cases hj
  have h63 : s.grams.length ≤ 9223372036854775807 := Nat.le_trans hr.le hr.le63
  have c0 := fun o => (hN.alloc o).c0
  have c0' := fun o o' => ((hN.alloc o).alloc o').c0
  have hrow := fun o => (hr.same (((Kept.refl (fun _ => False) w).alloc o).block g hr.lt id)).cells4 (getG_at hj)
  have r0 := fun o => (hrow o).1
  have r1 := fun o => (hrow o).2.1
  have r2 := fun o => (hrow o).2.2.1
  have r3 := fun o => (hrow o).2.2.2
  have Hd := hid (fun o o' => del1_row g cap s.grams.length j s.grams rfl hj ((w.alloc o).alloc o') (hr.same ((((Kept.refl (fun _ => False) w).alloc o).alloc o').block g hr.lt id)))
  have HN := hid hN
  have HS := hid hS
  have hlt := hN.lt (Or.inl rfl)
  have hgb : b ≠ g := fun e => hN.ng (by rw [e]; rfl)
  have Hg := hid hr.lt
  clear hr hN hS hrow
  unfold grV
  generalize getG s.grams j = x at *
  have hjz : (j : Int) < (s.grams.length : Int) := by omega
  go_enter Try.func32, Try.ntmps32
  go_wp2_with fail
  refine (Hd.out _ _).mono ?_
  rintro e w2 ⟨rfl, hr2, hk2⟩
  have hgl := Hg.out
  obtain ⟨oR, hoR⟩ : ∃ o, o = Obj.cells #[.int .i64 0, .int .i64 0, .string ⟨#[]⟩, .int .i64 0] 56 := ⟨_, rfl⟩
  obtain ⟨oX, hoX⟩ : ∃ o, o = Obj.cells #[.int .i64 x.src, .int .i64 x.dst, .string x.data, .int .i64 x.turn] 56 := ⟨_, rfl⟩
  rw [← hoR, ← hoX] at hk2
  have hR : w2.heap[w.heap.size]? = some oR := (hk2.block w.heap.size (by simp; omega) (fun e => by omega)).trans ((((Kept.refl (fun _ => False) (w.alloc oR)).alloc oX).block w.heap.size (by simp) id).trans (heap_alloc_new w oR))
  have hX : w2.heap[w.heap.size + 1]? = some oX := (hk2.block (w.heap.size + 1) (by simp) (fun e => by omega)).trans (by have := heap_alloc_new (w.alloc oR) oX; rwa [World.size_alloc] at this)
  have d0 : w2.cell? ⟨b, 0, none⟩ = some (.slice (some ⟨g, 0, none⟩) s.grams.length cap) := (hk2.cell (p := ⟨b, 0, none⟩) (by simp; omega) hgb).trans (c0' oR oX)
  have df : w2.frozen? ⟨b, 0, none⟩ = false := (hk2.frozen (p := ⟨b, 0, none⟩) (by simp; omega) hgb).trans (((HN.out.alloc oR).alloc oX).f 0)
  have R0 : w2.cell? ⟨w.heap.size, 0, none⟩ = some (.int .i64 0) := by simp only [World.cell?, hR, hoR]; rfl
  have R1 : w2.cell? ⟨w.heap.size, 1, none⟩ = some (.int .i64 0) := by simp only [World.cell?, hR, hoR]; rfl
  have R2 : w2.cell? ⟨w.heap.size, 2, none⟩ = some (.string ⟨#[]⟩) := by simp only [World.cell?, hR, hoR]; rfl
  have R3 : w2.cell? ⟨w.heap.size, 3, none⟩ = some (.int .i64 0) := by simp only [World.cell?, hR, hoR]; rfl
  have RF : ∀ j, w2.frozen? ⟨w.heap.size, j, none⟩ = false := fun j => by simp [World.frozen?, hR, hoR]
  have F0 := RF 0
  have F1 := RF 1
  have F2 := RF 2
  have F3 := RF 3
  have X0 : w2.cell? ⟨w.heap.size + 1, 0, none⟩ = some (.int .i64 x.src) := by simp only [World.cell?, hX, hoX]; rfl
  have X1 : w2.cell? ⟨w.heap.size + 1, 1, none⟩ = some (.int .i64 x.dst) := by simp only [World.cell?, hX, hoX]; rfl
  have X2 : w2.cell? ⟨w.heap.size + 1, 2, none⟩ = some (.string x.data) := by simp only [World.cell?, hX, hoX]; rfl
  have X3 : w2.cell? ⟨w.heap.size + 1, 3, none⟩ = some (.int .i64 x.turn) := by simp only [World.cell?, hX, hoX]; rfl
  have hlen : s.grams.length - 1 = (s.grams.eraseIdx j).length := by rw [List.length_eraseIdx, if_pos hj]
  have fin : Hid (∀ vs, Next S w ((w2.setCell ⟨b, 0, none⟩ (.slice (some ⟨g, 0, none⟩) (s.grams.length - 1) cap)).setCells w.heap.size 0 vs) b { s with grams := s.grams.eraseIdx j }) := fun vs => by
    have hN1 := ((HN.out.alloc oR).alloc oX).rerow (gv' := .slice (some ⟨g, 0, none⟩) (s.grams.length - 1) cap) (l := s.grams.eraseIdx j) (hk2.mono (fun i _ e => by rw [e]; rfl)) (by rw [hlen]; exact hr2.own (Nat.zero_le _)) (fun i hi => Or.inl hi)
    have hK1 : Kept (ofNet b (.slice (some ⟨g, 0, none⟩) s.grams.length cap) tm cm) w (w2.setCell ⟨b, 0, none⟩ (.slice (some ⟨g, 0, none⟩) (s.grams.length - 1) cap)) := ((((Kept.refl (ofNet b (.slice (some ⟨g, 0, none⟩) s.grams.length cap) tm cm) w).alloc oR).alloc oX).andThen hk2 (fun i _ e => Or.inr (Or.inl (by rw [e]; rfl)))).setCell (p := ⟨b, 0, none⟩) (Or.inr (Or.inl rfl)) _
    have hgw := grown_setCells (g := w.heap.size) vs 0 (w2.setCell ⟨b, 0, none⟩ (.slice (some ⟨g, 0, none⟩) (s.grams.length - 1) cap))
    have hsame : ∀ i, ofNet b (.slice (some ⟨g, 0, none⟩) (s.grams.length - 1) cap) tm cm i ↔ ofNet b (.slice (some ⟨g, 0, none⟩) s.grams.length cap) tm cm i := fun i => Iff.rfl
    refine ⟨_, ⟨_, _, _, hN1.same (fun i hi => ?_), fun _ => Iff.rfl⟩, fun i hi => Or.inl ((HS.out i).2 ((hsame i).1 hi)), (hK1.grown hgw (fun j hj => Or.inl (Nat.le_of_eq (Option.some.inj hj)))).mono (fun i _ h => (HS.out i).2 h)⟩
    have hlt' := HN.out.lt ((hsame i).1 hi)
    exact hgw.block i (hN1.lt hi) (fun e => by have := Option.some.inj e; omega)
  clear hlen hR hX hk2 hr2 Hd hoR hoX RF r0 r1 r2 r3 c0 c0' hgl
  go_wp2
  (try simp only [Exit.inBlock, Exit.then])
  refine bodyPost_ret (v := .agg #[.int .i64 x.src, .int .i64 x.dst, .string x.data, .int .i64 x.turn]) (by simp [results, Try.results32, go_sem, R0, R1, R2, R3]) rfl ⟨rfl, ?_⟩
  exact fin.out [.int .i64 x.src, .int .i64 x.dst, .string x.data, .int .i64 x.turn]

end
end Go.Proofs.Ytegofkpiipomfaa
