/- Go's comparison of two values of messages; the contracts of slices.Equal and avp.Same. -/
import Derived.Test.YtkneogfeokckjaaDoorAvPut
import Derived.Deep.RegionHeld
import Derived.DeepKeys
namespace Go.Proofs.YtkneogfeokckjaaDoor
open Go.RowKit

theorem cellsAvp : Tryd.prog.cellsOf 43 = 5 := by kernel_rfl
theorem cellsBoolV : Tryd.prog.cellsOf 4 = 1 := by kernel_rfl
theorem cellsIntV : Tryd.prog.cellsOf 3 = 1 := by kernel_rfl
theorem cellsStrV : Tryd.prog.cellsOf 9 = 1 := by kernel_rfl
/-- Its numbers are ints, its text no longer than one may be. -/
structure GoodA (x : Av) : Prop where
  vendor : -9223372036854775808 ≤ x.vendor ∧ x.vendor ≤ 9223372036854775807
  type : -9223372036854775808 ≤ x.type ∧ x.type ≤ 9223372036854775807
  value : x.value.size ≤ maxLen
theorem avLits (d : Nat) {x : Av} (h : GoodA x) : Tryd.prog.keyLits (d + 2) 43 (avCells x) = some [.bool x.must, .bool x.hidden, .int .i64 x.vendor, .int .i64 x.type, .string x.value.data.toList] := by
  have hb : ∀ q : Bool, Tryd.prog.keyLits (d + 1) 4 [.bool q] = some [.bool q] := fun q => by
    unfold Program.keyLits
    rw [Tryd.underlying4]
  have hn : ∀ z : Int, -9223372036854775808 ≤ z ∧ z ≤ 9223372036854775807 → Tryd.prog.keyLits (d + 1) 3 [.int .i64 z] = some [.int .i64 z] := fun z hz => by
    unfold Program.keyLits
    rw [Tryd.underlying3]
    simp [WalkArith.wf_i64 hz]
  have hs : Tryd.prog.keyLits (d + 1) 9 [.string x.value] = some [.string x.value.data.toList] := by
    unfold Program.keyLits
    rw [Tryd.underlying9]
    simp [h.value]
  unfold Program.keyLits
  rw [Tryd.underlying43]
  simp [cellsAvp, cellsBoolV, cellsIntV, cellsStrV, avCells, hb, hn _ h.vendor, hn _ h.type, hs]
set_option maxRecDepth 100000 in
theorem av_eq {x y : Av} (hx : GoodA x) (hy : GoodA y) (W : World) : Sem.run Tryd.prog (Op.equalIn 10000 43 (avV x) (avV y)) W = .ok (sameA x y) W := by
  have hk : Tryd.prog.keyTypeAt 2 43 = true := by kernel_rfl
  have hf : ∀ x : Av, (avV x).formed Tryd.prog 43 = true := fun x => by simp [avV, Value.formed, Tryd.underlying43, cellsAvp]
  obtain ⟨r, hr, hiff⟩ := run_equalIn_deep (P := Tryd.prog) 9998 2 43 hk W 2 2 (avV x) (avV y) _ _ (hf x) (hf y) (avLits 0 hx) (avLits 0 hy)
  have hr' : (Op.equalIn 10000 43 (avV x) (avV y)).run Tryd.prog W = .ok r W := hr
  rw [hr']
  congr 1
  rw [Bool.eq_iff_iff, hiff, sameA_iff]
  constructor
  · intro h
    simp only [List.cons.injEq, Lit.int.injEq, Lit.bool.injEq, Lit.string.injEq, true_and, and_true] at h
    obtain ⟨h1, h2, h3, h4, h5⟩ := h
    cases x
    cases y
    simp only at h1 h2 h3 h4 h5
    rw [h1, h2, h3, h4, bytes_ext h5]
  · rintro rfl
    rfl
/-- '==' and '!=' of two structs, in a region that draws. -/
theorem avOp_eql {P : Program} {f : Operand → Value} {o : Oper} {t t' : TypeId} {x y : Nat} {A A' : Array Value} {B : Bool} {W : World} (hm : P.eqGuardType P.depth t = false) (ho : o.op = Op.binOp .eql t (.tmp x) (.tmp y) t') (hx : f (.tmp x) = .agg A) (hy : f (.tmp y) = .agg A') (h : (Op.equalIn 10000 t (.agg A) (.agg A')).run P W = .ok B W) : Sem.run P (execOp f o) W = .ok (Next.value (.bool B)) W := by
  unfold execOp
  simp only [ho, hx, hy, binOp]
  simp [go_sem, hm, Op.equal, Op.maxDepth, h]
theorem avOp_neq {P : Program} {f : Operand → Value} {o : Oper} {t t' : TypeId} {x y : Nat} {A A' : Array Value} {B : Bool} {W : World} (hm : P.eqGuardType P.depth t = false) (ho : o.op = Op.binOp .neq t (.tmp x) (.tmp y) t') (hx : f (.tmp x) = .agg A) (hy : f (.tmp y) = .agg A') (h : (Op.equalIn 10000 t (.agg A) (.agg A')).run P W = .ok B W) : Sem.run P (execOp f o) W = .ok (Next.value (.bool (!B))) W := by
  unfold execOp
  simp only [ho, hx, hy, binOp]
  simp [go_sem, hm, Op.equal, Op.maxDepth, h]

theorem take_eq {α : Type} {l m : List α} {j : Nat} {x : α} (h : l.take j = m.take j) (hx : l[j]? = some x) (hy : m[j]? = some x) : l.take (j + 1) = m.take (j + 1) := by rw [take_next hx, take_next hy, h]

set_option maxHeartbeats 4000000 in
set_option maxRecDepth 100000 in
theorem equalA_any (v u : Value) (l m : List Av) (w : World) (hv : AvsAt w v l) (hu : AvsAt w u m) (hl : l.length ≤ 1000000) (gl : ∀ x ∈ l, GoodA x) (gm : ∀ x ∈ m, GoodA x) :
    Calls Tryd.prog 34 #[v, u] w fun e w' => e = .returned (.bool (sameL l m)) ∧ Kept (fun _ => False) w w' := by
  obtain ⟨p, cap, rfl⟩ := RowsAt.slice hv
  obtain ⟨q, cbp, rfl⟩ := RowsAt.slice hu
  by_cases hlen : l.length = m.length
  · have hne : ((l.length : Int) != (m.length : Int)) = false := by simp [hlen]
    have HV := hid (fun W (hk : Kept (fun _ => False) w W) => RowsAt.kept0 hv hk)
    have HU := hid (fun W (hk : Kept (fun _ => False) w W) => RowsAt.kept0 hu hk)
    have HL := hid hlen
    have GL := hid gl
    have GM := hid gm
    clear hv hu hlen gl gm
    go_enter Tryd.func34, Tryd.ntmps34
    go_wp2
    go_loopw [13] (fun vi wr => ∃ j : Nat, j ≤ l.length ∧ vi = .int .i64 (j : Int) ∧ Hid (l.take j = m.take j ∧ Kept (fun _ => False) w wr)) (fun vi _ => l.length - (intOf vi).toNat)
    case atStart => exact ⟨0, Nat.zero_le _, rfl, rfl, Kept.refl _ _⟩
    case round =>
      obtain ⟨j, hj, rfl, HI⟩ := hrel
      by_cases hlt : j < l.length
      · have hltz : (j : Int) < (l.length : Int) := by omega
        have hltm : (j : Int) < (m.length : Int) := by have := HL.out; omega
        obtain ⟨x, hx⟩ : ∃ x, l[j]? = some x := ⟨l[j], by simp [hlt]⟩
        obtain ⟨y, hy⟩ : ∃ y, m[j]? = some y := ⟨m[j]'(by have := HL.out; omega), by simp⟩
        have hq : ∀ W, Sem.run Tryd.prog (Op.equalIn 10000 43 (avV x) (avV y)) W = .ok (sameA x y) W := av_eq (GL.out x (List.mem_of_getElem? hx)) (GM.out y (List.mem_of_getElem? hy))
        obtain ⟨g, o, rfl, hcap, _⟩ := AvsAt.at5 (HV.out _ HI.out.2) hx
        obtain ⟨g2, o2, rfl, hcbp, _⟩ := AvsAt.at5 (HU.out _ HI.out.2) hy
        have A1 := hid (fun W (hk : Kept (fun _ => False) wr W) => AvsAt.at5 (HV.out W (HI.out.2.trans hk)) hx)
        have A2 := hid (fun W (hk : Kept (fun _ => False) wr W) => AvsAt.at5 (HU.out W (HI.out.2.trans hk)) hy)
        have c0 : ∀ W, Kept (fun _ => False) wr W → W.cell? ⟨g, o + j * 5, none⟩ = some (.bool x.must) := fun W hk => by
          obtain ⟨g', o', e', _, q⟩ := A1.out W hk
          simp only [Option.some.injEq, Addr.mk.injEq, and_true] at e'
          obtain ⟨rfl, rfl⟩ := e'
          exact q.1
        have c1 : ∀ W, Kept (fun _ => False) wr W → W.cell? ⟨g, o + j * 5 + 1, none⟩ = some (.bool x.hidden) := fun W hk => by
          obtain ⟨g', o', e', _, q⟩ := A1.out W hk
          simp only [Option.some.injEq, Addr.mk.injEq, and_true] at e'
          obtain ⟨rfl, rfl⟩ := e'
          exact q.2.1
        have c2 : ∀ W, Kept (fun _ => False) wr W → W.cell? ⟨g, o + j * 5 + 2, none⟩ = some (.int .i64 x.vendor) := fun W hk => by
          obtain ⟨g', o', e', _, q⟩ := A1.out W hk
          simp only [Option.some.injEq, Addr.mk.injEq, and_true] at e'
          obtain ⟨rfl, rfl⟩ := e'
          exact q.2.2.1
        have c3 : ∀ W, Kept (fun _ => False) wr W → W.cell? ⟨g, o + j * 5 + 3, none⟩ = some (.int .i64 x.type) := fun W hk => by
          obtain ⟨g', o', e', _, q⟩ := A1.out W hk
          simp only [Option.some.injEq, Addr.mk.injEq, and_true] at e'
          obtain ⟨rfl, rfl⟩ := e'
          exact q.2.2.2.1
        have c4 : ∀ W, Kept (fun _ => False) wr W → W.cell? ⟨g, o + j * 5 + 4, none⟩ = some (.string x.value) := fun W hk => by
          obtain ⟨g', o', e', _, q⟩ := A1.out W hk
          simp only [Option.some.injEq, Addr.mk.injEq, and_true] at e'
          obtain ⟨rfl, rfl⟩ := e'
          exact q.2.2.2.2
        have d0 : ∀ W, Kept (fun _ => False) wr W → W.cell? ⟨g2, o2 + j * 5, none⟩ = some (.bool y.must) := fun W hk => by
          obtain ⟨g', o', e', _, q⟩ := A2.out W hk
          simp only [Option.some.injEq, Addr.mk.injEq, and_true] at e'
          obtain ⟨rfl, rfl⟩ := e'
          exact q.1
        have d1 : ∀ W, Kept (fun _ => False) wr W → W.cell? ⟨g2, o2 + j * 5 + 1, none⟩ = some (.bool y.hidden) := fun W hk => by
          obtain ⟨g', o', e', _, q⟩ := A2.out W hk
          simp only [Option.some.injEq, Addr.mk.injEq, and_true] at e'
          obtain ⟨rfl, rfl⟩ := e'
          exact q.2.1
        have d2 : ∀ W, Kept (fun _ => False) wr W → W.cell? ⟨g2, o2 + j * 5 + 2, none⟩ = some (.int .i64 y.vendor) := fun W hk => by
          obtain ⟨g', o', e', _, q⟩ := A2.out W hk
          simp only [Option.some.injEq, Addr.mk.injEq, and_true] at e'
          obtain ⟨rfl, rfl⟩ := e'
          exact q.2.2.1
        have d3 : ∀ W, Kept (fun _ => False) wr W → W.cell? ⟨g2, o2 + j * 5 + 3, none⟩ = some (.int .i64 y.type) := fun W hk => by
          obtain ⟨g', o', e', _, q⟩ := A2.out W hk
          simp only [Option.some.injEq, Addr.mk.injEq, and_true] at e'
          obtain ⟨rfl, rfl⟩ := e'
          exact q.2.2.2.1
        have d4 : ∀ W, Kept (fun _ => False) wr W → W.cell? ⟨g2, o2 + j * 5 + 4, none⟩ = some (.string y.value) := fun W hk => by
          obtain ⟨g', o', e', _, q⟩ := A2.out W hk
          simp only [Option.some.injEq, Addr.mk.injEq, and_true] at e'
          obtain ⟨rfl, rfl⟩ := e'
          exact q.2.2.2.2
        have HN : Hid ((sameA x y = false → sameL l m = false) ∧ (sameA x y = true → l.take (j + 1) = m.take (j + 1))) :=
          ⟨fun h => sameL_at hx hy h, fun h => take_eq HI.out.1 hx (by rw [sameA_iff.1 h]; exact hy)⟩
        have HK := hid HI.out.2.drew
        clear HI A1 A2 hx hy
        unfold avV at hq
        cases hs : sameA x y with
        | false =>
          rw [hs] at hq
          have HP := hid (HN.out.1 hs)
          clear HN hs
          go_upto_region 6 with fail
          refine wp_region_held_drew (S := Kept (fun _ => False) wr) (by kernel_rfl) ((Kept.refl _ wr).drew) (fun hSd => ?_)
          refine wpAnyH_take (i := 0) (v := ?_) rfl (by kernel_rfl) (by kernel_rfl) (by kernel_rfl) (fun _ _ _ h => h) (Or.inl ⟨by kernel_rfl, fun W hSW => by go_simp; try with_reducible rfl⟩) (by assumption) ?_
          try simp only [List.getElem_toArray]
          try simp only [List.getElem_cons_succ]
          try simp only [List.getElem_cons_zero]
          try simp only [Act.put]
          try simp only [List.setIfInBounds_toArray]
          try simp only [List.set_cons_succ]
          try simp only [List.set_cons_zero]
          refine wpAnyH_take (i := 1) (v := ?_) rfl (by kernel_rfl) (by kernel_rfl) (by kernel_rfl) (fun _ _ _ h => h) (Or.inl ⟨by kernel_rfl, fun W hSW => by go_simp; try with_reducible rfl⟩) (by assumption) ?_
          try simp only [List.getElem_toArray]
          try simp only [List.getElem_cons_succ]
          try simp only [List.getElem_cons_zero]
          try simp only [Act.put]
          try simp only [List.setIfInBounds_toArray]
          try simp only [List.set_cons_succ]
          try simp only [List.set_cons_zero]
          refine wpAnyH_take (i := 2) (v := ?_) rfl (by kernel_rfl) (by kernel_rfl) (by kernel_rfl) (fun _ _ _ h => h) (Or.inl ⟨by kernel_rfl, fun W hSW => by go_simp; try with_reducible rfl⟩) (by assumption) ?_
          try simp only [List.getElem_toArray]
          try simp only [List.getElem_cons_succ]
          try simp only [List.getElem_cons_zero]
          try simp only [Act.put]
          try simp only [List.setIfInBounds_toArray]
          try simp only [List.set_cons_succ]
          try simp only [List.set_cons_zero]
          refine wpAnyH_take (i := 3) (v := ?_) rfl (by kernel_rfl) (by kernel_rfl) (by kernel_rfl) (fun _ _ _ h => h) (Or.inl ⟨by kernel_rfl, fun W hSW => by go_simp; try with_reducible rfl⟩) (by assumption) ?_
          try simp only [List.getElem_toArray]
          try simp only [List.getElem_cons_succ]
          try simp only [List.getElem_cons_zero]
          try simp only [Act.put]
          try simp only [List.setIfInBounds_toArray]
          try simp only [List.set_cons_succ]
          try simp only [List.set_cons_zero]
          refine wpAnyH_take (i := 4) (v := ?_) rfl (by kernel_rfl) (by kernel_rfl) (by kernel_rfl) (fun _ _ _ h => h) (Or.inl ⟨by kernel_rfl, fun W hSW => by go_simp; try with_reducible rfl⟩) (by assumption) ?_
          try simp only [List.getElem_toArray]
          try simp only [List.getElem_cons_succ]
          try simp only [List.getElem_cons_zero]
          try simp only [Act.put]
          try simp only [List.setIfInBounds_toArray]
          try simp only [List.set_cons_succ]
          try simp only [List.set_cons_zero]
          refine wpAnyH_take (i := 5) (v := ?_) rfl (by kernel_rfl) (by kernel_rfl) (by kernel_rfl) (fun _ _ _ h => h) (Or.inl ⟨by kernel_rfl, fun W hSW => by go_simp; try with_reducible rfl⟩) (by assumption) ?_
          try simp only [List.getElem_toArray]
          try simp only [List.getElem_cons_succ]
          try simp only [List.getElem_cons_zero]
          try simp only [Act.put]
          try simp only [List.setIfInBounds_toArray]
          try simp only [List.set_cons_succ]
          try simp only [List.set_cons_zero]
          refine wpAnyH_take (i := 6) (v := ?_) rfl (by kernel_rfl) (by kernel_rfl) (by kernel_rfl) (fun _ _ _ h => h) (Or.inl ⟨by kernel_rfl, fun W hSW => by go_simp; try with_reducible rfl⟩) (by assumption) ?_
          try simp only [List.getElem_toArray]
          try simp only [List.getElem_cons_succ]
          try simp only [List.getElem_cons_zero]
          try simp only [Act.put]
          try simp only [List.setIfInBounds_toArray]
          try simp only [List.set_cons_succ]
          try simp only [List.set_cons_zero]
          refine wpAnyH_take (i := 7) (v := ?_) rfl (by kernel_rfl) (by kernel_rfl) (by kernel_rfl) (fun _ _ _ h => h) (Or.inl ⟨by kernel_rfl, fun W hSW => by go_simp; try with_reducible rfl⟩) (by assumption) ?_
          try simp only [List.getElem_toArray]
          try simp only [List.getElem_cons_succ]
          try simp only [List.getElem_cons_zero]
          try simp only [Act.put]
          try simp only [List.setIfInBounds_toArray]
          try simp only [List.set_cons_succ]
          try simp only [List.set_cons_zero]
          refine wpAnyH_take (i := 8) (v := .bool (!false)) rfl (by kernel_rfl) (by kernel_rfl) (by kernel_rfl) (fun _ _ _ h => h) (Or.inl ⟨by kernel_rfl, fun W _ => avOp_neq Tryd.eqGuardType43 rfl rfl rfl (hq W)⟩) (by assumption) ?_
          try simp only [List.getElem_toArray]
          try simp only [List.getElem_cons_succ]
          try simp only [List.getElem_cons_zero]
          try simp only [Act.put]
          try simp only [List.setIfInBounds_toArray]
          try simp only [List.set_cons_succ]
          try simp only [List.set_cons_zero]
          refine wpAnyH_done (by kernel_rfl) ?_ _
          go_wp2
          go_ret
          exact ⟨by rw [HP.out]; rfl, HK.out⟩
        | true =>
          rw [hs] at hq
          have HP := hid (HN.out.2 hs)
          clear HN hs
          go_upto_region 6 with fail
          refine wp_region_held_drew (S := Kept (fun _ => False) wr) (by kernel_rfl) ((Kept.refl _ wr).drew) (fun hSd => ?_)
          refine wpAnyH_take (i := 0) (v := ?_) rfl (by kernel_rfl) (by kernel_rfl) (by kernel_rfl) (fun _ _ _ h => h) (Or.inl ⟨by kernel_rfl, fun W hSW => by go_simp; try with_reducible rfl⟩) (by assumption) ?_
          try simp only [List.getElem_toArray]
          try simp only [List.getElem_cons_succ]
          try simp only [List.getElem_cons_zero]
          try simp only [Act.put]
          try simp only [List.setIfInBounds_toArray]
          try simp only [List.set_cons_succ]
          try simp only [List.set_cons_zero]
          refine wpAnyH_take (i := 1) (v := ?_) rfl (by kernel_rfl) (by kernel_rfl) (by kernel_rfl) (fun _ _ _ h => h) (Or.inl ⟨by kernel_rfl, fun W hSW => by go_simp; try with_reducible rfl⟩) (by assumption) ?_
          try simp only [List.getElem_toArray]
          try simp only [List.getElem_cons_succ]
          try simp only [List.getElem_cons_zero]
          try simp only [Act.put]
          try simp only [List.setIfInBounds_toArray]
          try simp only [List.set_cons_succ]
          try simp only [List.set_cons_zero]
          refine wpAnyH_take (i := 2) (v := ?_) rfl (by kernel_rfl) (by kernel_rfl) (by kernel_rfl) (fun _ _ _ h => h) (Or.inl ⟨by kernel_rfl, fun W hSW => by go_simp; try with_reducible rfl⟩) (by assumption) ?_
          try simp only [List.getElem_toArray]
          try simp only [List.getElem_cons_succ]
          try simp only [List.getElem_cons_zero]
          try simp only [Act.put]
          try simp only [List.setIfInBounds_toArray]
          try simp only [List.set_cons_succ]
          try simp only [List.set_cons_zero]
          refine wpAnyH_take (i := 3) (v := ?_) rfl (by kernel_rfl) (by kernel_rfl) (by kernel_rfl) (fun _ _ _ h => h) (Or.inl ⟨by kernel_rfl, fun W hSW => by go_simp; try with_reducible rfl⟩) (by assumption) ?_
          try simp only [List.getElem_toArray]
          try simp only [List.getElem_cons_succ]
          try simp only [List.getElem_cons_zero]
          try simp only [Act.put]
          try simp only [List.setIfInBounds_toArray]
          try simp only [List.set_cons_succ]
          try simp only [List.set_cons_zero]
          refine wpAnyH_take (i := 4) (v := ?_) rfl (by kernel_rfl) (by kernel_rfl) (by kernel_rfl) (fun _ _ _ h => h) (Or.inl ⟨by kernel_rfl, fun W hSW => by go_simp; try with_reducible rfl⟩) (by assumption) ?_
          try simp only [List.getElem_toArray]
          try simp only [List.getElem_cons_succ]
          try simp only [List.getElem_cons_zero]
          try simp only [Act.put]
          try simp only [List.setIfInBounds_toArray]
          try simp only [List.set_cons_succ]
          try simp only [List.set_cons_zero]
          refine wpAnyH_take (i := 5) (v := ?_) rfl (by kernel_rfl) (by kernel_rfl) (by kernel_rfl) (fun _ _ _ h => h) (Or.inl ⟨by kernel_rfl, fun W hSW => by go_simp; try with_reducible rfl⟩) (by assumption) ?_
          try simp only [List.getElem_toArray]
          try simp only [List.getElem_cons_succ]
          try simp only [List.getElem_cons_zero]
          try simp only [Act.put]
          try simp only [List.setIfInBounds_toArray]
          try simp only [List.set_cons_succ]
          try simp only [List.set_cons_zero]
          refine wpAnyH_take (i := 6) (v := ?_) rfl (by kernel_rfl) (by kernel_rfl) (by kernel_rfl) (fun _ _ _ h => h) (Or.inl ⟨by kernel_rfl, fun W hSW => by go_simp; try with_reducible rfl⟩) (by assumption) ?_
          try simp only [List.getElem_toArray]
          try simp only [List.getElem_cons_succ]
          try simp only [List.getElem_cons_zero]
          try simp only [Act.put]
          try simp only [List.setIfInBounds_toArray]
          try simp only [List.set_cons_succ]
          try simp only [List.set_cons_zero]
          refine wpAnyH_take (i := 7) (v := ?_) rfl (by kernel_rfl) (by kernel_rfl) (by kernel_rfl) (fun _ _ _ h => h) (Or.inl ⟨by kernel_rfl, fun W hSW => by go_simp; try with_reducible rfl⟩) (by assumption) ?_
          try simp only [List.getElem_toArray]
          try simp only [List.getElem_cons_succ]
          try simp only [List.getElem_cons_zero]
          try simp only [Act.put]
          try simp only [List.setIfInBounds_toArray]
          try simp only [List.set_cons_succ]
          try simp only [List.set_cons_zero]
          refine wpAnyH_take (i := 8) (v := .bool (!true)) rfl (by kernel_rfl) (by kernel_rfl) (by kernel_rfl) (fun _ _ _ h => h) (Or.inl ⟨by kernel_rfl, fun W _ => avOp_neq Tryd.eqGuardType43 rfl rfl rfl (hq W)⟩) (by assumption) ?_
          try simp only [List.getElem_toArray]
          try simp only [List.getElem_cons_succ]
          try simp only [List.getElem_cons_zero]
          try simp only [Act.put]
          try simp only [List.setIfInBounds_toArray]
          try simp only [List.set_cons_succ]
          try simp only [List.set_cons_zero]
          refine wpAnyH_done (by kernel_rfl) ?_ _
          go_wp2
          exact ⟨⟨j + 1, hlt, by go_num, HP.out, HK.out⟩, by simp [intOf]; omega⟩
      · obtain rfl : j = l.length := by omega
        have hltz : ¬ (l.length : Int) < (l.length : Int) := by omega
        obtain ⟨hF, hk⟩ := HI.out
        have hFm : l = m := by rw [List.take_length, HL.out, List.take_length] at hF; exact hF
        have HN := hid (sameL_iff.2 hFm)
        clear hF HI hlt hFm
        go_wp2
        go_ret
        exact ⟨by rw [HN.out]; rfl, hk⟩
  · have hne : ((l.length : Int) != (m.length : Int)) = true := by
      rw [bne_iff_ne]
      omega
    have HN := hid (sameL_len hlen)
    clear hv hu hlen
    go_enter Tryd.func34, Tryd.ntmps34
    go_wp2
    go_ret
    exact ⟨by rw [HN.out]; rfl, Kept.refl _ _⟩

theorem sameAv_any (v u : Value) (l m : List Av) (w : World) (hv : AvsAt w v l) (hu : AvsAt w u m) (hl : l.length ≤ 1000000) (gl : ∀ x ∈ l, GoodA x) (gm : ∀ x ∈ m, GoodA x) :
    Calls Tryd.prog 20 #[v, u] w fun e w' => e = .returned (.bool (sameL l m)) ∧ Kept (fun _ => False) w w' := by
  have HE := hid (equalA_any v u l m w hv hu hl gl gm)
  clear hv hu gl gm
  generalize sameL l m = B at *
  go_enter Tryd.func20, Tryd.ntmps20
  go_wp2_with fail
  refine HE.out.mono ?_
  rintro e w' ⟨rfl, hk⟩
  go_wp2
  go_ret
  exact ⟨rfl, hk⟩
end Go.Proofs.YtkneogfeokckjaaDoor
