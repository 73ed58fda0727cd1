/- The contract of the document's own Same of chapter 18. (Cut out of AvRef1.) -/
import Derived.Test.YtkneogfeokckjaaGreatDoorAvEq
import Derived.Test.YtkneogfeokckjaaGreatDoorAvNum
namespace Go.Proofs.YtkneogfeokckjaaGreatDoor
open Go.RowKit

set_option maxHeartbeats 4000000 in
set_option maxRecDepth 100000 in
theorem rSame_any (v u : Value) (l m : List Av) (w : World) (hv : AvsAt w v l) (hu : AvsAt w u m) (hl : l.length ≤ 1000000) (gl : ∀ x ∈ l, GoodA x) (gm : ∀ x ∈ m, GoodA x) :
    Calls Tryz.prog 44 #[v, u] w fun e w' => e = .returned (.bool (sameL l m)) ∧ Kept (fun _ => False) w w' := by
  obtain ⟨p, cap, rfl⟩ := RowsAt.slice hv
  obtain ⟨q, cbp, rfl⟩ := RowsAt.slice hu
  by_cases hlen : l.length = m.length
  · have hne : ((l.length : Int) != (m.length : Int)) = false := by simp [hlen]
    have HV := hid (fun W (hk : Kept (fun _ => False) w W) => RowsAt.kept0 hv hk)
    have HU := hid (fun W (hk : Kept (fun _ => False) w W) => RowsAt.kept0 hu hk)
    have HL := hid hlen
    have GL := hid gl
    have GM := hid gm
    clear hv hu hlen gl gm
    go_enter Tryz.func44, Tryz.ntmps44
    go_wp2
    go_loopw [5] (fun vi wr => ∃ j : Nat, j ≤ l.length ∧ vi = .int .i64 (j : Int) ∧ Hid (l.take j = m.take j ∧ Kept (fun _ => False) w wr)) (fun vi _ => l.length - (intOf vi).toNat)
    case atStart => exact ⟨0, Nat.zero_le _, rfl, rfl, Kept.refl _ _⟩
    case round =>
      obtain ⟨j, hj, rfl, HI⟩ := hrel
      by_cases hlt : j < l.length
      · have hltz : (j : Int) < (l.length : Int) := by omega
        have hltm : (j : Int) < (m.length : Int) := by have := HL.out; omega
        obtain ⟨x, hx⟩ : ∃ x, l[j]? = some x := ⟨l[j], by simp [hlt]⟩
        obtain ⟨y, hy⟩ : ∃ y, m[j]? = some y := ⟨m[j]'(by have := HL.out; omega), by simp⟩
        have hq : ∀ W, Sem.run Tryz.prog (Op.equalIn 10000 72 (avV x) (avV y)) W = .ok (sameA x y) W := av_eq (GL.out x (List.mem_of_getElem? hx)) (GM.out y (List.mem_of_getElem? hy))
        obtain ⟨g, o, rfl, hcap, _⟩ := AvsAt.at5 (HV.out _ HI.out.2) hx
        obtain ⟨g2, o2, rfl, hcbp, _⟩ := AvsAt.at5 (HU.out _ HI.out.2) hy
        have A1 := hid (fun W (hk : Kept (fun _ => False) wr W) => AvsAt.at5 (HV.out W (HI.out.2.trans hk)) hx)
        have A2 := hid (fun W (hk : Kept (fun _ => False) wr W) => AvsAt.at5 (HU.out W (HI.out.2.trans hk)) hy)
        have c0 : ∀ W, Kept (fun _ => False) wr W → W.cell? ⟨g, o + j * 5, none⟩ = some (.bool x.must) := fun W hk => by
          obtain ⟨g', o', e', _, q⟩ := A1.out W hk
          simp only [Option.some.injEq, Addr.mk.injEq, and_true] at e'
          obtain ⟨rfl, rfl⟩ := e'
          exact q.1
        have c1 : ∀ W, Kept (fun _ => False) wr W → W.cell? ⟨g, o + j * 5 + 1, none⟩ = some (.bool x.hidden) := fun W hk => by
          obtain ⟨g', o', e', _, q⟩ := A1.out W hk
          simp only [Option.some.injEq, Addr.mk.injEq, and_true] at e'
          obtain ⟨rfl, rfl⟩ := e'
          exact q.2.1
        have c2 : ∀ W, Kept (fun _ => False) wr W → W.cell? ⟨g, o + j * 5 + 2, none⟩ = some (.int .i64 x.vendor) := fun W hk => by
          obtain ⟨g', o', e', _, q⟩ := A1.out W hk
          simp only [Option.some.injEq, Addr.mk.injEq, and_true] at e'
          obtain ⟨rfl, rfl⟩ := e'
          exact q.2.2.1
        have c3 : ∀ W, Kept (fun _ => False) wr W → W.cell? ⟨g, o + j * 5 + 3, none⟩ = some (.int .i64 x.type) := fun W hk => by
          obtain ⟨g', o', e', _, q⟩ := A1.out W hk
          simp only [Option.some.injEq, Addr.mk.injEq, and_true] at e'
          obtain ⟨rfl, rfl⟩ := e'
          exact q.2.2.2.1
        have c4 : ∀ W, Kept (fun _ => False) wr W → W.cell? ⟨g, o + j * 5 + 4, none⟩ = some (.string x.value) := fun W hk => by
          obtain ⟨g', o', e', _, q⟩ := A1.out W hk
          simp only [Option.some.injEq, Addr.mk.injEq, and_true] at e'
          obtain ⟨rfl, rfl⟩ := e'
          exact q.2.2.2.2
        have d0 : ∀ W, Kept (fun _ => False) wr W → W.cell? ⟨g2, o2 + j * 5, none⟩ = some (.bool y.must) := fun W hk => by
          obtain ⟨g', o', e', _, q⟩ := A2.out W hk
          simp only [Option.some.injEq, Addr.mk.injEq, and_true] at e'
          obtain ⟨rfl, rfl⟩ := e'
          exact q.1
        have d1 : ∀ W, Kept (fun _ => False) wr W → W.cell? ⟨g2, o2 + j * 5 + 1, none⟩ = some (.bool y.hidden) := fun W hk => by
          obtain ⟨g', o', e', _, q⟩ := A2.out W hk
          simp only [Option.some.injEq, Addr.mk.injEq, and_true] at e'
          obtain ⟨rfl, rfl⟩ := e'
          exact q.2.1
        have d2 : ∀ W, Kept (fun _ => False) wr W → W.cell? ⟨g2, o2 + j * 5 + 2, none⟩ = some (.int .i64 y.vendor) := fun W hk => by
          obtain ⟨g', o', e', _, q⟩ := A2.out W hk
          simp only [Option.some.injEq, Addr.mk.injEq, and_true] at e'
          obtain ⟨rfl, rfl⟩ := e'
          exact q.2.2.1
        have d3 : ∀ W, Kept (fun _ => False) wr W → W.cell? ⟨g2, o2 + j * 5 + 3, none⟩ = some (.int .i64 y.type) := fun W hk => by
          obtain ⟨g', o', e', _, q⟩ := A2.out W hk
          simp only [Option.some.injEq, Addr.mk.injEq, and_true] at e'
          obtain ⟨rfl, rfl⟩ := e'
          exact q.2.2.2.1
        have d4 : ∀ W, Kept (fun _ => False) wr W → W.cell? ⟨g2, o2 + j * 5 + 4, none⟩ = some (.string y.value) := fun W hk => by
          obtain ⟨g', o', e', _, q⟩ := A2.out W hk
          simp only [Option.some.injEq, Addr.mk.injEq, and_true] at e'
          obtain ⟨rfl, rfl⟩ := e'
          exact q.2.2.2.2
        have HN : Hid ((sameA x y = false → sameL l m = false) ∧ (sameA x y = true → l.take (j + 1) = m.take (j + 1))) :=
          ⟨fun h => sameL_at hx hy h, fun h => take_eq HI.out.1 hx (by rw [sameA_iff.1 h]; exact hy)⟩
        have HK := hid HI.out.2.drew
        clear HI A1 A2 hx hy
        unfold avV at hq
        cases hs : sameA x y with
        | false =>
          rw [hs] at hq
          have HP := hid (HN.out.1 hs)
          clear HN hs
          go_upto_region 6 with fail
          refine wp_region_held_drew (S := Kept (fun _ => False) wr) (by kernel_rfl) ((Kept.refl _ wr).drew) (fun hSd => ?_)
          refine wpAnyH_take (i := 0) (v := ?_) rfl (by kernel_rfl) (by kernel_rfl) (by kernel_rfl) (fun _ _ _ h => h) (Or.inl ⟨by kernel_rfl, fun W hSW => by go_simp; try with_reducible rfl⟩) (by assumption) ?_
          try simp only [List.getElem_toArray]
          try simp only [List.getElem_cons_succ]
          try simp only [List.getElem_cons_zero]
          try simp only [Act.put]
          try simp only [List.setIfInBounds_toArray]
          try simp only [List.set_cons_succ]
          try simp only [List.set_cons_zero]
          refine wpAnyH_take (i := 1) (v := ?_) rfl (by kernel_rfl) (by kernel_rfl) (by kernel_rfl) (fun _ _ _ h => h) (Or.inl ⟨by kernel_rfl, fun W hSW => by go_simp; try with_reducible rfl⟩) (by assumption) ?_
          try simp only [List.getElem_toArray]
          try simp only [List.getElem_cons_succ]
          try simp only [List.getElem_cons_zero]
          try simp only [Act.put]
          try simp only [List.setIfInBounds_toArray]
          try simp only [List.set_cons_succ]
          try simp only [List.set_cons_zero]
          refine wpAnyH_take (i := 2) (v := ?_) rfl (by kernel_rfl) (by kernel_rfl) (by kernel_rfl) (fun _ _ _ h => h) (Or.inl ⟨by kernel_rfl, fun W hSW => by go_simp; try with_reducible rfl⟩) (by assumption) ?_
          try simp only [List.getElem_toArray]
          try simp only [List.getElem_cons_succ]
          try simp only [List.getElem_cons_zero]
          try simp only [Act.put]
          try simp only [List.setIfInBounds_toArray]
          try simp only [List.set_cons_succ]
          try simp only [List.set_cons_zero]
          refine wpAnyH_take (i := 3) (v := ?_) rfl (by kernel_rfl) (by kernel_rfl) (by kernel_rfl) (fun _ _ _ h => h) (Or.inl ⟨by kernel_rfl, fun W hSW => by go_simp; try with_reducible rfl⟩) (by assumption) ?_
          try simp only [List.getElem_toArray]
          try simp only [List.getElem_cons_succ]
          try simp only [List.getElem_cons_zero]
          try simp only [Act.put]
          try simp only [List.setIfInBounds_toArray]
          try simp only [List.set_cons_succ]
          try simp only [List.set_cons_zero]
          refine wpAnyH_take (i := 4) (v := ?_) rfl (by kernel_rfl) (by kernel_rfl) (by kernel_rfl) (fun _ _ _ h => h) (Or.inl ⟨by kernel_rfl, fun W hSW => by go_simp; try with_reducible rfl⟩) (by assumption) ?_
          try simp only [List.getElem_toArray]
          try simp only [List.getElem_cons_succ]
          try simp only [List.getElem_cons_zero]
          try simp only [Act.put]
          try simp only [List.setIfInBounds_toArray]
          try simp only [List.set_cons_succ]
          try simp only [List.set_cons_zero]
          refine wpAnyH_take (i := 5) (v := ?_) rfl (by kernel_rfl) (by kernel_rfl) (by kernel_rfl) (fun _ _ _ h => h) (Or.inl ⟨by kernel_rfl, fun W hSW => by go_simp; try with_reducible rfl⟩) (by assumption) ?_
          try simp only [List.getElem_toArray]
          try simp only [List.getElem_cons_succ]
          try simp only [List.getElem_cons_zero]
          try simp only [Act.put]
          try simp only [List.setIfInBounds_toArray]
          try simp only [List.set_cons_succ]
          try simp only [List.set_cons_zero]
          refine wpAnyH_take (i := 6) (v := ?_) rfl (by kernel_rfl) (by kernel_rfl) (by kernel_rfl) (fun _ _ _ h => h) (Or.inl ⟨by kernel_rfl, fun W hSW => by go_simp; try with_reducible rfl⟩) (by assumption) ?_
          try simp only [List.getElem_toArray]
          try simp only [List.getElem_cons_succ]
          try simp only [List.getElem_cons_zero]
          try simp only [Act.put]
          try simp only [List.setIfInBounds_toArray]
          try simp only [List.set_cons_succ]
          try simp only [List.set_cons_zero]
          refine wpAnyH_take (i := 7) (v := ?_) rfl (by kernel_rfl) (by kernel_rfl) (by kernel_rfl) (fun _ _ _ h => h) (Or.inl ⟨by kernel_rfl, fun W hSW => by go_simp; try with_reducible rfl⟩) (by assumption) ?_
          try simp only [List.getElem_toArray]
          try simp only [List.getElem_cons_succ]
          try simp only [List.getElem_cons_zero]
          try simp only [Act.put]
          try simp only [List.setIfInBounds_toArray]
          try simp only [List.set_cons_succ]
          try simp only [List.set_cons_zero]
          refine wpAnyH_take (i := 8) (v := .bool (!false)) rfl (by kernel_rfl) (by kernel_rfl) (by kernel_rfl) (fun _ _ _ h => h) (Or.inl ⟨by kernel_rfl, fun W _ => avOp_neq Tryz.eqGuardType72 rfl rfl rfl (hq W)⟩) (by assumption) ?_
          try simp only [List.getElem_toArray]
          try simp only [List.getElem_cons_succ]
          try simp only [List.getElem_cons_zero]
          try simp only [Act.put]
          try simp only [List.setIfInBounds_toArray]
          try simp only [List.set_cons_succ]
          try simp only [List.set_cons_zero]
          refine wpAnyH_done (by kernel_rfl) ?_ _
          go_wp2
          go_ret
          exact ⟨by rw [HP.out]; rfl, HK.out⟩
        | true =>
          rw [hs] at hq
          have HP := hid (HN.out.2 hs)
          clear HN hs
          go_upto_region 6 with fail
          refine wp_region_held_drew (S := Kept (fun _ => False) wr) (by kernel_rfl) ((Kept.refl _ wr).drew) (fun hSd => ?_)
          refine wpAnyH_take (i := 0) (v := ?_) rfl (by kernel_rfl) (by kernel_rfl) (by kernel_rfl) (fun _ _ _ h => h) (Or.inl ⟨by kernel_rfl, fun W hSW => by go_simp; try with_reducible rfl⟩) (by assumption) ?_
          try simp only [List.getElem_toArray]
          try simp only [List.getElem_cons_succ]
          try simp only [List.getElem_cons_zero]
          try simp only [Act.put]
          try simp only [List.setIfInBounds_toArray]
          try simp only [List.set_cons_succ]
          try simp only [List.set_cons_zero]
          refine wpAnyH_take (i := 1) (v := ?_) rfl (by kernel_rfl) (by kernel_rfl) (by kernel_rfl) (fun _ _ _ h => h) (Or.inl ⟨by kernel_rfl, fun W hSW => by go_simp; try with_reducible rfl⟩) (by assumption) ?_
          try simp only [List.getElem_toArray]
          try simp only [List.getElem_cons_succ]
          try simp only [List.getElem_cons_zero]
          try simp only [Act.put]
          try simp only [List.setIfInBounds_toArray]
          try simp only [List.set_cons_succ]
          try simp only [List.set_cons_zero]
          refine wpAnyH_take (i := 2) (v := ?_) rfl (by kernel_rfl) (by kernel_rfl) (by kernel_rfl) (fun _ _ _ h => h) (Or.inl ⟨by kernel_rfl, fun W hSW => by go_simp; try with_reducible rfl⟩) (by assumption) ?_
          try simp only [List.getElem_toArray]
          try simp only [List.getElem_cons_succ]
          try simp only [List.getElem_cons_zero]
          try simp only [Act.put]
          try simp only [List.setIfInBounds_toArray]
          try simp only [List.set_cons_succ]
          try simp only [List.set_cons_zero]
          refine wpAnyH_take (i := 3) (v := ?_) rfl (by kernel_rfl) (by kernel_rfl) (by kernel_rfl) (fun _ _ _ h => h) (Or.inl ⟨by kernel_rfl, fun W hSW => by go_simp; try with_reducible rfl⟩) (by assumption) ?_
          try simp only [List.getElem_toArray]
          try simp only [List.getElem_cons_succ]
          try simp only [List.getElem_cons_zero]
          try simp only [Act.put]
          try simp only [List.setIfInBounds_toArray]
          try simp only [List.set_cons_succ]
          try simp only [List.set_cons_zero]
          refine wpAnyH_take (i := 4) (v := ?_) rfl (by kernel_rfl) (by kernel_rfl) (by kernel_rfl) (fun _ _ _ h => h) (Or.inl ⟨by kernel_rfl, fun W hSW => by go_simp; try with_reducible rfl⟩) (by assumption) ?_
          try simp only [List.getElem_toArray]
          try simp only [List.getElem_cons_succ]
          try simp only [List.getElem_cons_zero]
          try simp only [Act.put]
          try simp only [List.setIfInBounds_toArray]
          try simp only [List.set_cons_succ]
          try simp only [List.set_cons_zero]
          refine wpAnyH_take (i := 5) (v := ?_) rfl (by kernel_rfl) (by kernel_rfl) (by kernel_rfl) (fun _ _ _ h => h) (Or.inl ⟨by kernel_rfl, fun W hSW => by go_simp; try with_reducible rfl⟩) (by assumption) ?_
          try simp only [List.getElem_toArray]
          try simp only [List.getElem_cons_succ]
          try simp only [List.getElem_cons_zero]
          try simp only [Act.put]
          try simp only [List.setIfInBounds_toArray]
          try simp only [List.set_cons_succ]
          try simp only [List.set_cons_zero]
          refine wpAnyH_take (i := 6) (v := ?_) rfl (by kernel_rfl) (by kernel_rfl) (by kernel_rfl) (fun _ _ _ h => h) (Or.inl ⟨by kernel_rfl, fun W hSW => by go_simp; try with_reducible rfl⟩) (by assumption) ?_
          try simp only [List.getElem_toArray]
          try simp only [List.getElem_cons_succ]
          try simp only [List.getElem_cons_zero]
          try simp only [Act.put]
          try simp only [List.setIfInBounds_toArray]
          try simp only [List.set_cons_succ]
          try simp only [List.set_cons_zero]
          refine wpAnyH_take (i := 7) (v := ?_) rfl (by kernel_rfl) (by kernel_rfl) (by kernel_rfl) (fun _ _ _ h => h) (Or.inl ⟨by kernel_rfl, fun W hSW => by go_simp; try with_reducible rfl⟩) (by assumption) ?_
          try simp only [List.getElem_toArray]
          try simp only [List.getElem_cons_succ]
          try simp only [List.getElem_cons_zero]
          try simp only [Act.put]
          try simp only [List.setIfInBounds_toArray]
          try simp only [List.set_cons_succ]
          try simp only [List.set_cons_zero]
          refine wpAnyH_take (i := 8) (v := .bool (!true)) rfl (by kernel_rfl) (by kernel_rfl) (by kernel_rfl) (fun _ _ _ h => h) (Or.inl ⟨by kernel_rfl, fun W _ => avOp_neq Tryz.eqGuardType72 rfl rfl rfl (hq W)⟩) (by assumption) ?_
          try simp only [List.getElem_toArray]
          try simp only [List.getElem_cons_succ]
          try simp only [List.getElem_cons_zero]
          try simp only [Act.put]
          try simp only [List.setIfInBounds_toArray]
          try simp only [List.set_cons_succ]
          try simp only [List.set_cons_zero]
          refine wpAnyH_done (by kernel_rfl) ?_ _
          go_wp2
          exact ⟨⟨j + 1, hlt, by go_num, HP.out, HK.out⟩, by simp [intOf]; omega⟩
      · obtain rfl : j = l.length := by omega
        have hltz : ¬ (l.length : Int) < (l.length : Int) := by omega
        obtain ⟨hF, hk⟩ := HI.out
        have hFm : l = m := by rw [List.take_length, HL.out, List.take_length] at hF; exact hF
        have HN := hid (sameL_iff.2 hFm)
        clear hF HI hlt hFm
        go_wp2
        go_ret
        exact ⟨by rw [HN.out]; rfl, hk⟩
  · have hne : ((l.length : Int) != (m.length : Int)) = true := by
      rw [bne_iff_ne]
      omega
    have HN := hid (sameL_len hlen)
    clear hv hu hlen
    go_enter Tryz.func44, Tryz.ntmps44
    go_wp2
    go_ret
    exact ⟨by rw [HN.out]; rfl, Kept.refl _ _⟩
end Go.Proofs.YtkneogfeokckjaaGreatDoor
