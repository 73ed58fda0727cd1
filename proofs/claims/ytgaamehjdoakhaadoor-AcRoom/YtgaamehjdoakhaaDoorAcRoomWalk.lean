/- The law AcRoom returns true. -/
import Derived.Test.YtgaamehjdoakhaaDoorAcRoomKit
import Derived.Test.YtgaamehjdoakhaaDoorAcArgs
import Derived.Deep.CutRange
import Derived.Deep.CutBlock
namespace Go.Proofs.YtgaamehjdoakhaaDoor
open Go.RowKit

theorem spot_no {W : World} {ad : Addr} {u : Value} (h : W.cell? (ad.add 0) = some u) : ad = ⟨ad.block, ad.off, none⟩ := by
  obtain ⟨g, o, sp⟩ := ad
  unfold Addr.add at h
  cases sp with
  | none => rfl
  | some q =>
    exfalso
    unfold World.cell? at h
    split at h <;> simp at h

theorem new_bad (most : Int) (h : most < 1 ∨ 60 < most) (w : World) :
    Calls Tryd.prog 15 #[.agg #[.int .u8 9, .int .u8 0, .int .u8 0, .int .u8 0, .int .u8 0, .int .u8 0], .string ⟨#[97, 99]⟩, .slice none 0 0, .string ⟨#[115]⟩, .int .i64 most] w fun e w' => e = .returned (.tuple #[.pointer none, .int .i64 1]) ∧ Kept (fun _ => False) w w' :=
  new_arg m9 rfl acB sB (by rw [ByteArray.toList_eq]; decide) (by decide) most h w

set_option maxHeartbeats 8000000 in
set_option maxRecDepth 100000 in
theorem acRoom_walk (most : Int) (_hm : In64 most) (v : Value) (l : List Int) (w : World) (hv : IntsAt w v l) (hz : ∀ x ∈ l, In64 x) (hT : Tabs w) :
    Calls Tryd.prog 4 #[.int .i64 most, v] w fun e w' => e = .returned (.bool true) ∧ Kept (fun _ => False) w w' := by
  have HAL := hid (fun W (hk : Kept (fun _ => False) w W) => alive_any W (hT.kept hk))
  obtain ⟨p, cap, rfl, hlz⟩ : ∃ p cap, v = .slice p l.length cap ∧ (l.length : Int) ≤ maxLen := by
    rcases hv with ⟨rfl, rfl⟩ | ⟨ad, cap, rfl, h1, h2, _⟩
    · exact ⟨none, 0, rfl, by simp⟩
    · exact ⟨some ad, cap, rfl, by exact_mod_cast Nat.le_trans h1 h2⟩
  obtain ⟨wA, hwA⟩ : ∃ wA, wA = w.alloc (.cells #[.int .u8 9, .int .u8 0, .int .u8 0, .int .u8 0, .int .u8 0, .int .u8 0] 23) := ⟨_, rfl⟩
  have HwA := hid hwA
  have kA : Hid (Kept (fun _ => False) w wA) := by rw [hwA]; exact (Kept.refl _ w).alloc _
  have BM : Hid (Box6 wA w.heap.size (.int .u8 9) (.int .u8 0) (.int .u8 0) (.int .u8 0) (.int .u8 0) (.int .u8 0)) := by rw [hwA]; exact box6_new w _ _ _ _ _ _ _
  have HWA : Hid (w.heap.size < wA.heap.size) := lt_of_cell BM.out.c0
  have HTA := hid (hT.kept kA.out)
  clear hwA
  by_cases hmost : most < 1 ∨ 60 < most
  · have HN := hid (new_bad most hmost)
    clear hT hmost
    go_enter Tryd.func4, Tryd.ntmps4
    go_wp2_with fail
    rw [← HwA.out]
    refine (HN.out _).mono ?_
    rintro e w1 ⟨rfl, hk1⟩
    have K1 := hid (kA.out.trans hk1)
    clear hk1
    go_wp2_with fail
    refine (HAL.out _ K1.out).mono ?_
    rintro e w2 ⟨rfl, hk2⟩
    go_wp2
    go_ret
    exact ⟨rfl, K1.out.trans hk2⟩
  · have hm1 : 1 ≤ most := by omega
    have hm2 : most ≤ 60 := by omega
    have HN := hid (new_mine most hm1 hm2)
    by_cases hl : l.length ≤ 200
    · have hlen : ¬ (200 : Int) < (l.length : Int) := by omega
      have HR0 : Hid (RoomC most 0 (c00 most)) := ⟨good_c00 most hm1 hm2, rfl, rfl, rfl, by simp [c00, newF]⟩
      have HV := hid hv
      clear hv hT hmost hm1 hm2
      go_enter Tryd.func4, Tryd.ntmps4
      go_wp2_with fail
      rw [← HwA.out]
      refine (HN.out _).mono ?_
      rintro e w1 ⟨B, rfl, hc1⟩
      have H1 := hid hc1
      clear hc1 HN
      go_wp2_with fail
      go_loopw [8] (fun vi wr => ∃ (i : Nat) (c : Cs), i ≤ l.length ∧ vi = .int .i64 (i : Int) ∧ Hid (RoomC most i c ∧ CMine wA wr B c)) (fun vi _ => l.length - (intOf vi).toNat)
      case atStart => exact ⟨0, c00 most, Nat.zero_le _, rfl, HR0.out, H1.out⟩
      case round =>
        obtain ⟨i, c, hi, rfl, HI⟩ := hrel
        clear H1 HR0
        by_cases hlt : i < l.length
        · have hltz : (i : Int) < (l.length : Int) := by omega
          obtain ⟨x, hx⟩ : ∃ x, l[i]? = some x := ⟨l[i], by simp [hlt]⟩
          obtain ⟨g, o, ep, hel⟩ : ∃ g o, p = some ⟨g, o, none⟩ ∧ ∀ W, Kept (fun _ => False) w W → W.cell? ⟨g, o + i, none⟩ = some (.int .i64 x) := by
            rcases HV.out with ⟨_, rfl⟩ | ⟨ad, cap', e, h1, h2, h3⟩
            · simp at hlt
            · simp only [Value.slice.injEq, true_and] at e
              obtain ⟨y, hy⟩ : ∃ y, l[0]? = some y := ⟨l[0]'(by omega), by simp [show 0 < l.length by omega]⟩
              have h0 := h3 0 (.int .i64 y) (by unfold intCells; rw [List.getElem?_map, hy]; rfl)
              have ead := spot_no h0
              have hxi := h3 i (.int .i64 x) (by unfold intCells; rw [List.getElem?_map, hx]; rfl)
              rw [ead, add_none] at hxi
              refine ⟨ad.block, ad.off, by rw [e.1, ← ead], fun W hW => (hW.cell (p := ⟨ad.block, ad.off + i, none⟩) (lt_of_cell hxi) id).trans hxi⟩
          subst ep
          obtain ⟨k7, hk7, e7⟩ := and_small x 7 (by decide)
          obtain ⟨k8, hk8, e8⟩ := and_small x 8 (by decide)
          obtain ⟨u, hu, eu⟩ := u8_small (x / 16)
          obtain ⟨n7, hn7, en⟩ := and_small (x / 16) 7 (by decide)
          change bits .and .i64 x 7 = (k7 : Int) at e7
          change bits .and .i64 x 8 = (k8 : Int) at e8
          change bits .and .i64 (x / 16) 7 = (n7 : Int) at en
          have hw7 : IntKind.u8.wrap (k7 : Int) = (k7 : Int) := by rw [IntKind.wrap_u8]; omega
          obtain ⟨S1, hA1, hS1, hk1⟩ := HI.out.2
          have HR := hid HI.out.1
          have K0 := hid (kA.out.trans hk1)
          obtain ⟨w3, hw3⟩ : ∃ w3, w3 = wr.alloc (.cells #[.int .u8 (k7 : Int), .int .u8 0, .int .u8 0, .int .u8 0, .int .u8 0, .int .u8 0] 23) := ⟨_, rfl⟩
          have Hw3 := hid hw3
          have k03 : Hid (Kept (fun _ => False) wr w3) := by rw [hw3]; exact (Kept.refl _ wr).alloc _
          have BH : Hid (Box6 w3 wr.heap.size (.int .u8 (k7 : Int)) (.int .u8 0) (.int .u8 0) (.int .u8 0) (.int .u8 0) (.int .u8 0)) := by rw [hw3]; exact box6_new wr _ _ _ _ _ _ _
          have HS1 : Hid (∀ i, S1 i → wA.heap.size ≤ i) := fun i hi => (hS1 i hi).elim False.elim id
          have HSlt := hid (fun i (hi : S1 i) => hA1.lt hi)
          have HA3 := hid (hA1.kept0 k03.out)
          have x0 := hel wr K0.out
          have x3 := hel w3 (K0.out.trans k03.out)
          have x3' := x3
          rw [hw3] at x3'
          clear hw3 HI hx hA1 hS1 HV
          have HE := mac_eq (crd k7) (crd k7) rfl rfl
          rw [decide_eq_true rfl, crd_cells hk7] at HE
          change ∀ W, Sem.run Tryd.prog (Op.equalIn 10000 23 (.agg #[.int .u8 (k7 : Int), .int .u8 0, .int .u8 0, .int .u8 0, .int .u8 0, .int .u8 0]) (.agg #[.int .u8 (k7 : Int), .int .u8 0, .int .u8 0, .int .u8 0, .int .u8 0, .int .u8 0])) W = .ok true W at HE
          go_upto_if 57 with fail
          rw [← Hw3.out]
          go_cut [10] from 39 to 160 (fun _ wx => ∃ c', Hid (RoomC most (i + 1) c' ∧ CMine wA wx B c'))
          case first =>
            by_cases h8 : k8 = 0
            · have d8 : ((k8 : Int) == 0) = true := by rw [h8]; rfl
              have HMK := hid (fun W (hT : Tables W) => make_any sB eB (crd k7) rfl 5 (by decide) (by decide) W hT)
              change Hid (∀ W, Tables W → Calls Tryd.prog 17 #[.string ⟨#[115]⟩, .agg (Lib.byteCells (crd k7)).toArray, .string ⟨#[]⟩, .int .i64 5] W fun r w' => r = .returned (.string (mk5 (crd k7))) ∧ Below W.heap.size W w') at HMK
              have hok : AskOk (padrTags (uK u) (mk5 (crd k7))) := padr_ok (by rw [mk5_size]; show 1 + 16 ≤ 1000; omega)
              have HAK := hid (fun W v (hv : TagsAt W v (padrTags (uK u) (mk5 (crd k7)))) => asked_any (crd k7) m9 rfl rfl 25 0 v (padrTags (uK u) (mk5 (crd k7))) W hv hok.few.size)
              have HTK := hid (fun W (hA : CAt S1 W B c) (hT : Tabs W) => ask_at hA HR.out.good hT HR.out.mac HR.out.secret (h := crd k7) rfl (crd_not hk7) (u := uK u) (show 1 ≤ 900 by omega))
              have hdata : ∃ z, frV (askedF (crd k7) m9 25 0 (padrTags (uK u) (mk5 (crd k7)))) = .agg #[.int .u8 9, .int .u8 0, .int .u8 0, .int .u8 0, .int .u8 0, .int .u8 0, .int .u8 (k7 : Int), .int .u8 0, .int .u8 0, .int .u8 0, .int .u8 0, .int .u8 0, .int .i64 34915, .string z] := ⟨(askedF (crd k7) m9 25 0 (padrTags (uK u) (mk5 (crd k7)))).data, by unfold frV frList askedF; simp only []; rw [crd_cells hk7]; rfl⟩
              obtain ⟨z, hz⟩ := hdata
              rw [hz] at HAK HTK
              rw [crd_cells hk7] at HMK HAK
              change Hid (∀ W v, TagsAt W v (padrTags (uK u) (mk5 (crd k7))) → Calls Tryd.prog 16 #[.agg #[.int .u8 (k7 : Int), .int .u8 0, .int .u8 0, .int .u8 0, .int .u8 0, .int .u8 0], .agg #[.int .u8 9, .int .u8 0, .int .u8 0, .int .u8 0, .int .u8 0, .int .u8 0], .int .i64 25, .int .i64 0, v] W fun e w' => _) at HAK
              clear hz hok h8
              generalize mk5 (crd k7) = mk at *
              have a0 : ∀ W, Kept S1 w3 W → W.cell? ⟨wr.heap.size, 0, none⟩ = some (.int .u8 (k7 : Int)) := fun W h => (BH.out.keptS h (fun h => by have := HSlt.out _ h; omega)).c0
              have a1 : ∀ W, Kept S1 w3 W → W.cell? ⟨wr.heap.size, 1, none⟩ = some (.int .u8 0) := fun W h => (BH.out.keptS h (fun h => by have := HSlt.out _ h; omega)).c1
              have a2 : ∀ W, Kept S1 w3 W → W.cell? ⟨wr.heap.size, 2, none⟩ = some (.int .u8 0) := fun W h => (BH.out.keptS h (fun h => by have := HSlt.out _ h; omega)).c2
              have a3 : ∀ W, Kept S1 w3 W → W.cell? ⟨wr.heap.size, 3, none⟩ = some (.int .u8 0) := fun W h => (BH.out.keptS h (fun h => by have := HSlt.out _ h; omega)).c3
              have a4 : ∀ W, Kept S1 w3 W → W.cell? ⟨wr.heap.size, 4, none⟩ = some (.int .u8 0) := fun W h => (BH.out.keptS h (fun h => by have := HSlt.out _ h; omega)).c4
              have a5 : ∀ W, Kept S1 w3 W → W.cell? ⟨wr.heap.size, 5, none⟩ = some (.int .u8 0) := fun W h => (BH.out.keptS h (fun h => by have := HSlt.out _ h; omega)).c5
              have b0 : ∀ W, Kept S1 w3 W → W.cell? ⟨w.heap.size, 0, none⟩ = some (.int .u8 9) := fun W h => ((BM.out.kept (hk1.trans k03.out)).keptS h (fun h => by have h1 := HS1.out _ h; have h2 := HWA.out; omega)).c0
              have b1 : ∀ W, Kept S1 w3 W → W.cell? ⟨w.heap.size, 1, none⟩ = some (.int .u8 0) := fun W h => ((BM.out.kept (hk1.trans k03.out)).keptS h (fun h => by have h1 := HS1.out _ h; have h2 := HWA.out; omega)).c1
              have b2 : ∀ W, Kept S1 w3 W → W.cell? ⟨w.heap.size, 2, none⟩ = some (.int .u8 0) := fun W h => ((BM.out.kept (hk1.trans k03.out)).keptS h (fun h => by have h1 := HS1.out _ h; have h2 := HWA.out; omega)).c2
              have b3 : ∀ W, Kept S1 w3 W → W.cell? ⟨w.heap.size, 3, none⟩ = some (.int .u8 0) := fun W h => ((BM.out.kept (hk1.trans k03.out)).keptS h (fun h => by have h1 := HS1.out _ h; have h2 := HWA.out; omega)).c3
              have b4 : ∀ W, Kept S1 w3 W → W.cell? ⟨w.heap.size, 4, none⟩ = some (.int .u8 0) := fun W h => ((BM.out.kept (hk1.trans k03.out)).keptS h (fun h => by have h1 := HS1.out _ h; have h2 := HWA.out; omega)).c4
              have b5 : ∀ W, Kept S1 w3 W → W.cell? ⟨w.heap.size, 5, none⟩ = some (.int .u8 0) := fun W h => ((BM.out.kept (hk1.trans k03.out)).keptS h (fun h => by have h1 := HS1.out _ h; have h2 := HWA.out; omega)).c5
              have xx : ∀ W, Kept S1 w3 W → W.cell? ⟨g, o + i, none⟩ = some (.int .i64 x) := fun W h => (h.cell (p := ⟨g, o + i, none⟩) (lt_of_cell x3) (fun h => by have h1 := HS1.out _ h; have h2 := HWA.out; have h3 := lt_of_cell (hel w (Kept.refl _ _)); simp only [] at h1 h3; omega)).trans x3
              clear x0 x3 x3'
              go_wp2
              refine wp_region_held_drew (S := Kept S1 w3) (by kernel_rfl) ((Kept.refl _ w3).drew) (fun hSd => ?_)
              refine wpAnyH_take (i := 0) (v := ?_) rfl (by kernel_rfl) (by kernel_rfl) (by kernel_rfl) (fun _ _ _ h => h) (Or.inl ⟨by kernel_rfl, fun W hSW => by go_simp; try with_reducible rfl⟩) (by assumption) ?_
              try simp only [List.getElem_toArray]
              try simp only [List.getElem_cons_succ]
              try simp only [List.getElem_cons_zero]
              try simp only [Act.put]
              try simp only [List.setIfInBounds_toArray]
              try simp only [List.set_cons_succ]
              try simp only [List.set_cons_zero]
              refine wpAnyH_take (i := 1) (v := ?_) rfl (by kernel_rfl) (by kernel_rfl) (by kernel_rfl) (fun _ _ _ h => h) (Or.inl ⟨by kernel_rfl, fun W hSW => by go_simp; try with_reducible rfl⟩) (by assumption) ?_
              try simp only [List.getElem_toArray]
              try simp only [List.getElem_cons_succ]
              try simp only [List.getElem_cons_zero]
              try simp only [Act.put]
              try simp only [List.setIfInBounds_toArray]
              try simp only [List.set_cons_succ]
              try simp only [List.set_cons_zero]
              refine wpAnyH_take (i := 2) (v := ?_) rfl (by kernel_rfl) (by kernel_rfl) (by kernel_rfl) (fun _ _ _ h => h) (Or.inl ⟨by kernel_rfl, fun W hSW => by go_simp; try with_reducible rfl⟩) (by assumption) ?_
              try simp only [List.getElem_toArray]
              try simp only [List.getElem_cons_succ]
              try simp only [List.getElem_cons_zero]
              try simp only [Act.put]
              try simp only [List.setIfInBounds_toArray]
              try simp only [List.set_cons_succ]
              try simp only [List.set_cons_zero]
              refine wpAnyH_take (i := 3) (v := ?_) rfl (by kernel_rfl) (by kernel_rfl) (by kernel_rfl) (fun _ _ _ h => h) (Or.inl ⟨by kernel_rfl, fun W hSW => by go_simp; try with_reducible rfl⟩) (by assumption) ?_
              try simp only [List.getElem_toArray]
              try simp only [List.getElem_cons_succ]
              try simp only [List.getElem_cons_zero]
              try simp only [Act.put]
              try simp only [List.setIfInBounds_toArray]
              try simp only [List.set_cons_succ]
              try simp only [List.set_cons_zero]
              refine wpAnyH_take (i := 4) (v := ?_) rfl (by kernel_rfl) (by kernel_rfl) (by kernel_rfl) (fun _ _ _ h => h) (Or.inl ⟨by kernel_rfl, fun W hSW => by go_simp; try with_reducible rfl⟩) (by assumption) ?_
              try simp only [List.getElem_toArray]
              try simp only [List.getElem_cons_succ]
              try simp only [List.getElem_cons_zero]
              try simp only [Act.put]
              try simp only [List.setIfInBounds_toArray]
              try simp only [List.set_cons_succ]
              try simp only [List.set_cons_zero]
              refine wpAnyH_take (i := 7) (v := ?_) rfl (by kernel_rfl) (by kernel_rfl) (by kernel_rfl) (fun _ _ _ h => h) (Or.inl ⟨by kernel_rfl, fun W hSW => by go_simp; try with_reducible rfl⟩) (by assumption) ?_
              try simp only [List.getElem_toArray]
              try simp only [List.getElem_cons_succ]
              try simp only [List.getElem_cons_zero]
              try simp only [Act.put]
              try simp only [List.setIfInBounds_toArray]
              try simp only [List.set_cons_succ]
              try simp only [List.set_cons_zero]
              refine wpAnyH_take (i := 8) (v := ?_) rfl (by kernel_rfl) (by kernel_rfl) (by kernel_rfl) (fun _ _ _ h => h) (Or.inl ⟨by kernel_rfl, fun W hSW => by go_simp; try with_reducible rfl⟩) (by assumption) ?_
              try simp only [List.getElem_toArray]
              try simp only [List.getElem_cons_succ]
              try simp only [List.getElem_cons_zero]
              try simp only [Act.put]
              try simp only [List.setIfInBounds_toArray]
              try simp only [List.set_cons_succ]
              try simp only [List.set_cons_zero]
              refine wpAnyH_take (i := 9) (v := ?_) rfl (by kernel_rfl) (by kernel_rfl) (by kernel_rfl) (fun _ _ _ h => h) (Or.inl ⟨by kernel_rfl, fun W hSW => by go_simp; try with_reducible rfl⟩) (by assumption) ?_
              try simp only [List.getElem_toArray]
              try simp only [List.getElem_cons_succ]
              try simp only [List.getElem_cons_zero]
              try simp only [Act.put]
              try simp only [List.setIfInBounds_toArray]
              try simp only [List.set_cons_succ]
              try simp only [List.set_cons_zero]
              refine wpAnyH_take (i := 10) (v := ?_) rfl (by kernel_rfl) (by kernel_rfl) (by kernel_rfl) (fun _ _ _ h => h) (Or.inl ⟨by kernel_rfl, fun W hSW => by go_simp; try with_reducible rfl⟩) (by assumption) ?_
              try simp only [List.getElem_toArray]
              try simp only [List.getElem_cons_succ]
              try simp only [List.getElem_cons_zero]
              try simp only [Act.put]
              try simp only [List.setIfInBounds_toArray]
              try simp only [List.set_cons_succ]
              try simp only [List.set_cons_zero]
              refine wpAnyH_take (i := 11) (v := (.int .i64 (x / 16))) rfl (by kernel_rfl) (by kernel_rfl) (by kernel_rfl) (fun _ _ _ h => h) (Or.inl ⟨by kernel_rfl, fun W hSW => by go_simp; try with_reducible rfl⟩) (by assumption) ?_
              try simp only [List.getElem_toArray]
              try simp only [List.getElem_cons_succ]
              try simp only [List.getElem_cons_zero]
              try simp only [Act.put]
              try simp only [List.setIfInBounds_toArray]
              try simp only [List.set_cons_succ]
              try simp only [List.set_cons_zero]
              refine wpAnyH_take (i := 12) (v := (.int .u8 (u : Int))) rfl (by kernel_rfl) (by kernel_rfl) (by kernel_rfl) (fun _ _ _ h => h) (Or.inl ⟨by kernel_rfl, fun W hSW => by go_simp; try with_reducible rfl⟩) (by assumption) ?_
              try simp only [List.getElem_toArray]
              try simp only [List.getElem_cons_succ]
              try simp only [List.getElem_cons_zero]
              try simp only [Act.put]
              try simp only [List.setIfInBounds_toArray]
              try simp only [List.set_cons_succ]
              try simp only [List.set_cons_zero]
              refine wpAnyH_ready (rs := [5, 13]) (by kernel_rfl) (by simp) ?_
              refine AllReadyH.cons rfl (fun K hK => ?_) (AllReadyH.cons rfl (fun K hK => ?_) AllReadyH.nil)
              · go_simp
                refine (HMK.out _ (HTA.out.t.kept (hk1.trans (k03.out.trans (Kept.refl _ w3).drew)))).mono ?_
                rintro e w4 ⟨rfl, hb4⟩
                have K4 : Kept (fun _ => False) w3 w4 := (Kept.refl (fun _ => False) w3).drew.trans (kept_of hb4)
                refine hK.out _ _ (K4.mono (fun _ _ h => h.elim)) (fun _ => ?_)
                clear hK K
                try simp only [List.getElem_toArray]
                try simp only [List.getElem_cons_succ]
                try simp only [List.getElem_cons_zero]
                try simp only [Act.put]
                try simp only [List.setIfInBounds_toArray]
                try simp only [List.set_cons_succ]
                try simp only [List.set_cons_zero]
                refine wpAnyH_take (i := 6) (v := ?_) rfl (by kernel_rfl) (by kernel_rfl) (by kernel_rfl) (fun _ _ _ h => h) (Or.inl ⟨by kernel_rfl, fun W hSW => by go_simp; try with_reducible rfl⟩) (by assumption) ?_
                try simp only [List.getElem_toArray]
                try simp only [List.getElem_cons_succ]
                try simp only [List.getElem_cons_zero]
                try simp only [Act.put]
                try simp only [List.setIfInBounds_toArray]
                try simp only [List.set_cons_succ]
                try simp only [List.set_cons_zero]
                refine wpAnyH_ready (rs := [13]) (by kernel_rfl) (by simp) ?_
                refine AllReadyH.cons rfl (fun K hK => ?_) AllReadyH.nil
                go_simp
                have hcv := put_conv (own_byte w4 u hu)
                refine hK.out _ _ ((K4.alloc (.cells #[.int .u8 (u : Int)] 5)).mono (fun _ _ h => h.elim)) (fun _ => ?_)
                clear hK K
                try dsimp only
                try simp only [List.getElem_toArray]
                try simp only [List.getElem_cons_succ]
                try simp only [List.getElem_cons_zero]
                try simp only [Act.put]
                try simp only [List.setIfInBounds_toArray]
                try simp only [List.set_cons_succ]
                try simp only [List.set_cons_zero]
                refine wpAnyH_ready (rs := [14]) (by kernel_rfl) (by simp) ?_
                refine AllReadyH.cons rfl (fun K hK => ?_) AllReadyH.nil
                go_simp
                have K5 : Kept (fun _ => False) w3 (w4.alloc (.cells #[.int .u8 (u : Int)] 5)) := K4.alloc _
                refine hK.out _ _ (K5.mono (fun _ _ h => h.elim)) (fun _ => ?_)
                clear hK K
                try simp only [List.getElem_toArray]
                try simp only [List.getElem_cons_succ]
                try simp only [List.getElem_cons_zero]
                try simp only [Act.put]
                try simp only [List.setIfInBounds_toArray]
                try simp only [List.set_cons_succ]
                try simp only [List.set_cons_zero]
                refine wpAnyH_take (i := 15) (v := ?_) rfl (by kernel_rfl) (by kernel_rfl) (by kernel_rfl) (fun _ _ _ h => h) (Or.inl ⟨by kernel_rfl, fun W hSW => by go_simp; try with_reducible rfl⟩) (by assumption) ?_
                try simp only [List.getElem_toArray]
                try simp only [List.getElem_cons_succ]
                try simp only [List.getElem_cons_zero]
                try simp only [Act.put]
                try simp only [List.setIfInBounds_toArray]
                try simp only [List.set_cons_succ]
                try simp only [List.set_cons_zero]
                clear hcv
                generalize w4.alloc (.cells #[.int .u8 (u : Int)] 5) = W5 at *
                have tg6 : TagsAt (W5.alloc (.cells #[.int .i64 257, .string ⟨#[]⟩, .int .i64 260, .string mk, .int .i64 259, .string ⟨#[UInt8.ofNat u]⟩] 53)) (.slice (some ⟨W5.heap.size, 0, none⟩) 3 3) (padrTags (uK u) mk) := (own_three W5 0 (Nat.zero_le _) 257 eB 260 mk 259 (uK u)).tags
                have K6 : Kept (fun _ => False) w3 (W5.alloc (.cells #[.int .i64 257, .string ⟨#[]⟩, .int .i64 260, .string mk, .int .i64 259, .string ⟨#[UInt8.ofNat u]⟩] 53)) := K5.alloc _
                refine wpAnyH_ready (rs := [16]) (by kernel_rfl) (by simp) ?_
                refine AllReadyH.cons rfl (fun K hK => ?_) AllReadyH.nil
                go_simp
                refine hK.out _ _ (K6.mono (fun _ _ h => h.elim)) (fun _ => ?_)
                clear hK K
                try dsimp only
                try simp only [List.getElem_toArray]
                try simp only [List.getElem_cons_succ]
                try simp only [List.getElem_cons_zero]
                try simp only [Act.put]
                try simp only [List.setIfInBounds_toArray]
                try simp only [List.set_cons_succ]
                try simp only [List.set_cons_zero]
                refine wpAnyH_ready (rs := [17]) (by kernel_rfl) (by simp) ?_
                refine AllReadyH.cons rfl (fun K hK => ?_) AllReadyH.nil
                go_simp
                refine (HAK.out _ _ tg6).mono ?_
                rintro e w7 ⟨rfl, hk7'⟩
                have K7 : Kept (fun _ => False) w3 w7 := K6.trans hk7'
                refine hK.out _ _ (K7.mono (fun _ _ h => h.elim)) (fun _ => ?_)
                clear hK K
                try simp only [List.getElem_toArray]
                try simp only [List.getElem_cons_succ]
                try simp only [List.getElem_cons_zero]
                try simp only [Act.put]
                try simp only [List.setIfInBounds_toArray]
                try simp only [List.set_cons_succ]
                try simp only [List.set_cons_zero]
                refine wpAnyH_ready (rs := [18]) (by kernel_rfl) (by simp) ?_
                refine AllReadyH.cons rfl (fun K hK => ?_) AllReadyH.nil
                go_simp
                refine (HTK.out w7 (HA3.out.kept0 K7) (HTA.out.kept (hk1.trans (k03.out.trans K7)))).mono ?_
                rintro e w8 ⟨u8, f8, rfl, hf8, ho8, hn8⟩
                obtain ⟨p8, c8, rfl⟩ := slice_of ho8
                have K8 : Kept S1 w3 w8 := (K7.mono (T := S1) (fun _ _ h => h.elim)).trans hn8.kept
                refine hK.out _ _ (K8) (fun _ => ?_)
                clear hK K
                try simp only [List.getElem_toArray]
                try simp only [List.getElem_cons_succ]
                try simp only [List.getElem_cons_zero]
                try simp only [Act.put]
                try simp only [List.setIfInBounds_toArray]
                try simp only [List.set_cons_succ]
                try simp only [List.set_cons_zero]
                refine wpAnyH_take (i := 19) (v := ?_) rfl (by kernel_rfl) (by kernel_rfl) (by kernel_rfl) (fun _ _ _ h => h) (Or.inl ⟨by kernel_rfl, fun W hSW => by go_simp; try with_reducible rfl⟩) (by assumption) ?_
                try simp only [List.getElem_toArray]
                try simp only [List.getElem_cons_succ]
                try simp only [List.getElem_cons_zero]
                try simp only [Act.put]
                try simp only [List.setIfInBounds_toArray]
                try simp only [List.set_cons_succ]
                try simp only [List.set_cons_zero]
                refine wpAnyH_done (by kernel_rfl) ?_ _
                have CM := hid (CMine.go (hk1.trans (k03.out.trans K7)) HS1.out hn8)
                have RC := hid (HR.out.ask (m := crd k7) rfl (uK u))
                obtain ⟨g8, cap8, e8, l8, y8⟩ := ho8.first
                simp only [List.length_singleton, Value.slice.injEq, true_and] at e8
                obtain ⟨rfl, rfl⟩ := e8
                have y8_0 : ∀ W, IsW w8.drew W → W.cell? ⟨g8, 0, none⟩ = some (.int .u8 (k7 : Int)) := fun W h => by rw [show W = w8.drew from h]; exact y8 0 _ (by decide) (by unfold frList; rw [hf8, crd_cells hk7]; rfl)
                have y8_1 : ∀ W, IsW w8.drew W → W.cell? ⟨g8, 1, none⟩ = some (.int .u8 0) := fun W h => by rw [show W = w8.drew from h]; exact y8 1 _ (by decide) (by unfold frList; rw [hf8, crd_cells hk7]; rfl)
                have y8_2 : ∀ W, IsW w8.drew W → W.cell? ⟨g8, 2, none⟩ = some (.int .u8 0) := fun W h => by rw [show W = w8.drew from h]; exact y8 2 _ (by decide) (by unfold frList; rw [hf8, crd_cells hk7]; rfl)
                have y8_3 : ∀ W, IsW w8.drew W → W.cell? ⟨g8, 3, none⟩ = some (.int .u8 0) := fun W h => by rw [show W = w8.drew from h]; exact y8 3 _ (by decide) (by unfold frList; rw [hf8, crd_cells hk7]; rfl)
                have y8_4 : ∀ W, IsW w8.drew W → W.cell? ⟨g8, 4, none⟩ = some (.int .u8 0) := fun W h => by rw [show W = w8.drew from h]; exact y8 4 _ (by decide) (by unfold frList; rw [hf8, crd_cells hk7]; rfl)
                have y8_5 : ∀ W, IsW w8.drew W → W.cell? ⟨g8, 5, none⟩ = some (.int .u8 0) := fun W h => by rw [show W = w8.drew from h]; exact y8 5 _ (by decide) (by unfold frList; rw [hf8, crd_cells hk7]; rfl)
                have z8_0 : ∀ W, IsW w8.drew W → W.cell? ⟨wr.heap.size, 0, none⟩ = some (.int .u8 (k7 : Int)) := fun W h => by rw [show W = w8.drew from h]; exact a0 _ K8.drew
                have z8_1 : ∀ W, IsW w8.drew W → W.cell? ⟨wr.heap.size, 1, none⟩ = some (.int .u8 0) := fun W h => by rw [show W = w8.drew from h]; exact a1 _ K8.drew
                have z8_2 : ∀ W, IsW w8.drew W → W.cell? ⟨wr.heap.size, 2, none⟩ = some (.int .u8 0) := fun W h => by rw [show W = w8.drew from h]; exact a2 _ K8.drew
                have z8_3 : ∀ W, IsW w8.drew W → W.cell? ⟨wr.heap.size, 3, none⟩ = some (.int .u8 0) := fun W h => by rw [show W = w8.drew from h]; exact a3 _ K8.drew
                have z8_4 : ∀ W, IsW w8.drew W → W.cell? ⟨wr.heap.size, 4, none⟩ = some (.int .u8 0) := fun W h => by rw [show W = w8.drew from h]; exact a4 _ K8.drew
                have z8_5 : ∀ W, IsW w8.drew W → W.cell? ⟨wr.heap.size, 5, none⟩ = some (.int .u8 0) := fun W h => by rw [show W = w8.drew from h]; exact a5 _ K8.drew
                clear y8 ho8 hn8 K8 K7 K6 tg6 a0 a1 a2 a3 a4 a5 b0 b1 b2 b3 b4 b5 xx
                go_wp2
                refine wp_region_held_drew (S := IsW w8.drew) (by kernel_rfl) (rfl) (fun hSd => ?_)
                refine wpAnyH_take (i := 0) (v := ?_) rfl (by kernel_rfl) (by kernel_rfl) (by kernel_rfl) (fun _ _ _ h => h) (Or.inl ⟨by kernel_rfl, fun W hSW => by go_simp; try with_reducible rfl⟩) (by assumption) ?_
                try simp only [List.getElem_toArray]
                try simp only [List.getElem_cons_succ]
                try simp only [List.getElem_cons_zero]
                try simp only [Act.put]
                try simp only [List.setIfInBounds_toArray]
                try simp only [List.set_cons_succ]
                try simp only [List.set_cons_zero]
                refine wpAnyH_take (i := 1) (v := ?_) rfl (by kernel_rfl) (by kernel_rfl) (by kernel_rfl) (fun _ _ _ h => h) (Or.inl ⟨by kernel_rfl, fun W hSW => by go_simp; try with_reducible rfl⟩) (by assumption) ?_
                try simp only [List.getElem_toArray]
                try simp only [List.getElem_cons_succ]
                try simp only [List.getElem_cons_zero]
                try simp only [Act.put]
                try simp only [List.setIfInBounds_toArray]
                try simp only [List.set_cons_succ]
                try simp only [List.set_cons_zero]
                refine wpAnyH_take (i := 2) (v := .bool false) rfl (by kernel_rfl) (by kernel_rfl) (by kernel_rfl) (fun _ _ _ h => h) (Or.inl ⟨by kernel_rfl, fun W hSW => by go_simp; try with_reducible rfl⟩) (by assumption) ?_
                try simp only [List.getElem_toArray]
                try simp only [List.getElem_cons_succ]
                try simp only [List.getElem_cons_zero]
                try simp only [Act.put]
                try simp only [List.setIfInBounds_toArray]
                try simp only [List.set_cons_succ]
                try simp only [List.set_cons_zero]
                refine wpAnyH_take (i := 3) (v := .bool false) rfl (by kernel_rfl) (by kernel_rfl) (by kernel_rfl) (fun _ _ _ h => h) (Or.inl ⟨by kernel_rfl, fun W hSW => by go_simp; try with_reducible rfl⟩) (by assumption) ?_
                try simp only [List.getElem_toArray]
                try simp only [List.getElem_cons_succ]
                try simp only [List.getElem_cons_zero]
                try simp only [Act.put]
                try simp only [List.setIfInBounds_toArray]
                try simp only [List.set_cons_succ]
                try simp only [List.set_cons_zero]
                refine wpAnyH_take (i := 4) (v := ?_) rfl (by kernel_rfl) (by kernel_rfl) (by kernel_rfl) (fun _ _ _ h => h) (Or.inl ⟨by kernel_rfl, fun W hSW => by go_simp; try with_reducible rfl⟩) (by assumption) ?_
                try simp only [List.getElem_toArray]
                try simp only [List.getElem_cons_succ]
                try simp only [List.getElem_cons_zero]
                try simp only [Act.put]
                try simp only [List.setIfInBounds_toArray]
                try simp only [List.set_cons_succ]
                try simp only [List.set_cons_zero]
                refine wpAnyH_take (i := 5) (v := ?_) rfl (by kernel_rfl) (by kernel_rfl) (by kernel_rfl) (fun _ _ _ h => h) (Or.inl ⟨by kernel_rfl, fun W hSW => by go_simp; try with_reducible rfl⟩) (by assumption) ?_
                try simp only [List.getElem_toArray]
                try simp only [List.getElem_cons_succ]
                try simp only [List.getElem_cons_zero]
                try simp only [Act.put]
                try simp only [List.setIfInBounds_toArray]
                try simp only [List.set_cons_succ]
                try simp only [List.set_cons_zero]
                refine wpAnyH_take (i := 6) (v := ?_) rfl (by kernel_rfl) (by kernel_rfl) (by kernel_rfl) (fun _ _ _ h => h) (Or.inl ⟨by kernel_rfl, fun W hSW => by go_simp; try with_reducible rfl⟩) (by assumption) ?_
                try simp only [List.getElem_toArray]
                try simp only [List.getElem_cons_succ]
                try simp only [List.getElem_cons_zero]
                try simp only [Act.put]
                try simp only [List.setIfInBounds_toArray]
                try simp only [List.set_cons_succ]
                try simp only [List.set_cons_zero]
                refine wpAnyH_take (i := 7) (v := ?_) rfl (by kernel_rfl) (by kernel_rfl) (by kernel_rfl) (fun _ _ _ h => h) (Or.inl ⟨by kernel_rfl, fun W hSW => by go_simp; try with_reducible rfl⟩) (by assumption) ?_
                try simp only [List.getElem_toArray]
                try simp only [List.getElem_cons_succ]
                try simp only [List.getElem_cons_zero]
                try simp only [Act.put]
                try simp only [List.setIfInBounds_toArray]
                try simp only [List.set_cons_succ]
                try simp only [List.set_cons_zero]
                refine wpAnyH_take (i := 8) (v := ?_) rfl (by kernel_rfl) (by kernel_rfl) (by kernel_rfl) (fun _ _ _ h => h) (Or.inl ⟨by kernel_rfl, fun W hSW => by go_simp; try with_reducible rfl⟩) (by assumption) ?_
                try simp only [List.getElem_toArray]
                try simp only [List.getElem_cons_succ]
                try simp only [List.getElem_cons_zero]
                try simp only [Act.put]
                try simp only [List.setIfInBounds_toArray]
                try simp only [List.set_cons_succ]
                try simp only [List.set_cons_zero]
                refine wpAnyH_take (i := 9) (v := .bool false) rfl (by kernel_rfl) (by kernel_rfl) (by kernel_rfl) (fun _ _ _ h => h) (Or.inl ⟨by kernel_rfl, fun W hSW => by go_simp; try with_reducible rfl⟩) (by assumption) ?_
                try simp only [List.getElem_toArray]
                try simp only [List.getElem_cons_succ]
                try simp only [List.getElem_cons_zero]
                try simp only [Act.put]
                try simp only [List.setIfInBounds_toArray]
                try simp only [List.set_cons_succ]
                try simp only [List.set_cons_zero]
                refine wpAnyH_take (i := 10) (v := .bool false) rfl (by kernel_rfl) (by kernel_rfl) (by kernel_rfl) (fun _ _ _ h => h) (Or.inl ⟨by kernel_rfl, fun W hSW => by go_simp; try with_reducible rfl⟩) (by assumption) ?_
                try simp only [List.getElem_toArray]
                try simp only [List.getElem_cons_succ]
                try simp only [List.getElem_cons_zero]
                try simp only [Act.put]
                try simp only [List.setIfInBounds_toArray]
                try simp only [List.set_cons_succ]
                try simp only [List.set_cons_zero]
                refine wpAnyH_done (by kernel_rfl) ?_ _
                go_wp2
                go_meet
                exact ⟨_, RC.out, CM.out.still (Kept.refl _ w8).drew⟩
              · go_simp
                have hcv := put_conv (own_byte_kept w3 u hu ((Kept.refl (fun _ => False) (w3.alloc (.cells #[.int .u8 (u : Int)] 5))).drew))
                refine hK.out _ _ (((Kept.refl (fun _ => False) w3).alloc (.cells #[.int .u8 (u : Int)] 5)).drew.mono (fun _ _ h => h.elim)) (fun _ => ?_)
                clear hK K
                try dsimp only
                try simp only [List.getElem_toArray]
                try simp only [List.getElem_cons_succ]
                try simp only [List.getElem_cons_zero]
                try simp only [Act.put]
                try simp only [List.setIfInBounds_toArray]
                try simp only [List.set_cons_succ]
                try simp only [List.set_cons_zero]
                refine wpAnyH_ready (rs := [5, 14]) (by kernel_rfl) (by simp) ?_
                refine AllReadyH.cons rfl (fun K hK => ?_) (AllReadyH.cons rfl (fun K hK => ?_) AllReadyH.nil)
                · go_simp
                  refine (HMK.out _ (HTA.out.t.kept (hk1.trans (k03.out.trans ((Kept.refl _ w3).alloc _).drew)))).mono ?_
                  rintro e W5 ⟨rfl, hb4⟩
                  have K5 : Kept (fun _ => False) w3 W5 := ((Kept.refl (fun _ => False) w3).alloc (.cells #[.int .u8 (u : Int)] 5)).drew.trans (kept_of hb4)
                  have hcv5 := put_conv (own_byte_kept w3 u hu (show Kept (fun _ => False) (w3.alloc (.cells #[.int .u8 (u : Int)] 5)) W5 from (Kept.refl _ _).drew.trans (kept_of hb4)))
                  refine hK.out _ _ (K5.mono (fun _ _ h => h.elim)) (fun _ => ?_)
                  clear hK K
                  try simp only [List.getElem_toArray]
                  try simp only [List.getElem_cons_succ]
                  try simp only [List.getElem_cons_zero]
                  try simp only [Act.put]
                  try simp only [List.setIfInBounds_toArray]
                  try simp only [List.set_cons_succ]
                  try simp only [List.set_cons_zero]
                  refine wpAnyH_take (i := 6) (v := ?_) rfl (by kernel_rfl) (by kernel_rfl) (by kernel_rfl) (fun _ _ _ h => h) (Or.inl ⟨by kernel_rfl, fun W hSW => by go_simp; try with_reducible rfl⟩) (by assumption) ?_
                  try simp only [List.getElem_toArray]
                  try simp only [List.getElem_cons_succ]
                  try simp only [List.getElem_cons_zero]
                  try simp only [Act.put]
                  try simp only [List.setIfInBounds_toArray]
                  try simp only [List.set_cons_succ]
                  try simp only [List.set_cons_zero]
                  refine wpAnyH_ready (rs := [14]) (by kernel_rfl) (by simp) ?_
                  refine AllReadyH.cons rfl (fun K hK => ?_) AllReadyH.nil
                  go_simp
                  refine hK.out _ _ (K5.mono (fun _ _ h => h.elim)) (fun _ => ?_)
                  clear hK K
                  try simp only [List.getElem_toArray]
                  try simp only [List.getElem_cons_succ]
                  try simp only [List.getElem_cons_zero]
                  try simp only [Act.put]
                  try simp only [List.setIfInBounds_toArray]
                  try simp only [List.set_cons_succ]
                  try simp only [List.set_cons_zero]
                  refine wpAnyH_take (i := 15) (v := ?_) rfl (by kernel_rfl) (by kernel_rfl) (by kernel_rfl) (fun _ _ _ h => h) (Or.inl ⟨by kernel_rfl, fun W hSW => by go_simp; try with_reducible rfl⟩) (by assumption) ?_
                  try simp only [List.getElem_toArray]
                  try simp only [List.getElem_cons_succ]
                  try simp only [List.getElem_cons_zero]
                  try simp only [Act.put]
                  try simp only [List.setIfInBounds_toArray]
                  try simp only [List.set_cons_succ]
                  try simp only [List.set_cons_zero]
                  clear hcv hcv5
                  have tg6 : TagsAt (W5.alloc (.cells #[.int .i64 257, .string ⟨#[]⟩, .int .i64 260, .string mk, .int .i64 259, .string ⟨#[UInt8.ofNat u]⟩] 53)) (.slice (some ⟨W5.heap.size, 0, none⟩) 3 3) (padrTags (uK u) mk) := (own_three W5 0 (Nat.zero_le _) 257 eB 260 mk 259 (uK u)).tags
                  have K6 : Kept (fun _ => False) w3 (W5.alloc (.cells #[.int .i64 257, .string ⟨#[]⟩, .int .i64 260, .string mk, .int .i64 259, .string ⟨#[UInt8.ofNat u]⟩] 53)) := K5.alloc _
                  refine wpAnyH_ready (rs := [16]) (by kernel_rfl) (by simp) ?_
                  refine AllReadyH.cons rfl (fun K hK => ?_) AllReadyH.nil
                  go_simp
                  refine hK.out _ _ (K6.mono (fun _ _ h => h.elim)) (fun _ => ?_)
                  clear hK K
                  try dsimp only
                  try simp only [List.getElem_toArray]
                  try simp only [List.getElem_cons_succ]
                  try simp only [List.getElem_cons_zero]
                  try simp only [Act.put]
                  try simp only [List.setIfInBounds_toArray]
                  try simp only [List.set_cons_succ]
                  try simp only [List.set_cons_zero]
                  refine wpAnyH_ready (rs := [17]) (by kernel_rfl) (by simp) ?_
                  refine AllReadyH.cons rfl (fun K hK => ?_) AllReadyH.nil
                  go_simp
                  refine (HAK.out _ _ tg6).mono ?_
                  rintro e w7 ⟨rfl, hk7'⟩
                  have K7 : Kept (fun _ => False) w3 w7 := K6.trans hk7'
                  refine hK.out _ _ (K7.mono (fun _ _ h => h.elim)) (fun _ => ?_)
                  clear hK K
                  try simp only [List.getElem_toArray]
                  try simp only [List.getElem_cons_succ]
                  try simp only [List.getElem_cons_zero]
                  try simp only [Act.put]
                  try simp only [List.setIfInBounds_toArray]
                  try simp only [List.set_cons_succ]
                  try simp only [List.set_cons_zero]
                  refine wpAnyH_ready (rs := [18]) (by kernel_rfl) (by simp) ?_
                  refine AllReadyH.cons rfl (fun K hK => ?_) AllReadyH.nil
                  go_simp
                  refine (HTK.out w7 (HA3.out.kept0 K7) (HTA.out.kept (hk1.trans (k03.out.trans K7)))).mono ?_
                  rintro e w8 ⟨u8, f8, rfl, hf8, ho8, hn8⟩
                  obtain ⟨p8, c8, rfl⟩ := slice_of ho8
                  have K8 : Kept S1 w3 w8 := (K7.mono (T := S1) (fun _ _ h => h.elim)).trans hn8.kept
                  refine hK.out _ _ (K8) (fun _ => ?_)
                  clear hK K
                  try simp only [List.getElem_toArray]
                  try simp only [List.getElem_cons_succ]
                  try simp only [List.getElem_cons_zero]
                  try simp only [Act.put]
                  try simp only [List.setIfInBounds_toArray]
                  try simp only [List.set_cons_succ]
                  try simp only [List.set_cons_zero]
                  refine wpAnyH_take (i := 19) (v := ?_) rfl (by kernel_rfl) (by kernel_rfl) (by kernel_rfl) (fun _ _ _ h => h) (Or.inl ⟨by kernel_rfl, fun W hSW => by go_simp; try with_reducible rfl⟩) (by assumption) ?_
                  try simp only [List.getElem_toArray]
                  try simp only [List.getElem_cons_succ]
                  try simp only [List.getElem_cons_zero]
                  try simp only [Act.put]
                  try simp only [List.setIfInBounds_toArray]
                  try simp only [List.set_cons_succ]
                  try simp only [List.set_cons_zero]
                  refine wpAnyH_done (by kernel_rfl) ?_ _
                  have CM := hid (CMine.go (hk1.trans (k03.out.trans K7)) HS1.out hn8)
                  have RC := hid (HR.out.ask (m := crd k7) rfl (uK u))
                  obtain ⟨g8, cap8, e8, l8, y8⟩ := ho8.first
                  simp only [List.length_singleton, Value.slice.injEq, true_and] at e8
                  obtain ⟨rfl, rfl⟩ := e8
                  have y8_0 : ∀ W, IsW w8.drew W → W.cell? ⟨g8, 0, none⟩ = some (.int .u8 (k7 : Int)) := fun W h => by rw [show W = w8.drew from h]; exact y8 0 _ (by decide) (by unfold frList; rw [hf8, crd_cells hk7]; rfl)
                  have y8_1 : ∀ W, IsW w8.drew W → W.cell? ⟨g8, 1, none⟩ = some (.int .u8 0) := fun W h => by rw [show W = w8.drew from h]; exact y8 1 _ (by decide) (by unfold frList; rw [hf8, crd_cells hk7]; rfl)
                  have y8_2 : ∀ W, IsW w8.drew W → W.cell? ⟨g8, 2, none⟩ = some (.int .u8 0) := fun W h => by rw [show W = w8.drew from h]; exact y8 2 _ (by decide) (by unfold frList; rw [hf8, crd_cells hk7]; rfl)
                  have y8_3 : ∀ W, IsW w8.drew W → W.cell? ⟨g8, 3, none⟩ = some (.int .u8 0) := fun W h => by rw [show W = w8.drew from h]; exact y8 3 _ (by decide) (by unfold frList; rw [hf8, crd_cells hk7]; rfl)
                  have y8_4 : ∀ W, IsW w8.drew W → W.cell? ⟨g8, 4, none⟩ = some (.int .u8 0) := fun W h => by rw [show W = w8.drew from h]; exact y8 4 _ (by decide) (by unfold frList; rw [hf8, crd_cells hk7]; rfl)
                  have y8_5 : ∀ W, IsW w8.drew W → W.cell? ⟨g8, 5, none⟩ = some (.int .u8 0) := fun W h => by rw [show W = w8.drew from h]; exact y8 5 _ (by decide) (by unfold frList; rw [hf8, crd_cells hk7]; rfl)
                  have z8_0 : ∀ W, IsW w8.drew W → W.cell? ⟨wr.heap.size, 0, none⟩ = some (.int .u8 (k7 : Int)) := fun W h => by rw [show W = w8.drew from h]; exact a0 _ K8.drew
                  have z8_1 : ∀ W, IsW w8.drew W → W.cell? ⟨wr.heap.size, 1, none⟩ = some (.int .u8 0) := fun W h => by rw [show W = w8.drew from h]; exact a1 _ K8.drew
                  have z8_2 : ∀ W, IsW w8.drew W → W.cell? ⟨wr.heap.size, 2, none⟩ = some (.int .u8 0) := fun W h => by rw [show W = w8.drew from h]; exact a2 _ K8.drew
                  have z8_3 : ∀ W, IsW w8.drew W → W.cell? ⟨wr.heap.size, 3, none⟩ = some (.int .u8 0) := fun W h => by rw [show W = w8.drew from h]; exact a3 _ K8.drew
                  have z8_4 : ∀ W, IsW w8.drew W → W.cell? ⟨wr.heap.size, 4, none⟩ = some (.int .u8 0) := fun W h => by rw [show W = w8.drew from h]; exact a4 _ K8.drew
                  have z8_5 : ∀ W, IsW w8.drew W → W.cell? ⟨wr.heap.size, 5, none⟩ = some (.int .u8 0) := fun W h => by rw [show W = w8.drew from h]; exact a5 _ K8.drew
                  clear y8 ho8 hn8 K8 K7 K6 tg6 a0 a1 a2 a3 a4 a5 b0 b1 b2 b3 b4 b5 xx
                  go_wp2
                  refine wp_region_held_drew (S := IsW w8.drew) (by kernel_rfl) (rfl) (fun hSd => ?_)
                  refine wpAnyH_take (i := 0) (v := ?_) rfl (by kernel_rfl) (by kernel_rfl) (by kernel_rfl) (fun _ _ _ h => h) (Or.inl ⟨by kernel_rfl, fun W hSW => by go_simp; try with_reducible rfl⟩) (by assumption) ?_
                  try simp only [List.getElem_toArray]
                  try simp only [List.getElem_cons_succ]
                  try simp only [List.getElem_cons_zero]
                  try simp only [Act.put]
                  try simp only [List.setIfInBounds_toArray]
                  try simp only [List.set_cons_succ]
                  try simp only [List.set_cons_zero]
                  refine wpAnyH_take (i := 1) (v := ?_) rfl (by kernel_rfl) (by kernel_rfl) (by kernel_rfl) (fun _ _ _ h => h) (Or.inl ⟨by kernel_rfl, fun W hSW => by go_simp; try with_reducible rfl⟩) (by assumption) ?_
                  try simp only [List.getElem_toArray]
                  try simp only [List.getElem_cons_succ]
                  try simp only [List.getElem_cons_zero]
                  try simp only [Act.put]
                  try simp only [List.setIfInBounds_toArray]
                  try simp only [List.set_cons_succ]
                  try simp only [List.set_cons_zero]
                  refine wpAnyH_take (i := 2) (v := .bool false) rfl (by kernel_rfl) (by kernel_rfl) (by kernel_rfl) (fun _ _ _ h => h) (Or.inl ⟨by kernel_rfl, fun W hSW => by go_simp; try with_reducible rfl⟩) (by assumption) ?_
                  try simp only [List.getElem_toArray]
                  try simp only [List.getElem_cons_succ]
                  try simp only [List.getElem_cons_zero]
                  try simp only [Act.put]
                  try simp only [List.setIfInBounds_toArray]
                  try simp only [List.set_cons_succ]
                  try simp only [List.set_cons_zero]
                  refine wpAnyH_take (i := 3) (v := .bool false) rfl (by kernel_rfl) (by kernel_rfl) (by kernel_rfl) (fun _ _ _ h => h) (Or.inl ⟨by kernel_rfl, fun W hSW => by go_simp; try with_reducible rfl⟩) (by assumption) ?_
                  try simp only [List.getElem_toArray]
                  try simp only [List.getElem_cons_succ]
                  try simp only [List.getElem_cons_zero]
                  try simp only [Act.put]
                  try simp only [List.setIfInBounds_toArray]
                  try simp only [List.set_cons_succ]
                  try simp only [List.set_cons_zero]
                  refine wpAnyH_take (i := 4) (v := ?_) rfl (by kernel_rfl) (by kernel_rfl) (by kernel_rfl) (fun _ _ _ h => h) (Or.inl ⟨by kernel_rfl, fun W hSW => by go_simp; try with_reducible rfl⟩) (by assumption) ?_
                  try simp only [List.getElem_toArray]
                  try simp only [List.getElem_cons_succ]
                  try simp only [List.getElem_cons_zero]
                  try simp only [Act.put]
                  try simp only [List.setIfInBounds_toArray]
                  try simp only [List.set_cons_succ]
                  try simp only [List.set_cons_zero]
                  refine wpAnyH_take (i := 5) (v := ?_) rfl (by kernel_rfl) (by kernel_rfl) (by kernel_rfl) (fun _ _ _ h => h) (Or.inl ⟨by kernel_rfl, fun W hSW => by go_simp; try with_reducible rfl⟩) (by assumption) ?_
                  try simp only [List.getElem_toArray]
                  try simp only [List.getElem_cons_succ]
                  try simp only [List.getElem_cons_zero]
                  try simp only [Act.put]
                  try simp only [List.setIfInBounds_toArray]
                  try simp only [List.set_cons_succ]
                  try simp only [List.set_cons_zero]
                  refine wpAnyH_take (i := 6) (v := ?_) rfl (by kernel_rfl) (by kernel_rfl) (by kernel_rfl) (fun _ _ _ h => h) (Or.inl ⟨by kernel_rfl, fun W hSW => by go_simp; try with_reducible rfl⟩) (by assumption) ?_
                  try simp only [List.getElem_toArray]
                  try simp only [List.getElem_cons_succ]
                  try simp only [List.getElem_cons_zero]
                  try simp only [Act.put]
                  try simp only [List.setIfInBounds_toArray]
                  try simp only [List.set_cons_succ]
                  try simp only [List.set_cons_zero]
                  refine wpAnyH_take (i := 7) (v := ?_) rfl (by kernel_rfl) (by kernel_rfl) (by kernel_rfl) (fun _ _ _ h => h) (Or.inl ⟨by kernel_rfl, fun W hSW => by go_simp; try with_reducible rfl⟩) (by assumption) ?_
                  try simp only [List.getElem_toArray]
                  try simp only [List.getElem_cons_succ]
                  try simp only [List.getElem_cons_zero]
                  try simp only [Act.put]
                  try simp only [List.setIfInBounds_toArray]
                  try simp only [List.set_cons_succ]
                  try simp only [List.set_cons_zero]
                  refine wpAnyH_take (i := 8) (v := ?_) rfl (by kernel_rfl) (by kernel_rfl) (by kernel_rfl) (fun _ _ _ h => h) (Or.inl ⟨by kernel_rfl, fun W hSW => by go_simp; try with_reducible rfl⟩) (by assumption) ?_
                  try simp only [List.getElem_toArray]
                  try simp only [List.getElem_cons_succ]
                  try simp only [List.getElem_cons_zero]
                  try simp only [Act.put]
                  try simp only [List.setIfInBounds_toArray]
                  try simp only [List.set_cons_succ]
                  try simp only [List.set_cons_zero]
                  refine wpAnyH_take (i := 9) (v := .bool false) rfl (by kernel_rfl) (by kernel_rfl) (by kernel_rfl) (fun _ _ _ h => h) (Or.inl ⟨by kernel_rfl, fun W hSW => by go_simp; try with_reducible rfl⟩) (by assumption) ?_
                  try simp only [List.getElem_toArray]
                  try simp only [List.getElem_cons_succ]
                  try simp only [List.getElem_cons_zero]
                  try simp only [Act.put]
                  try simp only [List.setIfInBounds_toArray]
                  try simp only [List.set_cons_succ]
                  try simp only [List.set_cons_zero]
                  refine wpAnyH_take (i := 10) (v := .bool false) rfl (by kernel_rfl) (by kernel_rfl) (by kernel_rfl) (fun _ _ _ h => h) (Or.inl ⟨by kernel_rfl, fun W hSW => by go_simp; try with_reducible rfl⟩) (by assumption) ?_
                  try simp only [List.getElem_toArray]
                  try simp only [List.getElem_cons_succ]
                  try simp only [List.getElem_cons_zero]
                  try simp only [Act.put]
                  try simp only [List.setIfInBounds_toArray]
                  try simp only [List.set_cons_succ]
                  try simp only [List.set_cons_zero]
                  refine wpAnyH_done (by kernel_rfl) ?_ _
                  go_wp2
                  go_meet
                  exact ⟨_, RC.out, CM.out.still (Kept.refl _ w8).drew⟩
                · go_simp
                  refine hK.out _ _ (((Kept.refl (fun _ => False) w3).alloc (.cells #[.int .u8 (u : Int)] 5)).drew.mono (fun _ _ h => h.elim)) (fun _ => ?_)
                  clear hK K
                  try simp only [List.getElem_toArray]
                  try simp only [List.getElem_cons_succ]
                  try simp only [List.getElem_cons_zero]
                  try simp only [Act.put]
                  try simp only [List.setIfInBounds_toArray]
                  try simp only [List.set_cons_succ]
                  try simp only [List.set_cons_zero]
                  refine wpAnyH_take (i := 15) (v := ?_) rfl (by kernel_rfl) (by kernel_rfl) (by kernel_rfl) (fun _ _ _ h => h) (Or.inl ⟨by kernel_rfl, fun W hSW => by go_simp; try with_reducible rfl⟩) (by assumption) ?_
                  try simp only [List.getElem_toArray]
                  try simp only [List.getElem_cons_succ]
                  try simp only [List.getElem_cons_zero]
                  try simp only [Act.put]
                  try simp only [List.setIfInBounds_toArray]
                  try simp only [List.set_cons_succ]
                  try simp only [List.set_cons_zero]
                  refine wpAnyH_ready (rs := [5]) (by kernel_rfl) (by simp) ?_
                  refine AllReadyH.cons rfl (fun K hK => ?_) AllReadyH.nil
                  go_simp
                  refine (HMK.out _ (HTA.out.t.kept (hk1.trans (k03.out.trans ((Kept.refl _ w3).alloc _).drew)))).mono ?_
                  rintro e W5 ⟨rfl, hb4⟩
                  have K5 : Kept (fun _ => False) w3 W5 := ((Kept.refl (fun _ => False) w3).alloc (.cells #[.int .u8 (u : Int)] 5)).drew.trans (kept_of hb4)
                  refine hK.out _ _ (K5.mono (fun _ _ h => h.elim)) (fun _ => ?_)
                  clear hK K
                  try simp only [List.getElem_toArray]
                  try simp only [List.getElem_cons_succ]
                  try simp only [List.getElem_cons_zero]
                  try simp only [Act.put]
                  try simp only [List.setIfInBounds_toArray]
                  try simp only [List.set_cons_succ]
                  try simp only [List.set_cons_zero]
                  refine wpAnyH_take (i := 6) (v := ?_) rfl (by kernel_rfl) (by kernel_rfl) (by kernel_rfl) (fun _ _ _ h => h) (Or.inl ⟨by kernel_rfl, fun W hSW => by go_simp; try with_reducible rfl⟩) (by assumption) ?_
                  try simp only [List.getElem_toArray]
                  try simp only [List.getElem_cons_succ]
                  try simp only [List.getElem_cons_zero]
                  try simp only [Act.put]
                  try simp only [List.setIfInBounds_toArray]
                  try simp only [List.set_cons_succ]
                  try simp only [List.set_cons_zero]
                  clear hcv
                  have tg6 : TagsAt (W5.alloc (.cells #[.int .i64 257, .string ⟨#[]⟩, .int .i64 260, .string mk, .int .i64 259, .string ⟨#[UInt8.ofNat u]⟩] 53)) (.slice (some ⟨W5.heap.size, 0, none⟩) 3 3) (padrTags (uK u) mk) := (own_three W5 0 (Nat.zero_le _) 257 eB 260 mk 259 (uK u)).tags
                  have K6 : Kept (fun _ => False) w3 (W5.alloc (.cells #[.int .i64 257, .string ⟨#[]⟩, .int .i64 260, .string mk, .int .i64 259, .string ⟨#[UInt8.ofNat u]⟩] 53)) := K5.alloc _
                  refine wpAnyH_ready (rs := [16]) (by kernel_rfl) (by simp) ?_
                  refine AllReadyH.cons rfl (fun K hK => ?_) AllReadyH.nil
                  go_simp
                  refine hK.out _ _ (K6.mono (fun _ _ h => h.elim)) (fun _ => ?_)
                  clear hK K
                  try dsimp only
                  try simp only [List.getElem_toArray]
                  try simp only [List.getElem_cons_succ]
                  try simp only [List.getElem_cons_zero]
                  try simp only [Act.put]
                  try simp only [List.setIfInBounds_toArray]
                  try simp only [List.set_cons_succ]
                  try simp only [List.set_cons_zero]
                  refine wpAnyH_ready (rs := [17]) (by kernel_rfl) (by simp) ?_
                  refine AllReadyH.cons rfl (fun K hK => ?_) AllReadyH.nil
                  go_simp
                  refine (HAK.out _ _ tg6).mono ?_
                  rintro e w7 ⟨rfl, hk7'⟩
                  have K7 : Kept (fun _ => False) w3 w7 := K6.trans hk7'
                  refine hK.out _ _ (K7.mono (fun _ _ h => h.elim)) (fun _ => ?_)
                  clear hK K
                  try simp only [List.getElem_toArray]
                  try simp only [List.getElem_cons_succ]
                  try simp only [List.getElem_cons_zero]
                  try simp only [Act.put]
                  try simp only [List.setIfInBounds_toArray]
                  try simp only [List.set_cons_succ]
                  try simp only [List.set_cons_zero]
                  refine wpAnyH_ready (rs := [18]) (by kernel_rfl) (by simp) ?_
                  refine AllReadyH.cons rfl (fun K hK => ?_) AllReadyH.nil
                  go_simp
                  refine (HTK.out w7 (HA3.out.kept0 K7) (HTA.out.kept (hk1.trans (k03.out.trans K7)))).mono ?_
                  rintro e w8 ⟨u8, f8, rfl, hf8, ho8, hn8⟩
                  obtain ⟨p8, c8, rfl⟩ := slice_of ho8
                  have K8 : Kept S1 w3 w8 := (K7.mono (T := S1) (fun _ _ h => h.elim)).trans hn8.kept
                  refine hK.out _ _ (K8) (fun _ => ?_)
                  clear hK K
                  try simp only [List.getElem_toArray]
                  try simp only [List.getElem_cons_succ]
                  try simp only [List.getElem_cons_zero]
                  try simp only [Act.put]
                  try simp only [List.setIfInBounds_toArray]
                  try simp only [List.set_cons_succ]
                  try simp only [List.set_cons_zero]
                  refine wpAnyH_take (i := 19) (v := ?_) rfl (by kernel_rfl) (by kernel_rfl) (by kernel_rfl) (fun _ _ _ h => h) (Or.inl ⟨by kernel_rfl, fun W hSW => by go_simp; try with_reducible rfl⟩) (by assumption) ?_
                  try simp only [List.getElem_toArray]
                  try simp only [List.getElem_cons_succ]
                  try simp only [List.getElem_cons_zero]
                  try simp only [Act.put]
                  try simp only [List.setIfInBounds_toArray]
                  try simp only [List.set_cons_succ]
                  try simp only [List.set_cons_zero]
                  refine wpAnyH_done (by kernel_rfl) ?_ _
                  have CM := hid (CMine.go (hk1.trans (k03.out.trans K7)) HS1.out hn8)
                  have RC := hid (HR.out.ask (m := crd k7) rfl (uK u))
                  obtain ⟨g8, cap8, e8, l8, y8⟩ := ho8.first
                  simp only [List.length_singleton, Value.slice.injEq, true_and] at e8
                  obtain ⟨rfl, rfl⟩ := e8
                  have y8_0 : ∀ W, IsW w8.drew W → W.cell? ⟨g8, 0, none⟩ = some (.int .u8 (k7 : Int)) := fun W h => by rw [show W = w8.drew from h]; exact y8 0 _ (by decide) (by unfold frList; rw [hf8, crd_cells hk7]; rfl)
                  have y8_1 : ∀ W, IsW w8.drew W → W.cell? ⟨g8, 1, none⟩ = some (.int .u8 0) := fun W h => by rw [show W = w8.drew from h]; exact y8 1 _ (by decide) (by unfold frList; rw [hf8, crd_cells hk7]; rfl)
                  have y8_2 : ∀ W, IsW w8.drew W → W.cell? ⟨g8, 2, none⟩ = some (.int .u8 0) := fun W h => by rw [show W = w8.drew from h]; exact y8 2 _ (by decide) (by unfold frList; rw [hf8, crd_cells hk7]; rfl)
                  have y8_3 : ∀ W, IsW w8.drew W → W.cell? ⟨g8, 3, none⟩ = some (.int .u8 0) := fun W h => by rw [show W = w8.drew from h]; exact y8 3 _ (by decide) (by unfold frList; rw [hf8, crd_cells hk7]; rfl)
                  have y8_4 : ∀ W, IsW w8.drew W → W.cell? ⟨g8, 4, none⟩ = some (.int .u8 0) := fun W h => by rw [show W = w8.drew from h]; exact y8 4 _ (by decide) (by unfold frList; rw [hf8, crd_cells hk7]; rfl)
                  have y8_5 : ∀ W, IsW w8.drew W → W.cell? ⟨g8, 5, none⟩ = some (.int .u8 0) := fun W h => by rw [show W = w8.drew from h]; exact y8 5 _ (by decide) (by unfold frList; rw [hf8, crd_cells hk7]; rfl)
                  have z8_0 : ∀ W, IsW w8.drew W → W.cell? ⟨wr.heap.size, 0, none⟩ = some (.int .u8 (k7 : Int)) := fun W h => by rw [show W = w8.drew from h]; exact a0 _ K8.drew
                  have z8_1 : ∀ W, IsW w8.drew W → W.cell? ⟨wr.heap.size, 1, none⟩ = some (.int .u8 0) := fun W h => by rw [show W = w8.drew from h]; exact a1 _ K8.drew
                  have z8_2 : ∀ W, IsW w8.drew W → W.cell? ⟨wr.heap.size, 2, none⟩ = some (.int .u8 0) := fun W h => by rw [show W = w8.drew from h]; exact a2 _ K8.drew
                  have z8_3 : ∀ W, IsW w8.drew W → W.cell? ⟨wr.heap.size, 3, none⟩ = some (.int .u8 0) := fun W h => by rw [show W = w8.drew from h]; exact a3 _ K8.drew
                  have z8_4 : ∀ W, IsW w8.drew W → W.cell? ⟨wr.heap.size, 4, none⟩ = some (.int .u8 0) := fun W h => by rw [show W = w8.drew from h]; exact a4 _ K8.drew
                  have z8_5 : ∀ W, IsW w8.drew W → W.cell? ⟨wr.heap.size, 5, none⟩ = some (.int .u8 0) := fun W h => by rw [show W = w8.drew from h]; exact a5 _ K8.drew
                  clear y8 ho8 hn8 K8 K7 K6 tg6 a0 a1 a2 a3 a4 a5 b0 b1 b2 b3 b4 b5 xx
                  go_wp2
                  refine wp_region_held_drew (S := IsW w8.drew) (by kernel_rfl) (rfl) (fun hSd => ?_)
                  refine wpAnyH_take (i := 0) (v := ?_) rfl (by kernel_rfl) (by kernel_rfl) (by kernel_rfl) (fun _ _ _ h => h) (Or.inl ⟨by kernel_rfl, fun W hSW => by go_simp; try with_reducible rfl⟩) (by assumption) ?_
                  try simp only [List.getElem_toArray]
                  try simp only [List.getElem_cons_succ]
                  try simp only [List.getElem_cons_zero]
                  try simp only [Act.put]
                  try simp only [List.setIfInBounds_toArray]
                  try simp only [List.set_cons_succ]
                  try simp only [List.set_cons_zero]
                  refine wpAnyH_take (i := 1) (v := ?_) rfl (by kernel_rfl) (by kernel_rfl) (by kernel_rfl) (fun _ _ _ h => h) (Or.inl ⟨by kernel_rfl, fun W hSW => by go_simp; try with_reducible rfl⟩) (by assumption) ?_
                  try simp only [List.getElem_toArray]
                  try simp only [List.getElem_cons_succ]
                  try simp only [List.getElem_cons_zero]
                  try simp only [Act.put]
                  try simp only [List.setIfInBounds_toArray]
                  try simp only [List.set_cons_succ]
                  try simp only [List.set_cons_zero]
                  refine wpAnyH_take (i := 2) (v := .bool false) rfl (by kernel_rfl) (by kernel_rfl) (by kernel_rfl) (fun _ _ _ h => h) (Or.inl ⟨by kernel_rfl, fun W hSW => by go_simp; try with_reducible rfl⟩) (by assumption) ?_
                  try simp only [List.getElem_toArray]
                  try simp only [List.getElem_cons_succ]
                  try simp only [List.getElem_cons_zero]
                  try simp only [Act.put]
                  try simp only [List.setIfInBounds_toArray]
                  try simp only [List.set_cons_succ]
                  try simp only [List.set_cons_zero]
                  refine wpAnyH_take (i := 3) (v := .bool false) rfl (by kernel_rfl) (by kernel_rfl) (by kernel_rfl) (fun _ _ _ h => h) (Or.inl ⟨by kernel_rfl, fun W hSW => by go_simp; try with_reducible rfl⟩) (by assumption) ?_
                  try simp only [List.getElem_toArray]
                  try simp only [List.getElem_cons_succ]
                  try simp only [List.getElem_cons_zero]
                  try simp only [Act.put]
                  try simp only [List.setIfInBounds_toArray]
                  try simp only [List.set_cons_succ]
                  try simp only [List.set_cons_zero]
                  refine wpAnyH_take (i := 4) (v := ?_) rfl (by kernel_rfl) (by kernel_rfl) (by kernel_rfl) (fun _ _ _ h => h) (Or.inl ⟨by kernel_rfl, fun W hSW => by go_simp; try with_reducible rfl⟩) (by assumption) ?_
                  try simp only [List.getElem_toArray]
                  try simp only [List.getElem_cons_succ]
                  try simp only [List.getElem_cons_zero]
                  try simp only [Act.put]
                  try simp only [List.setIfInBounds_toArray]
                  try simp only [List.set_cons_succ]
                  try simp only [List.set_cons_zero]
                  refine wpAnyH_take (i := 5) (v := ?_) rfl (by kernel_rfl) (by kernel_rfl) (by kernel_rfl) (fun _ _ _ h => h) (Or.inl ⟨by kernel_rfl, fun W hSW => by go_simp; try with_reducible rfl⟩) (by assumption) ?_
                  try simp only [List.getElem_toArray]
                  try simp only [List.getElem_cons_succ]
                  try simp only [List.getElem_cons_zero]
                  try simp only [Act.put]
                  try simp only [List.setIfInBounds_toArray]
                  try simp only [List.set_cons_succ]
                  try simp only [List.set_cons_zero]
                  refine wpAnyH_take (i := 6) (v := ?_) rfl (by kernel_rfl) (by kernel_rfl) (by kernel_rfl) (fun _ _ _ h => h) (Or.inl ⟨by kernel_rfl, fun W hSW => by go_simp; try with_reducible rfl⟩) (by assumption) ?_
                  try simp only [List.getElem_toArray]
                  try simp only [List.getElem_cons_succ]
                  try simp only [List.getElem_cons_zero]
                  try simp only [Act.put]
                  try simp only [List.setIfInBounds_toArray]
                  try simp only [List.set_cons_succ]
                  try simp only [List.set_cons_zero]
                  refine wpAnyH_take (i := 7) (v := ?_) rfl (by kernel_rfl) (by kernel_rfl) (by kernel_rfl) (fun _ _ _ h => h) (Or.inl ⟨by kernel_rfl, fun W hSW => by go_simp; try with_reducible rfl⟩) (by assumption) ?_
                  try simp only [List.getElem_toArray]
                  try simp only [List.getElem_cons_succ]
                  try simp only [List.getElem_cons_zero]
                  try simp only [Act.put]
                  try simp only [List.setIfInBounds_toArray]
                  try simp only [List.set_cons_succ]
                  try simp only [List.set_cons_zero]
                  refine wpAnyH_take (i := 8) (v := ?_) rfl (by kernel_rfl) (by kernel_rfl) (by kernel_rfl) (fun _ _ _ h => h) (Or.inl ⟨by kernel_rfl, fun W hSW => by go_simp; try with_reducible rfl⟩) (by assumption) ?_
                  try simp only [List.getElem_toArray]
                  try simp only [List.getElem_cons_succ]
                  try simp only [List.getElem_cons_zero]
                  try simp only [Act.put]
                  try simp only [List.setIfInBounds_toArray]
                  try simp only [List.set_cons_succ]
                  try simp only [List.set_cons_zero]
                  refine wpAnyH_take (i := 9) (v := .bool false) rfl (by kernel_rfl) (by kernel_rfl) (by kernel_rfl) (fun _ _ _ h => h) (Or.inl ⟨by kernel_rfl, fun W hSW => by go_simp; try with_reducible rfl⟩) (by assumption) ?_
                  try simp only [List.getElem_toArray]
                  try simp only [List.getElem_cons_succ]
                  try simp only [List.getElem_cons_zero]
                  try simp only [Act.put]
                  try simp only [List.setIfInBounds_toArray]
                  try simp only [List.set_cons_succ]
                  try simp only [List.set_cons_zero]
                  refine wpAnyH_take (i := 10) (v := .bool false) rfl (by kernel_rfl) (by kernel_rfl) (by kernel_rfl) (fun _ _ _ h => h) (Or.inl ⟨by kernel_rfl, fun W hSW => by go_simp; try with_reducible rfl⟩) (by assumption) ?_
                  try simp only [List.getElem_toArray]
                  try simp only [List.getElem_cons_succ]
                  try simp only [List.getElem_cons_zero]
                  try simp only [Act.put]
                  try simp only [List.setIfInBounds_toArray]
                  try simp only [List.set_cons_succ]
                  try simp only [List.set_cons_zero]
                  refine wpAnyH_done (by kernel_rfl) ?_ _
                  go_wp2
                  go_meet
                  exact ⟨_, RC.out, CM.out.still (Kept.refl _ w8).drew⟩
            · have d8 : ((k8 : Int) == 0) = false := by rw [beq_eq_false_iff_ne]; omega
              have HAK := hid (fun W => asked_any (crd k7) m9 rfl rfl 167 (n7 : Int) (.slice none 0 0) [] W (Or.inl ⟨rfl, none, 0, rfl⟩) (by simp))
              have hdata : ∃ z, frV (askedF (crd k7) m9 167 (n7 : Int) []) = .agg #[.int .u8 9, .int .u8 0, .int .u8 0, .int .u8 0, .int .u8 0, .int .u8 0, .int .u8 (k7 : Int), .int .u8 0, .int .u8 0, .int .u8 0, .int .u8 0, .int .u8 0, .int .i64 34915, .string z] := ⟨(askedF (crd k7) m9 167 (n7 : Int) []).data, by unfold frV frList askedF; simp only []; rw [crd_cells hk7]; rfl⟩
              obtain ⟨z, hz⟩ := hdata
              have HTK : Hid (∀ W, CAt S1 W B c → Calls Tryd.prog 12 #[.pointer (some ⟨B, 0, none⟩), frV (askedF (crd k7) m9 167 (n7 : Int) []), .int .i64 6] W fun e w' => e = .returned (.slice none 0 0) ∧ ∃ c', RoomC most (i + 1) c' ∧ CNext S1 W w' B c') := fun W hA => by
                by_cases hn0 : n7 = 0
                · subst hn0
                  exact (padt0_at hA HR.out.good HR.out.mac (h := crd k7) rfl (crd_not hk7) 6).mono fun e w' ⟨he, hk⟩ => ⟨he, c, HR.out.up, hA.next.still hk⟩
                · exact (padt_at hA HR.out.good (by have := HR.out.gone; omega) HR.out.mac (h := crd k7) rfl (crd_not hk7) hn0 (by omega) 6).mono fun e w' ⟨he, hn⟩ => ⟨he, _, HR.out.ends (by omega) rfl _, hn⟩
              rw [hz] at HAK HTK
              rw [crd_cells hk7] at HAK
              change Hid (∀ W, Calls Tryd.prog 16 #[.agg #[.int .u8 (k7 : Int), .int .u8 0, .int .u8 0, .int .u8 0, .int .u8 0, .int .u8 0], .agg #[.int .u8 9, .int .u8 0, .int .u8 0, .int .u8 0, .int .u8 0, .int .u8 0], .int .i64 167, .int .i64 (n7 : Int), .slice none 0 0] W fun e w' => _) at HAK
              clear hz h8
              have a0 : ∀ W, Kept S1 w3 W → W.cell? ⟨wr.heap.size, 0, none⟩ = some (.int .u8 (k7 : Int)) := fun W h => (BH.out.keptS h (fun h => by have := HSlt.out _ h; omega)).c0
              have a1 : ∀ W, Kept S1 w3 W → W.cell? ⟨wr.heap.size, 1, none⟩ = some (.int .u8 0) := fun W h => (BH.out.keptS h (fun h => by have := HSlt.out _ h; omega)).c1
              have a2 : ∀ W, Kept S1 w3 W → W.cell? ⟨wr.heap.size, 2, none⟩ = some (.int .u8 0) := fun W h => (BH.out.keptS h (fun h => by have := HSlt.out _ h; omega)).c2
              have a3 : ∀ W, Kept S1 w3 W → W.cell? ⟨wr.heap.size, 3, none⟩ = some (.int .u8 0) := fun W h => (BH.out.keptS h (fun h => by have := HSlt.out _ h; omega)).c3
              have a4 : ∀ W, Kept S1 w3 W → W.cell? ⟨wr.heap.size, 4, none⟩ = some (.int .u8 0) := fun W h => (BH.out.keptS h (fun h => by have := HSlt.out _ h; omega)).c4
              have a5 : ∀ W, Kept S1 w3 W → W.cell? ⟨wr.heap.size, 5, none⟩ = some (.int .u8 0) := fun W h => (BH.out.keptS h (fun h => by have := HSlt.out _ h; omega)).c5
              have b0 : ∀ W, Kept S1 w3 W → W.cell? ⟨w.heap.size, 0, none⟩ = some (.int .u8 9) := fun W h => ((BM.out.kept (hk1.trans k03.out)).keptS h (fun h => by have h1 := HS1.out _ h; have h2 := HWA.out; omega)).c0
              have b1 : ∀ W, Kept S1 w3 W → W.cell? ⟨w.heap.size, 1, none⟩ = some (.int .u8 0) := fun W h => ((BM.out.kept (hk1.trans k03.out)).keptS h (fun h => by have h1 := HS1.out _ h; have h2 := HWA.out; omega)).c1
              have b2 : ∀ W, Kept S1 w3 W → W.cell? ⟨w.heap.size, 2, none⟩ = some (.int .u8 0) := fun W h => ((BM.out.kept (hk1.trans k03.out)).keptS h (fun h => by have h1 := HS1.out _ h; have h2 := HWA.out; omega)).c2
              have b3 : ∀ W, Kept S1 w3 W → W.cell? ⟨w.heap.size, 3, none⟩ = some (.int .u8 0) := fun W h => ((BM.out.kept (hk1.trans k03.out)).keptS h (fun h => by have h1 := HS1.out _ h; have h2 := HWA.out; omega)).c3
              have b4 : ∀ W, Kept S1 w3 W → W.cell? ⟨w.heap.size, 4, none⟩ = some (.int .u8 0) := fun W h => ((BM.out.kept (hk1.trans k03.out)).keptS h (fun h => by have h1 := HS1.out _ h; have h2 := HWA.out; omega)).c4
              have b5 : ∀ W, Kept S1 w3 W → W.cell? ⟨w.heap.size, 5, none⟩ = some (.int .u8 0) := fun W h => ((BM.out.kept (hk1.trans k03.out)).keptS h (fun h => by have h1 := HS1.out _ h; have h2 := HWA.out; omega)).c5
              have xx : ∀ W, Kept S1 w3 W → W.cell? ⟨g, o + i, none⟩ = some (.int .i64 x) := fun W h => (h.cell (p := ⟨g, o + i, none⟩) (lt_of_cell x3) (fun h => by have h1 := HS1.out _ h; have h2 := HWA.out; have h3 := lt_of_cell (hel w (Kept.refl _ _)); simp only [] at h1 h3; omega)).trans x3
              clear x0 x3 x3'
              go_wp2
              refine wp_region_held_drew (S := Kept S1 w3) (by kernel_rfl) ((Kept.refl _ w3).drew) (fun hSd => ?_)
              refine wpAnyH_take (i := 0) (v := ?_) rfl (by kernel_rfl) (by kernel_rfl) (by kernel_rfl) (fun _ _ _ h => h) (Or.inl ⟨by kernel_rfl, fun W hSW => by go_simp; try with_reducible rfl⟩) (by assumption) ?_
              try simp only [List.getElem_toArray]
              try simp only [List.getElem_cons_succ]
              try simp only [List.getElem_cons_zero]
              try simp only [Act.put]
              try simp only [List.setIfInBounds_toArray]
              try simp only [List.set_cons_succ]
              try simp only [List.set_cons_zero]
              refine wpAnyH_take (i := 1) (v := ?_) rfl (by kernel_rfl) (by kernel_rfl) (by kernel_rfl) (fun _ _ _ h => h) (Or.inl ⟨by kernel_rfl, fun W hSW => by go_simp; try with_reducible rfl⟩) (by assumption) ?_
              try simp only [List.getElem_toArray]
              try simp only [List.getElem_cons_succ]
              try simp only [List.getElem_cons_zero]
              try simp only [Act.put]
              try simp only [List.setIfInBounds_toArray]
              try simp only [List.set_cons_succ]
              try simp only [List.set_cons_zero]
              refine wpAnyH_take (i := 2) (v := ?_) rfl (by kernel_rfl) (by kernel_rfl) (by kernel_rfl) (fun _ _ _ h => h) (Or.inl ⟨by kernel_rfl, fun W hSW => by go_simp; try with_reducible rfl⟩) (by assumption) ?_
              try simp only [List.getElem_toArray]
              try simp only [List.getElem_cons_succ]
              try simp only [List.getElem_cons_zero]
              try simp only [Act.put]
              try simp only [List.setIfInBounds_toArray]
              try simp only [List.set_cons_succ]
              try simp only [List.set_cons_zero]
              refine wpAnyH_take (i := 3) (v := ?_) rfl (by kernel_rfl) (by kernel_rfl) (by kernel_rfl) (fun _ _ _ h => h) (Or.inl ⟨by kernel_rfl, fun W hSW => by go_simp; try with_reducible rfl⟩) (by assumption) ?_
              try simp only [List.getElem_toArray]
              try simp only [List.getElem_cons_succ]
              try simp only [List.getElem_cons_zero]
              try simp only [Act.put]
              try simp only [List.setIfInBounds_toArray]
              try simp only [List.set_cons_succ]
              try simp only [List.set_cons_zero]
              refine wpAnyH_take (i := 4) (v := ?_) rfl (by kernel_rfl) (by kernel_rfl) (by kernel_rfl) (fun _ _ _ h => h) (Or.inl ⟨by kernel_rfl, fun W hSW => by go_simp; try with_reducible rfl⟩) (by assumption) ?_
              try simp only [List.getElem_toArray]
              try simp only [List.getElem_cons_succ]
              try simp only [List.getElem_cons_zero]
              try simp only [Act.put]
              try simp only [List.setIfInBounds_toArray]
              try simp only [List.set_cons_succ]
              try simp only [List.set_cons_zero]
              refine wpAnyH_take (i := 5) (v := ?_) rfl (by kernel_rfl) (by kernel_rfl) (by kernel_rfl) (fun _ _ _ h => h) (Or.inl ⟨by kernel_rfl, fun W hSW => by go_simp; try with_reducible rfl⟩) (by assumption) ?_
              try simp only [List.getElem_toArray]
              try simp only [List.getElem_cons_succ]
              try simp only [List.getElem_cons_zero]
              try simp only [Act.put]
              try simp only [List.setIfInBounds_toArray]
              try simp only [List.set_cons_succ]
              try simp only [List.set_cons_zero]
              refine wpAnyH_take (i := 6) (v := ?_) rfl (by kernel_rfl) (by kernel_rfl) (by kernel_rfl) (fun _ _ _ h => h) (Or.inl ⟨by kernel_rfl, fun W hSW => by go_simp; try with_reducible rfl⟩) (by assumption) ?_
              try simp only [List.getElem_toArray]
              try simp only [List.getElem_cons_succ]
              try simp only [List.getElem_cons_zero]
              try simp only [Act.put]
              try simp only [List.setIfInBounds_toArray]
              try simp only [List.set_cons_succ]
              try simp only [List.set_cons_zero]
              refine wpAnyH_take (i := 7) (v := (.int .i64 (x / 16))) rfl (by kernel_rfl) (by kernel_rfl) (by kernel_rfl) (fun _ _ _ h => h) (Or.inl ⟨by kernel_rfl, fun W hSW => by go_simp; try with_reducible rfl⟩) (by assumption) ?_
              try simp only [List.getElem_toArray]
              try simp only [List.getElem_cons_succ]
              try simp only [List.getElem_cons_zero]
              try simp only [Act.put]
              try simp only [List.setIfInBounds_toArray]
              try simp only [List.set_cons_succ]
              try simp only [List.set_cons_zero]
              refine wpAnyH_take (i := 8) (v := (.int .i64 (n7 : Int))) rfl (by kernel_rfl) (by kernel_rfl) (by kernel_rfl) (fun _ _ _ h => h) (Or.inl ⟨by kernel_rfl, fun W hSW => by go_simp; try with_reducible rfl⟩) (by assumption) ?_
              try simp only [List.getElem_toArray]
              try simp only [List.getElem_cons_succ]
              try simp only [List.getElem_cons_zero]
              try simp only [Act.put]
              try simp only [List.setIfInBounds_toArray]
              try simp only [List.set_cons_succ]
              try simp only [List.set_cons_zero]
              refine wpAnyH_ready (rs := [9]) (by kernel_rfl) (by simp) ?_
              refine AllReadyH.cons rfl (fun K hK => ?_) AllReadyH.nil
              go_simp
              refine (HAK.out _).mono ?_
              rintro e w7 ⟨rfl, hk7'⟩
              have K7 : Kept (fun _ => False) w3 w7 := (Kept.refl (fun _ => False) w3).drew.trans hk7'
              refine hK.out _ _ (K7.mono (fun _ _ h => h.elim)) (fun _ => ?_)
              clear hK K
              try simp only [List.getElem_toArray]
              try simp only [List.getElem_cons_succ]
              try simp only [List.getElem_cons_zero]
              try simp only [Act.put]
              try simp only [List.setIfInBounds_toArray]
              try simp only [List.set_cons_succ]
              try simp only [List.set_cons_zero]
              refine wpAnyH_ready (rs := [10]) (by kernel_rfl) (by simp) ?_
              refine AllReadyH.cons rfl (fun K hK => ?_) AllReadyH.nil
              go_simp
              refine (HTK.out w7 (HA3.out.kept0 K7)).mono ?_
              rintro e w8 ⟨rfl, c', hr', hn8⟩
              have K8 : Kept S1 w3 w8 := (K7.mono (T := S1) (fun _ _ h => h.elim)).trans hn8.kept
              refine hK.out _ _ (K8) (fun _ => ?_)
              clear hK K
              try simp only [List.getElem_toArray]
              try simp only [List.getElem_cons_succ]
              try simp only [List.getElem_cons_zero]
              try simp only [Act.put]
              try simp only [List.setIfInBounds_toArray]
              try simp only [List.set_cons_succ]
              try simp only [List.set_cons_zero]
              refine wpAnyH_done (by kernel_rfl) ?_ _
              have CM := hid (CMine.go (hk1.trans (k03.out.trans K7)) HS1.out hn8)
              have RC := hid hr'
              clear hr' hn8 K8 K7 a0 a1 a2 a3 a4 a5 b0 b1 b2 b3 b4 b5 xx
              go_wp2
              go_meet
              exact ⟨c', RC.out, CM.out⟩
          case rest =>
            obtain ⟨c', HC⟩ := hcut
            have HL := hid (HC.out.2.live HC.out.1.good)
            go_wp2_with fail
            refine HL.out.mono ?_
            rintro e w5 ⟨vL, L, rfl, hp, _, hsa, hc5⟩
            obtain ⟨pL, cL, rfl⟩ := hsa.slice
            have H5 := hid hc5
            have hlm : ¬ most < (L.length : Int) := by
              have h1 := HC.out.1.good.len
              rw [HC.out.1.most, ← hp.length_eq] at h1
              omega
            have HLen : L.length ≤ 60 := by
              have h1 := HC.out.1.good.len
              have h2 := HC.out.1.good.most
              rw [← hp.length_eq] at h1
              omega
            have HP := hid hp
            have HSA := hid hsa
            clear hc5 hp hsa HL
            go_wp2_with fail
            go_loopw [12] (fun vk wr => ∃ (k : Nat), k ≤ L.length ∧ vk = .int .i64 (k : Int) ∧ Hid (Kept (fun _ => False) w5 wr)) (fun vk _ => L.length - (intOf vk).toNat)
            case atStart => exact ⟨0, Nat.zero_le _, rfl, Kept.refl _ _⟩
            case round =>
              obtain ⟨k, hk, rfl, HKk⟩ := hrel
              by_cases hkl : k < L.length
              · have hklz : (k : Int) < (L.length : Int) := by omega
                obtain ⟨y, hy⟩ : ∃ y, L[k]? = some y := ⟨L[k], by simp [hkl]⟩
                have hym : y ∈ c'.sess := HP.out.subset (List.mem_of_getElem? hy)
                obtain ⟨y6, yn1, yn2⟩ := HC.out.1.good.ids y hym
                obtain ⟨y0, y1, y2, y3, y4, y5, ey⟩ := six_cells y6
                obtain ⟨gL, epL, hcl⟩ : ∃ gL, pL = some ⟨gL, 0, none⟩ ∧ ∀ i x, L[i]? = some x → ∀ j u, (snCells x)[j]? = some u → w5.cell? ⟨gL, i * 9 + j, none⟩ = some u := by
                  rcases HSA.out with ⟨e, _⟩ | ⟨gL, cap', e, _, h3⟩
                  · rw [e] at hkl; simp at hkl
                  · simp only [Value.slice.injEq, true_and] at e
                    exact ⟨gL, e.1, h3⟩
                subst epL
                have HCL := hid hcl
                have ycells : snCells y = [.int .u8 y0, .int .u8 y1, .int .u8 y2, .int .u8 y3, .int .u8 y4, .int .u8 y5, .int .i64 (y.num : Int), .string y.uniq, .bool y.used] := by unfold snCells; rw [fit6_self y6, ey]; rfl
                have hyc := hcl k y hy
                rw [ycells] at hyc
                have n0 : ∀ W, Kept (fun _ => False) w5 W → W.cell? ⟨gL, k * 9, none⟩ = some (.int .u8 y0) := fun W h => (h.cell (p := ⟨gL, k * 9 + 0, none⟩) (lt_of_cell (hyc 0 _ rfl)) id).trans (hyc 0 _ rfl)
                have n1 : ∀ W, Kept (fun _ => False) w5 W → W.cell? ⟨gL, k * 9 + 1, none⟩ = some (.int .u8 y1) := fun W h => (h.cell (p := ⟨gL, k * 9 + 1, none⟩) (lt_of_cell (hyc 1 _ rfl)) id).trans (hyc 1 _ rfl)
                have n2 : ∀ W, Kept (fun _ => False) w5 W → W.cell? ⟨gL, k * 9 + 2, none⟩ = some (.int .u8 y2) := fun W h => (h.cell (p := ⟨gL, k * 9 + 2, none⟩) (lt_of_cell (hyc 2 _ rfl)) id).trans (hyc 2 _ rfl)
                have n3 : ∀ W, Kept (fun _ => False) w5 W → W.cell? ⟨gL, k * 9 + 3, none⟩ = some (.int .u8 y3) := fun W h => (h.cell (p := ⟨gL, k * 9 + 3, none⟩) (lt_of_cell (hyc 3 _ rfl)) id).trans (hyc 3 _ rfl)
                have n4 : ∀ W, Kept (fun _ => False) w5 W → W.cell? ⟨gL, k * 9 + 4, none⟩ = some (.int .u8 y4) := fun W h => (h.cell (p := ⟨gL, k * 9 + 4, none⟩) (lt_of_cell (hyc 4 _ rfl)) id).trans (hyc 4 _ rfl)
                have n5 : ∀ W, Kept (fun _ => False) w5 W → W.cell? ⟨gL, k * 9 + 5, none⟩ = some (.int .u8 y5) := fun W h => (h.cell (p := ⟨gL, k * 9 + 5, none⟩) (lt_of_cell (hyc 5 _ rfl)) id).trans (hyc 5 _ rfl)
                have n6 : ∀ W, Kept (fun _ => False) w5 W → W.cell? ⟨gL, k * 9 + 6, none⟩ = some (.int .i64 (y.num : Int)) := fun W h => (h.cell (p := ⟨gL, k * 9 + 6, none⟩) (lt_of_cell (hyc 6 _ rfl)) id).trans (hyc 6 _ rfl)
                have hn1 : ¬ (y.num : Int) < 1 := by omega
                clear hcl hyc ycells hym
                go_wp2_with fail
                go_loopw [13, 14] (fun vo vj wr => ∃ (j : Nat), j ≤ L.length ∧ vo = .int .i64 (ownN L y.mac j : Int) ∧ vj = .int .i64 (j : Int) ∧ Hid (Kept (fun _ => False) w5 wr)) (fun _ vj _ => L.length - (intOf vj).toNat)
                case atStart => exact ⟨0, Nat.zero_le _, rfl, rfl, HKk.out⟩
                case round =>
                  obtain ⟨j, hj, rfl, rfl, HKj⟩ := hrel
                  by_cases hjl : j < L.length
                  · have hjlz : (j : Int) < (L.length : Int) := by omega
                    obtain ⟨q, hq⟩ : ∃ q, L[j]? = some q := ⟨L[j], by simp [hjl]⟩
                    have hqm : q ∈ c'.sess := HP.out.subset (List.mem_of_getElem? hq)
                    obtain ⟨q6, _, _⟩ := HC.out.1.good.ids q hqm
                    obtain ⟨q0, q1, q2, q3, q4, q5, eq⟩ := six_cells q6
                    have qcells : snCells q = [.int .u8 q0, .int .u8 q1, .int .u8 q2, .int .u8 q3, .int .u8 q4, .int .u8 q5, .int .i64 (q.num : Int), .string q.uniq, .bool q.used] := by unfold snCells; rw [fit6_self q6, eq]; rfl
                    have hqc := HCL.out j q hq
                    rw [qcells] at hqc
                    have s0 : ∀ W, Kept (fun _ => False) w5 W → W.cell? ⟨gL, j * 9, none⟩ = some (.int .u8 q0) := fun W h => (h.cell (p := ⟨gL, j * 9 + 0, none⟩) (lt_of_cell (hqc 0 _ rfl)) id).trans (hqc 0 _ rfl)
                    have s1 : ∀ W, Kept (fun _ => False) w5 W → W.cell? ⟨gL, j * 9 + 1, none⟩ = some (.int .u8 q1) := fun W h => (h.cell (p := ⟨gL, j * 9 + 1, none⟩) (lt_of_cell (hqc 1 _ rfl)) id).trans (hqc 1 _ rfl)
                    have s2 : ∀ W, Kept (fun _ => False) w5 W → W.cell? ⟨gL, j * 9 + 2, none⟩ = some (.int .u8 q2) := fun W h => (h.cell (p := ⟨gL, j * 9 + 2, none⟩) (lt_of_cell (hqc 2 _ rfl)) id).trans (hqc 2 _ rfl)
                    have s3 : ∀ W, Kept (fun _ => False) w5 W → W.cell? ⟨gL, j * 9 + 3, none⟩ = some (.int .u8 q3) := fun W h => (h.cell (p := ⟨gL, j * 9 + 3, none⟩) (lt_of_cell (hqc 3 _ rfl)) id).trans (hqc 3 _ rfl)
                    have s4 : ∀ W, Kept (fun _ => False) w5 W → W.cell? ⟨gL, j * 9 + 4, none⟩ = some (.int .u8 q4) := fun W h => (h.cell (p := ⟨gL, j * 9 + 4, none⟩) (lt_of_cell (hqc 4 _ rfl)) id).trans (hqc 4 _ rfl)
                    have s5 : ∀ W, Kept (fun _ => False) w5 W → W.cell? ⟨gL, j * 9 + 5, none⟩ = some (.int .u8 q5) := fun W h => (h.cell (p := ⟨gL, j * 9 + 5, none⟩) (lt_of_cell (hqc 5 _ rfl)) id).trans (hqc 5 _ rfl)
                    have s6 : ∀ W, Kept (fun _ => False) w5 W → W.cell? ⟨gL, j * 9 + 6, none⟩ = some (.int .i64 (q.num : Int)) := fun W h => (h.cell (p := ⟨gL, j * 9 + 6, none⟩) (lt_of_cell (hqc 6 _ rfl)) id).trans (hqc 6 _ rfl)
                    have hE := mac_eq q.mac y.mac q6 y6
                    rw [eq, ey] at hE
                    change ∀ W, Sem.run Tryd.prog (Op.equalIn 10000 23 (.agg #[.int .u8 q0, .int .u8 q1, .int .u8 q2, .int .u8 q3, .int .u8 q4, .int .u8 q5]) (.agg #[.int .u8 y0, .int .u8 y1, .int .u8 y2, .int .u8 y3, .int .u8 y4, .int .u8 y5])) W = .ok (decide (q.mac = y.mac)) W at hE
                    have hown : ownN L y.mac j ≤ j := by unfold ownN; exact Nat.le_trans (List.length_filter_le _ _) (by rw [List.length_take]; omega)
                    have hwo : IntKind.i64.wrap ((ownN L y.mac j : Int) + 1) = (ownN L y.mac j : Int) + 1 := by rw [IntKind.wrap_i64]; omega
                    clear hqc qcells hqm
                    by_cases hjk : j = k
                    · have djk : ((j : Int) != (k : Int)) = false := by simp; omega
                      clear hjk
                      go_wp2
                      refine wp_region_held_drew (S := Kept (fun _ => False) w5) (by kernel_rfl) (HKj.out.drew) (fun hSd => ?_)
                      refine wpAnyH_take (i := 0) (v := ?_) rfl (by kernel_rfl) (by kernel_rfl) (by kernel_rfl) (fun _ _ _ h => h) (Or.inl ⟨by kernel_rfl, fun W hSW => by go_simp; try with_reducible rfl⟩) (by assumption) ?_
                      try simp only [List.getElem_toArray]
                      try simp only [List.getElem_cons_succ]
                      try simp only [List.getElem_cons_zero]
                      try simp only [Act.put]
                      try simp only [List.setIfInBounds_toArray]
                      try simp only [List.set_cons_succ]
                      try simp only [List.set_cons_zero]
                      refine wpAnyH_take (i := 1) (v := ?_) rfl (by kernel_rfl) (by kernel_rfl) (by kernel_rfl) (fun _ _ _ h => h) (Or.inl ⟨by kernel_rfl, fun W hSW => by go_simp; try with_reducible rfl⟩) (by assumption) ?_
                      try simp only [List.getElem_toArray]
                      try simp only [List.getElem_cons_succ]
                      try simp only [List.getElem_cons_zero]
                      try simp only [Act.put]
                      try simp only [List.setIfInBounds_toArray]
                      try simp only [List.set_cons_succ]
                      try simp only [List.set_cons_zero]
                      refine wpAnyH_take (i := 2) (v := .bool false) rfl (by kernel_rfl) (by kernel_rfl) (by kernel_rfl) (fun _ _ _ h => h) (Or.inl ⟨by kernel_rfl, fun W hSW => by go_simp; try with_reducible rfl⟩) (by assumption) ?_
                      try simp only [List.getElem_toArray]
                      try simp only [List.getElem_cons_succ]
                      try simp only [List.getElem_cons_zero]
                      try simp only [Act.put]
                      try simp only [List.setIfInBounds_toArray]
                      try simp only [List.set_cons_succ]
                      try simp only [List.set_cons_zero]
                      refine wpAnyH_take (i := 3) (v := .bool false) rfl (by kernel_rfl) (by kernel_rfl) (by kernel_rfl) (fun _ _ _ h => h) (Or.inl ⟨by kernel_rfl, fun W hSW => by go_simp; try with_reducible rfl⟩) (by assumption) ?_
                      try simp only [List.getElem_toArray]
                      try simp only [List.getElem_cons_succ]
                      try simp only [List.getElem_cons_zero]
                      try simp only [Act.put]
                      try simp only [List.setIfInBounds_toArray]
                      try simp only [List.set_cons_succ]
                      try simp only [List.set_cons_zero]
                      refine wpAnyH_take (i := 4) rfl (by kernel_rfl) (by kernel_rfl) (by kernel_rfl) (fun _ _ _ h => h) (Or.inr ⟨by kernel_rfl, rfl⟩) (by assumption) ?_
                      try simp only [List.getElem_toArray]
                      try simp only [List.getElem_cons_succ]
                      try simp only [List.getElem_cons_zero]
                      try simp only [Act.put]
                      try simp only [List.setIfInBounds_toArray]
                      try simp only [List.set_cons_succ]
                      try simp only [List.set_cons_zero]
                      refine wpAnyH_take (i := 5) rfl (by kernel_rfl) (by kernel_rfl) (by kernel_rfl) (fun _ _ _ h => h) (Or.inr ⟨by kernel_rfl, rfl⟩) (by assumption) ?_
                      try simp only [List.getElem_toArray]
                      try simp only [List.getElem_cons_succ]
                      try simp only [List.getElem_cons_zero]
                      try simp only [Act.put]
                      try simp only [List.setIfInBounds_toArray]
                      try simp only [List.set_cons_succ]
                      try simp only [List.set_cons_zero]
                      refine wpAnyH_take (i := 6) rfl (by kernel_rfl) (by kernel_rfl) (by kernel_rfl) (fun _ _ _ h => h) (Or.inr ⟨by kernel_rfl, rfl⟩) (by assumption) ?_
                      try simp only [List.getElem_toArray]
                      try simp only [List.getElem_cons_succ]
                      try simp only [List.getElem_cons_zero]
                      try simp only [Act.put]
                      try simp only [List.setIfInBounds_toArray]
                      try simp only [List.set_cons_succ]
                      try simp only [List.set_cons_zero]
                      refine wpAnyH_take (i := 7) rfl (by kernel_rfl) (by kernel_rfl) (by kernel_rfl) (fun _ _ _ h => h) (Or.inr ⟨by kernel_rfl, rfl⟩) (by assumption) ?_
                      try simp only [List.getElem_toArray]
                      try simp only [List.getElem_cons_succ]
                      try simp only [List.getElem_cons_zero]
                      try simp only [Act.put]
                      try simp only [List.setIfInBounds_toArray]
                      try simp only [List.set_cons_succ]
                      try simp only [List.set_cons_zero]
                      refine wpAnyH_take (i := 8) rfl (by kernel_rfl) (by kernel_rfl) (by kernel_rfl) (fun _ _ _ h => h) (Or.inr ⟨by kernel_rfl, rfl⟩) (by assumption) ?_
                      try simp only [List.getElem_toArray]
                      try simp only [List.getElem_cons_succ]
                      try simp only [List.getElem_cons_zero]
                      try simp only [Act.put]
                      try simp only [List.setIfInBounds_toArray]
                      try simp only [List.set_cons_succ]
                      try simp only [List.set_cons_zero]
                      refine wpAnyH_take (i := 9) rfl (by kernel_rfl) (by kernel_rfl) (by kernel_rfl) (fun _ _ _ h => h) (Or.inr ⟨by kernel_rfl, rfl⟩) (by assumption) ?_
                      try simp only [List.getElem_toArray]
                      try simp only [List.getElem_cons_succ]
                      try simp only [List.getElem_cons_zero]
                      try simp only [Act.put]
                      try simp only [List.setIfInBounds_toArray]
                      try simp only [List.set_cons_succ]
                      try simp only [List.set_cons_zero]
                      refine wpAnyH_take (i := 10) rfl (by kernel_rfl) (by kernel_rfl) (by kernel_rfl) (fun _ _ _ h => h) (Or.inr ⟨by kernel_rfl, rfl⟩) (by assumption) ?_
                      try simp only [List.getElem_toArray]
                      try simp only [List.getElem_cons_succ]
                      try simp only [List.getElem_cons_zero]
                      try simp only [Act.put]
                      try simp only [List.setIfInBounds_toArray]
                      try simp only [List.set_cons_succ]
                      try simp only [List.set_cons_zero]
                      refine wpAnyH_take (i := 11) rfl (by kernel_rfl) (by kernel_rfl) (by kernel_rfl) (fun _ _ _ h => h) (Or.inr ⟨by kernel_rfl, rfl⟩) (by assumption) ?_
                      try simp only [List.getElem_toArray]
                      try simp only [List.getElem_cons_succ]
                      try simp only [List.getElem_cons_zero]
                      try simp only [Act.put]
                      try simp only [List.setIfInBounds_toArray]
                      try simp only [List.set_cons_succ]
                      try simp only [List.set_cons_zero]
                      refine wpAnyH_take (i := 12) rfl (by kernel_rfl) (by kernel_rfl) (by kernel_rfl) (fun _ _ _ h => h) (Or.inr ⟨by kernel_rfl, rfl⟩) (by assumption) ?_
                      try simp only [List.getElem_toArray]
                      try simp only [List.getElem_cons_succ]
                      try simp only [List.getElem_cons_zero]
                      try simp only [Act.put]
                      try simp only [List.setIfInBounds_toArray]
                      try simp only [List.set_cons_succ]
                      try simp only [List.set_cons_zero]
                      refine wpAnyH_take (i := 13) rfl (by kernel_rfl) (by kernel_rfl) (by kernel_rfl) (fun _ _ _ h => h) (Or.inr ⟨by kernel_rfl, rfl⟩) (by assumption) ?_
                      try simp only [List.getElem_toArray]
                      try simp only [List.getElem_cons_succ]
                      try simp only [List.getElem_cons_zero]
                      try simp only [Act.put]
                      try simp only [List.setIfInBounds_toArray]
                      try simp only [List.set_cons_succ]
                      try simp only [List.set_cons_zero]
                      refine wpAnyH_take (i := 14) rfl (by kernel_rfl) (by kernel_rfl) (by kernel_rfl) (fun _ _ _ h => h) (Or.inr ⟨by kernel_rfl, rfl⟩) (by assumption) ?_
                      try simp only [List.getElem_toArray]
                      try simp only [List.getElem_cons_succ]
                      try simp only [List.getElem_cons_zero]
                      try simp only [Act.put]
                      try simp only [List.setIfInBounds_toArray]
                      try simp only [List.set_cons_succ]
                      try simp only [List.set_cons_zero]
                      refine wpAnyH_take (i := 15) rfl (by kernel_rfl) (by kernel_rfl) (by kernel_rfl) (fun _ _ _ h => h) (Or.inr ⟨by kernel_rfl, rfl⟩) (by assumption) ?_
                      try simp only [List.getElem_toArray]
                      try simp only [List.getElem_cons_succ]
                      try simp only [List.getElem_cons_zero]
                      try simp only [Act.put]
                      try simp only [List.setIfInBounds_toArray]
                      try simp only [List.set_cons_succ]
                      try simp only [List.set_cons_zero]
                      refine wpAnyH_take (i := 16) rfl (by kernel_rfl) (by kernel_rfl) (by kernel_rfl) (fun _ _ _ h => h) (Or.inr ⟨by kernel_rfl, rfl⟩) (by assumption) ?_
                      try simp only [List.getElem_toArray]
                      try simp only [List.getElem_cons_succ]
                      try simp only [List.getElem_cons_zero]
                      try simp only [Act.put]
                      try simp only [List.setIfInBounds_toArray]
                      try simp only [List.set_cons_succ]
                      try simp only [List.set_cons_zero]
                      refine wpAnyH_take (i := 17) (v := .bool false) rfl (by kernel_rfl) (by kernel_rfl) (by kernel_rfl) (fun _ _ _ h => h) (Or.inl ⟨by kernel_rfl, fun W hSW => by go_simp; try with_reducible rfl⟩) (by assumption) ?_
                      try simp only [List.getElem_toArray]
                      try simp only [List.getElem_cons_succ]
                      try simp only [List.getElem_cons_zero]
                      try simp only [Act.put]
                      try simp only [List.setIfInBounds_toArray]
                      try simp only [List.set_cons_succ]
                      try simp only [List.set_cons_zero]
                      refine wpAnyH_done (by kernel_rfl) ?_ _
                      go_wp2
                      by_cases hqy : q.mac = y.mac
                      · simp only [decide_eq_true hqy] at hE
                        have ho := own_yes hq hqy
                        clear hqy
                        refine wp_region_held_drew (S := Kept (fun _ => False) w5) (by kernel_rfl) (HKj.out.drew.drew) (fun hSd => ?_)
                        refine wpAnyH_take (i := 0) (v := ?_) rfl (by kernel_rfl) (by kernel_rfl) (by kernel_rfl) (fun _ _ _ h => h) (Or.inl ⟨by kernel_rfl, fun W hSW => by go_simp; try with_reducible rfl⟩) (by assumption) ?_
                        try simp only [List.getElem_toArray]
                        try simp only [List.getElem_cons_succ]
                        try simp only [List.getElem_cons_zero]
                        try simp only [Act.put]
                        try simp only [List.setIfInBounds_toArray]
                        try simp only [List.set_cons_succ]
                        try simp only [List.set_cons_zero]
                        refine wpAnyH_take (i := 1) (v := ?_) rfl (by kernel_rfl) (by kernel_rfl) (by kernel_rfl) (fun _ _ _ h => h) (Or.inl ⟨by kernel_rfl, fun W hSW => by go_simp; try with_reducible rfl⟩) (by assumption) ?_
                        try simp only [List.getElem_toArray]
                        try simp only [List.getElem_cons_succ]
                        try simp only [List.getElem_cons_zero]
                        try simp only [Act.put]
                        try simp only [List.setIfInBounds_toArray]
                        try simp only [List.set_cons_succ]
                        try simp only [List.set_cons_zero]
                        refine wpAnyH_take (i := 2) (v := ?_) rfl (by kernel_rfl) (by kernel_rfl) (by kernel_rfl) (fun _ _ _ h => h) (Or.inl ⟨by kernel_rfl, fun W hSW => by go_simp; try with_reducible rfl⟩) (by assumption) ?_
                        try simp only [List.getElem_toArray]
                        try simp only [List.getElem_cons_succ]
                        try simp only [List.getElem_cons_zero]
                        try simp only [Act.put]
                        try simp only [List.setIfInBounds_toArray]
                        try simp only [List.set_cons_succ]
                        try simp only [List.set_cons_zero]
                        refine wpAnyH_take (i := 3) (v := ?_) rfl (by kernel_rfl) (by kernel_rfl) (by kernel_rfl) (fun _ _ _ h => h) (Or.inl ⟨by kernel_rfl, fun W hSW => by go_simp; try with_reducible rfl⟩) (by assumption) ?_
                        try simp only [List.getElem_toArray]
                        try simp only [List.getElem_cons_succ]
                        try simp only [List.getElem_cons_zero]
                        try simp only [Act.put]
                        try simp only [List.setIfInBounds_toArray]
                        try simp only [List.set_cons_succ]
                        try simp only [List.set_cons_zero]
                        refine wpAnyH_take (i := 4) (v := ?_) rfl (by kernel_rfl) (by kernel_rfl) (by kernel_rfl) (fun _ _ _ h => h) (Or.inl ⟨by kernel_rfl, fun W hSW => by go_simp; try with_reducible rfl⟩) (by assumption) ?_
                        try simp only [List.getElem_toArray]
                        try simp only [List.getElem_cons_succ]
                        try simp only [List.getElem_cons_zero]
                        try simp only [Act.put]
                        try simp only [List.setIfInBounds_toArray]
                        try simp only [List.set_cons_succ]
                        try simp only [List.set_cons_zero]
                        refine wpAnyH_take (i := 5) (v := ?_) rfl (by kernel_rfl) (by kernel_rfl) (by kernel_rfl) (fun _ _ _ h => h) (Or.inl ⟨by kernel_rfl, fun W hSW => by go_simp; try with_reducible rfl⟩) (by assumption) ?_
                        try simp only [List.getElem_toArray]
                        try simp only [List.getElem_cons_succ]
                        try simp only [List.getElem_cons_zero]
                        try simp only [Act.put]
                        try simp only [List.setIfInBounds_toArray]
                        try simp only [List.set_cons_succ]
                        try simp only [List.set_cons_zero]
                        refine wpAnyH_take (i := 6) (v := ?_) rfl (by kernel_rfl) (by kernel_rfl) (by kernel_rfl) (fun _ _ _ h => h) (Or.inl ⟨by kernel_rfl, fun W hSW => by go_simp; try with_reducible rfl⟩) (by assumption) ?_
                        try simp only [List.getElem_toArray]
                        try simp only [List.getElem_cons_succ]
                        try simp only [List.getElem_cons_zero]
                        try simp only [Act.put]
                        try simp only [List.setIfInBounds_toArray]
                        try simp only [List.set_cons_succ]
                        try simp only [List.set_cons_zero]
                        refine wpAnyH_take (i := 7) (v := ?_) rfl (by kernel_rfl) (by kernel_rfl) (by kernel_rfl) (fun _ _ _ h => h) (Or.inl ⟨by kernel_rfl, fun W hSW => by go_simp; try with_reducible rfl⟩) (by assumption) ?_
                        try simp only [List.getElem_toArray]
                        try simp only [List.getElem_cons_succ]
                        try simp only [List.getElem_cons_zero]
                        try simp only [Act.put]
                        try simp only [List.setIfInBounds_toArray]
                        try simp only [List.set_cons_succ]
                        try simp only [List.set_cons_zero]
                        refine wpAnyH_take (i := 8) (v := ?_) rfl (by kernel_rfl) (by kernel_rfl) (by kernel_rfl) (fun _ _ _ h => h) (Or.inl ⟨by kernel_rfl, fun W hSW => by go_simp; try with_reducible rfl⟩) (by assumption) ?_
                        try simp only [List.getElem_toArray]
                        try simp only [List.getElem_cons_succ]
                        try simp only [List.getElem_cons_zero]
                        try simp only [Act.put]
                        try simp only [List.setIfInBounds_toArray]
                        try simp only [List.set_cons_succ]
                        try simp only [List.set_cons_zero]
                        refine wpAnyH_take (i := 9) (v := ?_) rfl (by kernel_rfl) (by kernel_rfl) (by kernel_rfl) (fun _ _ _ h => h) (Or.inl ⟨by kernel_rfl, fun W hSW => by go_simp; try with_reducible rfl⟩) (by assumption) ?_
                        try simp only [List.getElem_toArray]
                        try simp only [List.getElem_cons_succ]
                        try simp only [List.getElem_cons_zero]
                        try simp only [Act.put]
                        try simp only [List.setIfInBounds_toArray]
                        try simp only [List.set_cons_succ]
                        try simp only [List.set_cons_zero]
                        refine wpAnyH_take (i := 10) (v := ?_) rfl (by kernel_rfl) (by kernel_rfl) (by kernel_rfl) (fun _ _ _ h => h) (Or.inl ⟨by kernel_rfl, fun W hSW => by go_simp; try with_reducible rfl⟩) (by assumption) ?_
                        try simp only [List.getElem_toArray]
                        try simp only [List.getElem_cons_succ]
                        try simp only [List.getElem_cons_zero]
                        try simp only [Act.put]
                        try simp only [List.setIfInBounds_toArray]
                        try simp only [List.set_cons_succ]
                        try simp only [List.set_cons_zero]
                        refine wpAnyH_take (i := 11) (v := ?_) rfl (by kernel_rfl) (by kernel_rfl) (by kernel_rfl) (fun _ _ _ h => h) (Or.inl ⟨by kernel_rfl, fun W hSW => by go_simp; try with_reducible rfl⟩) (by assumption) ?_
                        try simp only [List.getElem_toArray]
                        try simp only [List.getElem_cons_succ]
                        try simp only [List.getElem_cons_zero]
                        try simp only [Act.put]
                        try simp only [List.setIfInBounds_toArray]
                        try simp only [List.set_cons_succ]
                        try simp only [List.set_cons_zero]
                        refine wpAnyH_take (i := 12) (v := .bool true) rfl (by kernel_rfl) (by kernel_rfl) (by kernel_rfl) (fun _ _ _ h => h) (Or.inl ⟨by kernel_rfl, fun W hSW => by go_simp; try with_reducible rfl⟩) (by assumption) ?_
                        try simp only [List.getElem_toArray]
                        try simp only [List.getElem_cons_succ]
                        try simp only [List.getElem_cons_zero]
                        try simp only [Act.put]
                        try simp only [List.setIfInBounds_toArray]
                        try simp only [List.set_cons_succ]
                        try simp only [List.set_cons_zero]
                        refine wpAnyH_done (by kernel_rfl) ?_ _
                        go_wp2
                        go_roundw
                        case rel => exact ⟨j + 1, hjl, by rw [ho]; go_num, by go_num, HKj.out.drew.drew⟩
                        case measure => simp [intOf]; omega
                      · simp only [decide_eq_false hqy] at hE
                        have ho := own_no hq hqy
                        clear hqy
                        refine wp_region_held_drew (S := Kept (fun _ => False) w5) (by kernel_rfl) (HKj.out.drew.drew) (fun hSd => ?_)
                        refine wpAnyH_take (i := 0) (v := ?_) rfl (by kernel_rfl) (by kernel_rfl) (by kernel_rfl) (fun _ _ _ h => h) (Or.inl ⟨by kernel_rfl, fun W hSW => by go_simp; try with_reducible rfl⟩) (by assumption) ?_
                        try simp only [List.getElem_toArray]
                        try simp only [List.getElem_cons_succ]
                        try simp only [List.getElem_cons_zero]
                        try simp only [Act.put]
                        try simp only [List.setIfInBounds_toArray]
                        try simp only [List.set_cons_succ]
                        try simp only [List.set_cons_zero]
                        refine wpAnyH_take (i := 1) (v := ?_) rfl (by kernel_rfl) (by kernel_rfl) (by kernel_rfl) (fun _ _ _ h => h) (Or.inl ⟨by kernel_rfl, fun W hSW => by go_simp; try with_reducible rfl⟩) (by assumption) ?_
                        try simp only [List.getElem_toArray]
                        try simp only [List.getElem_cons_succ]
                        try simp only [List.getElem_cons_zero]
                        try simp only [Act.put]
                        try simp only [List.setIfInBounds_toArray]
                        try simp only [List.set_cons_succ]
                        try simp only [List.set_cons_zero]
                        refine wpAnyH_take (i := 2) (v := ?_) rfl (by kernel_rfl) (by kernel_rfl) (by kernel_rfl) (fun _ _ _ h => h) (Or.inl ⟨by kernel_rfl, fun W hSW => by go_simp; try with_reducible rfl⟩) (by assumption) ?_
                        try simp only [List.getElem_toArray]
                        try simp only [List.getElem_cons_succ]
                        try simp only [List.getElem_cons_zero]
                        try simp only [Act.put]
                        try simp only [List.setIfInBounds_toArray]
                        try simp only [List.set_cons_succ]
                        try simp only [List.set_cons_zero]
                        refine wpAnyH_take (i := 3) (v := ?_) rfl (by kernel_rfl) (by kernel_rfl) (by kernel_rfl) (fun _ _ _ h => h) (Or.inl ⟨by kernel_rfl, fun W hSW => by go_simp; try with_reducible rfl⟩) (by assumption) ?_
                        try simp only [List.getElem_toArray]
                        try simp only [List.getElem_cons_succ]
                        try simp only [List.getElem_cons_zero]
                        try simp only [Act.put]
                        try simp only [List.setIfInBounds_toArray]
                        try simp only [List.set_cons_succ]
                        try simp only [List.set_cons_zero]
                        refine wpAnyH_take (i := 4) (v := ?_) rfl (by kernel_rfl) (by kernel_rfl) (by kernel_rfl) (fun _ _ _ h => h) (Or.inl ⟨by kernel_rfl, fun W hSW => by go_simp; try with_reducible rfl⟩) (by assumption) ?_
                        try simp only [List.getElem_toArray]
                        try simp only [List.getElem_cons_succ]
                        try simp only [List.getElem_cons_zero]
                        try simp only [Act.put]
                        try simp only [List.setIfInBounds_toArray]
                        try simp only [List.set_cons_succ]
                        try simp only [List.set_cons_zero]
                        refine wpAnyH_take (i := 5) (v := ?_) rfl (by kernel_rfl) (by kernel_rfl) (by kernel_rfl) (fun _ _ _ h => h) (Or.inl ⟨by kernel_rfl, fun W hSW => by go_simp; try with_reducible rfl⟩) (by assumption) ?_
                        try simp only [List.getElem_toArray]
                        try simp only [List.getElem_cons_succ]
                        try simp only [List.getElem_cons_zero]
                        try simp only [Act.put]
                        try simp only [List.setIfInBounds_toArray]
                        try simp only [List.set_cons_succ]
                        try simp only [List.set_cons_zero]
                        refine wpAnyH_take (i := 6) (v := ?_) rfl (by kernel_rfl) (by kernel_rfl) (by kernel_rfl) (fun _ _ _ h => h) (Or.inl ⟨by kernel_rfl, fun W hSW => by go_simp; try with_reducible rfl⟩) (by assumption) ?_
                        try simp only [List.getElem_toArray]
                        try simp only [List.getElem_cons_succ]
                        try simp only [List.getElem_cons_zero]
                        try simp only [Act.put]
                        try simp only [List.setIfInBounds_toArray]
                        try simp only [List.set_cons_succ]
                        try simp only [List.set_cons_zero]
                        refine wpAnyH_take (i := 7) (v := ?_) rfl (by kernel_rfl) (by kernel_rfl) (by kernel_rfl) (fun _ _ _ h => h) (Or.inl ⟨by kernel_rfl, fun W hSW => by go_simp; try with_reducible rfl⟩) (by assumption) ?_
                        try simp only [List.getElem_toArray]
                        try simp only [List.getElem_cons_succ]
                        try simp only [List.getElem_cons_zero]
                        try simp only [Act.put]
                        try simp only [List.setIfInBounds_toArray]
                        try simp only [List.set_cons_succ]
                        try simp only [List.set_cons_zero]
                        refine wpAnyH_take (i := 8) (v := ?_) rfl (by kernel_rfl) (by kernel_rfl) (by kernel_rfl) (fun _ _ _ h => h) (Or.inl ⟨by kernel_rfl, fun W hSW => by go_simp; try with_reducible rfl⟩) (by assumption) ?_
                        try simp only [List.getElem_toArray]
                        try simp only [List.getElem_cons_succ]
                        try simp only [List.getElem_cons_zero]
                        try simp only [Act.put]
                        try simp only [List.setIfInBounds_toArray]
                        try simp only [List.set_cons_succ]
                        try simp only [List.set_cons_zero]
                        refine wpAnyH_take (i := 9) (v := ?_) rfl (by kernel_rfl) (by kernel_rfl) (by kernel_rfl) (fun _ _ _ h => h) (Or.inl ⟨by kernel_rfl, fun W hSW => by go_simp; try with_reducible rfl⟩) (by assumption) ?_
                        try simp only [List.getElem_toArray]
                        try simp only [List.getElem_cons_succ]
                        try simp only [List.getElem_cons_zero]
                        try simp only [Act.put]
                        try simp only [List.setIfInBounds_toArray]
                        try simp only [List.set_cons_succ]
                        try simp only [List.set_cons_zero]
                        refine wpAnyH_take (i := 10) (v := ?_) rfl (by kernel_rfl) (by kernel_rfl) (by kernel_rfl) (fun _ _ _ h => h) (Or.inl ⟨by kernel_rfl, fun W hSW => by go_simp; try with_reducible rfl⟩) (by assumption) ?_
                        try simp only [List.getElem_toArray]
                        try simp only [List.getElem_cons_succ]
                        try simp only [List.getElem_cons_zero]
                        try simp only [Act.put]
                        try simp only [List.setIfInBounds_toArray]
                        try simp only [List.set_cons_succ]
                        try simp only [List.set_cons_zero]
                        refine wpAnyH_take (i := 11) (v := ?_) rfl (by kernel_rfl) (by kernel_rfl) (by kernel_rfl) (fun _ _ _ h => h) (Or.inl ⟨by kernel_rfl, fun W hSW => by go_simp; try with_reducible rfl⟩) (by assumption) ?_
                        try simp only [List.getElem_toArray]
                        try simp only [List.getElem_cons_succ]
                        try simp only [List.getElem_cons_zero]
                        try simp only [Act.put]
                        try simp only [List.setIfInBounds_toArray]
                        try simp only [List.set_cons_succ]
                        try simp only [List.set_cons_zero]
                        refine wpAnyH_take (i := 12) (v := .bool false) rfl (by kernel_rfl) (by kernel_rfl) (by kernel_rfl) (fun _ _ _ h => h) (Or.inl ⟨by kernel_rfl, fun W hSW => by go_simp; try with_reducible rfl⟩) (by assumption) ?_
                        try simp only [List.getElem_toArray]
                        try simp only [List.getElem_cons_succ]
                        try simp only [List.getElem_cons_zero]
                        try simp only [Act.put]
                        try simp only [List.setIfInBounds_toArray]
                        try simp only [List.set_cons_succ]
                        try simp only [List.set_cons_zero]
                        refine wpAnyH_done (by kernel_rfl) ?_ _
                        go_wp2
                        go_roundw
                        case rel => exact ⟨j + 1, hjl, by rw [ho], by go_num, HKj.out.drew.drew⟩
                        case measure => simp [intOf]; omega
                    · have djk : ((j : Int) != (k : Int)) = true := by simp; omega
                      have hnn := nums_apart HC.out.1.good HP.out hy hq hjk
                      have dnn : ((q.num : Int) == (y.num : Int)) = false := by rw [beq_eq_false_iff_ne]; omega
                      clear hjk hnn
                      go_wp2
                      refine wp_region_held_drew (S := Kept (fun _ => False) w5) (by kernel_rfl) (HKj.out.drew) (fun hSd => ?_)
                      refine wpAnyH_take (i := 0) (v := ?_) rfl (by kernel_rfl) (by kernel_rfl) (by kernel_rfl) (fun _ _ _ h => h) (Or.inl ⟨by kernel_rfl, fun W hSW => by go_simp; try with_reducible rfl⟩) (by assumption) ?_
                      try simp only [List.getElem_toArray]
                      try simp only [List.getElem_cons_succ]
                      try simp only [List.getElem_cons_zero]
                      try simp only [Act.put]
                      try simp only [List.setIfInBounds_toArray]
                      try simp only [List.set_cons_succ]
                      try simp only [List.set_cons_zero]
                      refine wpAnyH_take (i := 1) (v := ?_) rfl (by kernel_rfl) (by kernel_rfl) (by kernel_rfl) (fun _ _ _ h => h) (Or.inl ⟨by kernel_rfl, fun W hSW => by go_simp; try with_reducible rfl⟩) (by assumption) ?_
                      try simp only [List.getElem_toArray]
                      try simp only [List.getElem_cons_succ]
                      try simp only [List.getElem_cons_zero]
                      try simp only [Act.put]
                      try simp only [List.setIfInBounds_toArray]
                      try simp only [List.set_cons_succ]
                      try simp only [List.set_cons_zero]
                      refine wpAnyH_take (i := 2) (v := .bool true) rfl (by kernel_rfl) (by kernel_rfl) (by kernel_rfl) (fun _ _ _ h => h) (Or.inl ⟨by kernel_rfl, fun W hSW => by go_simp; try with_reducible rfl⟩) (by assumption) ?_
                      try simp only [List.getElem_toArray]
                      try simp only [List.getElem_cons_succ]
                      try simp only [List.getElem_cons_zero]
                      try simp only [Act.put]
                      try simp only [List.setIfInBounds_toArray]
                      try simp only [List.set_cons_succ]
                      try simp only [List.set_cons_zero]
                      refine wpAnyH_take (i := 3) (v := .bool true) rfl (by kernel_rfl) (by kernel_rfl) (by kernel_rfl) (fun _ _ _ h => h) (Or.inl ⟨by kernel_rfl, fun W hSW => by go_simp; try with_reducible rfl⟩) (by assumption) ?_
                      try simp only [List.getElem_toArray]
                      try simp only [List.getElem_cons_succ]
                      try simp only [List.getElem_cons_zero]
                      try simp only [Act.put]
                      try simp only [List.setIfInBounds_toArray]
                      try simp only [List.set_cons_succ]
                      try simp only [List.set_cons_zero]
                      refine wpAnyH_take (i := 4) (v := ?_) rfl (by kernel_rfl) (by kernel_rfl) (by kernel_rfl) (fun _ _ _ h => h) (Or.inl ⟨by kernel_rfl, fun W hSW => by go_simp; try with_reducible rfl⟩) (by assumption) ?_
                      try simp only [List.getElem_toArray]
                      try simp only [List.getElem_cons_succ]
                      try simp only [List.getElem_cons_zero]
                      try simp only [Act.put]
                      try simp only [List.setIfInBounds_toArray]
                      try simp only [List.set_cons_succ]
                      try simp only [List.set_cons_zero]
                      refine wpAnyH_take (i := 5) (v := ?_) rfl (by kernel_rfl) (by kernel_rfl) (by kernel_rfl) (fun _ _ _ h => h) (Or.inl ⟨by kernel_rfl, fun W hSW => by go_simp; try with_reducible rfl⟩) (by assumption) ?_
                      try simp only [List.getElem_toArray]
                      try simp only [List.getElem_cons_succ]
                      try simp only [List.getElem_cons_zero]
                      try simp only [Act.put]
                      try simp only [List.setIfInBounds_toArray]
                      try simp only [List.set_cons_succ]
                      try simp only [List.set_cons_zero]
                      refine wpAnyH_take (i := 6) (v := ?_) rfl (by kernel_rfl) (by kernel_rfl) (by kernel_rfl) (fun _ _ _ h => h) (Or.inl ⟨by kernel_rfl, fun W hSW => by go_simp; try with_reducible rfl⟩) (by assumption) ?_
                      try simp only [List.getElem_toArray]
                      try simp only [List.getElem_cons_succ]
                      try simp only [List.getElem_cons_zero]
                      try simp only [Act.put]
                      try simp only [List.setIfInBounds_toArray]
                      try simp only [List.set_cons_succ]
                      try simp only [List.set_cons_zero]
                      refine wpAnyH_take (i := 7) (v := ?_) rfl (by kernel_rfl) (by kernel_rfl) (by kernel_rfl) (fun _ _ _ h => h) (Or.inl ⟨by kernel_rfl, fun W hSW => by go_simp; try with_reducible rfl⟩) (by assumption) ?_
                      try simp only [List.getElem_toArray]
                      try simp only [List.getElem_cons_succ]
                      try simp only [List.getElem_cons_zero]
                      try simp only [Act.put]
                      try simp only [List.setIfInBounds_toArray]
                      try simp only [List.set_cons_succ]
                      try simp only [List.set_cons_zero]
                      refine wpAnyH_take (i := 8) (v := ?_) rfl (by kernel_rfl) (by kernel_rfl) (by kernel_rfl) (fun _ _ _ h => h) (Or.inl ⟨by kernel_rfl, fun W hSW => by go_simp; try with_reducible rfl⟩) (by assumption) ?_
                      try simp only [List.getElem_toArray]
                      try simp only [List.getElem_cons_succ]
                      try simp only [List.getElem_cons_zero]
                      try simp only [Act.put]
                      try simp only [List.setIfInBounds_toArray]
                      try simp only [List.set_cons_succ]
                      try simp only [List.set_cons_zero]
                      refine wpAnyH_take (i := 9) (v := ?_) rfl (by kernel_rfl) (by kernel_rfl) (by kernel_rfl) (fun _ _ _ h => h) (Or.inl ⟨by kernel_rfl, fun W hSW => by go_simp; try with_reducible rfl⟩) (by assumption) ?_
                      try simp only [List.getElem_toArray]
                      try simp only [List.getElem_cons_succ]
                      try simp only [List.getElem_cons_zero]
                      try simp only [Act.put]
                      try simp only [List.setIfInBounds_toArray]
                      try simp only [List.set_cons_succ]
                      try simp only [List.set_cons_zero]
                      refine wpAnyH_take (i := 10) (v := ?_) rfl (by kernel_rfl) (by kernel_rfl) (by kernel_rfl) (fun _ _ _ h => h) (Or.inl ⟨by kernel_rfl, fun W hSW => by go_simp; try with_reducible rfl⟩) (by assumption) ?_
                      try simp only [List.getElem_toArray]
                      try simp only [List.getElem_cons_succ]
                      try simp only [List.getElem_cons_zero]
                      try simp only [Act.put]
                      try simp only [List.setIfInBounds_toArray]
                      try simp only [List.set_cons_succ]
                      try simp only [List.set_cons_zero]
                      refine wpAnyH_take (i := 11) (v := ?_) rfl (by kernel_rfl) (by kernel_rfl) (by kernel_rfl) (fun _ _ _ h => h) (Or.inl ⟨by kernel_rfl, fun W hSW => by go_simp; try with_reducible rfl⟩) (by assumption) ?_
                      try simp only [List.getElem_toArray]
                      try simp only [List.getElem_cons_succ]
                      try simp only [List.getElem_cons_zero]
                      try simp only [Act.put]
                      try simp only [List.setIfInBounds_toArray]
                      try simp only [List.set_cons_succ]
                      try simp only [List.set_cons_zero]
                      refine wpAnyH_take (i := 12) (v := ?_) rfl (by kernel_rfl) (by kernel_rfl) (by kernel_rfl) (fun _ _ _ h => h) (Or.inl ⟨by kernel_rfl, fun W hSW => by go_simp; try with_reducible rfl⟩) (by assumption) ?_
                      try simp only [List.getElem_toArray]
                      try simp only [List.getElem_cons_succ]
                      try simp only [List.getElem_cons_zero]
                      try simp only [Act.put]
                      try simp only [List.setIfInBounds_toArray]
                      try simp only [List.set_cons_succ]
                      try simp only [List.set_cons_zero]
                      refine wpAnyH_take (i := 13) (v := ?_) rfl (by kernel_rfl) (by kernel_rfl) (by kernel_rfl) (fun _ _ _ h => h) (Or.inl ⟨by kernel_rfl, fun W hSW => by go_simp; try with_reducible rfl⟩) (by assumption) ?_
                      try simp only [List.getElem_toArray]
                      try simp only [List.getElem_cons_succ]
                      try simp only [List.getElem_cons_zero]
                      try simp only [Act.put]
                      try simp only [List.setIfInBounds_toArray]
                      try simp only [List.set_cons_succ]
                      try simp only [List.set_cons_zero]
                      refine wpAnyH_take (i := 14) (v := ?_) rfl (by kernel_rfl) (by kernel_rfl) (by kernel_rfl) (fun _ _ _ h => h) (Or.inl ⟨by kernel_rfl, fun W hSW => by go_simp; try with_reducible rfl⟩) (by assumption) ?_
                      try simp only [List.getElem_toArray]
                      try simp only [List.getElem_cons_succ]
                      try simp only [List.getElem_cons_zero]
                      try simp only [Act.put]
                      try simp only [List.setIfInBounds_toArray]
                      try simp only [List.set_cons_succ]
                      try simp only [List.set_cons_zero]
                      refine wpAnyH_take (i := 15) (v := ?_) rfl (by kernel_rfl) (by kernel_rfl) (by kernel_rfl) (fun _ _ _ h => h) (Or.inl ⟨by kernel_rfl, fun W hSW => by go_simp; try with_reducible rfl⟩) (by assumption) ?_
                      try simp only [List.getElem_toArray]
                      try simp only [List.getElem_cons_succ]
                      try simp only [List.getElem_cons_zero]
                      try simp only [Act.put]
                      try simp only [List.setIfInBounds_toArray]
                      try simp only [List.set_cons_succ]
                      try simp only [List.set_cons_zero]
                      refine wpAnyH_take (i := 16) (v := .bool false) rfl (by kernel_rfl) (by kernel_rfl) (by kernel_rfl) (fun _ _ _ h => h) (Or.inl ⟨by kernel_rfl, fun W hSW => by go_simp; try with_reducible rfl⟩) (by assumption) ?_
                      try simp only [List.getElem_toArray]
                      try simp only [List.getElem_cons_succ]
                      try simp only [List.getElem_cons_zero]
                      try simp only [Act.put]
                      try simp only [List.setIfInBounds_toArray]
                      try simp only [List.set_cons_succ]
                      try simp only [List.set_cons_zero]
                      refine wpAnyH_take (i := 17) (v := .bool false) rfl (by kernel_rfl) (by kernel_rfl) (by kernel_rfl) (fun _ _ _ h => h) (Or.inl ⟨by kernel_rfl, fun W hSW => by go_simp; try with_reducible rfl⟩) (by assumption) ?_
                      try simp only [List.getElem_toArray]
                      try simp only [List.getElem_cons_succ]
                      try simp only [List.getElem_cons_zero]
                      try simp only [Act.put]
                      try simp only [List.setIfInBounds_toArray]
                      try simp only [List.set_cons_succ]
                      try simp only [List.set_cons_zero]
                      refine wpAnyH_done (by kernel_rfl) ?_ _
                      go_wp2
                      by_cases hqy : q.mac = y.mac
                      · simp only [decide_eq_true hqy] at hE
                        have ho := own_yes hq hqy
                        clear hqy
                        refine wp_region_held_drew (S := Kept (fun _ => False) w5) (by kernel_rfl) (HKj.out.drew.drew) (fun hSd => ?_)
                        refine wpAnyH_take (i := 0) (v := ?_) rfl (by kernel_rfl) (by kernel_rfl) (by kernel_rfl) (fun _ _ _ h => h) (Or.inl ⟨by kernel_rfl, fun W hSW => by go_simp; try with_reducible rfl⟩) (by assumption) ?_
                        try simp only [List.getElem_toArray]
                        try simp only [List.getElem_cons_succ]
                        try simp only [List.getElem_cons_zero]
                        try simp only [Act.put]
                        try simp only [List.setIfInBounds_toArray]
                        try simp only [List.set_cons_succ]
                        try simp only [List.set_cons_zero]
                        refine wpAnyH_take (i := 1) (v := ?_) rfl (by kernel_rfl) (by kernel_rfl) (by kernel_rfl) (fun _ _ _ h => h) (Or.inl ⟨by kernel_rfl, fun W hSW => by go_simp; try with_reducible rfl⟩) (by assumption) ?_
                        try simp only [List.getElem_toArray]
                        try simp only [List.getElem_cons_succ]
                        try simp only [List.getElem_cons_zero]
                        try simp only [Act.put]
                        try simp only [List.setIfInBounds_toArray]
                        try simp only [List.set_cons_succ]
                        try simp only [List.set_cons_zero]
                        refine wpAnyH_take (i := 2) (v := ?_) rfl (by kernel_rfl) (by kernel_rfl) (by kernel_rfl) (fun _ _ _ h => h) (Or.inl ⟨by kernel_rfl, fun W hSW => by go_simp; try with_reducible rfl⟩) (by assumption) ?_
                        try simp only [List.getElem_toArray]
                        try simp only [List.getElem_cons_succ]
                        try simp only [List.getElem_cons_zero]
                        try simp only [Act.put]
                        try simp only [List.setIfInBounds_toArray]
                        try simp only [List.set_cons_succ]
                        try simp only [List.set_cons_zero]
                        refine wpAnyH_take (i := 3) (v := ?_) rfl (by kernel_rfl) (by kernel_rfl) (by kernel_rfl) (fun _ _ _ h => h) (Or.inl ⟨by kernel_rfl, fun W hSW => by go_simp; try with_reducible rfl⟩) (by assumption) ?_
                        try simp only [List.getElem_toArray]
                        try simp only [List.getElem_cons_succ]
                        try simp only [List.getElem_cons_zero]
                        try simp only [Act.put]
                        try simp only [List.setIfInBounds_toArray]
                        try simp only [List.set_cons_succ]
                        try simp only [List.set_cons_zero]
                        refine wpAnyH_take (i := 4) (v := ?_) rfl (by kernel_rfl) (by kernel_rfl) (by kernel_rfl) (fun _ _ _ h => h) (Or.inl ⟨by kernel_rfl, fun W hSW => by go_simp; try with_reducible rfl⟩) (by assumption) ?_
                        try simp only [List.getElem_toArray]
                        try simp only [List.getElem_cons_succ]
                        try simp only [List.getElem_cons_zero]
                        try simp only [Act.put]
                        try simp only [List.setIfInBounds_toArray]
                        try simp only [List.set_cons_succ]
                        try simp only [List.set_cons_zero]
                        refine wpAnyH_take (i := 5) (v := ?_) rfl (by kernel_rfl) (by kernel_rfl) (by kernel_rfl) (fun _ _ _ h => h) (Or.inl ⟨by kernel_rfl, fun W hSW => by go_simp; try with_reducible rfl⟩) (by assumption) ?_
                        try simp only [List.getElem_toArray]
                        try simp only [List.getElem_cons_succ]
                        try simp only [List.getElem_cons_zero]
                        try simp only [Act.put]
                        try simp only [List.setIfInBounds_toArray]
                        try simp only [List.set_cons_succ]
                        try simp only [List.set_cons_zero]
                        refine wpAnyH_take (i := 6) (v := ?_) rfl (by kernel_rfl) (by kernel_rfl) (by kernel_rfl) (fun _ _ _ h => h) (Or.inl ⟨by kernel_rfl, fun W hSW => by go_simp; try with_reducible rfl⟩) (by assumption) ?_
                        try simp only [List.getElem_toArray]
                        try simp only [List.getElem_cons_succ]
                        try simp only [List.getElem_cons_zero]
                        try simp only [Act.put]
                        try simp only [List.setIfInBounds_toArray]
                        try simp only [List.set_cons_succ]
                        try simp only [List.set_cons_zero]
                        refine wpAnyH_take (i := 7) (v := ?_) rfl (by kernel_rfl) (by kernel_rfl) (by kernel_rfl) (fun _ _ _ h => h) (Or.inl ⟨by kernel_rfl, fun W hSW => by go_simp; try with_reducible rfl⟩) (by assumption) ?_
                        try simp only [List.getElem_toArray]
                        try simp only [List.getElem_cons_succ]
                        try simp only [List.getElem_cons_zero]
                        try simp only [Act.put]
                        try simp only [List.setIfInBounds_toArray]
                        try simp only [List.set_cons_succ]
                        try simp only [List.set_cons_zero]
                        refine wpAnyH_take (i := 8) (v := ?_) rfl (by kernel_rfl) (by kernel_rfl) (by kernel_rfl) (fun _ _ _ h => h) (Or.inl ⟨by kernel_rfl, fun W hSW => by go_simp; try with_reducible rfl⟩) (by assumption) ?_
                        try simp only [List.getElem_toArray]
                        try simp only [List.getElem_cons_succ]
                        try simp only [List.getElem_cons_zero]
                        try simp only [Act.put]
                        try simp only [List.setIfInBounds_toArray]
                        try simp only [List.set_cons_succ]
                        try simp only [List.set_cons_zero]
                        refine wpAnyH_take (i := 9) (v := ?_) rfl (by kernel_rfl) (by kernel_rfl) (by kernel_rfl) (fun _ _ _ h => h) (Or.inl ⟨by kernel_rfl, fun W hSW => by go_simp; try with_reducible rfl⟩) (by assumption) ?_
                        try simp only [List.getElem_toArray]
                        try simp only [List.getElem_cons_succ]
                        try simp only [List.getElem_cons_zero]
                        try simp only [Act.put]
                        try simp only [List.setIfInBounds_toArray]
                        try simp only [List.set_cons_succ]
                        try simp only [List.set_cons_zero]
                        refine wpAnyH_take (i := 10) (v := ?_) rfl (by kernel_rfl) (by kernel_rfl) (by kernel_rfl) (fun _ _ _ h => h) (Or.inl ⟨by kernel_rfl, fun W hSW => by go_simp; try with_reducible rfl⟩) (by assumption) ?_
                        try simp only [List.getElem_toArray]
                        try simp only [List.getElem_cons_succ]
                        try simp only [List.getElem_cons_zero]
                        try simp only [Act.put]
                        try simp only [List.setIfInBounds_toArray]
                        try simp only [List.set_cons_succ]
                        try simp only [List.set_cons_zero]
                        refine wpAnyH_take (i := 11) (v := ?_) rfl (by kernel_rfl) (by kernel_rfl) (by kernel_rfl) (fun _ _ _ h => h) (Or.inl ⟨by kernel_rfl, fun W hSW => by go_simp; try with_reducible rfl⟩) (by assumption) ?_
                        try simp only [List.getElem_toArray]
                        try simp only [List.getElem_cons_succ]
                        try simp only [List.getElem_cons_zero]
                        try simp only [Act.put]
                        try simp only [List.setIfInBounds_toArray]
                        try simp only [List.set_cons_succ]
                        try simp only [List.set_cons_zero]
                        refine wpAnyH_take (i := 12) (v := .bool true) rfl (by kernel_rfl) (by kernel_rfl) (by kernel_rfl) (fun _ _ _ h => h) (Or.inl ⟨by kernel_rfl, fun W hSW => by go_simp; try with_reducible rfl⟩) (by assumption) ?_
                        try simp only [List.getElem_toArray]
                        try simp only [List.getElem_cons_succ]
                        try simp only [List.getElem_cons_zero]
                        try simp only [Act.put]
                        try simp only [List.setIfInBounds_toArray]
                        try simp only [List.set_cons_succ]
                        try simp only [List.set_cons_zero]
                        refine wpAnyH_done (by kernel_rfl) ?_ _
                        go_wp2
                        go_roundw
                        case rel => exact ⟨j + 1, hjl, by rw [ho]; go_num, by go_num, HKj.out.drew.drew⟩
                        case measure => simp [intOf]; omega
                      · simp only [decide_eq_false hqy] at hE
                        have ho := own_no hq hqy
                        clear hqy
                        refine wp_region_held_drew (S := Kept (fun _ => False) w5) (by kernel_rfl) (HKj.out.drew.drew) (fun hSd => ?_)
                        refine wpAnyH_take (i := 0) (v := ?_) rfl (by kernel_rfl) (by kernel_rfl) (by kernel_rfl) (fun _ _ _ h => h) (Or.inl ⟨by kernel_rfl, fun W hSW => by go_simp; try with_reducible rfl⟩) (by assumption) ?_
                        try simp only [List.getElem_toArray]
                        try simp only [List.getElem_cons_succ]
                        try simp only [List.getElem_cons_zero]
                        try simp only [Act.put]
                        try simp only [List.setIfInBounds_toArray]
                        try simp only [List.set_cons_succ]
                        try simp only [List.set_cons_zero]
                        refine wpAnyH_take (i := 1) (v := ?_) rfl (by kernel_rfl) (by kernel_rfl) (by kernel_rfl) (fun _ _ _ h => h) (Or.inl ⟨by kernel_rfl, fun W hSW => by go_simp; try with_reducible rfl⟩) (by assumption) ?_
                        try simp only [List.getElem_toArray]
                        try simp only [List.getElem_cons_succ]
                        try simp only [List.getElem_cons_zero]
                        try simp only [Act.put]
                        try simp only [List.setIfInBounds_toArray]
                        try simp only [List.set_cons_succ]
                        try simp only [List.set_cons_zero]
                        refine wpAnyH_take (i := 2) (v := ?_) rfl (by kernel_rfl) (by kernel_rfl) (by kernel_rfl) (fun _ _ _ h => h) (Or.inl ⟨by kernel_rfl, fun W hSW => by go_simp; try with_reducible rfl⟩) (by assumption) ?_
                        try simp only [List.getElem_toArray]
                        try simp only [List.getElem_cons_succ]
                        try simp only [List.getElem_cons_zero]
                        try simp only [Act.put]
                        try simp only [List.setIfInBounds_toArray]
                        try simp only [List.set_cons_succ]
                        try simp only [List.set_cons_zero]
                        refine wpAnyH_take (i := 3) (v := ?_) rfl (by kernel_rfl) (by kernel_rfl) (by kernel_rfl) (fun _ _ _ h => h) (Or.inl ⟨by kernel_rfl, fun W hSW => by go_simp; try with_reducible rfl⟩) (by assumption) ?_
                        try simp only [List.getElem_toArray]
                        try simp only [List.getElem_cons_succ]
                        try simp only [List.getElem_cons_zero]
                        try simp only [Act.put]
                        try simp only [List.setIfInBounds_toArray]
                        try simp only [List.set_cons_succ]
                        try simp only [List.set_cons_zero]
                        refine wpAnyH_take (i := 4) (v := ?_) rfl (by kernel_rfl) (by kernel_rfl) (by kernel_rfl) (fun _ _ _ h => h) (Or.inl ⟨by kernel_rfl, fun W hSW => by go_simp; try with_reducible rfl⟩) (by assumption) ?_
                        try simp only [List.getElem_toArray]
                        try simp only [List.getElem_cons_succ]
                        try simp only [List.getElem_cons_zero]
                        try simp only [Act.put]
                        try simp only [List.setIfInBounds_toArray]
                        try simp only [List.set_cons_succ]
                        try simp only [List.set_cons_zero]
                        refine wpAnyH_take (i := 5) (v := ?_) rfl (by kernel_rfl) (by kernel_rfl) (by kernel_rfl) (fun _ _ _ h => h) (Or.inl ⟨by kernel_rfl, fun W hSW => by go_simp; try with_reducible rfl⟩) (by assumption) ?_
                        try simp only [List.getElem_toArray]
                        try simp only [List.getElem_cons_succ]
                        try simp only [List.getElem_cons_zero]
                        try simp only [Act.put]
                        try simp only [List.setIfInBounds_toArray]
                        try simp only [List.set_cons_succ]
                        try simp only [List.set_cons_zero]
                        refine wpAnyH_take (i := 6) (v := ?_) rfl (by kernel_rfl) (by kernel_rfl) (by kernel_rfl) (fun _ _ _ h => h) (Or.inl ⟨by kernel_rfl, fun W hSW => by go_simp; try with_reducible rfl⟩) (by assumption) ?_
                        try simp only [List.getElem_toArray]
                        try simp only [List.getElem_cons_succ]
                        try simp only [List.getElem_cons_zero]
                        try simp only [Act.put]
                        try simp only [List.setIfInBounds_toArray]
                        try simp only [List.set_cons_succ]
                        try simp only [List.set_cons_zero]
                        refine wpAnyH_take (i := 7) (v := ?_) rfl (by kernel_rfl) (by kernel_rfl) (by kernel_rfl) (fun _ _ _ h => h) (Or.inl ⟨by kernel_rfl, fun W hSW => by go_simp; try with_reducible rfl⟩) (by assumption) ?_
                        try simp only [List.getElem_toArray]
                        try simp only [List.getElem_cons_succ]
                        try simp only [List.getElem_cons_zero]
                        try simp only [Act.put]
                        try simp only [List.setIfInBounds_toArray]
                        try simp only [List.set_cons_succ]
                        try simp only [List.set_cons_zero]
                        refine wpAnyH_take (i := 8) (v := ?_) rfl (by kernel_rfl) (by kernel_rfl) (by kernel_rfl) (fun _ _ _ h => h) (Or.inl ⟨by kernel_rfl, fun W hSW => by go_simp; try with_reducible rfl⟩) (by assumption) ?_
                        try simp only [List.getElem_toArray]
                        try simp only [List.getElem_cons_succ]
                        try simp only [List.getElem_cons_zero]
                        try simp only [Act.put]
                        try simp only [List.setIfInBounds_toArray]
                        try simp only [List.set_cons_succ]
                        try simp only [List.set_cons_zero]
                        refine wpAnyH_take (i := 9) (v := ?_) rfl (by kernel_rfl) (by kernel_rfl) (by kernel_rfl) (fun _ _ _ h => h) (Or.inl ⟨by kernel_rfl, fun W hSW => by go_simp; try with_reducible rfl⟩) (by assumption) ?_
                        try simp only [List.getElem_toArray]
                        try simp only [List.getElem_cons_succ]
                        try simp only [List.getElem_cons_zero]
                        try simp only [Act.put]
                        try simp only [List.setIfInBounds_toArray]
                        try simp only [List.set_cons_succ]
                        try simp only [List.set_cons_zero]
                        refine wpAnyH_take (i := 10) (v := ?_) rfl (by kernel_rfl) (by kernel_rfl) (by kernel_rfl) (fun _ _ _ h => h) (Or.inl ⟨by kernel_rfl, fun W hSW => by go_simp; try with_reducible rfl⟩) (by assumption) ?_
                        try simp only [List.getElem_toArray]
                        try simp only [List.getElem_cons_succ]
                        try simp only [List.getElem_cons_zero]
                        try simp only [Act.put]
                        try simp only [List.setIfInBounds_toArray]
                        try simp only [List.set_cons_succ]
                        try simp only [List.set_cons_zero]
                        refine wpAnyH_take (i := 11) (v := ?_) rfl (by kernel_rfl) (by kernel_rfl) (by kernel_rfl) (fun _ _ _ h => h) (Or.inl ⟨by kernel_rfl, fun W hSW => by go_simp; try with_reducible rfl⟩) (by assumption) ?_
                        try simp only [List.getElem_toArray]
                        try simp only [List.getElem_cons_succ]
                        try simp only [List.getElem_cons_zero]
                        try simp only [Act.put]
                        try simp only [List.setIfInBounds_toArray]
                        try simp only [List.set_cons_succ]
                        try simp only [List.set_cons_zero]
                        refine wpAnyH_take (i := 12) (v := .bool false) rfl (by kernel_rfl) (by kernel_rfl) (by kernel_rfl) (fun _ _ _ h => h) (Or.inl ⟨by kernel_rfl, fun W hSW => by go_simp; try with_reducible rfl⟩) (by assumption) ?_
                        try simp only [List.getElem_toArray]
                        try simp only [List.getElem_cons_succ]
                        try simp only [List.getElem_cons_zero]
                        try simp only [Act.put]
                        try simp only [List.setIfInBounds_toArray]
                        try simp only [List.set_cons_succ]
                        try simp only [List.set_cons_zero]
                        refine wpAnyH_done (by kernel_rfl) ?_ _
                        go_wp2
                        go_roundw
                        case rel => exact ⟨j + 1, hjl, by rw [ho], by go_num, HKj.out.drew.drew⟩
                        case measure => simp [intOf]; omega
                  · obtain rfl : j = L.length := by omega
                    have hown2 := own_le HC.out.1.good HP.out y.mac
                    have hgo : ¬ (2 : Int) < (ownN L y.mac L.length : Int) := by omega
                    have n6' := n6 wr HKj.out
                    clear hown2
                    go_wp2
                    go_roundw
                    case rel => exact ⟨k + 1, hkl, by go_num, HKj.out⟩
                    case measure => simp [intOf]; omega
              · obtain rfl : k = L.length := by omega
                have R5 := hid (H5.out.still HKk.out)
                go_wp2
                go_roundw
                case rel => exact ⟨i + 1, c', hlt, by go_num, HC.out.1, R5.out⟩
                case measure => simp [intOf]; omega
        · obtain rfl : i = l.length := by omega
          go_wp2_with fail
          refine (HAL.out _ (kA.out.trans HI.out.2.kept)).mono ?_
          rintro e w4 ⟨rfl, hk4⟩
          have K4 := hid ((kA.out.trans HI.out.2.kept).trans hk4)
          go_wp2
          go_ret
          exact ⟨rfl, K4.out⟩
    · have hlen : (200 : Int) < (l.length : Int) := by omega
      clear hT hl hmost
      go_enter Tryd.func4, Tryd.ntmps4
      go_wp2_with fail
      rw [← HwA.out]
      refine (HN.out _).mono ?_
      rintro e w1 ⟨B, rfl, hc1⟩
      have K1 := hid (kA.out.trans hc1.kept)
      clear hc1
      go_wp2_with fail
      refine (HAL.out _ K1.out).mono ?_
      rintro e w2 ⟨rfl, hk2⟩
      go_wp2
      go_ret
      exact ⟨rfl, K1.out.trans hk2⟩
end Go.Proofs.YtgaamehjdoakhaaDoor
