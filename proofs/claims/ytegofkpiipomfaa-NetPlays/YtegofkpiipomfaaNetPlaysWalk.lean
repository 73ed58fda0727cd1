/- The law NetPlays: the program's net and the document's, side by side. -/
import Derived.Test.YtegofkpiipomfaaPlaysMem
import Derived.Test.YtegofkpiipomfaaAlive4
import Derived.Deep.QuietTactic
import Derived.BigQuiet
import Derived.Deep.CutRange
import Derived.Deep.CutBlock
import Derived.Deep.RegionHeld3
namespace Go.Proofs.Ytegofkpiipomfaa
open Go.RowKit

set_option maxHeartbeats 1000000 in
set_option maxRecDepth 100000 in
theorem netPlays_long (z : Bool) (v : Value) (l : List Op4) (hl : 300 < l.length) (w : World) (hv : Ops4At w v l) : Calls Try.prog 3 #[.bool z, v] w fun e w' => e = .returned (.bool true) ∧ Below w.heap.size w w' := by
  have Ha := hid alive_any
  obtain ⟨p, cap, rfl⟩ := hv.slice
  have hlz : (300 : Int) < (l.length : Int) := by omega
  clear hv hl
  go_enter Try.func3, Try.ntmps3
  go_wp2_with (go_at_call 4; refine (Ha.out _).mono ?_; rintro e w' ⟨rfl, hk⟩)
  go_ret
  exact ⟨rfl, hk.below (Nat.le_refl _) (fun _ h => h.elim)⟩

theorem below_of {w W : World} (h : Kept (fun q => ¬ q < w.heap.size) w W) : Below w.heap.size w W := h.below (Nat.le_refl _) (fun q hq => by omega)

/-- The box of what is done. -/
abbrev opO (kd a bb cc : Int) (d : ByteArray) : Obj := .cells #[.int .i64 kd, .int .i64 a, .int .i64 bb, .int .i64 cc, .string d] 37

set_option maxHeartbeats 8000000 in
set_option maxRecDepth 100000 in
theorem netPlays_in (z : Bool) (v : Value) (L : List Op4) (hl : L.length ≤ 300) (w : World) (hv : Ops4At w v L) : Calls Try.prog 3 #[.bool z, v] w fun e w' => e = .returned (.bool true) ∧ Below w.heap.size w w' := by
  have Ha := hid alive_any
  obtain ⟨p, cap, rfl⟩ := hv.slice
  have Hat : Hid (∀ (j : Nat) (x : Op4), L[j]? = some x → ∃ g o, p = some ⟨g, o, none⟩ ∧ L.length ≤ cap ∧ Op4Ok x ∧ ∀ W, Kept (fun q => ¬ q < w.heap.size) w W → op4At W g (o + j * 5) x) := fun j x hj => by
    obtain ⟨g, o, h1, h2, h3, h4⟩ := hv.at hj
    refine ⟨g, o, h1, h2, h3, fun W hk => ?_⟩
    have hg : g < w.heap.size := lt_of_cell h4.1
    have hc : ∀ q, W.cell? ⟨g, q, none⟩ = w.cell? ⟨g, q, none⟩ := fun q => hk.cell (p := ⟨g, q, none⟩) hg (fun h => h hg)
    exact ⟨(hc _).trans h4.1, (hc _).trans h4.2.1, (hc _).trans h4.2.2.1, (hc _).trans h4.2.2.2.1, (hc _).trans h4.2.2.2.2⟩
  have hlz : ¬ (300 : Int) < (L.length : Int) := by omega
  have HF0 := hid (full_new w)
  have HR0 := hid ((ref_new (w.alloc (.cells #[.slice none 0 0, .map none, .map none] 35))))
  have HK0 : Hid (∀ o o', Kept (fun q => ¬ q < w.heap.size) w ((w.alloc o).alloc o')) := fun o o' => ((Kept.refl _ w).alloc o).alloc o'
  obtain ⟨r, hr⟩ : ∃ r, r = w.heap.size + 1 := ⟨_, rfl⟩
  have Hr := hid hr
  clear hv hr
  go_enter Try.func3, Try.ntmps3
  go_upto_if 32 with (go_at_call 5; refine (new_any _).mono ?_; rintro e w1 ⟨rfl, rfl⟩)
  go_cut [5] (fun v5 wx => ∃ b, v5 = .pointer (some ⟨b, 0, none⟩) ∧ Hid (Full (fun q => q < w.heap.size) b (w.heap.size + 1) 0 wx ∧ Kept (fun q => ¬ q < w.heap.size) w wx))
  case first =>
    cases z with
    | false =>
      go_wp2
      go_meet
      exact ⟨_, rfl, HF0.out, HK0.out _ _⟩
    | true =>
      go_wp2
      go_meet
      have h := HR0.out
      rw [World.size_alloc] at h
      have h2 := full_zero w _ (w.heap.size + 1) h (by omega) (HK0.out _ _).size
      rw [World.size_alloc, World.size_alloc] at h2
      exact ⟨_, rfl, h2, (HK0.out _ _).alloc _⟩
  case rest =>
  obtain ⟨b, rfl, HI0⟩ := hcut
  clear HF0 HR0 HK0
  go_wp2
  go_loopw [7] (fun v7 wr => ∃ (j n : Nat), j ≤ L.length ∧ n ≤ 130 * j ∧ v7 = .int .i64 (j : Int) ∧ Hid (Full (fun q => q < w.heap.size) b (w.heap.size + 1) n wr ∧ Kept (fun q => ¬ q < w.heap.size) w wr)) (fun v7 _ => L.length - (intOf v7).toNat)
  case atStart => exact ⟨0, 0, Nat.zero_le _, Nat.le_refl _, rfl, HI0.out⟩
  case round =>
    obtain ⟨j, n, hj, hn, rfl, HI⟩ := hrel
    clear HI0
    by_cases hlt : j < L.length
    · have hltz : (j : Int) < (L.length : Int) := by omega
      obtain ⟨x, hx⟩ : ∃ x, L[j]? = some x := ⟨L[j], by simp [hlt]⟩
      obtain ⟨g, o, rfl, hcap, hok, hop⟩ := Hat.out j x hx
      obtain ⟨x0, x1, x2, x3, x4⟩ := hop wr HI.out.2
      clear hx hop Hat
      obtain ⟨kd, a, bb, cc, d⟩ := x
      simp only at x0 x1 x2 x3 x4
      have HK := hid HI.out.2
      have HF := hid (HI.out.1.box (opO kd a bb cc d))
      have HKa := hid (HI.out.2.alloc (opO kd a bb cc d))
      have HP : Hid (∀ q, q < w.heap.size → (fun q => q < w.heap.size ∨ q = wr.heap.size) q) := fun q hq => Or.inl hq
      have HB : Hid (∀ W, Kept (fun q => ¬ (q < w.heap.size ∨ q = wr.heap.size)) (wr.alloc (opO kd a bb cc d)) W → W.heap[wr.heap.size]? = some (opO kd a bb cc d)) := fun W hW => box_still hW (Or.inr rfl)
      clear HI
      by_cases hx5 : 1600 < d.size
      · have hx5z : (1600 : Int) < (d.size : Int) := by omega
        go_wp2
        go_ret
        exact ⟨rfl, below_of HKa.out⟩
      · have hx5z : ¬ (1600 : Int) < (d.size : Int) := by omega
        obtain ⟨ka, hka, eka⟩ := and_small4 a 3 (by decide)
        obtain ⟨kb, hkb, ekb⟩ := and_small4 bb 3 (by decide)
        obtain ⟨kc, hkc, ekc⟩ := and_small4 cc 127 (by decide)
        have eka' : bits .and .i64 a 3 = (ka : Int) := eka
        have ekb' : bits .and .i64 bb 3 = (kb : Int) := ekb
        have ekc' : bits .and .i64 cc 127 = (kc : Int) := ekc
        have hna : In64 (ka : Int) := by unfold In64; omega
        have hnb : In64 (kb : Int) := by unfold In64; omega
        have Hna := hid hna
        have Hnb := hid hnb
        clear eka ekb ekc hna hnb
        have C0 : ∀ W, Kept (fun q => ¬ (q < w.heap.size ∨ q = wr.heap.size)) (wr.alloc (opO kd a bb cc d)) W → W.cell? ⟨wr.heap.size, 0, none⟩ = some (.int .i64 kd) := fun W hW => by simp only [World.cell?, HB.out W hW]; rfl
        have C1 : ∀ W, Kept (fun q => ¬ (q < w.heap.size ∨ q = wr.heap.size)) (wr.alloc (opO kd a bb cc d)) W → W.cell? ⟨wr.heap.size, 1, none⟩ = some (.int .i64 a) := fun W hW => by simp only [World.cell?, HB.out W hW]; rfl
        have C2 : ∀ W, Kept (fun q => ¬ (q < w.heap.size ∨ q = wr.heap.size)) (wr.alloc (opO kd a bb cc d)) W → W.cell? ⟨wr.heap.size, 2, none⟩ = some (.int .i64 bb) := fun W hW => by simp only [World.cell?, HB.out W hW]; rfl
        have C3 : ∀ W, Kept (fun q => ¬ (q < w.heap.size ∨ q = wr.heap.size)) (wr.alloc (opO kd a bb cc d)) W → W.cell? ⟨wr.heap.size, 3, none⟩ = some (.int .i64 cc) := fun W hW => by simp only [World.cell?, HB.out W hW]; rfl
        have C4 : ∀ W, Kept (fun q => ¬ (q < w.heap.size ∨ q = wr.heap.size)) (wr.alloc (opO kd a bb cc d)) W → W.cell? ⟨wr.heap.size, 4, none⟩ = some (.string d) := fun W hW => by simp only [World.cell?, HB.out W hW]; rfl
        obtain ⟨PP, hPP⟩ : ∃ PP : Nat → Prop, PP = fun q => q < w.heap.size ∨ q = wr.heap.size := ⟨_, rfl⟩
        obtain ⟨wa, hwa⟩ : ∃ wa, wa = wr.alloc (opO kd a bb cc d) := ⟨_, rfl⟩
        have C0' : ∀ W, Kept (fun q => ¬ PP q) wa W → W.cell? ⟨wr.heap.size, 0, none⟩ = some (.int .i64 kd) := fun W hW => C0 W (by rw [hPP, hwa] at hW; exact hW)
        have C1' : ∀ W, Kept (fun q => ¬ PP q) wa W → W.cell? ⟨wr.heap.size, 1, none⟩ = some (.int .i64 a) := fun W hW => C1 W (by rw [hPP, hwa] at hW; exact hW)
        have C2' : ∀ W, Kept (fun q => ¬ PP q) wa W → W.cell? ⟨wr.heap.size, 2, none⟩ = some (.int .i64 bb) := fun W hW => C2 W (by rw [hPP, hwa] at hW; exact hW)
        have C3' : ∀ W, Kept (fun q => ¬ PP q) wa W → W.cell? ⟨wr.heap.size, 3, none⟩ = some (.int .i64 cc) := fun W hW => C3 W (by rw [hPP, hwa] at hW; exact hW)
        have C4' : ∀ W, Kept (fun q => ¬ PP q) wa W → W.cell? ⟨wr.heap.size, 4, none⟩ = some (.string d) := fun W hW => C4 W (by rw [hPP, hwa] at hW; exact hW)
        go_wp2
        go_quiet (fail)
        go_upto_block 2 with fail
        go_cut [11, 12, 13, 14, 15, 16, 17] from 37 to 227 (fun _ _ _ _ _ _ _ wx => ∃ n', n' ≤ 130 * j + 128 ∧ Hid (Full PP b (w.heap.size + 1) n' wx ∧ Kept (fun q => ¬ PP q) wa wx))
        case first =>
          obtain ⟨wb, hwb⟩ : ∃ wb, wb = (wr.alloc (.cells #[.int .i64 kd, .int .i64 a, .int .i64 bb, .int .i64 cc, .string d] 37)).drewN nq := ⟨_, rfl⟩
          rw [← hwb]
          have HKb : Hid (Kept (fun q => ¬ PP q) wa wb) := by
            show Kept _ _ _
            rw [hwb, hwa]
            exact (Kept.refl _ _).drewN nq
          have HFb : Hid (Full PP b (w.heap.size + 1) n wb ∧ Kept (fun q => ¬ PP q) wa wb) := by
            refine ⟨?_, HKb.out⟩
            rw [hwb, hPP]
            exact HF.out.still ((Kept.refl _ _).drewN nq)
          have E0 := C0' wb HKb.out
          have E1 := C1' wb HKb.out
          have E2 := C2' wb HKb.out
          have E3 := C3' wb HKb.out
          have E4 := C4' wb HKb.out
          clear hwb hPP hwa HF HKa HK HP HB x0 x1 x2 x3 x4 C0 C1 C2 C3 C4
          by_cases hk1 : kd = 1
          · subst hk1
            as_aux_lemma =>
              obtain ⟨P2, hP2⟩ : ∃ P2 : Nat → Prop, P2 = fun q => PP q ∨ q = wb.heap.size := ⟨_, rfl⟩
              obtain ⟨wd, hwd⟩ : ∃ wd, wd = wb.alloc (.cells #[.int .i64 (ka : Int), .int .i64 (kb : Int), .string d] 39) := ⟨_, rfl⟩
              have HFd : Hid (Full P2 b (w.heap.size + 1) n wd.drew) := by
                show Full _ _ _ _ _
                rw [hwd, hP2]
                exact (HFb.out.1.box _).still ((Kept.refl _ _).drew)
              have HKd : Hid (Kept (fun q => ¬ PP q) wa wd) := by
                show Kept _ _ _
                rw [hwd]
                exact HKb.out.alloc _
              have HDb : Hid (∀ W, Kept (fun q => ¬ P2 q) wd W → W.heap[wb.heap.size]? = some (.cells #[.int .i64 (ka : Int), .int .i64 (kb : Int), .string d] 39)) := fun W hW => by
                rw [hwd, hP2] at hW
                exact box_still hW (Or.inr rfl)
              have D0 : ∀ W, Kept (fun q => ¬ P2 q) wd W → W.cell? ⟨wb.heap.size, 0, none⟩ = some (.int .i64 (ka : Int)) := fun W hW => by simp only [World.cell?, HDb.out W hW]; rfl
              have D1 : ∀ W, Kept (fun q => ¬ P2 q) wd W → W.cell? ⟨wb.heap.size, 1, none⟩ = some (.int .i64 (kb : Int)) := fun W hW => by simp only [World.cell?, HDb.out W hW]; rfl
              have D2 : ∀ W, Kept (fun q => ¬ P2 q) wd W → W.cell? ⟨wb.heap.size, 2, none⟩ = some (.string d) := fun W hW => by simp only [World.cell?, HDb.out W hW]; rfl
              obtain ⟨y, s1, t1, T1, T2⟩ := HFd.out.send (by omega) Hna.out Hnb.out (x := d) (by omega)
              have HT1 := hid T1
              have HT2 := hid T2
              have Hwd := hid hwd
              have HP2 : Hid (∀ q, PP q → P2 q) := fun q h => by rw [hP2]; exact Or.inl h
              clear T1 T2 hwd HFd hP2
              go_wp2
              rw [← Hwd.out]
              refine wp_region_held_drew (S := Kept (fun q => ¬ P2 q) wd) (by kernel_rfl) ((Kept.refl _ wd).drew) (fun hSd => ?_)
              refine wpAnyH_take (i := 0) (v := ?_) rfl (by kernel_rfl) (by kernel_rfl) (by kernel_rfl) (fun _ _ _ h => h) (Or.inl ⟨by kernel_rfl, fun W hSW => by go_simp; try with_reducible rfl⟩) (by assumption) ?_
              try simp only [List.getElem_toArray]
              try simp only [List.getElem_cons_succ]
              try simp only [List.getElem_cons_zero]
              try simp only [Act.put]
              try simp only [List.setIfInBounds_toArray]
              try simp only [List.set_cons_succ]
              try simp only [List.set_cons_zero]
              refine wpAnyH_take (i := 1) (v := (.agg #[.int .i64 (ka : Int), .int .i64 (kb : Int), .string d])) rfl (by kernel_rfl) (by kernel_rfl) (by kernel_rfl) (fun _ _ _ h => h) (Or.inl ⟨by kernel_rfl, fun W hSW => by go_simp; try with_reducible rfl⟩) (by assumption) ?_
              try simp only [List.getElem_toArray]
              try simp only [List.getElem_cons_succ]
              try simp only [List.getElem_cons_zero]
              try simp only [Act.put]
              try simp only [List.setIfInBounds_toArray]
              try simp only [List.set_cons_succ]
              try simp only [List.set_cons_zero]
              refine wpAnyH_take (i := 3) (v := ?_) rfl (by kernel_rfl) (by kernel_rfl) (by kernel_rfl) (fun _ _ _ h => h) (Or.inl ⟨by kernel_rfl, fun W hSW => by go_simp; try with_reducible rfl⟩) (by assumption) ?_
              try simp only [List.getElem_toArray]
              try simp only [List.getElem_cons_succ]
              try simp only [List.getElem_cons_zero]
              try simp only [Act.put]
              try simp only [List.setIfInBounds_toArray]
              try simp only [List.set_cons_succ]
              try simp only [List.set_cons_zero]
              refine wpAnyH_take (i := 4) (v := (.agg #[.int .i64 (ka : Int), .int .i64 (kb : Int), .string d])) rfl (by kernel_rfl) (by kernel_rfl) (by kernel_rfl) (fun _ _ _ h => h) (Or.inl ⟨by kernel_rfl, fun W hSW => by go_simp; try with_reducible rfl⟩) (by assumption) ?_
              try simp only [List.getElem_toArray]
              try simp only [List.getElem_cons_succ]
              try simp only [List.getElem_cons_zero]
              try simp only [Act.put]
              try simp only [List.setIfInBounds_toArray]
              try simp only [List.set_cons_succ]
              try simp only [List.set_cons_zero]
              refine wpAnyH_ready (rs := [2]) (by kernel_rfl) (by simp) ?_
              refine AllReadyH.cons rfl (fun K hK => ?_) AllReadyH.nil
              go_simp
              refine HT1.out.mono ?_
              rintro e w1 ⟨rfl, hk1, hm1⟩
              have K1 : Kept (fun q => ¬ P2 q) wd w1 := (Kept.refl _ wd).drew.trans hk1
              refine hK.out _ _ (K1) (fun _ => ?_)
              clear hK K
              try simp only [List.getElem_toArray]
              try simp only [List.getElem_cons_succ]
              try simp only [List.getElem_cons_zero]
              try simp only [Act.put]
              try simp only [List.setIfInBounds_toArray]
              try simp only [List.set_cons_succ]
              try simp only [List.set_cons_zero]
              refine wpAnyH_ready (rs := [5]) (by kernel_rfl) (by simp) ?_
              refine AllReadyH.cons rfl (fun K hK => ?_) AllReadyH.nil
              go_simp
              refine (HT2.out _ _ hm1).mono ?_
              rintro e w2 ⟨rfl, hk2, hF2⟩
              have K2 : Kept (fun q => ¬ P2 q) wd w2 := K1.trans hk2
              have HF2 := hid (hF2.less (P' := PP) HP2.out)
              have HK2 := hid (HKd.out.trans (K2.mono (T := fun q => ¬ PP q) (fun q _ h e => h (HP2.out q e))))
              refine hK.out _ _ (K2) (fun _ => ?_)
              clear hK K
              try simp only [List.getElem_toArray]
              try simp only [List.getElem_cons_succ]
              try simp only [List.getElem_cons_zero]
              try simp only [Act.put]
              try simp only [List.setIfInBounds_toArray]
              try simp only [List.set_cons_succ]
              try simp only [List.set_cons_zero]
              refine wpAnyH_take (i := 6) (v := ?_) rfl (by kernel_rfl) (by kernel_rfl) (by kernel_rfl) (fun _ _ _ h => h) (Or.inl ⟨by kernel_rfl, fun W hSW => by go_simp; try with_reducible rfl⟩) (by assumption) ?_
              try simp only [List.getElem_toArray]
              try simp only [List.getElem_cons_succ]
              try simp only [List.getElem_cons_zero]
              try simp only [Act.put]
              try simp only [List.setIfInBounds_toArray]
              try simp only [List.set_cons_succ]
              try simp only [List.set_cons_zero]
              refine wpAnyH_done (by kernel_rfl) ?_ _
              clear D0 D1 D2 HDb HT1 HT2 hk1 hk2 hm1 hF2 K1 K2 HKd
              go_wp2
              go_meet
              exact ⟨_, by omega, HF2.out, HK2.out⟩
          · have hk1b : ((kd : Int) == 1) = false := by rw [beq_eq_false_iff_ne]; exact hk1
            by_cases hk2 : kd = 2
            · subst hk2
              as_aux_lemma =>
                obtain ⟨x, y, s1, t1, T1, T2⟩ := HFb.out.1.deliver a
                unfold ansV at T1 T2
                have HT1 := hid T1
                have HT2 := hid T2
                clear T1 T2
                go_wp2_with fail
                refine HT1.out.mono ?_
                rintro e w1 ⟨rfl, hk1, hm1⟩
                have K1 : Kept (fun q => ¬ PP q) wa w1 := HKb.out.trans hk1
                obtain ⟨wd, hwd⟩ : ∃ wd, wd = w1.alloc (.cells #[.int .i64 x.src, .int .i64 x.dst, .string x.data] 39) := ⟨_, rfl⟩
                have Kd : Kept (fun q => ¬ PP q) wa wd := by rw [hwd]; exact K1.alloc _
                have F1 := C1' wd Kd
                rw [hwd] at F1
                have hm2 : Mem (fun q => PP q ∨ q = w1.heap.size) b (w.heap.size + 1) s1 t1 wd := by rw [hwd]; exact hm1.box _
                have HM2 := hid hm2
                have Hwd := hid hwd
                have HKd := hid Kd
                clear hk1 hm1 hm2 K1 HT1 hwd Kd E0 E1 E2 E3 E4
                go_wp2_with fail
                rw [← Hwd.out]
                refine (HT2.out _ _ HM2.out).mono ?_
                rintro e w2 ⟨rfl, hk2, hF2⟩
                have hbd : w2.heap[w1.heap.size]? = some (.cells #[.int .i64 x.src, .int .i64 x.dst, .string x.data] 39) := by
                  rw [Hwd.out] at hk2
                  exact box_still hk2 (Or.inr rfl)
                have hbe : ∀ o, (w2.alloc o).heap[w1.heap.size]? = some (.cells #[.int .i64 x.src, .int .i64 x.dst, .string x.data] 39) := fun o => (Below.heap_alloc w2 o w1.heap.size (Array.getElem?_eq_some_iff.1 hbd).1).trans hbd
                have D0 : ∀ o, (w2.alloc o).cell? ⟨w1.heap.size, 0, none⟩ = some (.int .i64 x.src) := fun o => by simp only [World.cell?, hbe o]; rfl
                have D1 : ∀ o, (w2.alloc o).cell? ⟨w1.heap.size, 1, none⟩ = some (.int .i64 x.dst) := fun o => by simp only [World.cell?, hbe o]; rfl
                have D2 : ∀ o, (w2.alloc o).cell? ⟨w1.heap.size, 2, none⟩ = some (.string x.data) := fun o => by simp only [World.cell?, hbe o]; rfl
                have HF2 := hid ((hF2.less (P' := PP) (fun q h => Or.inl h)).still ((Kept.refl (fun _ => False) w2).alloc (.cells #[.int .i64 x.src, .int .i64 x.dst, .string x.data] 39)))
                have HK2 := hid ((HKd.out.trans (hk2.mono (T := fun q => ¬ PP q) (fun q _ h e => h (Or.inl e)))).alloc (.cells #[.int .i64 x.src, .int .i64 x.dst, .string x.data] 39))
                clear hk2 hF2 hbd hbe HM2 HT2 F1
                go_wp2
                go_meet
                exact ⟨_, by omega, HF2.out, HK2.out⟩
            · have hk2b : ((kd : Int) == 2) = false := by rw [beq_eq_false_iff_ne]; exact hk2
              by_cases hk3 : kd = 3
              · subst hk3
                as_aux_lemma =>
                  obtain ⟨y, s1, t1, T1, T2⟩ := (HFb.out.1.still ((Kept.refl (fun _ => False) wb).drew)).drop (by omega) a
                  have HT1 := hid T1
                  have HT2 := hid T2
                  clear T1 T2
                  go_wp2
                  refine wp_region_held_drew (S := Kept (fun q => ¬ PP q) wa) (by kernel_rfl) (HKb.out.drew) (fun hSd => ?_)
                  refine wpAnyH_take (i := 0) (v := ?_) rfl (by kernel_rfl) (by kernel_rfl) (by kernel_rfl) (fun _ _ _ h => h) (Or.inl ⟨by kernel_rfl, fun W hSW => by go_simp; try with_reducible rfl⟩) (by assumption) ?_
                  try simp only [List.getElem_toArray]
                  try simp only [List.getElem_cons_succ]
                  try simp only [List.getElem_cons_zero]
                  try simp only [Act.put]
                  try simp only [List.setIfInBounds_toArray]
                  try simp only [List.set_cons_succ]
                  try simp only [List.set_cons_zero]
                  refine wpAnyH_take (i := 1) (v := ?_) rfl (by kernel_rfl) (by kernel_rfl) (by kernel_rfl) (fun _ _ _ h => h) (Or.inl ⟨by kernel_rfl, fun W hSW => by go_simp; try with_reducible rfl⟩) (by assumption) ?_
                  try simp only [List.getElem_toArray]
                  try simp only [List.getElem_cons_succ]
                  try simp only [List.getElem_cons_zero]
                  try simp only [Act.put]
                  try simp only [List.setIfInBounds_toArray]
                  try simp only [List.set_cons_succ]
                  try simp only [List.set_cons_zero]
                  refine wpAnyH_take (i := 2) (v := ?_) rfl (by kernel_rfl) (by kernel_rfl) (by kernel_rfl) (fun _ _ _ h => h) (Or.inl ⟨by kernel_rfl, fun W hSW => by go_simp; try with_reducible rfl⟩) (by assumption) ?_
                  try simp only [List.getElem_toArray]
                  try simp only [List.getElem_cons_succ]
                  try simp only [List.getElem_cons_zero]
                  try simp only [Act.put]
                  try simp only [List.setIfInBounds_toArray]
                  try simp only [List.set_cons_succ]
                  try simp only [List.set_cons_zero]
                  refine wpAnyH_take (i := 4) (v := ?_) rfl (by kernel_rfl) (by kernel_rfl) (by kernel_rfl) (fun _ _ _ h => h) (Or.inl ⟨by kernel_rfl, fun W hSW => by go_simp; try with_reducible rfl⟩) (by assumption) ?_
                  try simp only [List.getElem_toArray]
                  try simp only [List.getElem_cons_succ]
                  try simp only [List.getElem_cons_zero]
                  try simp only [Act.put]
                  try simp only [List.setIfInBounds_toArray]
                  try simp only [List.set_cons_succ]
                  try simp only [List.set_cons_zero]
                  refine wpAnyH_take (i := 5) (v := ?_) rfl (by kernel_rfl) (by kernel_rfl) (by kernel_rfl) (fun _ _ _ h => h) (Or.inl ⟨by kernel_rfl, fun W hSW => by go_simp; try with_reducible rfl⟩) (by assumption) ?_
                  try simp only [List.getElem_toArray]
                  try simp only [List.getElem_cons_succ]
                  try simp only [List.getElem_cons_zero]
                  try simp only [Act.put]
                  try simp only [List.setIfInBounds_toArray]
                  try simp only [List.set_cons_succ]
                  try simp only [List.set_cons_zero]
                  refine wpAnyH_take (i := 6) (v := ?_) rfl (by kernel_rfl) (by kernel_rfl) (by kernel_rfl) (fun _ _ _ h => h) (Or.inl ⟨by kernel_rfl, fun W hSW => by go_simp; try with_reducible rfl⟩) (by assumption) ?_
                  try simp only [List.getElem_toArray]
                  try simp only [List.getElem_cons_succ]
                  try simp only [List.getElem_cons_zero]
                  try simp only [Act.put]
                  try simp only [List.setIfInBounds_toArray]
                  try simp only [List.set_cons_succ]
                  try simp only [List.set_cons_zero]
                  refine wpAnyH_ready (rs := [3]) (by kernel_rfl) (by simp) ?_
                  refine AllReadyH.cons rfl (fun K hK => ?_) AllReadyH.nil
                  go_simp
                  refine HT1.out.mono ?_
                  rintro e w1 ⟨rfl, hk1, hm1⟩
                  have K1 : Kept (fun q => ¬ PP q) wa w1 := HKb.out.drew.trans hk1
                  refine hK.out _ _ (K1) (fun _ => ?_)
                  clear hK K
                  try simp only [List.getElem_toArray]
                  try simp only [List.getElem_cons_succ]
                  try simp only [List.getElem_cons_zero]
                  try simp only [Act.put]
                  try simp only [List.setIfInBounds_toArray]
                  try simp only [List.set_cons_succ]
                  try simp only [List.set_cons_zero]
                  refine wpAnyH_ready (rs := [7]) (by kernel_rfl) (by simp) ?_
                  refine AllReadyH.cons rfl (fun K hK => ?_) AllReadyH.nil
                  go_simp
                  refine (HT2.out _ _ hm1).mono ?_
                  rintro e w2 ⟨rfl, hk2, hF2⟩
                  have K2 : Kept (fun q => ¬ PP q) wa w2 := K1.trans hk2
                  have HF2 := hid hF2
                  have HK2 := hid K2
                  refine hK.out _ _ (K2) (fun _ => ?_)
                  clear hK K
                  try simp only [List.getElem_toArray]
                  try simp only [List.getElem_cons_succ]
                  try simp only [List.getElem_cons_zero]
                  try simp only [Act.put]
                  try simp only [List.setIfInBounds_toArray]
                  try simp only [List.set_cons_succ]
                  try simp only [List.set_cons_zero]
                  refine wpAnyH_take (i := 8) (v := ?_) rfl (by kernel_rfl) (by kernel_rfl) (by kernel_rfl) (fun _ _ _ h => h) (Or.inl ⟨by kernel_rfl, fun W hSW => by go_simp; try with_reducible rfl⟩) (by assumption) ?_
                  try simp only [List.getElem_toArray]
                  try simp only [List.getElem_cons_succ]
                  try simp only [List.getElem_cons_zero]
                  try simp only [Act.put]
                  try simp only [List.setIfInBounds_toArray]
                  try simp only [List.set_cons_succ]
                  try simp only [List.set_cons_zero]
                  refine wpAnyH_done (by kernel_rfl) ?_ _
                  clear HT1 HT2 hk1 hk2 hm1 hF2 K1 K2
                  go_wp2
                  go_meet
                  exact ⟨_, by omega, HF2.out, HK2.out⟩
              · have hk3b : ((kd : Int) == 3) = false := by rw [beq_eq_false_iff_ne]; exact hk3
                by_cases hk4 : kd = 4
                · subst hk4
                  as_aux_lemma =>
                    obtain ⟨y, s1, t1, T1, T2⟩ := (HFb.out.1.still ((Kept.refl (fun _ => False) wb).drew)).twice a
                    have HT1 := hid T1
                    have HT2 := hid T2
                    clear T1 T2
                    go_wp2
                    refine wp_region_held_drew (S := Kept (fun q => ¬ PP q) wa) (by kernel_rfl) (HKb.out.drew) (fun hSd => ?_)
                    refine wpAnyH_take (i := 0) (v := ?_) rfl (by kernel_rfl) (by kernel_rfl) (by kernel_rfl) (fun _ _ _ h => h) (Or.inl ⟨by kernel_rfl, fun W hSW => by go_simp; try with_reducible rfl⟩) (by assumption) ?_
                    try simp only [List.getElem_toArray]
                    try simp only [List.getElem_cons_succ]
                    try simp only [List.getElem_cons_zero]
                    try simp only [Act.put]
                    try simp only [List.setIfInBounds_toArray]
                    try simp only [List.set_cons_succ]
                    try simp only [List.set_cons_zero]
                    refine wpAnyH_take (i := 1) (v := ?_) rfl (by kernel_rfl) (by kernel_rfl) (by kernel_rfl) (fun _ _ _ h => h) (Or.inl ⟨by kernel_rfl, fun W hSW => by go_simp; try with_reducible rfl⟩) (by assumption) ?_
                    try simp only [List.getElem_toArray]
                    try simp only [List.getElem_cons_succ]
                    try simp only [List.getElem_cons_zero]
                    try simp only [Act.put]
                    try simp only [List.setIfInBounds_toArray]
                    try simp only [List.set_cons_succ]
                    try simp only [List.set_cons_zero]
                    refine wpAnyH_take (i := 2) (v := ?_) rfl (by kernel_rfl) (by kernel_rfl) (by kernel_rfl) (fun _ _ _ h => h) (Or.inl ⟨by kernel_rfl, fun W hSW => by go_simp; try with_reducible rfl⟩) (by assumption) ?_
                    try simp only [List.getElem_toArray]
                    try simp only [List.getElem_cons_succ]
                    try simp only [List.getElem_cons_zero]
                    try simp only [Act.put]
                    try simp only [List.setIfInBounds_toArray]
                    try simp only [List.set_cons_succ]
                    try simp only [List.set_cons_zero]
                    refine wpAnyH_take (i := 4) (v := ?_) rfl (by kernel_rfl) (by kernel_rfl) (by kernel_rfl) (fun _ _ _ h => h) (Or.inl ⟨by kernel_rfl, fun W hSW => by go_simp; try with_reducible rfl⟩) (by assumption) ?_
                    try simp only [List.getElem_toArray]
                    try simp only [List.getElem_cons_succ]
                    try simp only [List.getElem_cons_zero]
                    try simp only [Act.put]
                    try simp only [List.setIfInBounds_toArray]
                    try simp only [List.set_cons_succ]
                    try simp only [List.set_cons_zero]
                    refine wpAnyH_take (i := 5) (v := ?_) rfl (by kernel_rfl) (by kernel_rfl) (by kernel_rfl) (fun _ _ _ h => h) (Or.inl ⟨by kernel_rfl, fun W hSW => by go_simp; try with_reducible rfl⟩) (by assumption) ?_
                    try simp only [List.getElem_toArray]
                    try simp only [List.getElem_cons_succ]
                    try simp only [List.getElem_cons_zero]
                    try simp only [Act.put]
                    try simp only [List.setIfInBounds_toArray]
                    try simp only [List.set_cons_succ]
                    try simp only [List.set_cons_zero]
                    refine wpAnyH_take (i := 6) (v := ?_) rfl (by kernel_rfl) (by kernel_rfl) (by kernel_rfl) (fun _ _ _ h => h) (Or.inl ⟨by kernel_rfl, fun W hSW => by go_simp; try with_reducible rfl⟩) (by assumption) ?_
                    try simp only [List.getElem_toArray]
                    try simp only [List.getElem_cons_succ]
                    try simp only [List.getElem_cons_zero]
                    try simp only [Act.put]
                    try simp only [List.setIfInBounds_toArray]
                    try simp only [List.set_cons_succ]
                    try simp only [List.set_cons_zero]
                    refine wpAnyH_ready (rs := [3]) (by kernel_rfl) (by simp) ?_
                    refine AllReadyH.cons rfl (fun K hK => ?_) AllReadyH.nil
                    go_simp
                    refine HT1.out.mono ?_
                    rintro e w1 ⟨rfl, hk1, hm1⟩
                    have K1 : Kept (fun q => ¬ PP q) wa w1 := HKb.out.drew.trans hk1
                    refine hK.out _ _ (K1) (fun _ => ?_)
                    clear hK K
                    try simp only [List.getElem_toArray]
                    try simp only [List.getElem_cons_succ]
                    try simp only [List.getElem_cons_zero]
                    try simp only [Act.put]
                    try simp only [List.setIfInBounds_toArray]
                    try simp only [List.set_cons_succ]
                    try simp only [List.set_cons_zero]
                    refine wpAnyH_ready (rs := [7]) (by kernel_rfl) (by simp) ?_
                    refine AllReadyH.cons rfl (fun K hK => ?_) AllReadyH.nil
                    go_simp
                    refine (HT2.out _ _ hm1).mono ?_
                    rintro e w2 ⟨rfl, hk2, hF2⟩
                    have K2 : Kept (fun q => ¬ PP q) wa w2 := K1.trans hk2
                    have HF2 := hid hF2
                    have HK2 := hid K2
                    refine hK.out _ _ (K2) (fun _ => ?_)
                    clear hK K
                    try simp only [List.getElem_toArray]
                    try simp only [List.getElem_cons_succ]
                    try simp only [List.getElem_cons_zero]
                    try simp only [Act.put]
                    try simp only [List.setIfInBounds_toArray]
                    try simp only [List.set_cons_succ]
                    try simp only [List.set_cons_zero]
                    refine wpAnyH_take (i := 8) (v := ?_) rfl (by kernel_rfl) (by kernel_rfl) (by kernel_rfl) (fun _ _ _ h => h) (Or.inl ⟨by kernel_rfl, fun W hSW => by go_simp; try with_reducible rfl⟩) (by assumption) ?_
                    try simp only [List.getElem_toArray]
                    try simp only [List.getElem_cons_succ]
                    try simp only [List.getElem_cons_zero]
                    try simp only [Act.put]
                    try simp only [List.setIfInBounds_toArray]
                    try simp only [List.set_cons_succ]
                    try simp only [List.set_cons_zero]
                    refine wpAnyH_done (by kernel_rfl) ?_ _
                    clear HT1 HT2 hk1 hk2 hm1 hF2 K1 K2
                    go_wp2
                    go_meet
                    exact ⟨_, by omega, HF2.out, HK2.out⟩
                · have hk4b : ((kd : Int) == 4) = false := by rw [beq_eq_false_iff_ne]; exact hk4
                  by_cases hk5 : kd = 5
                  · subst hk5
                    as_aux_lemma =>
                      obtain ⟨y, s1, t1, T1, T2⟩ := (HFb.out.1.still ((Kept.refl (fun _ => False) wb).drew)).spoil a bb cc
                      have HT1 := hid T1
                      have HT2 := hid T2
                      clear T1 T2
                      go_wp2
                      refine wp_region_held_drew (S := Kept (fun q => ¬ PP q) wa) (by kernel_rfl) (HKb.out.drew) (fun hSd => ?_)
                      refine wpAnyH_take (i := 0) (v := ?_) rfl (by kernel_rfl) (by kernel_rfl) (by kernel_rfl) (fun _ _ _ h => h) (Or.inl ⟨by kernel_rfl, fun W hSW => by go_simp; try with_reducible rfl⟩) (by assumption) ?_
                      try simp only [List.getElem_toArray]
                      try simp only [List.getElem_cons_succ]
                      try simp only [List.getElem_cons_zero]
                      try simp only [Act.put]
                      try simp only [List.setIfInBounds_toArray]
                      try simp only [List.set_cons_succ]
                      try simp only [List.set_cons_zero]
                      refine wpAnyH_take (i := 1) (v := ?_) rfl (by kernel_rfl) (by kernel_rfl) (by kernel_rfl) (fun _ _ _ h => h) (Or.inl ⟨by kernel_rfl, fun W hSW => by go_simp; try with_reducible rfl⟩) (by assumption) ?_
                      try simp only [List.getElem_toArray]
                      try simp only [List.getElem_cons_succ]
                      try simp only [List.getElem_cons_zero]
                      try simp only [Act.put]
                      try simp only [List.setIfInBounds_toArray]
                      try simp only [List.set_cons_succ]
                      try simp only [List.set_cons_zero]
                      refine wpAnyH_take (i := 2) (v := ?_) rfl (by kernel_rfl) (by kernel_rfl) (by kernel_rfl) (fun _ _ _ h => h) (Or.inl ⟨by kernel_rfl, fun W hSW => by go_simp; try with_reducible rfl⟩) (by assumption) ?_
                      try simp only [List.getElem_toArray]
                      try simp only [List.getElem_cons_succ]
                      try simp only [List.getElem_cons_zero]
                      try simp only [Act.put]
                      try simp only [List.setIfInBounds_toArray]
                      try simp only [List.set_cons_succ]
                      try simp only [List.set_cons_zero]
                      refine wpAnyH_take (i := 3) (v := ?_) rfl (by kernel_rfl) (by kernel_rfl) (by kernel_rfl) (fun _ _ _ h => h) (Or.inl ⟨by kernel_rfl, fun W hSW => by go_simp; try with_reducible rfl⟩) (by assumption) ?_
                      try simp only [List.getElem_toArray]
                      try simp only [List.getElem_cons_succ]
                      try simp only [List.getElem_cons_zero]
                      try simp only [Act.put]
                      try simp only [List.setIfInBounds_toArray]
                      try simp only [List.set_cons_succ]
                      try simp only [List.set_cons_zero]
                      refine wpAnyH_take (i := 4) (v := ?_) rfl (by kernel_rfl) (by kernel_rfl) (by kernel_rfl) (fun _ _ _ h => h) (Or.inl ⟨by kernel_rfl, fun W hSW => by go_simp; try with_reducible rfl⟩) (by assumption) ?_
                      try simp only [List.getElem_toArray]
                      try simp only [List.getElem_cons_succ]
                      try simp only [List.getElem_cons_zero]
                      try simp only [Act.put]
                      try simp only [List.setIfInBounds_toArray]
                      try simp only [List.set_cons_succ]
                      try simp only [List.set_cons_zero]
                      refine wpAnyH_take (i := 5) (v := ?_) rfl (by kernel_rfl) (by kernel_rfl) (by kernel_rfl) (fun _ _ _ h => h) (Or.inl ⟨by kernel_rfl, fun W hSW => by go_simp; try with_reducible rfl⟩) (by assumption) ?_
                      try simp only [List.getElem_toArray]
                      try simp only [List.getElem_cons_succ]
                      try simp only [List.getElem_cons_zero]
                      try simp only [Act.put]
                      try simp only [List.setIfInBounds_toArray]
                      try simp only [List.set_cons_succ]
                      try simp only [List.set_cons_zero]
                      refine wpAnyH_take (i := 6) (v := ?_) rfl (by kernel_rfl) (by kernel_rfl) (by kernel_rfl) (fun _ _ _ h => h) (Or.inl ⟨by kernel_rfl, fun W hSW => by go_simp; try with_reducible rfl⟩) (by assumption) ?_
                      try simp only [List.getElem_toArray]
                      try simp only [List.getElem_cons_succ]
                      try simp only [List.getElem_cons_zero]
                      try simp only [Act.put]
                      try simp only [List.setIfInBounds_toArray]
                      try simp only [List.set_cons_succ]
                      try simp only [List.set_cons_zero]
                      refine wpAnyH_take (i := 8) (v := ?_) rfl (by kernel_rfl) (by kernel_rfl) (by kernel_rfl) (fun _ _ _ h => h) (Or.inl ⟨by kernel_rfl, fun W hSW => by go_simp; try with_reducible rfl⟩) (by assumption) ?_
                      try simp only [List.getElem_toArray]
                      try simp only [List.getElem_cons_succ]
                      try simp only [List.getElem_cons_zero]
                      try simp only [Act.put]
                      try simp only [List.setIfInBounds_toArray]
                      try simp only [List.set_cons_succ]
                      try simp only [List.set_cons_zero]
                      refine wpAnyH_take (i := 9) (v := ?_) rfl (by kernel_rfl) (by kernel_rfl) (by kernel_rfl) (fun _ _ _ h => h) (Or.inl ⟨by kernel_rfl, fun W hSW => by go_simp; try with_reducible rfl⟩) (by assumption) ?_
                      try simp only [List.getElem_toArray]
                      try simp only [List.getElem_cons_succ]
                      try simp only [List.getElem_cons_zero]
                      try simp only [Act.put]
                      try simp only [List.setIfInBounds_toArray]
                      try simp only [List.set_cons_succ]
                      try simp only [List.set_cons_zero]
                      refine wpAnyH_take (i := 10) (v := ?_) rfl (by kernel_rfl) (by kernel_rfl) (by kernel_rfl) (fun _ _ _ h => h) (Or.inl ⟨by kernel_rfl, fun W hSW => by go_simp; try with_reducible rfl⟩) (by assumption) ?_
                      try simp only [List.getElem_toArray]
                      try simp only [List.getElem_cons_succ]
                      try simp only [List.getElem_cons_zero]
                      try simp only [Act.put]
                      try simp only [List.setIfInBounds_toArray]
                      try simp only [List.set_cons_succ]
                      try simp only [List.set_cons_zero]
                      refine wpAnyH_take (i := 11) (v := ?_) rfl (by kernel_rfl) (by kernel_rfl) (by kernel_rfl) (fun _ _ _ h => h) (Or.inl ⟨by kernel_rfl, fun W hSW => by go_simp; try with_reducible rfl⟩) (by assumption) ?_
                      try simp only [List.getElem_toArray]
                      try simp only [List.getElem_cons_succ]
                      try simp only [List.getElem_cons_zero]
                      try simp only [Act.put]
                      try simp only [List.setIfInBounds_toArray]
                      try simp only [List.set_cons_succ]
                      try simp only [List.set_cons_zero]
                      refine wpAnyH_take (i := 12) (v := ?_) rfl (by kernel_rfl) (by kernel_rfl) (by kernel_rfl) (fun _ _ _ h => h) (Or.inl ⟨by kernel_rfl, fun W hSW => by go_simp; try with_reducible rfl⟩) (by assumption) ?_
                      try simp only [List.getElem_toArray]
                      try simp only [List.getElem_cons_succ]
                      try simp only [List.getElem_cons_zero]
                      try simp only [Act.put]
                      try simp only [List.setIfInBounds_toArray]
                      try simp only [List.set_cons_succ]
                      try simp only [List.set_cons_zero]
                      refine wpAnyH_take (i := 13) (v := ?_) rfl (by kernel_rfl) (by kernel_rfl) (by kernel_rfl) (fun _ _ _ h => h) (Or.inl ⟨by kernel_rfl, fun W hSW => by go_simp; try with_reducible rfl⟩) (by assumption) ?_
                      try simp only [List.getElem_toArray]
                      try simp only [List.getElem_cons_succ]
                      try simp only [List.getElem_cons_zero]
                      try simp only [Act.put]
                      try simp only [List.setIfInBounds_toArray]
                      try simp only [List.set_cons_succ]
                      try simp only [List.set_cons_zero]
                      refine wpAnyH_take (i := 14) (v := ?_) rfl (by kernel_rfl) (by kernel_rfl) (by kernel_rfl) (fun _ _ _ h => h) (Or.inl ⟨by kernel_rfl, fun W hSW => by go_simp; try with_reducible rfl⟩) (by assumption) ?_
                      try simp only [List.getElem_toArray]
                      try simp only [List.getElem_cons_succ]
                      try simp only [List.getElem_cons_zero]
                      try simp only [Act.put]
                      try simp only [List.setIfInBounds_toArray]
                      try simp only [List.set_cons_succ]
                      try simp only [List.set_cons_zero]
                      refine wpAnyH_ready (rs := [7]) (by kernel_rfl) (by simp) ?_
                      refine AllReadyH.cons rfl (fun K hK => ?_) AllReadyH.nil
                      go_simp
                      refine HT1.out.mono ?_
                      rintro e w1 ⟨rfl, hk1, hm1⟩
                      have K1 : Kept (fun q => ¬ PP q) wa w1 := HKb.out.drew.trans hk1
                      refine hK.out _ _ (K1) (fun _ => ?_)
                      clear hK K
                      try simp only [List.getElem_toArray]
                      try simp only [List.getElem_cons_succ]
                      try simp only [List.getElem_cons_zero]
                      try simp only [Act.put]
                      try simp only [List.setIfInBounds_toArray]
                      try simp only [List.set_cons_succ]
                      try simp only [List.set_cons_zero]
                      refine wpAnyH_ready (rs := [15]) (by kernel_rfl) (by simp) ?_
                      refine AllReadyH.cons rfl (fun K hK => ?_) AllReadyH.nil
                      go_simp
                      refine (HT2.out _ _ hm1).mono ?_
                      rintro e w2 ⟨rfl, hk2, hF2⟩
                      have K2 : Kept (fun q => ¬ PP q) wa w2 := K1.trans hk2
                      have HF2 := hid hF2
                      have HK2 := hid K2
                      refine hK.out _ _ (K2) (fun _ => ?_)
                      clear hK K
                      try simp only [List.getElem_toArray]
                      try simp only [List.getElem_cons_succ]
                      try simp only [List.getElem_cons_zero]
                      try simp only [Act.put]
                      try simp only [List.setIfInBounds_toArray]
                      try simp only [List.set_cons_succ]
                      try simp only [List.set_cons_zero]
                      refine wpAnyH_take (i := 16) (v := ?_) rfl (by kernel_rfl) (by kernel_rfl) (by kernel_rfl) (fun _ _ _ h => h) (Or.inl ⟨by kernel_rfl, fun W hSW => by go_simp; try with_reducible rfl⟩) (by assumption) ?_
                      try simp only [List.getElem_toArray]
                      try simp only [List.getElem_cons_succ]
                      try simp only [List.getElem_cons_zero]
                      try simp only [Act.put]
                      try simp only [List.setIfInBounds_toArray]
                      try simp only [List.set_cons_succ]
                      try simp only [List.set_cons_zero]
                      refine wpAnyH_done (by kernel_rfl) ?_ _
                      clear HT1 HT2 hk1 hk2 hm1 hF2 K1 K2
                      go_wp2
                      go_meet
                      exact ⟨_, by omega, HF2.out, HK2.out⟩
                  · have hk5b : ((kd : Int) == 5) = false := by rw [beq_eq_false_iff_ne]; exact hk5
                    by_cases hk6 : kd = 6
                    · subst hk6
                      as_aux_lemma =>
                        obtain ⟨s1, t1, T1, T2⟩ := HFb.out.1.cut (by omega) Hna.out Hnb.out true
                        have HT1 := hid T1
                        have HT2 := hid T2
                        clear T1 T2
                        go_wp2_with fail
                        refine HT1.out.mono ?_
                        rintro e w1 ⟨rfl, hk1, hm1⟩
                        have K1 : Kept (fun q => ¬ PP q) wa w1 := HKb.out.trans hk1
                        have F0 := C0' w1 K1
                        have HM1 := hid hm1
                        have HK1 := hid K1
                        clear hk1 hm1 K1 HT1 E0 E1 E2 E3 E4
                        go_wp2_with fail
                        refine (HT2.out _ _ HM1.out).mono ?_
                        rintro e w2 ⟨rfl, hk2, hF2⟩
                        have HF2 := hid hF2
                        have HK2 := hid (HK1.out.trans hk2)
                        clear hk2 hF2 HM1 HT2 F0
                        go_wp2
                        go_meet
                        exact ⟨_, by omega, HF2.out, HK2.out⟩
                    · have hk6b : ((kd : Int) == 6) = false := by rw [beq_eq_false_iff_ne]; exact hk6
                      by_cases hk7 : kd = 7
                      · subst hk7
                        as_aux_lemma =>
                          obtain ⟨s1, t1, T1, T2⟩ := HFb.out.1.cut (by omega) Hna.out Hnb.out false
                          have HT1 := hid T1
                          have HT2 := hid T2
                          clear T1 T2
                          go_wp2_with fail
                          refine HT1.out.mono ?_
                          rintro e w1 ⟨rfl, hk1, hm1⟩
                          have K1 : Kept (fun q => ¬ PP q) wa w1 := HKb.out.trans hk1
                          have F0 := C0' w1 K1
                          have HM1 := hid hm1
                          have HK1 := hid K1
                          clear hk1 hm1 K1 HT1 E0 E1 E2 E3 E4
                          go_wp2_with fail
                          refine (HT2.out _ _ HM1.out).mono ?_
                          rintro e w2 ⟨rfl, hk2, hF2⟩
                          have HF2 := hid hF2
                          have HK2 := hid (HK1.out.trans hk2)
                          clear hk2 hF2 HM1 HT2 F0
                          go_wp2
                          go_meet
                          exact ⟨_, by omega, HF2.out, HK2.out⟩
                      · have hk7b : ((kd : Int) == 7) = false := by rw [beq_eq_false_iff_ne]; exact hk7
                        by_cases hk8 : kd = 8
                        · subst hk8
                          as_aux_lemma =>
                            generalize wr.heap.size = ob at *
                            go_wp2
                            go_loopw [16] (fun v16 wq => ∃ i : Nat, i ≤ kc ∧ v16 = .int .i64 (i : Int) ∧ Hid (Full PP b (w.heap.size + 1) (n + i) wq ∧ Kept (fun q => ¬ PP q) wa wq)) (fun v16 _ => kc - (intOf v16).toNat)
                            case atStart => exact ⟨0, Nat.zero_le _, rfl, HFb.out⟩
                            case round =>
                              obtain ⟨i, hi, rfl, HI⟩ := hrel
                              have G3 := C3' _ HI.out.2
                              clear E0 E1 E2 E3 E4
                              by_cases hik : i < kc
                              · have hikz : (i : Int) < (kc : Int) := by omega
                                obtain ⟨P2, hP2⟩ : ∃ P2 : Nat → Prop, P2 = fun q => PP q ∨ q = wr.heap.size := ⟨_, rfl⟩
                                obtain ⟨wd, hwd⟩ : ∃ wd, wd = wr.alloc (.cells #[.int .i64 (ka : Int), .int .i64 (kb : Int), .string ⟨#[120]⟩] 39) := ⟨_, rfl⟩
                                have HFd : Hid (Full P2 b (w.heap.size + 1) (n + i) wd.drew) := by
                                  show Full _ _ _ _ _
                                  rw [hwd, hP2]
                                  exact (HI.out.1.box _).still ((Kept.refl _ _).drew)
                                have HKd : Hid (Kept (fun q => ¬ PP q) wa wd) := by
                                  show Kept _ _ _
                                  rw [hwd]
                                  exact HI.out.2.alloc _
                                have HDb : Hid (∀ W, Kept (fun q => ¬ P2 q) wd W → W.heap[wr.heap.size]? = some (.cells #[.int .i64 (ka : Int), .int .i64 (kb : Int), .string ⟨#[120]⟩] 39)) := fun W hW => by
                                  rw [hwd, hP2] at hW
                                  exact box_still hW (Or.inr rfl)
                                have D0 : ∀ W, Kept (fun q => ¬ P2 q) wd W → W.cell? ⟨wr.heap.size, 0, none⟩ = some (.int .i64 (ka : Int)) := fun W hW => by simp only [World.cell?, HDb.out W hW]; rfl
                                have D1 : ∀ W, Kept (fun q => ¬ P2 q) wd W → W.cell? ⟨wr.heap.size, 1, none⟩ = some (.int .i64 (kb : Int)) := fun W hW => by simp only [World.cell?, HDb.out W hW]; rfl
                                have D2 : ∀ W, Kept (fun q => ¬ P2 q) wd W → W.cell? ⟨wr.heap.size, 2, none⟩ = some (.string ⟨#[120]⟩) := fun W hW => by simp only [World.cell?, HDb.out W hW]; rfl
                                obtain ⟨y, s1, t1, T1, T2⟩ := HFd.out.send (by omega) Hna.out Hnb.out (x := ⟨#[120]⟩) (by decide)
                                have HT1 := hid T1
                                have HT2 := hid T2
                                have Hwd := hid hwd
                                have HP2 : Hid (∀ q, PP q → P2 q) := fun q h => by rw [hP2]; exact Or.inl h
                                clear T1 T2 hwd HFd hP2
                                go_wp2
                                rw [← Hwd.out]
                                refine wp_region_held_drew (S := Kept (fun q => ¬ P2 q) wd) (by kernel_rfl) ((Kept.refl _ wd).drew) (fun hSd => ?_)
                                refine wpAnyH_take (i := 0) (v := ?_) rfl (by kernel_rfl) (by kernel_rfl) (by kernel_rfl) (fun _ _ _ h => h) (Or.inl ⟨by kernel_rfl, fun W hSW => by go_simp; try with_reducible rfl⟩) (by assumption) ?_
                                try simp only [List.getElem_toArray]
                                try simp only [List.getElem_cons_succ]
                                try simp only [List.getElem_cons_zero]
                                try simp only [Act.put]
                                try simp only [List.setIfInBounds_toArray]
                                try simp only [List.set_cons_succ]
                                try simp only [List.set_cons_zero]
                                refine wpAnyH_take (i := 1) (v := (.agg #[.int .i64 (ka : Int), .int .i64 (kb : Int), .string ⟨#[120]⟩])) rfl (by kernel_rfl) (by kernel_rfl) (by kernel_rfl) (fun _ _ _ h => h) (Or.inl ⟨by kernel_rfl, fun W hSW => by go_simp; try with_reducible rfl⟩) (by assumption) ?_
                                try simp only [List.getElem_toArray]
                                try simp only [List.getElem_cons_succ]
                                try simp only [List.getElem_cons_zero]
                                try simp only [Act.put]
                                try simp only [List.setIfInBounds_toArray]
                                try simp only [List.set_cons_succ]
                                try simp only [List.set_cons_zero]
                                refine wpAnyH_take (i := 3) (v := ?_) rfl (by kernel_rfl) (by kernel_rfl) (by kernel_rfl) (fun _ _ _ h => h) (Or.inl ⟨by kernel_rfl, fun W hSW => by go_simp; try with_reducible rfl⟩) (by assumption) ?_
                                try simp only [List.getElem_toArray]
                                try simp only [List.getElem_cons_succ]
                                try simp only [List.getElem_cons_zero]
                                try simp only [Act.put]
                                try simp only [List.setIfInBounds_toArray]
                                try simp only [List.set_cons_succ]
                                try simp only [List.set_cons_zero]
                                refine wpAnyH_take (i := 4) (v := (.agg #[.int .i64 (ka : Int), .int .i64 (kb : Int), .string ⟨#[120]⟩])) rfl (by kernel_rfl) (by kernel_rfl) (by kernel_rfl) (fun _ _ _ h => h) (Or.inl ⟨by kernel_rfl, fun W hSW => by go_simp; try with_reducible rfl⟩) (by assumption) ?_
                                try simp only [List.getElem_toArray]
                                try simp only [List.getElem_cons_succ]
                                try simp only [List.getElem_cons_zero]
                                try simp only [Act.put]
                                try simp only [List.setIfInBounds_toArray]
                                try simp only [List.set_cons_succ]
                                try simp only [List.set_cons_zero]
                                refine wpAnyH_ready (rs := [2]) (by kernel_rfl) (by simp) ?_
                                refine AllReadyH.cons rfl (fun K hK => ?_) AllReadyH.nil
                                go_simp
                                refine HT1.out.mono ?_
                                rintro e w1 ⟨rfl, hk1, hm1⟩
                                have K1 : Kept (fun q => ¬ P2 q) wd w1 := (Kept.refl _ wd).drew.trans hk1
                                refine hK.out _ _ (K1) (fun _ => ?_)
                                clear hK K
                                try simp only [List.getElem_toArray]
                                try simp only [List.getElem_cons_succ]
                                try simp only [List.getElem_cons_zero]
                                try simp only [Act.put]
                                try simp only [List.setIfInBounds_toArray]
                                try simp only [List.set_cons_succ]
                                try simp only [List.set_cons_zero]
                                refine wpAnyH_ready (rs := [5]) (by kernel_rfl) (by simp) ?_
                                refine AllReadyH.cons rfl (fun K hK => ?_) AllReadyH.nil
                                go_simp
                                refine (HT2.out _ _ hm1).mono ?_
                                rintro e w2 ⟨rfl, hk2, hF2⟩
                                have K2 : Kept (fun q => ¬ P2 q) wd w2 := K1.trans hk2
                                have HF2 := hid (hF2.less (P' := PP) HP2.out)
                                have HK2 := hid (HKd.out.trans (K2.mono (T := fun q => ¬ PP q) (fun q _ h e => h (HP2.out q e))))
                                refine hK.out _ _ (K2) (fun _ => ?_)
                                clear hK K
                                try simp only [List.getElem_toArray]
                                try simp only [List.getElem_cons_succ]
                                try simp only [List.getElem_cons_zero]
                                try simp only [Act.put]
                                try simp only [List.setIfInBounds_toArray]
                                try simp only [List.set_cons_succ]
                                try simp only [List.set_cons_zero]
                                refine wpAnyH_take (i := 6) (v := ?_) rfl (by kernel_rfl) (by kernel_rfl) (by kernel_rfl) (fun _ _ _ h => h) (Or.inl ⟨by kernel_rfl, fun W hSW => by go_simp; try with_reducible rfl⟩) (by assumption) ?_
                                try simp only [List.getElem_toArray]
                                try simp only [List.getElem_cons_succ]
                                try simp only [List.getElem_cons_zero]
                                try simp only [Act.put]
                                try simp only [List.setIfInBounds_toArray]
                                try simp only [List.set_cons_succ]
                                try simp only [List.set_cons_zero]
                                refine wpAnyH_done (by kernel_rfl) ?_ _
                                clear D0 D1 D2 HDb HT1 HT2 hk1 hk2 hm1 hF2 K1 K2 HKd
                                go_wp2
                                exact ⟨⟨i + 1, hik, by go_num, HF2.out, HK2.out⟩, by simp [intOf]; omega⟩

                              · have hikz : ¬ (i : Int) < (kc : Int) := by omega
                                go_wp2
                                go_meet
                                exact ⟨n + i, by omega, HI.out⟩
                        · have hk8b : ((kd : Int) == 8) = false := by rw [beq_eq_false_iff_ne]; exact hk8
                          go_wp2
                          go_meet
                          exact ⟨n, by omega, HFb.out⟩
        case rest =>
          as_aux_lemma =>
            obtain ⟨n', hn', HI'⟩ := hcut
            have hPP' := hPP
            have HPP : Hid (∀ q, q < w.heap.size → PP q) := fun q hq => by rw [hPP']; exact Or.inl hq
            have HKwa : Hid (Kept (fun q => ¬ q < w.heap.size) w wa) := by
              show Kept _ _ _
              rw [hwa]
              exact HKa.out
            clear hPP hPP' hwa HF HKa HK HP HB x0 x1 x2 x3 x4 C0 C1 C2 C3 C4 C0' C1' C3' C4'
            obtain ⟨⟨s, t, hm, hs⟩, hK⟩ := HI'.out
            obtain ⟨x, y, PA, PB⟩ := peek_both hs bb
            unfold ansV at PA PB
            have E2 := C2' wc hK
            have HPA := hid (PA _ _ _ _ hm)
            have HPB := hid PB
            have HS := hid hs
            have HKc := hid hK
            clear PA PB hm hs hK HI'
            go_wp2_with fail
            refine HPA.out.mono ?_
            rintro e w1 ⟨rfl, hk1, hm1⟩
            have K1 : Kept (fun q => ¬ PP q) wa w1 := HKc.out.trans hk1
            obtain ⟨P1, hP1⟩ : ∃ P1 : Nat → Prop, P1 = fun q => PP q ∨ q = w1.heap.size := ⟨_, rfl⟩
            have HM1 : Hid (Mem P1 b (w.heap.size + 1) s t (w1.alloc (.cells #[.int .i64 x.src, .int .i64 x.dst, .string x.data] 39))) := by
              show Mem _ _ _ _ _ _
              rw [hP1]
              exact hm1.box _
            have E3 := C2' (w1.alloc (.cells #[.int .i64 x.src, .int .i64 x.dst, .string x.data] 39)) (K1.alloc _)
            have HK1 := hid (K1.alloc (.cells #[.int .i64 x.src, .int .i64 x.dst, .string x.data] 39))
            have HPP1 : Hid (∀ q, PP q → P1 q) := fun q hq => by rw [hP1]; exact Or.inl hq
            have HP1b : Hid (P1 w1.heap.size) := by
              show P1 _
              rw [hP1]
              exact Or.inr rfl
            clear hk1 hm1 K1 HPA E2 hP1 HKc
            go_wp2_with fail
            refine (HPB.out _ _ _ _ HM1.out).mono ?_
            rintro e w2 ⟨rfl, hk2, hm2⟩
            have hbd : w2.heap[w1.heap.size]? = some (.cells #[.int .i64 x.src, .int .i64 x.dst, .string x.data] 39) := box_still hk2 HP1b.out
            have K2 : Kept (fun q => ¬ PP q) wa w2 := HK1.out.trans (hk2.mono (T := fun q => ¬ PP q) (fun q _ h e => h (HPP1.out q e)))
            obtain ⟨P2, hP2⟩ : ∃ P2 : Nat → Prop, P2 = fun q => P1 q ∨ q = w2.heap.size := ⟨_, rfl⟩
            have HM2 : Hid (Mem P2 b (w.heap.size + 1) s t (w2.alloc (.cells #[.int .i64 x.src, .int .i64 x.dst, .string x.data] 39))) := by
              show Mem _ _ _ _ _ _
              rw [hP2]
              exact hm2.box _
            have HK2 := hid (K2.alloc (.cells #[.int .i64 x.src, .int .i64 x.dst, .string x.data] 39))
            have HPP2 : Hid (∀ q, PP q → P2 q) := fun q hq => by rw [hP2]; exact Or.inl (HPP1.out q hq)
            have HP2b : Hid (P2 w2.heap.size ∧ P2 w1.heap.size) := by
              show P2 _ ∧ P2 _
              rw [hP2]
              exact ⟨Or.inr rfl, Or.inl HP1b.out⟩
            have Hbd : Hid ((w2.alloc (.cells #[.int .i64 x.src, .int .i64 x.dst, .string x.data] 39)).heap[w1.heap.size]? = some (.cells #[.int .i64 x.src, .int .i64 x.dst, .string x.data] 39) ∧ w1.heap.size < (w2.alloc (.cells #[.int .i64 x.src, .int .i64 x.dst, .string x.data] 39)).heap.size) := by
              have hl := (Array.getElem?_eq_some_iff.1 hbd).1
              exact ⟨(Below.heap_alloc w2 _ w1.heap.size hl).trans hbd, by rw [World.size_alloc]; omega⟩
            clear hk2 hm2 K2 HPB E3 hP2 hbd HK1 HM1
            go_wp2_with fail
            refine (HM2.out.counts HS.out (by omega) (ka : Int) (kb : Int)).mono ?_
            rintro e w3 ⟨rfl, hk3, t3, hm3, hs3⟩
            have K3 : Kept (fun q => ¬ PP q) wa w3 := HK2.out.trans (hk3.mono (T := fun q => ¬ PP q) (fun q _ h e => h (HPP2.out q e)))
            have hb1 : w3.heap[w1.heap.size]? = some (.cells #[.int .i64 x.src, .int .i64 x.dst, .string x.data] 39) := (hk3.block _ Hbd.out.2 (fun h => h HP2b.out.2)).trans Hbd.out.1
            have hb2 : w3.heap[w2.heap.size]? = some (.cells #[.int .i64 x.src, .int .i64 x.dst, .string x.data] 39) := box_still hk3 HP2b.out.1
            obtain ⟨wp, hwp⟩ : ∃ wp, wp = w3.alloc (.cells #[.int .i64 (ka : Int), .int .i64 (kb : Int)] 48) := ⟨_, rfl⟩
            have hb1' : wp.heap[w1.heap.size]? = some (.cells #[.int .i64 x.src, .int .i64 x.dst, .string x.data] 39) := by rw [hwp]; exact (Below.heap_alloc w3 _ _ (Array.getElem?_eq_some_iff.1 hb1).1).trans hb1
            have hb2' : wp.heap[w2.heap.size]? = some (.cells #[.int .i64 x.src, .int .i64 x.dst, .string x.data] 39) := by rw [hwp]; exact (Below.heap_alloc w3 _ _ (Array.getElem?_eq_some_iff.1 hb2).1).trans hb2
            have hb3' : wp.heap[w3.heap.size]? = some (.cells #[.int .i64 (ka : Int), .int .i64 (kb : Int)] 48) := by rw [hwp]; exact heap_alloc_new w3 _
            have D0 : wp.cell? ⟨w1.heap.size, 0, none⟩ = some (.int .i64 x.src) := by simp only [World.cell?, hb1']; rfl
            have D1 : wp.cell? ⟨w1.heap.size, 1, none⟩ = some (.int .i64 x.dst) := by simp only [World.cell?, hb1']; rfl
            have D2 : wp.cell? ⟨w1.heap.size, 2, none⟩ = some (.string x.data) := by simp only [World.cell?, hb1']; rfl
            have X0 : wp.cell? ⟨w2.heap.size, 0, none⟩ = some (.int .i64 x.src) := by simp only [World.cell?, hb2']; rfl
            have X1 : wp.cell? ⟨w2.heap.size, 1, none⟩ = some (.int .i64 x.dst) := by simp only [World.cell?, hb2']; rfl
            have X2 : wp.cell? ⟨w2.heap.size, 2, none⟩ = some (.string x.data) := by simp only [World.cell?, hb2']; rfl
            have Q0 : wp.cell? ⟨w3.heap.size, 0, none⟩ = some (.int .i64 (ka : Int)) := by simp only [World.cell?, hb3']; rfl
            have Q1 : wp.cell? ⟨w3.heap.size, 1, none⟩ = some (.int .i64 (kb : Int)) := by simp only [World.cell?, hb3']; rfl
            have HM3 : Hid (Mem P2 b (w.heap.size + 1) s t3 wp) := by
              show Mem _ _ _ _ _ _
              rw [hwp]
              exact hm3.still ((Kept.refl _ w3).alloc _)
            have HK3 : Hid (Kept (fun q => ¬ PP q) wa wp) := by
              show Kept _ _ _
              rw [hwp]
              exact K3.alloc _
            have HS3 := hid hs3
            have Hwp := hid hwp
            clear hk3 hm3 hs3 K3 hb1 hb2 hb1' hb2' hb3' hwp HM2 HK2 Hbd HP2b HP1b
            go_upto_region 49 with fail
            rw [← Hwp.out]
            clear Hwp
            go_wp2_with (first
              | (go_at_call 21; refine (HM3.out.len1).mono ?_; rintro e w4 ⟨rfl, hw4⟩; rw [hw4]; clear hw4)
              | (go_at_call 22; refine (HM3.out.len2 HS3.out).mono ?_; rintro e w4 ⟨rfl, hw4⟩; rw [hw4]; clear hw4)
              | (go_at_call 23; refine (HM3.out.sent Hna.out Hnb.out).mono ?_; rintro e w5 ⟨rfl, hk5⟩; have R0 := (hk5.cell (lt_of_cell Q0) id).trans Q0; have R1 := (hk5.cell (lt_of_cell Q1) id).trans Q1; have HM5 := hid (HM3.out.still hk5); have HK5 := hid (HK3.out.trans (hk5.mono (T := fun q => ¬ PP q) (fun _ _ h => h.elim))); clear hk5)
              | (go_at_call 24; refine (HM5.out.lost Hna.out Hnb.out).mono ?_; rintro e w6 ⟨rfl, hk6⟩; have HM6 := hid (HM5.out.still hk6); have HK6 := hid (HK5.out.trans (hk6.mono (T := fun q => ¬ PP q) (fun _ _ h => h.elim))); clear hk6))
            refine ⟨⟨j + 1, n' + 1, hlt, by omega, by go_num, ⟨s, t3, HM6.out.less (fun q hq => HPP2.out q (HPP.out q hq)), HS3.out⟩, HKwa.out.trans (HK6.out.mono (T := fun q => ¬ q < w.heap.size) (fun q _ h e => h (HPP.out q e)))⟩, by simp [intOf]; omega⟩
    · obtain rfl : j = L.length := by omega
      have HK := hid HI.out.2
      clear HI Hat
      go_wp2_with fail
      refine (Ha.out _).mono ?_
      rintro e w5 ⟨rfl, hk5⟩
      have HK5 := hid (HK.out.trans (hk5.mono (T := fun q => ¬ q < w.heap.size) (fun _ _ h => h.elim)))
      clear hk5
      go_wp2
      go_ret
      exact ⟨rfl, below_of HK5.out⟩

theorem netPlays_walk (z : Bool) (v : Value) (l : List Op4) (w : World) (hv : Ops4At w v l) : Calls Try.prog 3 #[.bool z, v] w fun e w' => e = .returned (.bool true) ∧ Below w.heap.size w w' := by
  by_cases h : 300 < l.length
  · exact netPlays_long z v l h w hv
  · exact netPlays_in z v l (by omega) w hv

end Go.Proofs.Ytegofkpiipomfaa
