/- The contract of the document's own Get (P1802). (Written by gen_avrefget.py.) -/
import Derived.Test.YtkneogfeokckjaaGreatDoorAvRef1
import Derived.Test.YtkneogfeokckjaaGreatDoorAvGet
import Derived.Deep.CutRange
import Derived.Deep.CutBlock
import Derived.Deep.RegionHeld
namespace Go.Proofs.YtkneogfeokckjaaGreatDoor
open Go.RowKit

/-- How far the document's loop has come. -/
structure RGet (w : World) (s : ByteArray) (R : List Av × Int) (b : ByteArray) (acc : List Av) (vl : Value) (c : Cov) (W : World) : Prop where
  own : OwnAv W w.heap.size vl acc
  few : Few c
  secret : c.secret = s
  on : getOn b acc c = R
  size : b.size ≤ 140737488351232
  most : acc.length ≤ 40
  kept : Kept (fun _ => False) w W

set_option maxHeartbeats 16000000 in
set_option maxRecDepth 100000 in
theorem rGet_any (hM : RefUnmAt) (b s : ByteArray) (hb : b.size ≤ 140737488351232) (hs : s.size ≤ 1000000) (w : World) :
    Calls Tryz.prog 43 #[.string b, .string s] w fun e w' => ∃ v, e = .returned (.tuple #[v, .int .i64 (getAF b s).2]) ∧ OwnAv w' w.heap.size v (getAF b s).1 ∧ Kept (fun _ => False) w w' := by
  obtain ⟨i0, hi, hz0, hz1, hz2⟩ := info_parts infoAv
  obtain ⟨R, hR⟩ : ∃ R, R = getAF b s := ⟨_, rfl⟩
  rw [← hR]
  have HM := hid hM
  have HI0 : Hid (RGet w s R b [] (.slice none 0 0) (cov0 s) w) := ⟨World.ownsRow_nil _ _ _ _, ⟨hs, Nat.zero_le _⟩, rfl, hR.symm, hb, Nat.zero_le _, Kept.refl _ _⟩
  have Hs := hid hs
  clear hM hR hb hs
  go_enter Tryz.func43, Tryz.ntmps43
  go_wp2
  go_loopw [0, 6, 7, 8] (fun vb vl vv vh wr => ∃ (d : ByteArray) (acc : List Av) (c : Cov), vb = .string d ∧ (vv = .string c.vector ∧ vh = .bool c.has) ∧ Hid (RGet w s R d acc vl c wr)) (fun vb _ _ _ _ => (strV vb).size)
  case atStart => exact ⟨b, [], cov0 s, rfl, ⟨rfl, rfl⟩, HI0.out⟩
  case round =>
    obtain ⟨d, acc, c, rfl, ⟨rfl, rfl⟩, HI⟩ := hrel
    clear HI0
    have hT := HI.out.on
    rw [getOn_eq] at hT
    have hds := HI.out.size
    have hmost := HI.out.most
    have HO := hid HI.out.own
    have HKr := hid HI.out.kept
    have HFw := hid HI.out.few
    have HSc := hid HI.out.secret
    obtain ⟨p, cap, hv⟩ := slice_of HI.out.own
    subst hv
    clear HI
    by_cases h0 : d.size = 0
    · rw [if_pos h0] at hT
      obtain rfl := str_nil d h0
      have HT := hid hT
      clear hT h0 hds
      go_wp2
      go_ret2
      exact ⟨_, by rw [← HT.out]; rfl, by rw [← HT.out]; exact HO.out, HKr.out⟩
    · rw [if_neg h0] at hT
      have h0z : (0 : Int) < (d.size : Int) := by omega
      by_cases h6 : d.size < 6
      · have eC : cutF d = (av0, ⟨#[]⟩, 5) := by unfold cutF; rw [if_pos h6]
        rw [eC] at hT
        simp only at hT
        rw [if_neg (by decide)] at hT
        have h6z : (d.size : Int) < 6 := by omega
        clear eC
        have HP : Hid (R = ([], 5)) := hT.symm
        clear hT
        go_wp2
        go_ret2
        exact ⟨_, by rw [HP.out]; rfl, by rw [HP.out]; exact OwnG.nil _ _, HKr.out⟩
      · have h6z : ¬ (d.size : Int) < 6 := by omega
        have HW0 := hid (refNumA d hds 0 (by omega))
        have HW2 := hid (refNumA d hds 2 (by omega))
        have HW4 := hid (refNumA d hds 4 (by omega))
        have hN := numAt_lt d 0
        have hN2 := numAt_lt d 2
        have hN4 := numAt_lt d 4
        obtain ⟨L, eL⟩ : ∃ L, L = numAt d 0 % 1024 := ⟨_, rfl⟩
        obtain ⟨G, eG⟩ : ∃ G, G = numAt d 0 / 1024 % 16 := ⟨_, rfl⟩
        obtain ⟨hq, ehq⟩ : ∃ hq, hq = hidB (numAt d 0) := ⟨_, rfl⟩
        obtain ⟨mq, emq⟩ : ∃ mq, mq = mustB (numAt d 0) := ⟨_, rfl⟩
        have q1 : (numAt d 0 : Int) % 1024 = (L : Int) := by omega
        have q2 : ((numAt d 0 : Int) / 16384 % 2 == 1) = hq := by
          rw [ehq]
          unfold hidB
          rw [Bool.eq_iff_iff, beq_iff_eq, decide_eq_true_iff]
          omega
        have q3 : (numAt d 0 : Int) / 1024 % 16 = (G : Int) := by omega
        have q4 : decide ((32768 : Int) ≤ (numAt d 0 : Int)) = mq := by
          rw [emq]
          unfold mustB
          rw [decide_eq_decide]
          omega
        have hL4 : L < 1024 := by omega
        have eD : ∀ r : Av × ByteArray × Int, cutF d = r → hT = hT := fun _ _ => rfl
        clear eD
        by_cases hf : G ≠ 0 ∨ L < 6
        · have eC : cutF d = (av0, ⟨#[]⟩, 4) := by
            unfold cutF
            rw [if_neg h6, ← eG, ← eL, if_pos hf]
          rw [eC] at hT
          simp only at hT
          rw [if_neg (by decide)] at hT
          have hfc : ((G : Int) != 0) = true ∨ (((G : Int) != 0) = false ∧ (L : Int) < 6) := by
            by_cases hg : G = 0
            · refine Or.inr ⟨?_, by omega⟩
              rw [bne_eq_false_iff_eq]
              omega
            · refine Or.inl ?_
              rw [bne_iff_ne]
              omega
          clear eC hf eL eG ehq emq
          generalize numAt d 0 = N at *
          have HP : Hid (R = ([], 4)) := hT.symm
          clear hT h6 h0
          rcases hfc with hg | ⟨hg, hl⟩
          · go_wp2_with fail
            refine (HW0.out _).mono ?_
            rintro e y0 ⟨rfl, hk⟩
            have HK0 := hid (HKr.out.trans hk)
            clear hk
            go_wp2
            go_ret2
            exact ⟨_, by rw [HP.out]; rfl, by rw [HP.out]; exact OwnG.nil _ _, HK0.out⟩
          · go_wp2_with fail
            refine (HW0.out _).mono ?_
            rintro e y0 ⟨rfl, hk⟩
            have HK0 := hid (HKr.out.trans hk)
            clear hk
            go_wp2
            go_ret2
            exact ⟨_, by rw [HP.out]; rfl, by rw [HP.out]; exact OwnG.nil _ _, HK0.out⟩
        · have hg : ((G : Int) != 0) = false := by rw [bne_eq_false_iff_eq]; omega
          have hl : ¬ (L : Int) < 6 := by omega
          have hl6 : 6 ≤ L := by omega
          by_cases hsh : d.size < L
          · have eC : cutF d = (av0, ⟨#[]⟩, 5) := by
              unfold cutF
              rw [if_neg h6, ← eG, ← eL, if_neg hf, if_pos hsh]
            rw [eC] at hT
            simp only at hT
            rw [if_neg (by decide)] at hT
            have hsz : (d.size : Int) < (L : Int) := by omega
            clear eC hf eL eG ehq emq
            generalize numAt d 0 = N at *
            have HP : Hid (R = ([], 5)) := hT.symm
            clear hT h6 h0 hsh
            go_wp2_with fail
            refine (HW0.out _).mono ?_
            rintro e y0 ⟨rfl, hk⟩
            have HK0 := hid (HKr.out.trans hk)
            clear hk
            go_wp2
            go_ret2
            exact ⟨_, by rw [HP.out]; rfl, by rw [HP.out]; exact OwnG.nil _ _, HK0.out⟩
          · have hsz : ¬ (d.size : Int) < (L : Int) := by omega
            by_cases hlong : mostF hq < L - 6 ∨ acc.length = 40
            · have hT2 : R = ([], 2) := by
                unfold cutF at hT
                rw [if_neg h6, ← eG, ← eL, ← ehq, ← emq, if_neg hf, if_neg hsh] at hT
                by_cases hm : mostF hq < L - 6
                · rw [if_pos hm] at hT
                  simp only at hT
                  rw [if_neg (by decide)] at hT
                  exact hT.symm
                · rw [if_neg hm] at hT
                  simp only at hT
                  rw [if_pos trivial, if_pos (by omega)] at hT
                  exact hT.symm
              have HP := hid hT2
              have hway : (hq = false ∧ 1006 < L) ∨ (hq = false ∧ ¬ 1006 < L ∧ 40 ≤ acc.length) ∨ (hq = true ∧ 1008 < L) ∨ (hq = true ∧ ¬ 1008 < L ∧ 40 ≤ acc.length) := by
                unfold mostF at hlong
                cases hq
                · simp at hlong
                  by_cases h : 1006 < L
                  · exact Or.inl ⟨rfl, h⟩
                  · exact Or.inr (Or.inl ⟨rfl, h, by omega⟩)
                · simp at hlong
                  by_cases h : 1008 < L
                  · exact Or.inr (Or.inr (Or.inl ⟨rfl, h⟩))
                  · exact Or.inr (Or.inr (Or.inr ⟨rfl, h, by omega⟩))
              clear hT hT2 hlong hf eL eG ehq emq
              generalize numAt d 0 = N at *
              clear h6 h0 hsh
              rcases hway with ⟨rfl, k1⟩ | ⟨rfl, k1, k2⟩ | ⟨rfl, k1⟩ | ⟨rfl, k1, k2⟩
              · have k1z : (1006 : Int) < (L : Int) := by omega
                go_wp2_with fail
                refine (HW0.out _).mono ?_
                rintro e y0 ⟨rfl, hk⟩
                have HK0 := hid (HKr.out.trans hk)
                clear hk
                go_wp2
                go_ret2
                exact ⟨_, by rw [HP.out]; rfl, by rw [HP.out]; exact OwnG.nil _ _, HK0.out⟩
              · have k1z : ¬ (1006 : Int) < (L : Int) := by omega
                have k3z : ¬ (1008 : Int) < (L : Int) := by omega
                have k2z : (40 : Int) ≤ (acc.length : Int) := by omega
                go_wp2_with fail
                refine (HW0.out _).mono ?_
                rintro e y0 ⟨rfl, hk⟩
                have HK0 := hid (HKr.out.trans hk)
                clear hk
                go_wp2
                go_ret2
                exact ⟨_, by rw [HP.out]; rfl, by rw [HP.out]; exact OwnG.nil _ _, HK0.out⟩
              · have k1z : (1008 : Int) < (L : Int) := by omega
                go_wp2_with fail
                refine (HW0.out _).mono ?_
                rintro e y0 ⟨rfl, hk⟩
                have HK0 := hid (HKr.out.trans hk)
                clear hk
                go_wp2
                go_ret2
                exact ⟨_, by rw [HP.out]; rfl, by rw [HP.out]; exact OwnG.nil _ _, HK0.out⟩
              · have k1z : ¬ (1008 : Int) < (L : Int) := by omega
                have k2z : (40 : Int) ≤ (acc.length : Int) := by omega
                go_wp2_with fail
                refine (HW0.out _).mono ?_
                rintro e y0 ⟨rfl, hk⟩
                have HK0 := hid (HKr.out.trans hk)
                clear hk
                go_wp2
                go_ret2
                exact ⟨_, by rw [HP.out]; rfl, by rw [HP.out]; exact OwnG.nil _ _, HK0.out⟩
            · have hnm : ¬ mostF hq < L - 6 := fun h => hlong (Or.inl h)
              have hn40 : ¬ acc.length = 40 := fun h => hlong (Or.inr h)
              have H40 : Hid (acc.length < 40) := by show _ < _; omega
              obtain ⟨X, hX⟩ : ∃ X, X = d.extract 6 L := ⟨_, rfl⟩
              obtain ⟨d2, hd2⟩ : ∃ d2, d2 = d.extract L d.size := ⟨_, rfl⟩
              have eC : cutF d = (⟨mq, hq, (numAt d 2 : Int), (numAt d 4 : Int), X⟩, d2, 0) := by
                unfold cutF
                rw [if_neg h6, ← eG, ← eL, ← ehq, ← emq, if_neg hf, if_neg hsh, if_neg hnm, hX, hd2]
              rw [eC] at hT
              simp only at hT
              rw [if_pos trivial, if_neg hn40] at hT
              have j1 := mid_at d 6 L (by omega) (by omega) 6 (L : Int) rfl rfl
              have j2 := last_at d L (by omega) (L : Int) rfl
              rw [← hX] at j1
              rw [← hd2] at j2
              have hXs : X.size = L - 6 := by rw [hX, ByteArray.size_extract]; omega
              have hd2s : d2.size + 6 ≤ d.size := by rw [hd2, ByteArray.size_extract]; omega
              have hX2 : X.size ≤ 1002 := by
                have : mostF hq ≤ 1002 := by unfold mostF; split <;> omega
                omega
              have HXs := hid hX2
              have k1z : hq = false → ¬ (1006 : Int) < (L : Int) := fun h => by
                rw [h] at hnm
                have : mostF false = 1000 := rfl
                omega
              have k3z : ¬ (1008 : Int) < (L : Int) := by omega
              have k2z : ¬ (40 : Int) ≤ (acc.length : Int) := by omega
              clear eC hf eL eG ehq emq hX hd2 hlong hnm hn40 hsh hXs h6 h0
              generalize hgN : numAt d 0 = N at *
              generalize hgN2 : numAt d 2 = N2 at *
              generalize hgN4 : numAt d 4 = N4 at *
              clear hgN hgN2 hgN4
              cases hq with
              | false =>
                have k1 := k1z rfl
                clear k1z
                have e1 : toldF c ⟨mq, false, (N2 : Int), (N4 : Int), X⟩ = (⟨mq, false, (N2 : Int), (N4 : Int), X⟩, 0) := rfl
                rw [e1, if_pos rfl] at hT
                have HT := hid hT
                clear hT e1
                go_wp2_with fail
                refine (HW0.out _).mono ?_
                rintro e wr' ⟨rfl, hk⟩
                have HO' := hid (OwnG.kept0 HO.out hk)
                have HKr' := hid (HKr.out.trans hk)
                clear hk HO HKr
                replace HO := HO'
                replace HKr := HKr'
                clear HO' HKr'
                generalize wr' = wr at *
                go_upto_region 15 with fail
                go_cut [12] from 55 to 65 (fun v wx => ∃ bx, v = .pointer (some ⟨bx, 0, none⟩) ∧ AvAt wx bx ⟨mq, false, (N2 : Int), (N4 : Int), X⟩ ∧ wr.heap.size ≤ bx ∧ Kept (fun _ => False) wr wx)
                case first =>
                  refine wp_region_held_drew (S := Kept (fun _ => False) wr) (by kernel_rfl) ((Kept.refl _ wr).drew) (fun hSd => ?_)
                  refine wpAnyH_take (i := 0) (v := ?_) rfl (by kernel_rfl) (by kernel_rfl) (by kernel_rfl) (fun _ _ _ h => h) (Or.inl ⟨by kernel_rfl, fun W hSW => by go_simp; try with_reducible rfl⟩) (by assumption) ?_
                  try simp only [List.getElem_toArray]
                  try simp only [List.getElem_cons_succ]
                  try simp only [List.getElem_cons_zero]
                  try simp only [Act.put]
                  try simp only [List.setIfInBounds_toArray]
                  try simp only [List.set_cons_succ]
                  try simp only [List.set_cons_zero]
                  refine wpAnyH_take (i := 1) (v := (.bool mq)) rfl (by kernel_rfl) (by kernel_rfl) (by kernel_rfl) (fun _ _ _ h => h) (Or.inl ⟨by kernel_rfl, fun W hSW => by go_simp; try with_reducible rfl⟩) (by assumption) ?_
                  try simp only [List.getElem_toArray]
                  try simp only [List.getElem_cons_succ]
                  try simp only [List.getElem_cons_zero]
                  try simp only [Act.put]
                  try simp only [List.setIfInBounds_toArray]
                  try simp only [List.set_cons_succ]
                  try simp only [List.set_cons_zero]
                  refine wpAnyH_take (i := 2) (v := ?_) rfl (by kernel_rfl) (by kernel_rfl) (by kernel_rfl) (fun _ _ _ h => h) (Or.inl ⟨by kernel_rfl, fun W hSW => by go_simp; try with_reducible rfl⟩) (by assumption) ?_
                  try simp only [List.getElem_toArray]
                  try simp only [List.getElem_cons_succ]
                  try simp only [List.getElem_cons_zero]
                  try simp only [Act.put]
                  try simp only [List.setIfInBounds_toArray]
                  try simp only [List.set_cons_succ]
                  try simp only [List.set_cons_zero]
                  refine wpAnyH_take (i := 3) (v := ?_) rfl (by kernel_rfl) (by kernel_rfl) (by kernel_rfl) (fun _ _ _ h => h) (Or.inl ⟨by kernel_rfl, fun W hSW => by go_simp; try with_reducible rfl⟩) (by assumption) ?_
                  try simp only [List.getElem_toArray]
                  try simp only [List.getElem_cons_succ]
                  try simp only [List.getElem_cons_zero]
                  try simp only [Act.put]
                  try simp only [List.setIfInBounds_toArray]
                  try simp only [List.set_cons_succ]
                  try simp only [List.set_cons_zero]
                  refine wpAnyH_take (i := 5) (v := ?_) rfl (by kernel_rfl) (by kernel_rfl) (by kernel_rfl) (fun _ _ _ h => h) (Or.inl ⟨by kernel_rfl, fun W hSW => by go_simp; try with_reducible rfl⟩) (by assumption) ?_
                  try simp only [List.getElem_toArray]
                  try simp only [List.getElem_cons_succ]
                  try simp only [List.getElem_cons_zero]
                  try simp only [Act.put]
                  try simp only [List.setIfInBounds_toArray]
                  try simp only [List.set_cons_succ]
                  try simp only [List.set_cons_zero]
                  refine wpAnyH_take (i := 7) (v := ?_) rfl (by kernel_rfl) (by kernel_rfl) (by kernel_rfl) (fun _ _ _ h => h) (Or.inl ⟨by kernel_rfl, fun W hSW => by go_simp; try with_reducible rfl⟩) (by assumption) ?_
                  try simp only [List.getElem_toArray]
                  try simp only [List.getElem_cons_succ]
                  try simp only [List.getElem_cons_zero]
                  try simp only [Act.put]
                  try simp only [List.setIfInBounds_toArray]
                  try simp only [List.set_cons_succ]
                  try simp only [List.set_cons_zero]
                  refine wpAnyH_take (i := 8) (v := ?_) rfl (by kernel_rfl) (by kernel_rfl) (by kernel_rfl) (fun _ _ _ h => h) (Or.inl ⟨by kernel_rfl, fun W hSW => by go_simp; try with_reducible rfl⟩) (by assumption) ?_
                  try simp only [List.getElem_toArray]
                  try simp only [List.getElem_cons_succ]
                  try simp only [List.getElem_cons_zero]
                  try simp only [Act.put]
                  try simp only [List.setIfInBounds_toArray]
                  try simp only [List.set_cons_succ]
                  try simp only [List.set_cons_zero]
                  refine wpAnyH_take (i := 9) (v := ?_) rfl (by kernel_rfl) (by kernel_rfl) (by kernel_rfl) (fun _ _ _ h => h) (Or.inl ⟨by kernel_rfl, fun W hSW => by go_simp; try with_reducible rfl⟩) (by assumption) ?_
                  try simp only [List.getElem_toArray]
                  try simp only [List.getElem_cons_succ]
                  try simp only [List.getElem_cons_zero]
                  try simp only [Act.put]
                  try simp only [List.setIfInBounds_toArray]
                  try simp only [List.set_cons_succ]
                  try simp only [List.set_cons_zero]
                  refine wpAnyH_ready (rs := [4, 11]) (by kernel_rfl) (by simp) ?_
                  refine AllReadyH.cons rfl (fun K hK => ?_) (AllReadyH.cons rfl (fun K hK => ?_) AllReadyH.nil)
                  · skip
                    go_simp
                    refine (HW2.out _).mono ?_
                    rintro e v1 ⟨rfl, hk⟩
                    have kv1 : Kept (fun _ => False) wr v1 := hSd.trans hk
                    clear hk
                    refine hK.out _ _ (kv1) (fun _ => ?_)
                    clear hK K
                    try simp only [List.getElem_toArray]
                    try simp only [List.getElem_cons_succ]
                    try simp only [List.getElem_cons_zero]
                    try simp only [Act.put]
                    try simp only [List.setIfInBounds_toArray]
                    try simp only [List.set_cons_succ]
                    try simp only [List.set_cons_zero]
                    refine wpAnyH_ready (rs := [6, 11]) (by kernel_rfl) (by simp) ?_
                    refine AllReadyH.cons rfl (fun K hK => ?_) (AllReadyH.cons rfl (fun K hK => ?_) AllReadyH.nil)
                    · skip
                      go_simp
                      refine (HW4.out _).mono ?_
                      rintro e v2 ⟨rfl, hk⟩
                      have kv2 : Kept (fun _ => False) wr v2 := kv1.trans hk
                      clear hk
                      refine hK.out _ _ (kv2) (fun _ => ?_)
                      clear hK K
                      try simp only [List.getElem_toArray]
                      try simp only [List.getElem_cons_succ]
                      try simp only [List.getElem_cons_zero]
                      try simp only [Act.put]
                      try simp only [List.setIfInBounds_toArray]
                      try simp only [List.set_cons_succ]
                      try simp only [List.set_cons_zero]
                      refine wpAnyH_take (i := 10) (v := ?_) rfl (by kernel_rfl) (by kernel_rfl) (by kernel_rfl) (fun _ _ _ h => h) (Or.inl ⟨by kernel_rfl, fun W hSW => by go_simp; try with_reducible rfl⟩) (by assumption) ?_
                      try simp only [List.getElem_toArray]
                      try simp only [List.getElem_cons_succ]
                      try simp only [List.getElem_cons_zero]
                      try simp only [Act.put]
                      try simp only [List.setIfInBounds_toArray]
                      try simp only [List.set_cons_succ]
                      try simp only [List.set_cons_zero]
                      refine wpAnyH_ready (rs := [11]) (by kernel_rfl) (by simp) ?_
                      refine AllReadyH.cons rfl (fun K hK => ?_) AllReadyH.nil
                      go_simp
                      have kv3 : Kept (fun _ => False) wr (World.alloc v2 (.cells #[.bool false, .bool false, .int .i64 0, .int .i64 0, .string ⟨#[]⟩] 72)) := kv2.alloc _
                      have bv3 : AvAt (World.alloc v2 (.cells #[.bool false, .bool false, .int .i64 0, .int .i64 0, .string ⟨#[]⟩] 72)) v2.heap.size av0 := AvAt.new v2 av0
                      have lv3 : wr.heap.size ≤ v2.heap.size := kv2.size
                      refine hK.out _ _ (kv3) (fun _ => ?_)
                      clear hK K
                      try simp only [List.getElem_toArray]
                      try simp only [List.getElem_cons_succ]
                      try simp only [List.getElem_cons_zero]
                      try simp only [Act.put]
                      try simp only [List.setIfInBounds_toArray]
                      try simp only [List.set_cons_succ]
                      try simp only [List.set_cons_zero]
                      generalize World.alloc v2 (.cells #[.bool false, .bool false, .int .i64 0, .int .i64 0, .string ⟨#[]⟩] 72) = v3 at *
                      obtain ⟨wz, hrun, hav, hkz⟩ := store_av bv3 ⟨mq, false, (N2 : Int), (N4 : Int), X⟩
                      have hSz : Kept (fun _ => False) wr wz := kv3.andThen hkz (fun i hi e => by have := lv3; omega)
                      refine wpAnyH_ready (rs := [12]) (by kernel_rfl) (by simp) ?_
                      refine AllReadyH.cons rfl (fun K hK => ?_) AllReadyH.nil
                      refine stepB_store rfl (.tmp 12) (.tmp 65) 72 rfl _ _ rfl rfl hrun ?_
                      refine hK.out _ _ (hSz) (fun _ => ?_)
                      clear hK K
                      try simp only [List.getElem_toArray]
                      try simp only [List.getElem_cons_succ]
                      try simp only [List.getElem_cons_zero]
                      try simp only [Act.put]
                      try simp only [List.setIfInBounds_toArray]
                      try simp only [List.set_cons_succ]
                      try simp only [List.set_cons_zero]
                      refine wpAnyH_done (by kernel_rfl) ?_ _
                      clear hrun hkz
                      go_wp2
                      go_meet
                      exact ⟨_, rfl, hav, lv3, hSz⟩
                    · skip
                      go_simp
                      have kv4 : Kept (fun _ => False) wr (World.alloc v1 (.cells #[.bool false, .bool false, .int .i64 0, .int .i64 0, .string ⟨#[]⟩] 72)) := kv1.alloc _
                      have bv4 : AvAt (World.alloc v1 (.cells #[.bool false, .bool false, .int .i64 0, .int .i64 0, .string ⟨#[]⟩] 72)) v1.heap.size av0 := AvAt.new v1 av0
                      have lv4 : wr.heap.size ≤ v1.heap.size := kv1.size
                      refine hK.out _ _ (kv4) (fun _ => ?_)
                      clear hK K
                      try simp only [List.getElem_toArray]
                      try simp only [List.getElem_cons_succ]
                      try simp only [List.getElem_cons_zero]
                      try simp only [Act.put]
                      try simp only [List.setIfInBounds_toArray]
                      try simp only [List.set_cons_succ]
                      try simp only [List.set_cons_zero]
                      generalize World.alloc v1 (.cells #[.bool false, .bool false, .int .i64 0, .int .i64 0, .string ⟨#[]⟩] 72) = v4 at *
                      refine wpAnyH_ready (rs := [6]) (by kernel_rfl) (by simp) ?_
                      refine AllReadyH.cons rfl (fun K hK => ?_) AllReadyH.nil
                      go_simp
                      refine (HW4.out _).mono ?_
                      rintro e v5 ⟨rfl, hk⟩
                      have kv5 : Kept (fun _ => False) wr v5 := kv4.trans hk
                      have bv5 := bv4.kept0 hk
                      clear hk
                      refine hK.out _ _ (kv5) (fun _ => ?_)
                      clear hK K
                      try simp only [List.getElem_toArray]
                      try simp only [List.getElem_cons_succ]
                      try simp only [List.getElem_cons_zero]
                      try simp only [Act.put]
                      try simp only [List.setIfInBounds_toArray]
                      try simp only [List.set_cons_succ]
                      try simp only [List.set_cons_zero]
                      refine wpAnyH_take (i := 10) (v := ?_) rfl (by kernel_rfl) (by kernel_rfl) (by kernel_rfl) (fun _ _ _ h => h) (Or.inl ⟨by kernel_rfl, fun W hSW => by go_simp; try with_reducible rfl⟩) (by assumption) ?_
                      try simp only [List.getElem_toArray]
                      try simp only [List.getElem_cons_succ]
                      try simp only [List.getElem_cons_zero]
                      try simp only [Act.put]
                      try simp only [List.setIfInBounds_toArray]
                      try simp only [List.set_cons_succ]
                      try simp only [List.set_cons_zero]
                      obtain ⟨wz, hrun, hav, hkz⟩ := store_av bv5 ⟨mq, false, (N2 : Int), (N4 : Int), X⟩
                      have hSz : Kept (fun _ => False) wr wz := kv5.andThen hkz (fun i hi e => by have := lv4; omega)
                      refine wpAnyH_ready (rs := [12]) (by kernel_rfl) (by simp) ?_
                      refine AllReadyH.cons rfl (fun K hK => ?_) AllReadyH.nil
                      refine stepB_store rfl (.tmp 12) (.tmp 65) 72 rfl _ _ rfl rfl hrun ?_
                      refine hK.out _ _ (hSz) (fun _ => ?_)
                      clear hK K
                      try simp only [List.getElem_toArray]
                      try simp only [List.getElem_cons_succ]
                      try simp only [List.getElem_cons_zero]
                      try simp only [Act.put]
                      try simp only [List.setIfInBounds_toArray]
                      try simp only [List.set_cons_succ]
                      try simp only [List.set_cons_zero]
                      refine wpAnyH_done (by kernel_rfl) ?_ _
                      clear hrun hkz
                      go_wp2
                      go_meet
                      exact ⟨_, rfl, hav, lv4, hSz⟩
                  · skip
                    go_simp
                    have kv6 : Kept (fun _ => False) wr (World.alloc wr (.cells #[.bool false, .bool false, .int .i64 0, .int .i64 0, .string ⟨#[]⟩] 72)).drew := ((Kept.refl (fun _ => False) wr).alloc _).drew
                    have bv6 : AvAt (World.alloc wr (.cells #[.bool false, .bool false, .int .i64 0, .int .i64 0, .string ⟨#[]⟩] 72)).drew wr.heap.size av0 := (AvAt.new wr av0).kept0 (Kept.refl _ _).drew
                    have lv6 : wr.heap.size ≤ wr.heap.size := Nat.le_refl _
                    refine hK.out _ _ (kv6) (fun _ => ?_)
                    clear hK K
                    try simp only [List.getElem_toArray]
                    try simp only [List.getElem_cons_succ]
                    try simp only [List.getElem_cons_zero]
                    try simp only [Act.put]
                    try simp only [List.setIfInBounds_toArray]
                    try simp only [List.set_cons_succ]
                    try simp only [List.set_cons_zero]
                    generalize (World.alloc wr (.cells #[.bool false, .bool false, .int .i64 0, .int .i64 0, .string ⟨#[]⟩] 72)).drew = v6 at *
                    refine wpAnyH_ready (rs := [4]) (by kernel_rfl) (by simp) ?_
                    refine AllReadyH.cons rfl (fun K hK => ?_) AllReadyH.nil
                    go_simp
                    refine (HW2.out _).mono ?_
                    rintro e v7 ⟨rfl, hk⟩
                    have kv7 : Kept (fun _ => False) wr v7 := kv6.trans hk
                    have bv7 := bv6.kept0 hk
                    clear hk
                    refine hK.out _ _ (kv7) (fun _ => ?_)
                    clear hK K
                    try simp only [List.getElem_toArray]
                    try simp only [List.getElem_cons_succ]
                    try simp only [List.getElem_cons_zero]
                    try simp only [Act.put]
                    try simp only [List.setIfInBounds_toArray]
                    try simp only [List.set_cons_succ]
                    try simp only [List.set_cons_zero]
                    refine wpAnyH_ready (rs := [6]) (by kernel_rfl) (by simp) ?_
                    refine AllReadyH.cons rfl (fun K hK => ?_) AllReadyH.nil
                    go_simp
                    refine (HW4.out _).mono ?_
                    rintro e v8 ⟨rfl, hk⟩
                    have kv8 : Kept (fun _ => False) wr v8 := kv7.trans hk
                    have bv8 := bv7.kept0 hk
                    clear hk
                    refine hK.out _ _ (kv8) (fun _ => ?_)
                    clear hK K
                    try simp only [List.getElem_toArray]
                    try simp only [List.getElem_cons_succ]
                    try simp only [List.getElem_cons_zero]
                    try simp only [Act.put]
                    try simp only [List.setIfInBounds_toArray]
                    try simp only [List.set_cons_succ]
                    try simp only [List.set_cons_zero]
                    refine wpAnyH_take (i := 10) (v := ?_) rfl (by kernel_rfl) (by kernel_rfl) (by kernel_rfl) (fun _ _ _ h => h) (Or.inl ⟨by kernel_rfl, fun W hSW => by go_simp; try with_reducible rfl⟩) (by assumption) ?_
                    try simp only [List.getElem_toArray]
                    try simp only [List.getElem_cons_succ]
                    try simp only [List.getElem_cons_zero]
                    try simp only [Act.put]
                    try simp only [List.setIfInBounds_toArray]
                    try simp only [List.set_cons_succ]
                    try simp only [List.set_cons_zero]
                    obtain ⟨wz, hrun, hav, hkz⟩ := store_av bv8 ⟨mq, false, (N2 : Int), (N4 : Int), X⟩
                    have hSz : Kept (fun _ => False) wr wz := kv8.andThen hkz (fun i hi e => by have := lv6; omega)
                    refine wpAnyH_ready (rs := [12]) (by kernel_rfl) (by simp) ?_
                    refine AllReadyH.cons rfl (fun K hK => ?_) AllReadyH.nil
                    refine stepB_store rfl (.tmp 12) (.tmp 65) 72 rfl _ _ rfl rfl hrun ?_
                    refine hK.out _ _ (hSz) (fun _ => ?_)
                    clear hK K
                    try simp only [List.getElem_toArray]
                    try simp only [List.getElem_cons_succ]
                    try simp only [List.getElem_cons_zero]
                    try simp only [Act.put]
                    try simp only [List.setIfInBounds_toArray]
                    try simp only [List.set_cons_succ]
                    try simp only [List.set_cons_zero]
                    refine wpAnyH_done (by kernel_rfl) ?_ _
                    clear hrun hkz
                    go_wp2
                    go_meet
                    exact ⟨_, rfl, hav, lv6, hSz⟩
                case rest =>
                  obtain ⟨bx, rfl, hav, hle, hkc⟩ := hcut
                  go_upto_region 25 with fail
                  have HA3 := hid hav
                  have HO3 := hid (OwnG.kept0 HO.out hkc)
                  have HK3 := hid (HKr.out.trans hkc)
                  clear hav hkc
                  generalize wc = W3 at *
                  have HP0 : ∀ b : Bool, isVec ⟨mq, false, (N2 : Int), (N4 : Int), X⟩ = b → passF c ⟨mq, false, (N2 : Int), (N4 : Int), X⟩ = if b = true then { c with vector := X, has := true } else c := fun b h => by
                    unfold passF
                    rw [h]
                  cases y1 : ((N2 : Int) == 0) with
                  | false =>
                    have HV1 := HP0 false (by unfold isVec; simp [y1])
                    rw [if_neg (by decide)] at HV1
                    rw [HV1] at HT
                    clear HV1 HP0
                    obtain ⟨a0, a1, a2, a3, a4⟩ := HA3.out.cells
                    simp only at a0 a1 a2 a3 a4
                    go_upto_region 27 with fail
                    have hown4 := World.ownsRow.alloc HO3.out (.cells #[.bool mq, .bool false, .int .i64 (N2 : Int), .int .i64 (N4 : Int), .string X] 72)
                    have hs3 := HK3.out.size
                    go_wp2_with (at_builtin; refine wpList_append_own _ rfl _ _ 22 rfl w.heap.size 72 i0 (.agg #[.bool false, .bool false, .int .i64 0, .int .i64 0, .string ⟨#[]⟩]) 5 40 Tryz.underlying22 hi hz0 hz1 hz2 rfl (by decide) _ _ _ rfl hown4 ⟨W3.heap.size, 0, none⟩ 1 1 [.bool mq, .bool false, .int .i64 (N2 : Int), .int .i64 (N4 : Int), .string X] rfl rfl ?c1 ?c2 ?c3 ?c4 ?c5 ?_)
                    case c1 => exact cells_new W3 [.bool mq, .bool false, .int .i64 (N2 : Int), .int .i64 (N4 : Int), .string X] _
                    case c2 => intro u hu; simp at hu; rcases hu with rfl | rfl | rfl | rfl | rfl <;> rfl
                    case c3 => unfold maxLen; omega
                    case c4 => omega
                    case c5 => simp; omega
                    intro v5 w5 hown5 hg5 _
                    have HO5 := hid (own_moreAv (x := ⟨mq, false, (N2 : Int), (N4 : Int), X⟩) hown5)
                    have HK5 := hid (HK3.out.andThen (((Kept.refl (fun i => (Value.slice p acc.length cap).ownBlock = some i) W3).alloc _).grown hg5 (fun j hj => Or.inr hj)) (fun i hi e => by have := (OwnG.block HO3.out e).2.1; omega))
                    have HN : Hid (RGet w s R d2 (acc ++ [⟨mq, false, (N2 : Int), (N4 : Int), X⟩]) v5 c w5) := ⟨HO5.out, HFw.out, HSc.out, HT.out, by omega, by have := H40.out; simp; omega, HK5.out⟩
                    clear hown5 hg5 hown4 a0 a1 a2 a3 a4
                    go_wp2
                    exact ⟨⟨_, _, _, rfl, ⟨rfl, rfl⟩, HN.out⟩, by simp [strV]; omega⟩
                  | true =>
                    cases y2 : ((N4 : Int) == 36) with
                    | false =>
                      have HV1 := HP0 false (by unfold isVec; simp [y1, y2])
                      rw [if_neg (by decide)] at HV1
                      rw [HV1] at HT
                      clear HV1 HP0
                      obtain ⟨a0, a1, a2, a3, a4⟩ := HA3.out.cells
                      simp only at a0 a1 a2 a3 a4
                      go_upto_region 27 with fail
                      have hown4 := World.ownsRow.alloc HO3.out (.cells #[.bool mq, .bool false, .int .i64 (N2 : Int), .int .i64 (N4 : Int), .string X] 72)
                      have hs3 := HK3.out.size
                      go_wp2_with (at_builtin; refine wpList_append_own _ rfl _ _ 22 rfl w.heap.size 72 i0 (.agg #[.bool false, .bool false, .int .i64 0, .int .i64 0, .string ⟨#[]⟩]) 5 40 Tryz.underlying22 hi hz0 hz1 hz2 rfl (by decide) _ _ _ rfl hown4 ⟨W3.heap.size, 0, none⟩ 1 1 [.bool mq, .bool false, .int .i64 (N2 : Int), .int .i64 (N4 : Int), .string X] rfl rfl ?c1 ?c2 ?c3 ?c4 ?c5 ?_)
                      case c1 => exact cells_new W3 [.bool mq, .bool false, .int .i64 (N2 : Int), .int .i64 (N4 : Int), .string X] _
                      case c2 => intro u hu; simp at hu; rcases hu with rfl | rfl | rfl | rfl | rfl <;> rfl
                      case c3 => unfold maxLen; omega
                      case c4 => omega
                      case c5 => simp; omega
                      intro v5 w5 hown5 hg5 _
                      have HO5 := hid (own_moreAv (x := ⟨mq, false, (N2 : Int), (N4 : Int), X⟩) hown5)
                      have HK5 := hid (HK3.out.andThen (((Kept.refl (fun i => (Value.slice p acc.length cap).ownBlock = some i) W3).alloc _).grown hg5 (fun j hj => Or.inr hj)) (fun i hi e => by have := (OwnG.block HO3.out e).2.1; omega))
                      have HN : Hid (RGet w s R d2 (acc ++ [⟨mq, false, (N2 : Int), (N4 : Int), X⟩]) v5 c w5) := ⟨HO5.out, HFw.out, HSc.out, HT.out, by omega, by have := H40.out; simp; omega, HK5.out⟩
                      clear hown5 hg5 hown4 a0 a1 a2 a3 a4
                      go_wp2
                      exact ⟨⟨_, _, _, rfl, ⟨rfl, rfl⟩, HN.out⟩, by simp [strV]; omega⟩
                    | true =>
                      have HV1 := HP0 true (by unfold isVec; simp [y1, y2])
                      rw [if_pos rfl] at HV1
                      rw [HV1] at HT
                      clear HV1 HP0
                      obtain ⟨a0, a1, a2, a3, a4⟩ := HA3.out.cells
                      simp only at a0 a1 a2 a3 a4
                      go_upto_region 27 with fail
                      have hown4 := World.ownsRow.alloc HO3.out (.cells #[.bool mq, .bool false, .int .i64 (N2 : Int), .int .i64 (N4 : Int), .string X] 72)
                      have hs3 := HK3.out.size
                      go_wp2_with (at_builtin; refine wpList_append_own _ rfl _ _ 22 rfl w.heap.size 72 i0 (.agg #[.bool false, .bool false, .int .i64 0, .int .i64 0, .string ⟨#[]⟩]) 5 40 Tryz.underlying22 hi hz0 hz1 hz2 rfl (by decide) _ _ _ rfl hown4 ⟨W3.heap.size, 0, none⟩ 1 1 [.bool mq, .bool false, .int .i64 (N2 : Int), .int .i64 (N4 : Int), .string X] rfl rfl ?c1 ?c2 ?c3 ?c4 ?c5 ?_)
                      case c1 => exact cells_new W3 [.bool mq, .bool false, .int .i64 (N2 : Int), .int .i64 (N4 : Int), .string X] _
                      case c2 => intro u hu; simp at hu; rcases hu with rfl | rfl | rfl | rfl | rfl <;> rfl
                      case c3 => unfold maxLen; omega
                      case c4 => omega
                      case c5 => simp; omega
                      intro v5 w5 hown5 hg5 _
                      have HO5 := hid (own_moreAv (x := ⟨mq, false, (N2 : Int), (N4 : Int), X⟩) hown5)
                      have HK5 := hid (HK3.out.andThen (((Kept.refl (fun i => (Value.slice p acc.length cap).ownBlock = some i) W3).alloc _).grown hg5 (fun j hj => Or.inr hj)) (fun i hi e => by have := (OwnG.block HO3.out e).2.1; omega))
                      have HN : Hid (RGet w s R d2 (acc ++ [⟨mq, false, (N2 : Int), (N4 : Int), X⟩]) v5 { c with vector := X, has := true } w5) := ⟨HO5.out, ⟨HFw.out.secret, by show (X).size ≤ 1000000; have := HXs.out; omega⟩, HSc.out, HT.out, by omega, by have := H40.out; simp; omega, HK5.out⟩
                      clear hown5 hg5 hown4 a0 a1 a2 a3 a4
                      go_wp2
                      exact ⟨⟨_, _, _, rfl, ⟨rfl, rfl⟩, HN.out⟩, by simp [strV]; omega⟩
              | true =>
                clear k1z
                have e1 : toldF c ⟨mq, true, (N2 : Int), (N4 : Int), X⟩ = (⟨mq, true, (N2 : Int), (N4 : Int), (showF c (N4 : Int) X).1⟩, (showF c (N4 : Int) X).2) := rfl
                rw [e1] at hT
                simp only at hT
                obtain ⟨R2, hR2⟩ : ∃ R2, R2 = showF c (N4 : Int) X := ⟨_, rfl⟩
                rw [← hR2] at hT
                have HR2 := hid hR2
                have HTT := hid hT
                clear hT e1 hR2
                go_wp2_with fail
                refine (HW0.out _).mono ?_
                rintro e wr' ⟨rfl, hk⟩
                have HO' := hid (OwnG.kept0 HO.out hk)
                have HKr' := hid (HKr.out.trans hk)
                clear hk HO HKr
                replace HO := HO'
                replace HKr := HKr'
                clear HO' HKr'
                generalize wr' = wr at *
                go_upto_region 15 with fail
                go_cut [12] from 55 to 65 (fun v wx => ∃ bx, v = .pointer (some ⟨bx, 0, none⟩) ∧ AvAt wx bx ⟨mq, true, (N2 : Int), (N4 : Int), X⟩ ∧ wr.heap.size ≤ bx ∧ Kept (fun _ => False) wr wx)
                case first =>
                  refine wp_region_held_drew (S := Kept (fun _ => False) wr) (by kernel_rfl) ((Kept.refl _ wr).drew) (fun hSd => ?_)
                  refine wpAnyH_take (i := 0) (v := ?_) rfl (by kernel_rfl) (by kernel_rfl) (by kernel_rfl) (fun _ _ _ h => h) (Or.inl ⟨by kernel_rfl, fun W hSW => by go_simp; try with_reducible rfl⟩) (by assumption) ?_
                  try simp only [List.getElem_toArray]
                  try simp only [List.getElem_cons_succ]
                  try simp only [List.getElem_cons_zero]
                  try simp only [Act.put]
                  try simp only [List.setIfInBounds_toArray]
                  try simp only [List.set_cons_succ]
                  try simp only [List.set_cons_zero]
                  refine wpAnyH_take (i := 1) (v := (.bool mq)) rfl (by kernel_rfl) (by kernel_rfl) (by kernel_rfl) (fun _ _ _ h => h) (Or.inl ⟨by kernel_rfl, fun W hSW => by go_simp; try with_reducible rfl⟩) (by assumption) ?_
                  try simp only [List.getElem_toArray]
                  try simp only [List.getElem_cons_succ]
                  try simp only [List.getElem_cons_zero]
                  try simp only [Act.put]
                  try simp only [List.setIfInBounds_toArray]
                  try simp only [List.set_cons_succ]
                  try simp only [List.set_cons_zero]
                  refine wpAnyH_take (i := 2) (v := ?_) rfl (by kernel_rfl) (by kernel_rfl) (by kernel_rfl) (fun _ _ _ h => h) (Or.inl ⟨by kernel_rfl, fun W hSW => by go_simp; try with_reducible rfl⟩) (by assumption) ?_
                  try simp only [List.getElem_toArray]
                  try simp only [List.getElem_cons_succ]
                  try simp only [List.getElem_cons_zero]
                  try simp only [Act.put]
                  try simp only [List.setIfInBounds_toArray]
                  try simp only [List.set_cons_succ]
                  try simp only [List.set_cons_zero]
                  refine wpAnyH_take (i := 3) (v := ?_) rfl (by kernel_rfl) (by kernel_rfl) (by kernel_rfl) (fun _ _ _ h => h) (Or.inl ⟨by kernel_rfl, fun W hSW => by go_simp; try with_reducible rfl⟩) (by assumption) ?_
                  try simp only [List.getElem_toArray]
                  try simp only [List.getElem_cons_succ]
                  try simp only [List.getElem_cons_zero]
                  try simp only [Act.put]
                  try simp only [List.setIfInBounds_toArray]
                  try simp only [List.set_cons_succ]
                  try simp only [List.set_cons_zero]
                  refine wpAnyH_take (i := 5) (v := ?_) rfl (by kernel_rfl) (by kernel_rfl) (by kernel_rfl) (fun _ _ _ h => h) (Or.inl ⟨by kernel_rfl, fun W hSW => by go_simp; try with_reducible rfl⟩) (by assumption) ?_
                  try simp only [List.getElem_toArray]
                  try simp only [List.getElem_cons_succ]
                  try simp only [List.getElem_cons_zero]
                  try simp only [Act.put]
                  try simp only [List.setIfInBounds_toArray]
                  try simp only [List.set_cons_succ]
                  try simp only [List.set_cons_zero]
                  refine wpAnyH_take (i := 7) (v := ?_) rfl (by kernel_rfl) (by kernel_rfl) (by kernel_rfl) (fun _ _ _ h => h) (Or.inl ⟨by kernel_rfl, fun W hSW => by go_simp; try with_reducible rfl⟩) (by assumption) ?_
                  try simp only [List.getElem_toArray]
                  try simp only [List.getElem_cons_succ]
                  try simp only [List.getElem_cons_zero]
                  try simp only [Act.put]
                  try simp only [List.setIfInBounds_toArray]
                  try simp only [List.set_cons_succ]
                  try simp only [List.set_cons_zero]
                  refine wpAnyH_take (i := 8) (v := ?_) rfl (by kernel_rfl) (by kernel_rfl) (by kernel_rfl) (fun _ _ _ h => h) (Or.inl ⟨by kernel_rfl, fun W hSW => by go_simp; try with_reducible rfl⟩) (by assumption) ?_
                  try simp only [List.getElem_toArray]
                  try simp only [List.getElem_cons_succ]
                  try simp only [List.getElem_cons_zero]
                  try simp only [Act.put]
                  try simp only [List.setIfInBounds_toArray]
                  try simp only [List.set_cons_succ]
                  try simp only [List.set_cons_zero]
                  refine wpAnyH_take (i := 9) (v := ?_) rfl (by kernel_rfl) (by kernel_rfl) (by kernel_rfl) (fun _ _ _ h => h) (Or.inl ⟨by kernel_rfl, fun W hSW => by go_simp; try with_reducible rfl⟩) (by assumption) ?_
                  try simp only [List.getElem_toArray]
                  try simp only [List.getElem_cons_succ]
                  try simp only [List.getElem_cons_zero]
                  try simp only [Act.put]
                  try simp only [List.setIfInBounds_toArray]
                  try simp only [List.set_cons_succ]
                  try simp only [List.set_cons_zero]
                  refine wpAnyH_ready (rs := [4, 11]) (by kernel_rfl) (by simp) ?_
                  refine AllReadyH.cons rfl (fun K hK => ?_) (AllReadyH.cons rfl (fun K hK => ?_) AllReadyH.nil)
                  · skip
                    go_simp
                    refine (HW2.out _).mono ?_
                    rintro e v1 ⟨rfl, hk⟩
                    have kv1 : Kept (fun _ => False) wr v1 := hSd.trans hk
                    clear hk
                    refine hK.out _ _ (kv1) (fun _ => ?_)
                    clear hK K
                    try simp only [List.getElem_toArray]
                    try simp only [List.getElem_cons_succ]
                    try simp only [List.getElem_cons_zero]
                    try simp only [Act.put]
                    try simp only [List.setIfInBounds_toArray]
                    try simp only [List.set_cons_succ]
                    try simp only [List.set_cons_zero]
                    refine wpAnyH_ready (rs := [6, 11]) (by kernel_rfl) (by simp) ?_
                    refine AllReadyH.cons rfl (fun K hK => ?_) (AllReadyH.cons rfl (fun K hK => ?_) AllReadyH.nil)
                    · skip
                      go_simp
                      refine (HW4.out _).mono ?_
                      rintro e v2 ⟨rfl, hk⟩
                      have kv2 : Kept (fun _ => False) wr v2 := kv1.trans hk
                      clear hk
                      refine hK.out _ _ (kv2) (fun _ => ?_)
                      clear hK K
                      try simp only [List.getElem_toArray]
                      try simp only [List.getElem_cons_succ]
                      try simp only [List.getElem_cons_zero]
                      try simp only [Act.put]
                      try simp only [List.setIfInBounds_toArray]
                      try simp only [List.set_cons_succ]
                      try simp only [List.set_cons_zero]
                      refine wpAnyH_take (i := 10) (v := ?_) rfl (by kernel_rfl) (by kernel_rfl) (by kernel_rfl) (fun _ _ _ h => h) (Or.inl ⟨by kernel_rfl, fun W hSW => by go_simp; try with_reducible rfl⟩) (by assumption) ?_
                      try simp only [List.getElem_toArray]
                      try simp only [List.getElem_cons_succ]
                      try simp only [List.getElem_cons_zero]
                      try simp only [Act.put]
                      try simp only [List.setIfInBounds_toArray]
                      try simp only [List.set_cons_succ]
                      try simp only [List.set_cons_zero]
                      refine wpAnyH_ready (rs := [11]) (by kernel_rfl) (by simp) ?_
                      refine AllReadyH.cons rfl (fun K hK => ?_) AllReadyH.nil
                      go_simp
                      have kv3 : Kept (fun _ => False) wr (World.alloc v2 (.cells #[.bool false, .bool false, .int .i64 0, .int .i64 0, .string ⟨#[]⟩] 72)) := kv2.alloc _
                      have bv3 : AvAt (World.alloc v2 (.cells #[.bool false, .bool false, .int .i64 0, .int .i64 0, .string ⟨#[]⟩] 72)) v2.heap.size av0 := AvAt.new v2 av0
                      have lv3 : wr.heap.size ≤ v2.heap.size := kv2.size
                      refine hK.out _ _ (kv3) (fun _ => ?_)
                      clear hK K
                      try simp only [List.getElem_toArray]
                      try simp only [List.getElem_cons_succ]
                      try simp only [List.getElem_cons_zero]
                      try simp only [Act.put]
                      try simp only [List.setIfInBounds_toArray]
                      try simp only [List.set_cons_succ]
                      try simp only [List.set_cons_zero]
                      generalize World.alloc v2 (.cells #[.bool false, .bool false, .int .i64 0, .int .i64 0, .string ⟨#[]⟩] 72) = v3 at *
                      obtain ⟨wz, hrun, hav, hkz⟩ := store_av bv3 ⟨mq, true, (N2 : Int), (N4 : Int), X⟩
                      have hSz : Kept (fun _ => False) wr wz := kv3.andThen hkz (fun i hi e => by have := lv3; omega)
                      refine wpAnyH_ready (rs := [12]) (by kernel_rfl) (by simp) ?_
                      refine AllReadyH.cons rfl (fun K hK => ?_) AllReadyH.nil
                      refine stepB_store rfl (.tmp 12) (.tmp 65) 72 rfl _ _ rfl rfl hrun ?_
                      refine hK.out _ _ (hSz) (fun _ => ?_)
                      clear hK K
                      try simp only [List.getElem_toArray]
                      try simp only [List.getElem_cons_succ]
                      try simp only [List.getElem_cons_zero]
                      try simp only [Act.put]
                      try simp only [List.setIfInBounds_toArray]
                      try simp only [List.set_cons_succ]
                      try simp only [List.set_cons_zero]
                      refine wpAnyH_done (by kernel_rfl) ?_ _
                      clear hrun hkz
                      go_wp2
                      go_meet
                      exact ⟨_, rfl, hav, lv3, hSz⟩
                    · skip
                      go_simp
                      have kv4 : Kept (fun _ => False) wr (World.alloc v1 (.cells #[.bool false, .bool false, .int .i64 0, .int .i64 0, .string ⟨#[]⟩] 72)) := kv1.alloc _
                      have bv4 : AvAt (World.alloc v1 (.cells #[.bool false, .bool false, .int .i64 0, .int .i64 0, .string ⟨#[]⟩] 72)) v1.heap.size av0 := AvAt.new v1 av0
                      have lv4 : wr.heap.size ≤ v1.heap.size := kv1.size
                      refine hK.out _ _ (kv4) (fun _ => ?_)
                      clear hK K
                      try simp only [List.getElem_toArray]
                      try simp only [List.getElem_cons_succ]
                      try simp only [List.getElem_cons_zero]
                      try simp only [Act.put]
                      try simp only [List.setIfInBounds_toArray]
                      try simp only [List.set_cons_succ]
                      try simp only [List.set_cons_zero]
                      generalize World.alloc v1 (.cells #[.bool false, .bool false, .int .i64 0, .int .i64 0, .string ⟨#[]⟩] 72) = v4 at *
                      refine wpAnyH_ready (rs := [6]) (by kernel_rfl) (by simp) ?_
                      refine AllReadyH.cons rfl (fun K hK => ?_) AllReadyH.nil
                      go_simp
                      refine (HW4.out _).mono ?_
                      rintro e v5 ⟨rfl, hk⟩
                      have kv5 : Kept (fun _ => False) wr v5 := kv4.trans hk
                      have bv5 := bv4.kept0 hk
                      clear hk
                      refine hK.out _ _ (kv5) (fun _ => ?_)
                      clear hK K
                      try simp only [List.getElem_toArray]
                      try simp only [List.getElem_cons_succ]
                      try simp only [List.getElem_cons_zero]
                      try simp only [Act.put]
                      try simp only [List.setIfInBounds_toArray]
                      try simp only [List.set_cons_succ]
                      try simp only [List.set_cons_zero]
                      refine wpAnyH_take (i := 10) (v := ?_) rfl (by kernel_rfl) (by kernel_rfl) (by kernel_rfl) (fun _ _ _ h => h) (Or.inl ⟨by kernel_rfl, fun W hSW => by go_simp; try with_reducible rfl⟩) (by assumption) ?_
                      try simp only [List.getElem_toArray]
                      try simp only [List.getElem_cons_succ]
                      try simp only [List.getElem_cons_zero]
                      try simp only [Act.put]
                      try simp only [List.setIfInBounds_toArray]
                      try simp only [List.set_cons_succ]
                      try simp only [List.set_cons_zero]
                      obtain ⟨wz, hrun, hav, hkz⟩ := store_av bv5 ⟨mq, true, (N2 : Int), (N4 : Int), X⟩
                      have hSz : Kept (fun _ => False) wr wz := kv5.andThen hkz (fun i hi e => by have := lv4; omega)
                      refine wpAnyH_ready (rs := [12]) (by kernel_rfl) (by simp) ?_
                      refine AllReadyH.cons rfl (fun K hK => ?_) AllReadyH.nil
                      refine stepB_store rfl (.tmp 12) (.tmp 65) 72 rfl _ _ rfl rfl hrun ?_
                      refine hK.out _ _ (hSz) (fun _ => ?_)
                      clear hK K
                      try simp only [List.getElem_toArray]
                      try simp only [List.getElem_cons_succ]
                      try simp only [List.getElem_cons_zero]
                      try simp only [Act.put]
                      try simp only [List.setIfInBounds_toArray]
                      try simp only [List.set_cons_succ]
                      try simp only [List.set_cons_zero]
                      refine wpAnyH_done (by kernel_rfl) ?_ _
                      clear hrun hkz
                      go_wp2
                      go_meet
                      exact ⟨_, rfl, hav, lv4, hSz⟩
                  · skip
                    go_simp
                    have kv6 : Kept (fun _ => False) wr (World.alloc wr (.cells #[.bool false, .bool false, .int .i64 0, .int .i64 0, .string ⟨#[]⟩] 72)).drew := ((Kept.refl (fun _ => False) wr).alloc _).drew
                    have bv6 : AvAt (World.alloc wr (.cells #[.bool false, .bool false, .int .i64 0, .int .i64 0, .string ⟨#[]⟩] 72)).drew wr.heap.size av0 := (AvAt.new wr av0).kept0 (Kept.refl _ _).drew
                    have lv6 : wr.heap.size ≤ wr.heap.size := Nat.le_refl _
                    refine hK.out _ _ (kv6) (fun _ => ?_)
                    clear hK K
                    try simp only [List.getElem_toArray]
                    try simp only [List.getElem_cons_succ]
                    try simp only [List.getElem_cons_zero]
                    try simp only [Act.put]
                    try simp only [List.setIfInBounds_toArray]
                    try simp only [List.set_cons_succ]
                    try simp only [List.set_cons_zero]
                    generalize (World.alloc wr (.cells #[.bool false, .bool false, .int .i64 0, .int .i64 0, .string ⟨#[]⟩] 72)).drew = v6 at *
                    refine wpAnyH_ready (rs := [4]) (by kernel_rfl) (by simp) ?_
                    refine AllReadyH.cons rfl (fun K hK => ?_) AllReadyH.nil
                    go_simp
                    refine (HW2.out _).mono ?_
                    rintro e v7 ⟨rfl, hk⟩
                    have kv7 : Kept (fun _ => False) wr v7 := kv6.trans hk
                    have bv7 := bv6.kept0 hk
                    clear hk
                    refine hK.out _ _ (kv7) (fun _ => ?_)
                    clear hK K
                    try simp only [List.getElem_toArray]
                    try simp only [List.getElem_cons_succ]
                    try simp only [List.getElem_cons_zero]
                    try simp only [Act.put]
                    try simp only [List.setIfInBounds_toArray]
                    try simp only [List.set_cons_succ]
                    try simp only [List.set_cons_zero]
                    refine wpAnyH_ready (rs := [6]) (by kernel_rfl) (by simp) ?_
                    refine AllReadyH.cons rfl (fun K hK => ?_) AllReadyH.nil
                    go_simp
                    refine (HW4.out _).mono ?_
                    rintro e v8 ⟨rfl, hk⟩
                    have kv8 : Kept (fun _ => False) wr v8 := kv7.trans hk
                    have bv8 := bv7.kept0 hk
                    clear hk
                    refine hK.out _ _ (kv8) (fun _ => ?_)
                    clear hK K
                    try simp only [List.getElem_toArray]
                    try simp only [List.getElem_cons_succ]
                    try simp only [List.getElem_cons_zero]
                    try simp only [Act.put]
                    try simp only [List.setIfInBounds_toArray]
                    try simp only [List.set_cons_succ]
                    try simp only [List.set_cons_zero]
                    refine wpAnyH_take (i := 10) (v := ?_) rfl (by kernel_rfl) (by kernel_rfl) (by kernel_rfl) (fun _ _ _ h => h) (Or.inl ⟨by kernel_rfl, fun W hSW => by go_simp; try with_reducible rfl⟩) (by assumption) ?_
                    try simp only [List.getElem_toArray]
                    try simp only [List.getElem_cons_succ]
                    try simp only [List.getElem_cons_zero]
                    try simp only [Act.put]
                    try simp only [List.setIfInBounds_toArray]
                    try simp only [List.set_cons_succ]
                    try simp only [List.set_cons_zero]
                    obtain ⟨wz, hrun, hav, hkz⟩ := store_av bv8 ⟨mq, true, (N2 : Int), (N4 : Int), X⟩
                    have hSz : Kept (fun _ => False) wr wz := kv8.andThen hkz (fun i hi e => by have := lv6; omega)
                    refine wpAnyH_ready (rs := [12]) (by kernel_rfl) (by simp) ?_
                    refine AllReadyH.cons rfl (fun K hK => ?_) AllReadyH.nil
                    refine stepB_store rfl (.tmp 12) (.tmp 65) 72 rfl _ _ rfl rfl hrun ?_
                    refine hK.out _ _ (hSz) (fun _ => ?_)
                    clear hK K
                    try simp only [List.getElem_toArray]
                    try simp only [List.getElem_cons_succ]
                    try simp only [List.getElem_cons_zero]
                    try simp only [Act.put]
                    try simp only [List.setIfInBounds_toArray]
                    try simp only [List.set_cons_succ]
                    try simp only [List.set_cons_zero]
                    refine wpAnyH_done (by kernel_rfl) ?_ _
                    clear hrun hkz
                    go_wp2
                    go_meet
                    exact ⟨_, rfl, hav, lv6, hSz⟩
                case rest =>
                  obtain ⟨bx, rfl, hav, hle, hkc⟩ := hcut
                  have HA1 := hid hav
                  have HO1 := hid (OwnG.kept0 HO.out hkc)
                  have HK1 := hid (HKr.out.trans hkc)
                  have Hle := hid hle
                  have Hkc := hid hkc
                  obtain ⟨z0, z1, z2, z3, z4⟩ := hav.cells
                  simp only at z0 z1 z2 z3 z4
                  clear hav hkc hle
                  by_cases hs0 : s.size = 0
                  · have hP : R = ([], 30) := by
                      have e : R2 = (⟨#[]⟩, 30) := by
                        rw [HR2.out]
                        have e1 : lacksF c = 30 := by unfold lacksF; rw [HSc.out, if_pos hs0]
                        unfold showF
                        rw [e1, if_neg (by decide)]
                      have h := HTT.out
                      rw [e] at h
                      simp only at h
                      rw [if_neg (by decide)] at h
                      exact h.symm
                    have HP := hid hP
                    clear hP
                    obtain rfl := str_nil s hs0
                    go_wp2
                    go_ret2
                    exact ⟨_, by rw [HP.out]; rfl, by rw [HP.out]; exact OwnG.nil _ _, HK1.out⟩
                  · have hsne := str_full hs0
                    cases hh : c.has with
                    | false =>
                      have hP : R = ([], 40) := by
                        have e : R2 = (⟨#[]⟩, 40) := by
                          rw [HR2.out]
                          have e1 : lacksF c = 40 := by unfold lacksF; rw [HSc.out, if_neg hs0, if_pos hh]
                          unfold showF
                          rw [e1, if_neg (by decide)]
                        have h := HTT.out
                        rw [e] at h
                        simp only at h
                        rw [if_neg (by decide)] at h
                        exact h.symm
                      have HP := hid hP
                      clear hP
                      go_wp2
                      go_ret2
                      exact ⟨_, by rw [HP.out]; rfl, by rw [HP.out]; exact OwnG.nil _ _, HK1.out⟩
                    | true =>
                      have e0 : lacksF c = 0 := by unfold lacksF; rw [HSc.out, if_neg hs0, hh, if_neg (by decide)]
                      have hMM := HM.out (N4 : Int) s c.vector X Hs.out HFw.out.vector (by omega)
                      have hUs := maskA_size true (N4 : Int) s c.vector X
                      have eR : R2 = if X.size < 2 then (⟨#[]⟩, 4) else if numAt (maskA true (N4 : Int) s c.vector X) 0 = X.size - 2 then ((maskA true (N4 : Int) s c.vector X).extract 2 X.size, 0) else (⟨#[]⟩, 4) := by
                        rw [HR2.out]
                        unfold showF
                        rw [if_pos e0, HSc.out]
                      obtain ⟨U, hU⟩ : ∃ U, U = maskA true (N4 : Int) s c.vector X := ⟨_, rfl⟩
                      rw [← hU] at hMM hUs eR
                      have HMM := hid hMM
                      have hUz : (U.size : Int) ≤ 1002 := by omega
                      clear hMM hU e0
                      by_cases hx2 : X.size < 2
                      · rw [if_pos hx2] at eR
                        have hP : R = ([], 4) := by
                          have h := HTT.out
                          rw [eR] at h
                          simp only at h
                          rw [if_neg (by decide)] at h
                          exact h.symm
                        have HP := hid hP
                        have hu2 : (U.size : Int) < 2 := by omega
                        clear hP eR hUs hx2
                        go_wp2_with fail
                        refine (HMM.out _).mono ?_
                        rintro e y1 ⟨rfl, hk⟩
                        have HK2 := hid (HK1.out.trans hk)
                        clear hk
                        go_wp2
                        go_ret2
                        exact ⟨_, by rw [HP.out]; rfl, by rw [HP.out]; exact OwnG.nil _ _, HK2.out⟩
                      · rw [if_neg hx2] at eR
                        have hu2 : ¬ (U.size : Int) < 2 := by omega
                        have HNu := hid (refNumA U (by omega) 0 (by omega))
                        by_cases h3 : numAt U 0 = X.size - 2
                        · rw [if_pos h3] at eR
                          have hne : ((numAt U 0 : Int) != (U.size : Int) - 2) = false := by rw [bne_eq_false_iff_eq]; omega
                          obtain ⟨v', hv'⟩ : ∃ v', v' = U.extract 2 X.size := ⟨_, rfl⟩
                          have jU := last_at U 2 (by omega) 2 rfl
                          rw [hUs, ← hv'] at jU
                          rw [← hv'] at eR
                          have hT3 := HTT.out
                          rw [eR] at hT3
                          simp only at hT3
                          rw [if_pos trivial] at hT3
                          have HT := hid hT3
                          have HXs' : Hid (v'.size ≤ 1002) := by show _ ≤ _; rw [hv', ByteArray.size_extract]; omega
                          replace HXs := HXs'
                          generalize numAt U 0 = NU at *
                          clear hT3 eR hUs hx2 h3 hv' HTT HR2
                          go_wp2_with fail
                          refine (HMM.out _).mono ?_
                          rintro e y1 ⟨rfl, hk⟩
                          have Hk1 := hid hk
                          clear hk z0 z1 z2 z3 z4
                          go_wp2_with fail
                          refine (HNu.out _).mono ?_
                          rintro e y2 ⟨rfl, hk⟩
                          have hk2 := Hk1.out.trans hk
                          have hA2 := HA1.out.kept0 hk2
                          have f4 := hA2.frozen 4
                          have hk3 : Kept (fun _ => False) wr (y2.setCell ⟨bx, 4, none⟩ (.string v')) := (Hkc.out.trans hk2).setCell (Or.inl Hle.out) _
                          have HA3 : Hid (AvAt (y2.setCell ⟨bx, 4, none⟩ (.string v')) bx ⟨mq, true, (N2 : Int), (N4 : Int), v'⟩) := hA2.setValue v'
                          have HO3 := hid (OwnG.kept0 HO.out hk3)
                          have HK3 := hid (HKr.out.trans hk3)
                          obtain ⟨b0, b1, b2, b3, b4⟩ := hA2.cells
                          simp only at b0 b1 b2 b3 b4
                          clear hk hk2 hk3 hA2
                          go_upto_region 25 with fail
                          generalize y2.setCell ⟨bx, 4, none⟩ (.string v') = W3 at *
                          clear b0 b1 b2 b3 b4 f4
                          have HP0 : ∀ b : Bool, isVec ⟨mq, true, (N2 : Int), (N4 : Int), v'⟩ = b → passF c ⟨mq, true, (N2 : Int), (N4 : Int), v'⟩ = if b = true then { c with vector := v', has := true } else c := fun b h => by
                            unfold passF
                            rw [h]
                          cases y1 : ((N2 : Int) == 0) with
                          | false =>
                            have HV1 := HP0 false (by unfold isVec; simp [y1])
                            rw [if_neg (by decide)] at HV1
                            rw [HV1] at HT
                            clear HV1 HP0
                            obtain ⟨a0, a1, a2, a3, a4⟩ := HA3.out.cells
                            simp only at a0 a1 a2 a3 a4
                            go_upto_region 27 with fail
                            have hown4 := World.ownsRow.alloc HO3.out (.cells #[.bool mq, .bool true, .int .i64 (N2 : Int), .int .i64 (N4 : Int), .string v'] 72)
                            have hs3 := HK3.out.size
                            go_wp2_with (at_builtin; refine wpList_append_own _ rfl _ _ 22 rfl w.heap.size 72 i0 (.agg #[.bool false, .bool false, .int .i64 0, .int .i64 0, .string ⟨#[]⟩]) 5 40 Tryz.underlying22 hi hz0 hz1 hz2 rfl (by decide) _ _ _ rfl hown4 ⟨W3.heap.size, 0, none⟩ 1 1 [.bool mq, .bool true, .int .i64 (N2 : Int), .int .i64 (N4 : Int), .string v'] rfl rfl ?c1 ?c2 ?c3 ?c4 ?c5 ?_)
                            case c1 => exact cells_new W3 [.bool mq, .bool true, .int .i64 (N2 : Int), .int .i64 (N4 : Int), .string v'] _
                            case c2 => intro u hu; simp at hu; rcases hu with rfl | rfl | rfl | rfl | rfl <;> rfl
                            case c3 => unfold maxLen; omega
                            case c4 => omega
                            case c5 => simp; omega
                            intro v5 w5 hown5 hg5 _
                            have HO5 := hid (own_moreAv (x := ⟨mq, true, (N2 : Int), (N4 : Int), v'⟩) hown5)
                            have HK5 := hid (HK3.out.andThen (((Kept.refl (fun i => (Value.slice p acc.length cap).ownBlock = some i) W3).alloc _).grown hg5 (fun j hj => Or.inr hj)) (fun i hi e => by have := (OwnG.block HO3.out e).2.1; omega))
                            have HN : Hid (RGet w s R d2 (acc ++ [⟨mq, true, (N2 : Int), (N4 : Int), v'⟩]) v5 c w5) := ⟨HO5.out, HFw.out, HSc.out, HT.out, by omega, by have := H40.out; simp; omega, HK5.out⟩
                            clear hown5 hg5 hown4 a0 a1 a2 a3 a4
                            go_wp2
                            exact ⟨⟨_, _, _, rfl, ⟨rfl, by rw [hh]⟩, HN.out⟩, by simp [strV]; omega⟩
                          | true =>
                            cases y2 : ((N4 : Int) == 36) with
                            | false =>
                              have HV1 := HP0 false (by unfold isVec; simp [y1, y2])
                              rw [if_neg (by decide)] at HV1
                              rw [HV1] at HT
                              clear HV1 HP0
                              obtain ⟨a0, a1, a2, a3, a4⟩ := HA3.out.cells
                              simp only at a0 a1 a2 a3 a4
                              go_upto_region 27 with fail
                              have hown4 := World.ownsRow.alloc HO3.out (.cells #[.bool mq, .bool true, .int .i64 (N2 : Int), .int .i64 (N4 : Int), .string v'] 72)
                              have hs3 := HK3.out.size
                              go_wp2_with (at_builtin; refine wpList_append_own _ rfl _ _ 22 rfl w.heap.size 72 i0 (.agg #[.bool false, .bool false, .int .i64 0, .int .i64 0, .string ⟨#[]⟩]) 5 40 Tryz.underlying22 hi hz0 hz1 hz2 rfl (by decide) _ _ _ rfl hown4 ⟨W3.heap.size, 0, none⟩ 1 1 [.bool mq, .bool true, .int .i64 (N2 : Int), .int .i64 (N4 : Int), .string v'] rfl rfl ?c1 ?c2 ?c3 ?c4 ?c5 ?_)
                              case c1 => exact cells_new W3 [.bool mq, .bool true, .int .i64 (N2 : Int), .int .i64 (N4 : Int), .string v'] _
                              case c2 => intro u hu; simp at hu; rcases hu with rfl | rfl | rfl | rfl | rfl <;> rfl
                              case c3 => unfold maxLen; omega
                              case c4 => omega
                              case c5 => simp; omega
                              intro v5 w5 hown5 hg5 _
                              have HO5 := hid (own_moreAv (x := ⟨mq, true, (N2 : Int), (N4 : Int), v'⟩) hown5)
                              have HK5 := hid (HK3.out.andThen (((Kept.refl (fun i => (Value.slice p acc.length cap).ownBlock = some i) W3).alloc _).grown hg5 (fun j hj => Or.inr hj)) (fun i hi e => by have := (OwnG.block HO3.out e).2.1; omega))
                              have HN : Hid (RGet w s R d2 (acc ++ [⟨mq, true, (N2 : Int), (N4 : Int), v'⟩]) v5 c w5) := ⟨HO5.out, HFw.out, HSc.out, HT.out, by omega, by have := H40.out; simp; omega, HK5.out⟩
                              clear hown5 hg5 hown4 a0 a1 a2 a3 a4
                              go_wp2
                              exact ⟨⟨_, _, _, rfl, ⟨rfl, by rw [hh]⟩, HN.out⟩, by simp [strV]; omega⟩
                            | true =>
                              have HV1 := HP0 false (by unfold isVec; simp [y1, y2])
                              rw [if_neg (by decide)] at HV1
                              rw [HV1] at HT
                              clear HV1 HP0
                              obtain ⟨a0, a1, a2, a3, a4⟩ := HA3.out.cells
                              simp only at a0 a1 a2 a3 a4
                              go_upto_region 27 with fail
                              have hown4 := World.ownsRow.alloc HO3.out (.cells #[.bool mq, .bool true, .int .i64 (N2 : Int), .int .i64 (N4 : Int), .string v'] 72)
                              have hs3 := HK3.out.size
                              go_wp2_with (at_builtin; refine wpList_append_own _ rfl _ _ 22 rfl w.heap.size 72 i0 (.agg #[.bool false, .bool false, .int .i64 0, .int .i64 0, .string ⟨#[]⟩]) 5 40 Tryz.underlying22 hi hz0 hz1 hz2 rfl (by decide) _ _ _ rfl hown4 ⟨W3.heap.size, 0, none⟩ 1 1 [.bool mq, .bool true, .int .i64 (N2 : Int), .int .i64 (N4 : Int), .string v'] rfl rfl ?c1 ?c2 ?c3 ?c4 ?c5 ?_)
                              case c1 => exact cells_new W3 [.bool mq, .bool true, .int .i64 (N2 : Int), .int .i64 (N4 : Int), .string v'] _
                              case c2 => intro u hu; simp at hu; rcases hu with rfl | rfl | rfl | rfl | rfl <;> rfl
                              case c3 => unfold maxLen; omega
                              case c4 => omega
                              case c5 => simp; omega
                              intro v5 w5 hown5 hg5 _
                              have HO5 := hid (own_moreAv (x := ⟨mq, true, (N2 : Int), (N4 : Int), v'⟩) hown5)
                              have HK5 := hid (HK3.out.andThen (((Kept.refl (fun i => (Value.slice p acc.length cap).ownBlock = some i) W3).alloc _).grown hg5 (fun j hj => Or.inr hj)) (fun i hi e => by have := (OwnG.block HO3.out e).2.1; omega))
                              have HN : Hid (RGet w s R d2 (acc ++ [⟨mq, true, (N2 : Int), (N4 : Int), v'⟩]) v5 c w5) := ⟨HO5.out, HFw.out, HSc.out, HT.out, by omega, by have := H40.out; simp; omega, HK5.out⟩
                              clear hown5 hg5 hown4 a0 a1 a2 a3 a4
                              go_wp2
                              exact ⟨⟨_, _, _, rfl, ⟨rfl, by rw [hh]⟩, HN.out⟩, by simp [strV]; omega⟩
                        · rw [if_neg h3] at eR
                          have hne : ((numAt U 0 : Int) != (U.size : Int) - 2) = true := by rw [bne_iff_ne]; omega
                          have hP : R = ([], 4) := by
                            have h := HTT.out
                            rw [eR] at h
                            simp only at h
                            rw [if_neg (by decide)] at h
                            exact h.symm
                          have HP := hid hP
                          generalize numAt U 0 = NU at *
                          clear hP eR hUs hx2 h3
                          go_wp2_with fail
                          refine (HMM.out _).mono ?_
                          rintro e y1 ⟨rfl, hk⟩
                          have HK2 := hid (HK1.out.trans hk)
                          clear hk
                          go_wp2_with fail
                          refine (HNu.out _).mono ?_
                          rintro e y2 ⟨rfl, hk⟩
                          have HK3 := hid (HK2.out.trans hk)
                          clear hk
                          go_wp2
                          go_ret2
                          exact ⟨_, by rw [HP.out]; rfl, by rw [HP.out]; exact OwnG.nil _ _, HK3.out⟩
end Go.Proofs.YtkneogfeokckjaaGreatDoor
