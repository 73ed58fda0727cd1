/- The law AcUsed returns true. -/
import Derived.Test.YtgaamehjdoakhaaDoorAcUsedKit
namespace Go.Proofs.YtgaamehjdoakhaaDoor
open Go.RowKit

set_option maxHeartbeats 8000000 in
set_option maxRecDepth 100000 in
theorem acUsed_walk (h : List UInt8) (hh : h.length = 6) (o : List UInt8) (hol : o.length = 6) (d : ByteArray) (sd : d.size ≤ 140737488351232) (w : World) (hT : Tabs w) :
    Calls Tryd.prog 7 #[.agg (Lib.byteCells h).toArray, .agg (Lib.byteCells o).toArray, .string d] w fun e w' => e = .returned (.bool true) ∧ Kept (fun _ => False) w w' := by
  obtain ⟨h0, h1, h2, h3, h4, h5, eh⟩ := six_cells hh
  obtain ⟨o0, o1, o2, o3, o4, o5, eo⟩ := six_cells hol
  have HAL := hid (fun W (hk : Kept (fun _ => False) w W) => alive_any W (hT.kept hk))
  have hE := mac_eq h m9 hh rfl
  have hO := mac_eq o h hol hh
  rw [eh] at hE hO
  rw [eo] at hO
  rw [eh, eo]
  change ∀ W, Sem.run Tryd.prog (Op.equalIn 10000 23 (.agg #[.int .u8 h0, .int .u8 h1, .int .u8 h2, .int .u8 h3, .int .u8 h4, .int .u8 h5]) (.agg #[.int .u8 9, .int .u8 0, .int .u8 0, .int .u8 0, .int .u8 0, .int .u8 0])) W = .ok (decide (h = m9)) W at hE
  obtain ⟨wA, hwA⟩ : ∃ wA, wA = (((w.alloc (.cells #[.int .u8 h0, .int .u8 h1, .int .u8 h2, .int .u8 h3, .int .u8 h4, .int .u8 h5] 23)).alloc (.cells #[.int .u8 o0, .int .u8 o1, .int .u8 o2, .int .u8 o3, .int .u8 o4, .int .u8 o5] 23)).alloc (.cells #[.int .u8 9, .int .u8 0, .int .u8 0, .int .u8 0, .int .u8 0, .int .u8 0] 23)) := ⟨_, rfl⟩
  have HwA := hid hwA
  have kA : Hid (Kept (fun _ => False) w wA) := by rw [hwA]; exact (((Kept.refl _ w).alloc _).alloc _).alloc _
  have BH : Hid (Box6 wA w.heap.size (.int .u8 h0) (.int .u8 h1) (.int .u8 h2) (.int .u8 h3) (.int .u8 h4) (.int .u8 h5)) := by rw [hwA]; exact ((box6_new w _ _ _ _ _ _ _).alloc _).alloc _
  have BO : Hid (Box6 wA (w.heap.size + 1) (.int .u8 o0) (.int .u8 o1) (.int .u8 o2) (.int .u8 o3) (.int .u8 o4) (.int .u8 o5)) := by
    rw [hwA]
    have h := (box6_new (w.alloc (.cells #[.int .u8 h0, .int .u8 h1, .int .u8 h2, .int .u8 h3, .int .u8 h4, .int .u8 h5] 23)) 23 (.int .u8 o0) (.int .u8 o1) (.int .u8 o2) (.int .u8 o3) (.int .u8 o4) (.int .u8 o5)).alloc (.cells #[.int .u8 9, .int .u8 0, .int .u8 0, .int .u8 0, .int .u8 0, .int .u8 0] 23)
    rw [show (w.alloc (.cells #[.int .u8 h0, .int .u8 h1, .int .u8 h2, .int .u8 h3, .int .u8 h4, .int .u8 h5] 23)).heap.size = w.heap.size + 1 from by simp] at h
    exact h
  have BM : Hid (Box6 wA (w.heap.size + 1 + 1) (.int .u8 9) (.int .u8 0) (.int .u8 0) (.int .u8 0) (.int .u8 0) (.int .u8 0)) := by
    rw [hwA]
    have h := box6_new ((w.alloc (.cells #[.int .u8 h0, .int .u8 h1, .int .u8 h2, .int .u8 h3, .int .u8 h4, .int .u8 h5] 23)).alloc (.cells #[.int .u8 o0, .int .u8 o1, .int .u8 o2, .int .u8 o3, .int .u8 o4, .int .u8 o5] 23)) 23 (.int .u8 9) (.int .u8 0) (.int .u8 0) (.int .u8 0) (.int .u8 0) (.int .u8 0)
    rw [show ((w.alloc (.cells #[.int .u8 h0, .int .u8 h1, .int .u8 h2, .int .u8 h3, .int .u8 h4, .int .u8 h5] 23)).alloc (.cells #[.int .u8 o0, .int .u8 o1, .int .u8 o2, .int .u8 o3, .int .u8 o4, .int .u8 o5] 23)).heap.size = w.heap.size + 1 + 1 from by simp] at h
    exact h
  have HTA := hid (hT.kept kA.out)
  clear hwA
  by_cases hown : h = m9
  · rw [decide_eq_true hown] at hE
    clear hT
    go_enter Tryd.func7, Tryd.ntmps7
    go_wp2_with fail
    rw [← HwA.out]
    refine (HAL.out _ kA.out).mono ?_
    rintro e w1 ⟨rfl, hk1⟩
    go_wp2
    go_ret
    exact ⟨rfl, kA.out.trans hk1⟩
  rw [decide_eq_false hown] at hE
  by_cases hs : (1400 : Int) < (d.size : Int)
  · clear hT
    go_enter Tryd.func7, Tryd.ntmps7
    go_wp2_with fail
    rw [← HwA.out]
    refine (HAL.out _ kA.out).mono ?_
    rintro e w1 ⟨rfl, hk1⟩
    go_wp2
    go_ret
    exact ⟨rfl, kA.out.trans hk1⟩
  by_cases hoh : o = h
  · rw [decide_eq_true hoh] at hO
    clear hT
    go_enter Tryd.func7, Tryd.ntmps7
    go_wp2_with fail
    rw [← HwA.out]
    refine (HAL.out _ kA.out).mono ?_
    rintro e w1 ⟨rfl, hk1⟩
    go_wp2
    go_ret
    exact ⟨rfl, kA.out.trans hk1⟩
  rw [decide_eq_false hoh] at hO
  have hds : d.size ≤ 1400 := by omega
  have HN := hid (new_mine 5 (by omega) (by omega))
  have HPh := hid (fun W (hT : Tables W) => padr_any h m9 hh rfl uB (by decide) W hT)
  have HPo := hid (fun W (hT : Tables W) => padr_any o m9 hol rfl uB (by decide) W hT)
  rw [eh] at HPh
  rw [eo] at HPo
  change Hid (∀ W, Tables W → Calls Tryd.prog 19 #[.agg #[.int .u8 h0, .int .u8 h1, .int .u8 h2, .int .u8 h3, .int .u8 h4, .int .u8 h5], .agg #[.int .u8 9, .int .u8 0, .int .u8 0, .int .u8 0, .int .u8 0, .int .u8 0], .string ⟨#[117]⟩] W fun e w' => e = .returned (frV (askedF h m9 25 0 (padrTags uB (mk5 h)))) ∧ Kept (fun _ => False) W w') at HPh
  change Hid (∀ W, Tables W → Calls Tryd.prog 19 #[.agg #[.int .u8 o0, .int .u8 o1, .int .u8 o2, .int .u8 o3, .int .u8 o4, .int .u8 o5], .agg #[.int .u8 9, .int .u8 0, .int .u8 0, .int .u8 0, .int .u8 0, .int .u8 0], .string ⟨#[117]⟩] W fun e w' => e = .returned (frV (askedF o m9 25 0 (padrTags uB (mk5 o)))) ∧ Kept (fun _ => False) W w') at HPo
  have g0 := good_c00 5 (by omega) (by omega)
  have g1 : Good (st5 1 [⟨h, 1, uB, false⟩] []) := by rw [← st_one, ← ask_none]; exact good_ask g0 hh uB
  have g2 := good_used h hh uB
  have g3 : Good (st5 2 [⟨h, 1, uB, true⟩, ⟨h, 2, uB, false⟩] []) := by rw [← st_again]; exact good_ask g2 hh uB
  have g4 : Good (st5 2 [⟨h, 2, uB, false⟩] [(h, 1)]) := by rw [← st_end]; exact good_end g3 (show 0 + 1 ≤ 1000000 by omega) hh 1
  have g5 : Good (st5 2 [⟨h, 2, uB, false⟩] []) := good_gone g4
  have HT0 := hid (fun W B (hm : CMine wA W B (c00 5)) => mine_ask hm g0 HTA.out rfl rfl hh hown (u := uB) (by decide))
  rw [ask_none, st_one] at HT0
  obtain ⟨Bt, hBt, hbs, hget⟩ : ∃ Bt : ByteArray, putDiscF 0 1 d.data.toList = (Bt.data.toList, 0) ∧ Bt.size ≤ 1000000 ∧ getDiscF Bt.data.toList = (⟨0, 1, d.data.toList⟩, 0) := by
    have hl : d.data.toList.length ≤ 1400 := by rw [← Lib.size_eq]; exact hds
    have e1 : putDiscF 0 1 d.data.toList = (discF 0 1 d.data.toList, 0) := by
      have hb : (byteB 0 && wordB 1) = true := by decide
      simp only [putDiscF, hb, if_true, if_neg (show ¬ 1494 < d.data.toList.length by omega)]
      rfl
    refine ⟨⟨(discF 0 1 d.data.toList).toArray⟩, e1, ?_, ?_⟩
    · rw [Lib.size_eq]
      show (discF 0 1 d.data.toList).length ≤ _
      rw [discF_length]
      omega
    · have := getDisc_put 0 1 (by omega) (by omega) d.data.toList [] (by omega)
      rw [List.append_nil] at this
      exact this
  have HPD := hid (fun W => putDisc_any 0 1 d sd W)
  rw [hBt] at HPD
  change Hid (∀ W, Calls Tryd.prog 20 #[.agg #[.int .i64 0, .int .i64 1, .string d]] W fun e w' => e = .returned (.tuple #[.string Bt, .int .i64 0]) ∧ Below W.heap.size W w') at HPD
  have HD1 := hid (fun B S W (hA : CAt S W B (st5 1 [⟨h, 1, uB, false⟩] [])) => data_some' B _ g1 h hh Bt hbs 1 (by omega) d.data.toList hget ⟨h, 1, uB, false⟩ (find_hit h 1 uB false []) W hA)
  rw [st_use] at HD1
  have hiv : idV h ((1 : Nat) : Int) = .agg #[.int .u8 h0, .int .u8 h1, .int .u8 h2, .int .u8 h3, .int .u8 h4, .int .u8 h5, .int .i64 1] := by unfold idV idCells; rw [eh]; rfl
  rw [hiv] at HD1
  have hf1 : frV ⟨m9, h, 34916, Bt⟩ = .agg #[.int .u8 9, .int .u8 0, .int .u8 0, .int .u8 0, .int .u8 0, .int .u8 0, .int .u8 h0, .int .u8 h1, .int .u8 h2, .int .u8 h3, .int .u8 h4, .int .u8 h5, .int .i64 34916, .string Bt] := by unfold frV frList; simp only []; rw [eh]; rfl
  have hf2 : frV ⟨m9, o, 34916, Bt⟩ = .agg #[.int .u8 9, .int .u8 0, .int .u8 0, .int .u8 0, .int .u8 0, .int .u8 0, .int .u8 o0, .int .u8 o1, .int .u8 o2, .int .u8 o3, .int .u8 o4, .int .u8 o5, .int .i64 34916, .string Bt] := by unfold frV frList; simp only []; rw [eo]; rfl
  change Hid (∀ B S W, CAt S W B (st5 1 [⟨h, 1, uB, false⟩] []) → Calls Tryd.prog 9 #[.pointer (some ⟨B, 0, none⟩), frV ⟨m9, h, 34916, Bt⟩] W fun e w' => e = .returned (.tuple #[.agg #[.int .u8 h0, .int .u8 h1, .int .u8 h2, .int .u8 h3, .int .u8 h4, .int .u8 h5, .int .i64 1], .string d, .bool true]) ∧ CNext S W w' B (st5 1 [⟨h, 1, uB, true⟩] [])) at HD1
  rw [hf1] at HD1
  have HD2 := hid (fun B S W (hA : CAt S W B (st5 1 [⟨h, 1, uB, true⟩] [])) => data_none' B _ g2 o hol Bt hbs 1 (by omega) d.data.toList hget (find_miss h o hoh 1 uB true) W hA)
  change Hid (∀ B S W, CAt S W B (st5 1 [⟨h, 1, uB, true⟩] []) → Calls Tryd.prog 9 #[.pointer (some ⟨B, 0, none⟩), frV ⟨m9, o, 34916, Bt⟩] W fun e w' => e = .returned (.tuple #[.agg #[.int .u8 0, .int .u8 0, .int .u8 0, .int .u8 0, .int .u8 0, .int .u8 0, .int .i64 0], .string ⟨#[]⟩, .bool false]) ∧ CNext S W w' B (st5 1 [⟨h, 1, uB, true⟩] [])) at HD2
  rw [hf2] at HD2
  have HT1 := hid (fun B S W (hA : CAt S W B (st5 1 [⟨h, 1, uB, true⟩] [])) (hT : Tabs W) => ask_at hA g2 hT rfl rfl hh hown (u := uB) (by decide))
  rw [st_again] at HT1
  have HL3 := hid (fun B S W (hA : CAt S W B (st5 2 [⟨h, 1, uB, true⟩, ⟨h, 2, uB, false⟩] [])) => live_any B _ g3 W hA)
  have HCl := hid (fun B S W (hA : CAt S W B (st5 2 [⟨h, 1, uB, true⟩, ⟨h, 2, uB, false⟩] [])) => close_any B _ g3 (show 0 + 1 ≤ 1000000 by omega) h hh 1 (by unfold In64; omega) _ (show findS _ h 1 = _ from find_hit h 1 uB true [⟨h, 2, uB, false⟩]) W hA)
  have hsend := send_ok (st5 2 [⟨h, 2, uB, false⟩] [(h, 1)]) h (code := 167) (ses := 1) (by omega) (by omega) (l := []) ⟨by simp, by simp, by simp [sizeT]⟩
  change sendF (st5 2 [⟨h, 2, uB, false⟩] [(h, 1)]) h 167 1 [] = _ at hsend
  have hiv1 : idV h 1 = .agg #[.int .u8 h0, .int .u8 h1, .int .u8 h2, .int .u8 h3, .int .u8 h4, .int .u8 h5, .int .i64 1] := hiv
  rw [st_end, hsend, hiv1] at HCl
  obtain ⟨fr, hfr, hfd⟩ : ∃ fr : Fr, fr = ⟨h, (st5 2 [⟨h, 2, uB, false⟩] [(h, 1)]).mac, 34915, ⟨(discF 167 1 (bytesT [])).toArray⟩⟩ ∧ fr.dst = h := ⟨_, rfl, rfl⟩
  rw [← hfr] at HCl
  have hIE := id_eq h h hh hh 1 1 (by unfold In64; omega) (by unfold In64; omega)
  rw [hiv1, decide_eq_true ⟨rfl, rfl⟩] at hIE
  have HGo := hid (fun B S W (hA : CAt S W B (st5 2 [⟨h, 2, uB, false⟩] [(h, 1)])) => gone_any B _ g4 W hA)
  have HT2 := hid (fun (hom : ¬ o = m9) B S W (hA : CAt S W B (st5 2 [⟨h, 2, uB, false⟩] [])) (hT : Tabs W) => ask_at hA g5 hT rfl rfl hol hom (u := uB) (by decide))
  rw [st_other h o hoh] at HT2
  have HT3 : Hid (∀ (hom : o = m9) B S W (hA : CAt S W B (st5 2 [⟨h, 2, uB, false⟩] [])), Calls Tryd.prog 12 #[.pointer (some ⟨B, 0, none⟩), frV (askedF o m9 25 0 (padrTags uB (mk5 o))), .int .i64 6] W fun e w' => e = .returned (.slice none 0 0) ∧ Kept (fun _ => False) W w') := fun hom B S W hA => take_own B _ g5 m9 o rfl hol (askedF o m9 25 0 (padrTags uB (mk5 o))).data ((padr_ok (by rw [mk5_size]; have : uB.size = 1 := rfl; omega) : AskOk (padrTags uB (mk5 o))).dsize (code := 25) (ses := 0) (by omega) (by omega) o m9) 6 W hA hom
  have g6 : Good (st5 3 [⟨h, 2, uB, false⟩, ⟨o, 3, uB, false⟩] []) := by rw [← st_other h o hoh]; exact good_ask g5 hol uB
  have HL5 := hid (fun B S W (hA : CAt S W B (st5 2 [⟨h, 2, uB, false⟩] [])) => live_any B _ g5 W hA)
  have HL6 := hid (fun B S W (hA : CAt S W B (st5 3 [⟨h, 2, uB, false⟩, ⟨o, 3, uB, false⟩] [])) => live_any B _ g6 W hA)
  have hOM := mac_eq o m9 hol rfl
  rw [eo] at hOM
  change ∀ W, Sem.run Tryd.prog (Op.equalIn 10000 23 (.agg #[.int .u8 o0, .int .u8 o1, .int .u8 o2, .int .u8 o3, .int .u8 o4, .int .u8 o5]) (.agg #[.int .u8 9, .int .u8 0, .int .u8 0, .int .u8 0, .int .u8 0, .int .u8 0])) W = .ok (decide (o = m9)) W at hOM
  have hHH := mac_eq h h hh hh
  rw [eh, decide_eq_true rfl] at hHH
  have hOO := mac_eq o o hol hol
  rw [eo, decide_eq_true rfl] at hOO
  generalize frV (askedF o m9 25 0 (padrTags uB (mk5 o))) = FO at *
  generalize frV (askedF h m9 25 0 (padrTags uB (mk5 h))) = FH at *
  have Hg5 := hid g5
  clear hT g0 g1 g2 g3 g4 g5 g6 hget hBt hf1 hf2 hiv hiv1 hsend hfr
  go_enter Tryd.func7, Tryd.ntmps7
  go_wp2_with fail
  rw [← HwA.out]
  refine (HN.out _).mono ?_
  rintro e w1 ⟨B, rfl, hm1⟩
  have Hm1 := hid hm1
  have K1 := hid hm1.kept
  clear hm1
  obtain ⟨a0, a1, a2, a3, a4, a5⟩ := BH.out.kept K1.out
  obtain ⟨b0, b1, b2, b3, b4, b5⟩ := BM.out.kept K1.out
  go_wp2_with fail
  refine (HPh.out _ (HTA.out.kept K1.out).t).mono ?_
  rintro e w2 ⟨rfl, hk2⟩
  clear a0 a1 a2 a3 a4 a5 b0 b1 b2 b3 b4 b5
  go_wp2_with fail
  refine (HT0.out _ _ (Hm1.out.still hk2)).mono ?_
  rintro e w3 ⟨v3, f3, rfl, _, _, hm3⟩
  have Hm3 := hid hm3
  clear hm3 hk2
  go_wp2_with fail
  refine (HPD.out _).mono ?_
  rintro e w4 ⟨rfl, hb4⟩
  have hm4 := Hm3.out.still (kept_of hb4)
  have K4 := hid hm4.kept
  obtain ⟨S4, hA4, hS4, _⟩ := hm4
  have HA4 := hid hA4
  clear hb4 hA4
  obtain ⟨a0, a1, a2, a3, a4, a5⟩ := BH.out.kept K4.out
  obtain ⟨b0, b1, b2, b3, b4, b5⟩ := BM.out.kept K4.out
  go_wp2_with fail
  refine (HD1.out B S4 w4 HA4.out).mono ?_
  rintro e w5 ⟨rfl, hn5⟩
  clear a0 a1 a2 a3 a4 a5 b0 b1 b2 b3 b4 b5
  obtain ⟨S5, hA5, hS5, hk5⟩ := hn5
  have lA4 : ∀ i, S4 i → wA.heap.size ≤ i := fun i hi => (hS4 i hi).resolve_left id
  have lA5 : ∀ i, S5 i → wA.heap.size ≤ i := fun i hi => (hS5 i hi).elim (lA4 i) (fun h => Nat.le_trans K4.out.size h)
  have K5 := hid (K4.out.andThen hk5 (fun i hi hs => by have := lA4 i hs; omega))
  obtain ⟨w6, hw6⟩ : ∃ w6, w6 = w5.alloc (.cells #[.int .u8 h0, .int .u8 h1, .int .u8 h2, .int .u8 h3, .int .u8 h4, .int .u8 h5, .int .i64 1] 27) := ⟨_, rfl⟩
  have Hw6 := hid hw6
  have K6 := hid (K5.out.alloc (.cells #[.int .u8 h0, .int .u8 h1, .int .u8 h2, .int .u8 h3, .int .u8 h4, .int .u8 h5, .int .i64 1] 27))
  obtain ⟨a0, a1, a2, a3, a4, a5⟩ := BO.out.kept K6.out
  obtain ⟨b0, b1, b2, b3, b4, b5⟩ := BM.out.kept K6.out
  have X6 : Hid (Box7 w6 w5.heap.size #[.int .u8 h0, .int .u8 h1, .int .u8 h2, .int .u8 h3, .int .u8 h4, .int .u8 h5, .int .i64 1]) := by rw [hw6]; exact heap_alloc_new w5 _
  have HA6 : Hid (CAt S5 w6 B (st5 1 [⟨h, 1, uB, true⟩] [])) := by rw [hw6]; exact hA5.alloc _
  have hs6 : w6.heap.size = w5.heap.size + 1 := by rw [hw6]; simp
  have nX5 : ¬ S5 w5.heap.size := fun hh => by have := hA5.lt hh; omega
  have HK6 : Hid (Kept (fun _ => False) wA w6) := by rw [hw6]; exact K6.out
  clear hw6 hA5 hk5 hS4 hS5 K6
  go_wp2_with fail
  rw [← Hw6.out]
  refine (HD2.out B S5 w6 HA6.out).mono ?_
  rintro e w7 ⟨rfl, hn7⟩
  clear a0 a1 a2 a3 a4 a5 b0 b1 b2 b3 b4 b5
  obtain ⟨S7, hA7, hS7, hk7⟩ := hn7
  have lA7 : ∀ i, S7 i → wA.heap.size ≤ i := fun i hi => (hS7 i hi).elim (lA5 i) (fun h => Nat.le_trans HK6.out.size h)
  have nX7 : ¬ S7 w5.heap.size := fun hh => (hS7 _ hh).elim nX5 (fun h => by omega)
  have X7 := hid (X6.out.kept hk7 nX5)
  have K7 := hid (HK6.out.andThen hk7 (fun i hi hs => by have := lA5 i hs; omega))
  obtain ⟨w8, hw8⟩ : ∃ w8, w8 = w7.alloc (.cells #[.int .u8 0, .int .u8 0, .int .u8 0, .int .u8 0, .int .u8 0, .int .u8 0, .int .i64 0] 27) := ⟨_, rfl⟩
  have Hw8 := hid hw8
  have K8 := hid (K7.out.alloc (.cells #[.int .u8 0, .int .u8 0, .int .u8 0, .int .u8 0, .int .u8 0, .int .u8 0, .int .i64 0] 27))
  obtain ⟨a0, a1, a2, a3, a4, a5⟩ := BH.out.kept K8.out
  obtain ⟨b0, b1, b2, b3, b4, b5⟩ := BM.out.kept K8.out
  have hk78 : Kept (fun _ => False) w7 w8 := by rw [hw8]; exact (Kept.refl _ w7).alloc _
  have X8 := hid (X7.out.kept hk78 id)
  have HA8 := hid (hA7.kept0 hk78)
  have HK8 := hid (K7.out.trans hk78)
  clear hw8 hA7 hk7 hS7 K8 hk78 hs6
  go_wp2_with fail
  rw [← Hw8.out]
  refine (HPh.out _ (HTA.out.kept HK8.out).t).mono ?_
  rintro e w9 ⟨rfl, hk9⟩
  clear a0 a1 a2 a3 a4 a5 b0 b1 b2 b3 b4 b5
  go_wp2_with fail
  refine (HT1.out B S7 w9 (HA8.out.kept0 hk9) (HTA.out.kept (HK8.out.trans hk9))).mono ?_
  rintro e w10 ⟨v10, f10, rfl, _, _, hn10⟩
  have X9 := hid (X8.out.kept hk9 id)
  have K9 := hid (HK8.out.trans hk9)
  obtain ⟨S10, hA10, hS10, hk10⟩ := hn10
  have lA10 : ∀ i, S10 i → wA.heap.size ≤ i := fun i hi => (hS10 i hi).elim (lA7 i) (fun h => Nat.le_trans K9.out.size h)
  have nX10 : ¬ S10 w5.heap.size := fun hh => (hS10 _ hh).elim nX7 (fun h => by have := X9.out.lt; omega)
  have X10 := hid (X9.out.kept hk10 nX7)
  have K10 := hid (K9.out.andThen hk10 (fun i hi hs => by have := lA7 i hs; omega))
  have HA10 := hid hA10
  clear hA10 hk10 hS10 hk9
  go_wp2_with fail
  refine (HL3.out B S10 w10 HA10.out).mono ?_
  rintro e w11 ⟨v11, L11, rfl, hp11, hso11, ha11, hk11⟩
  obtain rfl : L11 = [⟨h, 1, uB, true⟩, ⟨h, 2, uB, false⟩] := by
    match L11, hp11.length_eq, hp11, hso11 with
    | [p, q], _, hp5, hso5 =>
      have hpm : p ∈ [(⟨h, 1, uB, true⟩ : Sn), ⟨h, 2, uB, false⟩] := hp5.mem_iff.1 (by simp)
      have hle : p.num ≤ q.num := by simpa [SortedNum] using hso5
      simp only [List.mem_cons, List.not_mem_nil, or_false] at hpm
      rcases hpm with rfl | rfl
      · have h2 := hp5.cons_inv
        rw [List.perm_singleton.1 h2]
      · have h2 : [q].Perm [(⟨h, 1, uB, true⟩ : Sn)] := (hp5.trans (List.Perm.swap _ _ _)).cons_inv
        have hq : q = ⟨h, 1, uB, true⟩ := by simpa using List.perm_singleton.1 h2
        rw [hq] at hle
        simp at hle
  rcases ha11 with ⟨h00, _⟩ | ⟨g11, q11, rfl, hq11, hcl⟩
  · cases h00
  have hq2 : (2 : Int) ≤ (q11 : Int) := by
    have h1q : 2 ≤ q11 := hq11
    omega
  have u8 : w11.cell? ⟨g11, 8, none⟩ = some (.bool true) := hcl 0 _ rfl 8 (.bool true) (by unfold snCells; rw [fit6_self hh, eh]; rfl)
  have u17 : w11.cell? ⟨g11, 17, none⟩ = some (.bool false) := hcl 1 _ rfl 8 (.bool false) (by unfold snCells; rw [fit6_self hh, eh]; rfl)
  have u15 : w11.cell? ⟨g11, 15, none⟩ = some (.int .i64 2) := hcl 1 _ rfl 6 (.int .i64 2) (by unfold snCells; rw [fit6_self hh, eh]; rfl)
  have X11 := hid (X10.out.kept hk11 id)
  have K11 := hid (K10.out.trans hk11)
  have HA11 := hid (HA10.out.kept0 hk11)
  clear hcl hk11 hp11 hso11
  obtain ⟨a0, a1, a2, a3, a4, a5⟩ := BH.out.kept K11.out
  have z0 := X11.out.cell 0
  have z1 := X11.out.cell 1
  have z2 := X11.out.cell 2
  have z3 := X11.out.cell 3
  have z4 := X11.out.cell 4
  have z5 := X11.out.cell 5
  have z6 := X11.out.cell 6
  simp only [List.getElem?_toArray, List.getElem?_cons_zero, List.getElem?_cons_succ] at z0 z1 z2 z3 z4 z5 z6
  go_wp2_with fail
  refine (HCl.out B S10 w11 HA11.out).mono ?_
  rintro e w12 ⟨u12, rfl, ho12, hn12⟩
  clear a0 a1 a2 a3 a4 a5 z0 z1 z2 z3 z4 z5 z6 u8 u15 u17
  obtain ⟨S12, hA12, hS12, hk12⟩ := hn12
  have lA12 : ∀ i, S12 i → wA.heap.size ≤ i := fun i hi => (hS12 i hi).elim (lA10 i) (fun h => Nat.le_trans K11.out.size h)
  have nX12 : ¬ S12 w5.heap.size := fun hh => (hS12 _ hh).elim nX10 (fun h => by have := X11.out.lt; omega)
  have X12 := hid (X11.out.kept hk12 nX10)
  have K12 := hid (K11.out.andThen hk12 (fun i hi hs => by have := lA10 i hs; omega))
  have hap := frames_apart hA12 ho12
  obtain ⟨g12, q12, rfl, hq12, hc12⟩ := ho12.first
  have nL12 : ¬ S12 g12 := hap g12 rfl
  have HA12 := hid hA12
  have hL0 : w12.cell? ⟨g12, 0, none⟩ = some (.int .u8 h0) ∧ w12.cell? ⟨g12, 1, none⟩ = some (.int .u8 h1) ∧ w12.cell? ⟨g12, 2, none⟩ = some (.int .u8 h2) ∧ w12.cell? ⟨g12, 3, none⟩ = some (.int .u8 h3) ∧ w12.cell? ⟨g12, 4, none⟩ = some (.int .u8 h4) ∧ w12.cell? ⟨g12, 5, none⟩ = some (.int .u8 h5) := by
    have hr : ∀ j u, j < 6 → (Lib.byteCells h)[j]? = some u → (frList fr)[j]? = some u := fun j u hj hu => by
      unfold frList
      rw [hfd, List.append_assoc, List.getElem?_append_left (by rw [Lib.byteCells_length, hh]; exact hj)]
      exact hu
    exact ⟨hc12 0 _ (by omega) (hr 0 _ (by omega) (by rw [eh]; rfl)), hc12 1 _ (by omega) (hr 1 _ (by omega) (by rw [eh]; rfl)), hc12 2 _ (by omega) (hr 2 _ (by omega) (by rw [eh]; rfl)), hc12 3 _ (by omega) (hr 3 _ (by omega) (by rw [eh]; rfl)), hc12 4 _ (by omega) (hr 4 _ (by omega) (by rw [eh]; rfl)), hc12 5 _ (by omega) (hr 5 _ (by omega) (by rw [eh]; rfl))⟩
  clear hA12 hk12 hS12 hap hc12 ho12
  go_wp2_with fail
  refine (HGo.out B S12 w12 HA12.out).mono ?_
  rintro e w13 ⟨v13, S13, rfl, ho13, hA13, hS13, hv13, hk13⟩
  have lA13 : ∀ i, S13 i → wA.heap.size ≤ i := fun i hi => lA12 i (hS13 i hi)
  have X13 := hid (X12.out.kept hk13 nX12)
  have K13 := hid (K12.out.andThen hk13 (fun i hi hs => by have := lA12 i hs; omega))
  have HA13 := hid hA13
  have hx13 : OwnI w13 0 v13 [(h, 1)] := ho13
  obtain ⟨g13, q13, rfl, hq13, hc13⟩ : ∃ g cap, v13 = .slice (some ⟨g, 0, none⟩) 1 cap ∧ 1 ≤ cap ∧ ∀ j u, j < 7 → (idCells h 1)[j]? = some u → w13.cell? ⟨g, j, none⟩ = some u := by
    rcases hx13.2 with ⟨_, h0⟩ | ⟨g, cap, cur, rfl, hb, hg, h1, h2, h3, h4⟩
    · cases h0
    · refine ⟨g, cap, rfl, h1, fun j u hj hu => ?_⟩
      rw [cell_of_row w13 g j _ _ _ hg]
      have e : idRow [(h, (1 : Int))] = idCells h 1 := by simp [idRow]
      rw [e] at h4
      rw [← h4, List.getElem?_take_of_lt (by simpa using hj)] at hu
      simpa using hu
  have nG13 : ¬ S13 g13 := (hv13 g13 rfl).2
  have nX13 : ¬ S13 w5.heap.size := fun hh => nX12 (hS13 _ hh)
  have nL13 : ¬ S13 g12 := fun hh => nL12 (hS13 _ hh)
  have hic : idCells h 1 = [.int .u8 h0, .int .u8 h1, .int .u8 h2, .int .u8 h3, .int .u8 h4, .int .u8 h5, .int .i64 1] := by unfold idCells; rw [eh]; rfl
  rw [hic] at hc13
  obtain ⟨l0, l1, l2, l3, l4, l5⟩ := hL0
  have L0 : ∀ W, Kept S13 w13 W → W.cell? ⟨g12, 0, none⟩ = some (.int .u8 h0) := fun W hk => (hk.cell (p := ⟨g12, 0, none⟩) (Nat.lt_of_lt_of_le (lt_of_cell l0) hk13.size) nL13).trans ((hk13.cell (p := ⟨g12, 0, none⟩) (lt_of_cell l0) nL12).trans l0)
  have L1 : ∀ W, Kept S13 w13 W → W.cell? ⟨g12, 1, none⟩ = some (.int .u8 h1) := fun W hk => (hk.cell (p := ⟨g12, 1, none⟩) (Nat.lt_of_lt_of_le (lt_of_cell l1) hk13.size) nL13).trans ((hk13.cell (p := ⟨g12, 1, none⟩) (lt_of_cell l1) nL12).trans l1)
  have L2 : ∀ W, Kept S13 w13 W → W.cell? ⟨g12, 2, none⟩ = some (.int .u8 h2) := fun W hk => (hk.cell (p := ⟨g12, 2, none⟩) (Nat.lt_of_lt_of_le (lt_of_cell l2) hk13.size) nL13).trans ((hk13.cell (p := ⟨g12, 2, none⟩) (lt_of_cell l2) nL12).trans l2)
  have L3 : ∀ W, Kept S13 w13 W → W.cell? ⟨g12, 3, none⟩ = some (.int .u8 h3) := fun W hk => (hk.cell (p := ⟨g12, 3, none⟩) (Nat.lt_of_lt_of_le (lt_of_cell l3) hk13.size) nL13).trans ((hk13.cell (p := ⟨g12, 3, none⟩) (lt_of_cell l3) nL12).trans l3)
  have L4 : ∀ W, Kept S13 w13 W → W.cell? ⟨g12, 4, none⟩ = some (.int .u8 h4) := fun W hk => (hk.cell (p := ⟨g12, 4, none⟩) (Nat.lt_of_lt_of_le (lt_of_cell l4) hk13.size) nL13).trans ((hk13.cell (p := ⟨g12, 4, none⟩) (lt_of_cell l4) nL12).trans l4)
  have L5 : ∀ W, Kept S13 w13 W → W.cell? ⟨g12, 5, none⟩ = some (.int .u8 h5) := fun W hk => (hk.cell (p := ⟨g12, 5, none⟩) (Nat.lt_of_lt_of_le (lt_of_cell l5) hk13.size) nL13).trans ((hk13.cell (p := ⟨g12, 5, none⟩) (lt_of_cell l5) nL12).trans l5)
  have G0 : ∀ W, Kept S13 w13 W → W.cell? ⟨g13, 0, none⟩ = some (.int .u8 h0) := fun W hk => by have h := hc13 0 (.int .u8 h0) (by omega) rfl; exact (hk.cell (p := ⟨g13, 0, none⟩) (lt_of_cell h) nG13).trans h
  have G1 : ∀ W, Kept S13 w13 W → W.cell? ⟨g13, 1, none⟩ = some (.int .u8 h1) := fun W hk => by have h := hc13 1 (.int .u8 h1) (by omega) rfl; exact (hk.cell (p := ⟨g13, 1, none⟩) (lt_of_cell h) nG13).trans h
  have G2 : ∀ W, Kept S13 w13 W → W.cell? ⟨g13, 2, none⟩ = some (.int .u8 h2) := fun W hk => by have h := hc13 2 (.int .u8 h2) (by omega) rfl; exact (hk.cell (p := ⟨g13, 2, none⟩) (lt_of_cell h) nG13).trans h
  have G3 : ∀ W, Kept S13 w13 W → W.cell? ⟨g13, 3, none⟩ = some (.int .u8 h3) := fun W hk => by have h := hc13 3 (.int .u8 h3) (by omega) rfl; exact (hk.cell (p := ⟨g13, 3, none⟩) (lt_of_cell h) nG13).trans h
  have G4 : ∀ W, Kept S13 w13 W → W.cell? ⟨g13, 4, none⟩ = some (.int .u8 h4) := fun W hk => by have h := hc13 4 (.int .u8 h4) (by omega) rfl; exact (hk.cell (p := ⟨g13, 4, none⟩) (lt_of_cell h) nG13).trans h
  have G5 : ∀ W, Kept S13 w13 W → W.cell? ⟨g13, 5, none⟩ = some (.int .u8 h5) := fun W hk => by have h := hc13 5 (.int .u8 h5) (by omega) rfl; exact (hk.cell (p := ⟨g13, 5, none⟩) (lt_of_cell h) nG13).trans h
  have G6 : ∀ W, Kept S13 w13 W → W.cell? ⟨g13, 6, none⟩ = some (.int .i64 1) := fun W hk => by have h := hc13 6 (.int .i64 1) (by omega) rfl; exact (hk.cell (p := ⟨g13, 6, none⟩) (lt_of_cell h) nG13).trans h
  have Y0 : ∀ W, Kept S13 w13 W → W.cell? ⟨w5.heap.size, 0, none⟩ = some (.int .u8 h0) := fun W hk => (X13.out.kept hk nX13).cell 0
  have Y1 : ∀ W, Kept S13 w13 W → W.cell? ⟨w5.heap.size, 1, none⟩ = some (.int .u8 h1) := fun W hk => (X13.out.kept hk nX13).cell 1
  have Y2 : ∀ W, Kept S13 w13 W → W.cell? ⟨w5.heap.size, 2, none⟩ = some (.int .u8 h2) := fun W hk => (X13.out.kept hk nX13).cell 2
  have Y3 : ∀ W, Kept S13 w13 W → W.cell? ⟨w5.heap.size, 3, none⟩ = some (.int .u8 h3) := fun W hk => (X13.out.kept hk nX13).cell 3
  have Y4 : ∀ W, Kept S13 w13 W → W.cell? ⟨w5.heap.size, 4, none⟩ = some (.int .u8 h4) := fun W hk => (X13.out.kept hk nX13).cell 4
  have Y5 : ∀ W, Kept S13 w13 W → W.cell? ⟨w5.heap.size, 5, none⟩ = some (.int .u8 h5) := fun W hk => (X13.out.kept hk nX13).cell 5
  have Y6 : ∀ W, Kept S13 w13 W → W.cell? ⟨w5.heap.size, 6, none⟩ = some (.int .i64 1) := fun W hk => (X13.out.kept hk nX13).cell 6
  have KA : ∀ W, Kept S13 w13 W → Kept (fun _ => False) wA W := fun W hk => K13.out.andThen hk (fun i hi hs => by have := lA13 i hs; omega)
  clear hc13 hx13 ho13 hA13 hv13 hk13 l0 l1 l2 l3 l4 l5 hS13
  have Lz := hid (And.intro L0 (And.intro L1 (And.intro L2 (And.intro L3 (And.intro L4 L5)))))
  have Gz := hid (And.intro G0 (And.intro G1 (And.intro G2 (And.intro G3 (And.intro G4 (And.intro G5 G6))))))
  have Yz := hid (And.intro Y0 (And.intro Y1 (And.intro Y2 (And.intro Y3 (And.intro Y4 (And.intro Y5 Y6))))))
  have HKA := hid KA
  clear L0 L1 L2 L3 L4 L5 G0 G1 G2 G3 G4 G5 G6 Y0 Y1 Y2 Y3 Y4 Y5 Y6 KA
  obtain ⟨a0, a1, a2, a3, a4, a5⟩ := BO.out.kept K13.out
  obtain ⟨b0, b1, b2, b3, b4, b5⟩ := BM.out.kept K13.out
  go_wp2_with fail
  refine (HPo.out _ (HTA.out.kept K13.out).t).mono ?_
  rintro e w14 ⟨rfl, hk14⟩
  clear a0 a1 a2 a3 a4 a5 b0 b1 b2 b3 b4 b5
  have K14 := hid (hk14.mono (T := S13) (fun _ _ h => h.elim))
  have HA14 := hid (HA13.out.kept0 hk14)
  have KA14 := hid (K13.out.trans hk14)
  clear hk14
  by_cases hom : o = m9
  · rw [decide_eq_true hom] at hOM
    go_wp2_with fail
    refine (HT3.out hom B S13 w14 HA14.out).mono ?_
    rintro e w15 ⟨rfl, hk15⟩
    go_wp2_with fail
    refine (HL5.out B S13 w15 (HA14.out.kept0 hk15)).mono ?_
    rintro e w16 ⟨v16, L16, rfl, _, _, ha16, hk16⟩
    obtain ⟨p16, c16, rfl⟩ := ha16.slice
    have K16 := hid (K14.out.trans ((hk15.trans hk16).mono (T := S13) (fun _ _ h => h.elim)))
    clear hk15 hk16 ha16
    obtain ⟨L0, L1, L2, L3, L4, L5⟩ := Lz.out
    obtain ⟨G0, G1, G2, G3, G4, G5, G6⟩ := Gz.out
    obtain ⟨Y0, Y1, Y2, Y3, Y4, Y5, Y6⟩ := Yz.out
    have HK := hid (fun W (hk : Kept (fun _ => False) w16 W) => K16.out.trans (hk.mono (T := S13) (fun _ _ h => h.elim)))
    have Lx0 : ∀ W, Kept (fun _ => False) w16 W → W.cell? ⟨g12, 0, none⟩ = some (.int .u8 h0) := fun W hk => L0 W (HK.out W hk)
    have Lx1 : ∀ W, Kept (fun _ => False) w16 W → W.cell? ⟨g12, 1, none⟩ = some (.int .u8 h1) := fun W hk => L1 W (HK.out W hk)
    have Lx2 : ∀ W, Kept (fun _ => False) w16 W → W.cell? ⟨g12, 2, none⟩ = some (.int .u8 h2) := fun W hk => L2 W (HK.out W hk)
    have Lx3 : ∀ W, Kept (fun _ => False) w16 W → W.cell? ⟨g12, 3, none⟩ = some (.int .u8 h3) := fun W hk => L3 W (HK.out W hk)
    have Lx4 : ∀ W, Kept (fun _ => False) w16 W → W.cell? ⟨g12, 4, none⟩ = some (.int .u8 h4) := fun W hk => L4 W (HK.out W hk)
    have Lx5 : ∀ W, Kept (fun _ => False) w16 W → W.cell? ⟨g12, 5, none⟩ = some (.int .u8 h5) := fun W hk => L5 W (HK.out W hk)
    have Gx0 : ∀ W, Kept (fun _ => False) w16 W → W.cell? ⟨g13, 0, none⟩ = some (.int .u8 h0) := fun W hk => G0 W (HK.out W hk)
    have Gx1 : ∀ W, Kept (fun _ => False) w16 W → W.cell? ⟨g13, 1, none⟩ = some (.int .u8 h1) := fun W hk => G1 W (HK.out W hk)
    have Gx2 : ∀ W, Kept (fun _ => False) w16 W → W.cell? ⟨g13, 2, none⟩ = some (.int .u8 h2) := fun W hk => G2 W (HK.out W hk)
    have Gx3 : ∀ W, Kept (fun _ => False) w16 W → W.cell? ⟨g13, 3, none⟩ = some (.int .u8 h3) := fun W hk => G3 W (HK.out W hk)
    have Gx4 : ∀ W, Kept (fun _ => False) w16 W → W.cell? ⟨g13, 4, none⟩ = some (.int .u8 h4) := fun W hk => G4 W (HK.out W hk)
    have Gx5 : ∀ W, Kept (fun _ => False) w16 W → W.cell? ⟨g13, 5, none⟩ = some (.int .u8 h5) := fun W hk => G5 W (HK.out W hk)
    have Gx6 : ∀ W, Kept (fun _ => False) w16 W → W.cell? ⟨g13, 6, none⟩ = some (.int .i64 1) := fun W hk => G6 W (HK.out W hk)
    have Yx0 : ∀ W, Kept (fun _ => False) w16 W → W.cell? ⟨w5.heap.size, 0, none⟩ = some (.int .u8 h0) := fun W hk => Y0 W (HK.out W hk)
    have Yx1 : ∀ W, Kept (fun _ => False) w16 W → W.cell? ⟨w5.heap.size, 1, none⟩ = some (.int .u8 h1) := fun W hk => Y1 W (HK.out W hk)
    have Yx2 : ∀ W, Kept (fun _ => False) w16 W → W.cell? ⟨w5.heap.size, 2, none⟩ = some (.int .u8 h2) := fun W hk => Y2 W (HK.out W hk)
    have Yx3 : ∀ W, Kept (fun _ => False) w16 W → W.cell? ⟨w5.heap.size, 3, none⟩ = some (.int .u8 h3) := fun W hk => Y3 W (HK.out W hk)
    have Yx4 : ∀ W, Kept (fun _ => False) w16 W → W.cell? ⟨w5.heap.size, 4, none⟩ = some (.int .u8 h4) := fun W hk => Y4 W (HK.out W hk)
    have Yx5 : ∀ W, Kept (fun _ => False) w16 W → W.cell? ⟨w5.heap.size, 5, none⟩ = some (.int .u8 h5) := fun W hk => Y5 W (HK.out W hk)
    have Yx6 : ∀ W, Kept (fun _ => False) w16 W → W.cell? ⟨w5.heap.size, 6, none⟩ = some (.int .i64 1) := fun W hk => Y6 W (HK.out W hk)
    have BHx0 : ∀ W, Kept (fun _ => False) w16 W → W.cell? ⟨w.heap.size, 0, none⟩ = some (.int .u8 h0) := fun W hk => (BH.out.kept (HKA.out W (HK.out W hk))).c0
    have BHx1 : ∀ W, Kept (fun _ => False) w16 W → W.cell? ⟨w.heap.size, 1, none⟩ = some (.int .u8 h1) := fun W hk => (BH.out.kept (HKA.out W (HK.out W hk))).c1
    have BHx2 : ∀ W, Kept (fun _ => False) w16 W → W.cell? ⟨w.heap.size, 2, none⟩ = some (.int .u8 h2) := fun W hk => (BH.out.kept (HKA.out W (HK.out W hk))).c2
    have BHx3 : ∀ W, Kept (fun _ => False) w16 W → W.cell? ⟨w.heap.size, 3, none⟩ = some (.int .u8 h3) := fun W hk => (BH.out.kept (HKA.out W (HK.out W hk))).c3
    have BHx4 : ∀ W, Kept (fun _ => False) w16 W → W.cell? ⟨w.heap.size, 4, none⟩ = some (.int .u8 h4) := fun W hk => (BH.out.kept (HKA.out W (HK.out W hk))).c4
    have BHx5 : ∀ W, Kept (fun _ => False) w16 W → W.cell? ⟨w.heap.size, 5, none⟩ = some (.int .u8 h5) := fun W hk => (BH.out.kept (HKA.out W (HK.out W hk))).c5
    have BOx0 : ∀ W, Kept (fun _ => False) w16 W → W.cell? ⟨w.heap.size + 1, 0, none⟩ = some (.int .u8 o0) := fun W hk => (BO.out.kept (HKA.out W (HK.out W hk))).c0
    have BOx1 : ∀ W, Kept (fun _ => False) w16 W → W.cell? ⟨w.heap.size + 1, 1, none⟩ = some (.int .u8 o1) := fun W hk => (BO.out.kept (HKA.out W (HK.out W hk))).c1
    have BOx2 : ∀ W, Kept (fun _ => False) w16 W → W.cell? ⟨w.heap.size + 1, 2, none⟩ = some (.int .u8 o2) := fun W hk => (BO.out.kept (HKA.out W (HK.out W hk))).c2
    have BOx3 : ∀ W, Kept (fun _ => False) w16 W → W.cell? ⟨w.heap.size + 1, 3, none⟩ = some (.int .u8 o3) := fun W hk => (BO.out.kept (HKA.out W (HK.out W hk))).c3
    have BOx4 : ∀ W, Kept (fun _ => False) w16 W → W.cell? ⟨w.heap.size + 1, 4, none⟩ = some (.int .u8 o4) := fun W hk => (BO.out.kept (HKA.out W (HK.out W hk))).c4
    have BOx5 : ∀ W, Kept (fun _ => False) w16 W → W.cell? ⟨w.heap.size + 1, 5, none⟩ = some (.int .u8 o5) := fun W hk => (BO.out.kept (HKA.out W (HK.out W hk))).c5
    have BMx0 : ∀ W, Kept (fun _ => False) w16 W → W.cell? ⟨w.heap.size + 1 + 1, 0, none⟩ = some (.int .u8 9) := fun W hk => (BM.out.kept (HKA.out W (HK.out W hk))).c0
    have BMx1 : ∀ W, Kept (fun _ => False) w16 W → W.cell? ⟨w.heap.size + 1 + 1, 1, none⟩ = some (.int .u8 0) := fun W hk => (BM.out.kept (HKA.out W (HK.out W hk))).c1
    have BMx2 : ∀ W, Kept (fun _ => False) w16 W → W.cell? ⟨w.heap.size + 1 + 1, 2, none⟩ = some (.int .u8 0) := fun W hk => (BM.out.kept (HKA.out W (HK.out W hk))).c2
    have BMx3 : ∀ W, Kept (fun _ => False) w16 W → W.cell? ⟨w.heap.size + 1 + 1, 3, none⟩ = some (.int .u8 0) := fun W hk => (BM.out.kept (HKA.out W (HK.out W hk))).c3
    have BMx4 : ∀ W, Kept (fun _ => False) w16 W → W.cell? ⟨w.heap.size + 1 + 1, 4, none⟩ = some (.int .u8 0) := fun W hk => (BM.out.kept (HKA.out W (HK.out W hk))).c4
    have BMx5 : ∀ W, Kept (fun _ => False) w16 W → W.cell? ⟨w.heap.size + 1 + 1, 5, none⟩ = some (.int .u8 0) := fun W hk => (BM.out.kept (HKA.out W (HK.out W hk))).c5
    have hq1 : (1 : Int) ≤ (q12 : Int) := by omega
    have hq3 : (1 : Int) ≤ (q13 : Int) := by omega
    clear L0 L1 L2 L3 L4 L5 G0 G1 G2 G3 G4 G5 G6 Y0 Y1 Y2 Y3 Y4 Y5 Y6
    go_wp2
    refine wp_region_held_drew (S := Kept (fun _ => False) w16) (by kernel_rfl) ((Kept.refl _ w16).drew) (fun hSd => ?_)
    refine wpAnyH_ready (rs := [0]) (by kernel_rfl) (by simp) ?_
    refine AllReadyH.cons rfl (fun K hK => ?_) AllReadyH.nil
    go_simp
    refine (HAL.out w16.drew (kA.out.trans (HKA.out _ (HK.out _ (Kept.refl _ w16).drew)))).mono ?_
    rintro e w17 ⟨rfl, hk17⟩
    refine hK.out _ _ ((Kept.refl _ w16).drew.trans hk17) (fun _ => ?_)
    clear hK K
    try simp only [List.getElem_toArray]
    try simp only [List.getElem_cons_succ]
    try simp only [List.getElem_cons_zero]
    try simp only [Act.put]
    try simp only [List.setIfInBounds_toArray]
    try simp only [List.set_cons_succ]
    try simp only [List.set_cons_zero]
    refine wpAnyH_take (i := 1) (v := ?_) rfl (by kernel_rfl) (by kernel_rfl) (by kernel_rfl) (fun _ _ _ h => h) (Or.inl ⟨by kernel_rfl, fun W hSW => by go_simp; try with_reducible rfl⟩) (by assumption) ?_
    try simp only [List.getElem_toArray]
    try simp only [List.getElem_cons_succ]
    try simp only [List.getElem_cons_zero]
    try simp only [Act.put]
    try simp only [List.setIfInBounds_toArray]
    try simp only [List.set_cons_succ]
    try simp only [List.set_cons_zero]
    refine wpAnyH_take (i := 2) (v := ?_) rfl (by kernel_rfl) (by kernel_rfl) (by kernel_rfl) (fun _ _ _ h => h) (Or.inl ⟨by kernel_rfl, fun W hSW => by go_simp; try with_reducible rfl⟩) (by assumption) ?_
    try simp only [List.getElem_toArray]
    try simp only [List.getElem_cons_succ]
    try simp only [List.getElem_cons_zero]
    try simp only [Act.put]
    try simp only [List.setIfInBounds_toArray]
    try simp only [List.set_cons_succ]
    try simp only [List.set_cons_zero]
    refine wpAnyH_take (i := 3) (v := .bool true) rfl (by kernel_rfl) (by kernel_rfl) (by kernel_rfl) (fun _ _ _ h => h) (Or.inl ⟨by kernel_rfl, fun W hSW => by go_simp; try with_reducible rfl⟩) (by assumption) ?_
    try simp only [List.getElem_toArray]
    try simp only [List.getElem_cons_succ]
    try simp only [List.getElem_cons_zero]
    try simp only [Act.put]
    try simp only [List.setIfInBounds_toArray]
    try simp only [List.set_cons_succ]
    try simp only [List.set_cons_zero]
    refine wpAnyH_take (i := 4) (v := .bool true) rfl (by kernel_rfl) (by kernel_rfl) (by kernel_rfl) (fun _ _ _ h => h) (Or.inl ⟨by kernel_rfl, fun W hSW => by go_simp; try with_reducible rfl⟩) (by assumption) ?_
    try simp only [List.getElem_toArray]
    try simp only [List.getElem_cons_succ]
    try simp only [List.getElem_cons_zero]
    try simp only [Act.put]
    try simp only [List.setIfInBounds_toArray]
    try simp only [List.set_cons_succ]
    try simp only [List.set_cons_zero]
    refine wpAnyH_take (i := 5) (v := .bool true) rfl (by kernel_rfl) (by kernel_rfl) (by kernel_rfl) (fun _ _ _ h => h) (Or.inl ⟨by kernel_rfl, fun W hSW => by go_simp; try with_reducible rfl⟩) (by assumption) ?_
    try simp only [List.getElem_toArray]
    try simp only [List.getElem_cons_succ]
    try simp only [List.getElem_cons_zero]
    try simp only [Act.put]
    try simp only [List.setIfInBounds_toArray]
    try simp only [List.set_cons_succ]
    try simp only [List.set_cons_zero]
    refine wpAnyH_take (i := 6) (v := ?_) rfl (by kernel_rfl) (by kernel_rfl) (by kernel_rfl) (fun _ _ _ h => h) (Or.inl ⟨by kernel_rfl, fun W hSW => by go_simp; try with_reducible rfl⟩) (by assumption) ?_
    try simp only [List.getElem_toArray]
    try simp only [List.getElem_cons_succ]
    try simp only [List.getElem_cons_zero]
    try simp only [Act.put]
    try simp only [List.setIfInBounds_toArray]
    try simp only [List.set_cons_succ]
    try simp only [List.set_cons_zero]
    refine wpAnyH_take (i := 7) (v := ?_) rfl (by kernel_rfl) (by kernel_rfl) (by kernel_rfl) (fun _ _ _ h => h) (Or.inl ⟨by kernel_rfl, fun W hSW => by go_simp; try with_reducible rfl⟩) (by assumption) ?_
    try simp only [List.getElem_toArray]
    try simp only [List.getElem_cons_succ]
    try simp only [List.getElem_cons_zero]
    try simp only [Act.put]
    try simp only [List.setIfInBounds_toArray]
    try simp only [List.set_cons_succ]
    try simp only [List.set_cons_zero]
    refine wpAnyH_take (i := 8) (v := .bool true) rfl (by kernel_rfl) (by kernel_rfl) (by kernel_rfl) (fun _ _ _ h => h) (Or.inl ⟨by kernel_rfl, fun W hSW => by go_simp; try with_reducible rfl⟩) (by assumption) ?_
    try simp only [List.getElem_toArray]
    try simp only [List.getElem_cons_succ]
    try simp only [List.getElem_cons_zero]
    try simp only [Act.put]
    try simp only [List.setIfInBounds_toArray]
    try simp only [List.set_cons_succ]
    try simp only [List.set_cons_zero]
    refine wpAnyH_take (i := 9) (v := .bool true) rfl (by kernel_rfl) (by kernel_rfl) (by kernel_rfl) (fun _ _ _ h => h) (Or.inl ⟨by kernel_rfl, fun W hSW => by go_simp; try with_reducible rfl⟩) (by assumption) ?_
    try simp only [List.getElem_toArray]
    try simp only [List.getElem_cons_succ]
    try simp only [List.getElem_cons_zero]
    try simp only [Act.put]
    try simp only [List.setIfInBounds_toArray]
    try simp only [List.set_cons_succ]
    try simp only [List.set_cons_zero]
    refine wpAnyH_take (i := 10) (v := .bool true) rfl (by kernel_rfl) (by kernel_rfl) (by kernel_rfl) (fun _ _ _ h => h) (Or.inl ⟨by kernel_rfl, fun W hSW => by go_simp; try with_reducible rfl⟩) (by assumption) ?_
    try simp only [List.getElem_toArray]
    try simp only [List.getElem_cons_succ]
    try simp only [List.getElem_cons_zero]
    try simp only [Act.put]
    try simp only [List.setIfInBounds_toArray]
    try simp only [List.set_cons_succ]
    try simp only [List.set_cons_zero]
    refine wpAnyH_take (i := 11) (v := ?_) rfl (by kernel_rfl) (by kernel_rfl) (by kernel_rfl) (fun _ _ _ h => h) (Or.inl ⟨by kernel_rfl, fun W hSW => by go_simp; try with_reducible rfl⟩) (by assumption) ?_
    try simp only [List.getElem_toArray]
    try simp only [List.getElem_cons_succ]
    try simp only [List.getElem_cons_zero]
    try simp only [Act.put]
    try simp only [List.setIfInBounds_toArray]
    try simp only [List.set_cons_succ]
    try simp only [List.set_cons_zero]
    refine wpAnyH_take (i := 12) (v := ?_) rfl (by kernel_rfl) (by kernel_rfl) (by kernel_rfl) (fun _ _ _ h => h) (Or.inl ⟨by kernel_rfl, fun W hSW => by go_simp; try with_reducible rfl⟩) (by assumption) ?_
    try simp only [List.getElem_toArray]
    try simp only [List.getElem_cons_succ]
    try simp only [List.getElem_cons_zero]
    try simp only [Act.put]
    try simp only [List.setIfInBounds_toArray]
    try simp only [List.set_cons_succ]
    try simp only [List.set_cons_zero]
    refine wpAnyH_take (i := 13) (v := ?_) rfl (by kernel_rfl) (by kernel_rfl) (by kernel_rfl) (fun _ _ _ h => h) (Or.inl ⟨by kernel_rfl, fun W hSW => by go_simp; try with_reducible rfl⟩) (by assumption) ?_
    try simp only [List.getElem_toArray]
    try simp only [List.getElem_cons_succ]
    try simp only [List.getElem_cons_zero]
    try simp only [Act.put]
    try simp only [List.setIfInBounds_toArray]
    try simp only [List.set_cons_succ]
    try simp only [List.set_cons_zero]
    refine wpAnyH_take (i := 14) (v := ?_) rfl (by kernel_rfl) (by kernel_rfl) (by kernel_rfl) (fun _ _ _ h => h) (Or.inl ⟨by kernel_rfl, fun W hSW => by go_simp; try with_reducible rfl⟩) (by assumption) ?_
    try simp only [List.getElem_toArray]
    try simp only [List.getElem_cons_succ]
    try simp only [List.getElem_cons_zero]
    try simp only [Act.put]
    try simp only [List.setIfInBounds_toArray]
    try simp only [List.set_cons_succ]
    try simp only [List.set_cons_zero]
    refine wpAnyH_take (i := 15) (v := ?_) rfl (by kernel_rfl) (by kernel_rfl) (by kernel_rfl) (fun _ _ _ h => h) (Or.inl ⟨by kernel_rfl, fun W hSW => by go_simp; try with_reducible rfl⟩) (by assumption) ?_
    try simp only [List.getElem_toArray]
    try simp only [List.getElem_cons_succ]
    try simp only [List.getElem_cons_zero]
    try simp only [Act.put]
    try simp only [List.setIfInBounds_toArray]
    try simp only [List.set_cons_succ]
    try simp only [List.set_cons_zero]
    refine wpAnyH_take (i := 16) (v := .bool true) rfl (by kernel_rfl) (by kernel_rfl) (by kernel_rfl) (fun _ _ _ h => h) (Or.inl ⟨by kernel_rfl, fun W hSW => by go_simp; try with_reducible rfl⟩) (by assumption) ?_
    try simp only [List.getElem_toArray]
    try simp only [List.getElem_cons_succ]
    try simp only [List.getElem_cons_zero]
    try simp only [Act.put]
    try simp only [List.setIfInBounds_toArray]
    try simp only [List.set_cons_succ]
    try simp only [List.set_cons_zero]
    refine wpAnyH_take (i := 17) (v := .bool true) rfl (by kernel_rfl) (by kernel_rfl) (by kernel_rfl) (fun _ _ _ h => h) (Or.inl ⟨by kernel_rfl, fun W hSW => by go_simp; try with_reducible rfl⟩) (by assumption) ?_
    try simp only [List.getElem_toArray]
    try simp only [List.getElem_cons_succ]
    try simp only [List.getElem_cons_zero]
    try simp only [Act.put]
    try simp only [List.setIfInBounds_toArray]
    try simp only [List.set_cons_succ]
    try simp only [List.set_cons_zero]
    refine wpAnyH_take (i := 18) (v := .bool true) rfl (by kernel_rfl) (by kernel_rfl) (by kernel_rfl) (fun _ _ _ h => h) (Or.inl ⟨by kernel_rfl, fun W hSW => by go_simp; try with_reducible rfl⟩) (by assumption) ?_
    try simp only [List.getElem_toArray]
    try simp only [List.getElem_cons_succ]
    try simp only [List.getElem_cons_zero]
    try simp only [Act.put]
    try simp only [List.setIfInBounds_toArray]
    try simp only [List.set_cons_succ]
    try simp only [List.set_cons_zero]
    refine wpAnyH_take (i := 19) (v := ?_) rfl (by kernel_rfl) (by kernel_rfl) (by kernel_rfl) (fun _ _ _ h => h) (Or.inl ⟨by kernel_rfl, fun W hSW => by go_simp; try with_reducible rfl⟩) (by assumption) ?_
    try simp only [List.getElem_toArray]
    try simp only [List.getElem_cons_succ]
    try simp only [List.getElem_cons_zero]
    try simp only [Act.put]
    try simp only [List.setIfInBounds_toArray]
    try simp only [List.set_cons_succ]
    try simp only [List.set_cons_zero]
    refine wpAnyH_take (i := 20) (v := ?_) rfl (by kernel_rfl) (by kernel_rfl) (by kernel_rfl) (fun _ _ _ h => h) (Or.inl ⟨by kernel_rfl, fun W hSW => by go_simp; try with_reducible rfl⟩) (by assumption) ?_
    try simp only [List.getElem_toArray]
    try simp only [List.getElem_cons_succ]
    try simp only [List.getElem_cons_zero]
    try simp only [Act.put]
    try simp only [List.setIfInBounds_toArray]
    try simp only [List.set_cons_succ]
    try simp only [List.set_cons_zero]
    refine wpAnyH_take (i := 21) (v := .bool true) rfl (by kernel_rfl) (by kernel_rfl) (by kernel_rfl) (fun _ _ _ h => h) (Or.inl ⟨by kernel_rfl, fun W hSW => by go_simp; try with_reducible rfl⟩) (by assumption) ?_
    try simp only [List.getElem_toArray]
    try simp only [List.getElem_cons_succ]
    try simp only [List.getElem_cons_zero]
    try simp only [Act.put]
    try simp only [List.setIfInBounds_toArray]
    try simp only [List.set_cons_succ]
    try simp only [List.set_cons_zero]
    refine wpAnyH_take (i := 22) (v := .bool true) rfl (by kernel_rfl) (by kernel_rfl) (by kernel_rfl) (fun _ _ _ h => h) (Or.inl ⟨by kernel_rfl, fun W hSW => by go_simp; try with_reducible rfl⟩) (by assumption) ?_
    try simp only [List.getElem_toArray]
    try simp only [List.getElem_cons_succ]
    try simp only [List.getElem_cons_zero]
    try simp only [Act.put]
    try simp only [List.setIfInBounds_toArray]
    try simp only [List.set_cons_succ]
    try simp only [List.set_cons_zero]
    refine wpAnyH_take (i := 23) (v := .bool true) rfl (by kernel_rfl) (by kernel_rfl) (by kernel_rfl) (fun _ _ _ h => h) (Or.inl ⟨by kernel_rfl, fun W hSW => by go_simp; try with_reducible rfl⟩) (by assumption) ?_
    try simp only [List.getElem_toArray]
    try simp only [List.getElem_cons_succ]
    try simp only [List.getElem_cons_zero]
    try simp only [Act.put]
    try simp only [List.setIfInBounds_toArray]
    try simp only [List.set_cons_succ]
    try simp only [List.set_cons_zero]
    refine wpAnyH_take (i := 24) (v := ?_) rfl (by kernel_rfl) (by kernel_rfl) (by kernel_rfl) (fun _ _ _ h => h) (Or.inl ⟨by kernel_rfl, fun W hSW => by go_simp; try with_reducible rfl⟩) (by assumption) ?_
    try simp only [List.getElem_toArray]
    try simp only [List.getElem_cons_succ]
    try simp only [List.getElem_cons_zero]
    try simp only [Act.put]
    try simp only [List.setIfInBounds_toArray]
    try simp only [List.set_cons_succ]
    try simp only [List.set_cons_zero]
    refine wpAnyH_take (i := 25) (v := ?_) rfl (by kernel_rfl) (by kernel_rfl) (by kernel_rfl) (fun _ _ _ h => h) (Or.inl ⟨by kernel_rfl, fun W hSW => by go_simp; try with_reducible rfl⟩) (by assumption) ?_
    try simp only [List.getElem_toArray]
    try simp only [List.getElem_cons_succ]
    try simp only [List.getElem_cons_zero]
    try simp only [Act.put]
    try simp only [List.setIfInBounds_toArray]
    try simp only [List.set_cons_succ]
    try simp only [List.set_cons_zero]
    refine wpAnyH_take (i := 26) (v := ?_) rfl (by kernel_rfl) (by kernel_rfl) (by kernel_rfl) (fun _ _ _ h => h) (Or.inl ⟨by kernel_rfl, fun W hSW => by go_simp; try with_reducible rfl⟩) (by assumption) ?_
    try simp only [List.getElem_toArray]
    try simp only [List.getElem_cons_succ]
    try simp only [List.getElem_cons_zero]
    try simp only [Act.put]
    try simp only [List.setIfInBounds_toArray]
    try simp only [List.set_cons_succ]
    try simp only [List.set_cons_zero]
    refine wpAnyH_take (i := 27) (v := ?_) rfl (by kernel_rfl) (by kernel_rfl) (by kernel_rfl) (fun _ _ _ h => h) (Or.inl ⟨by kernel_rfl, fun W hSW => by go_simp; try with_reducible rfl⟩) (by assumption) ?_
    try simp only [List.getElem_toArray]
    try simp only [List.getElem_cons_succ]
    try simp only [List.getElem_cons_zero]
    try simp only [Act.put]
    try simp only [List.setIfInBounds_toArray]
    try simp only [List.set_cons_succ]
    try simp only [List.set_cons_zero]
    refine wpAnyH_take (i := 28) (v := .bool true) rfl (by kernel_rfl) (by kernel_rfl) (by kernel_rfl) (fun _ _ _ h => h) (Or.inl ⟨by kernel_rfl, fun W hSW => by go_simp; try with_reducible rfl⟩) (by assumption) ?_
    try simp only [List.getElem_toArray]
    try simp only [List.getElem_cons_succ]
    try simp only [List.getElem_cons_zero]
    try simp only [Act.put]
    try simp only [List.setIfInBounds_toArray]
    try simp only [List.set_cons_succ]
    try simp only [List.set_cons_zero]
    refine wpAnyH_take (i := 29) (v := .bool true) rfl (by kernel_rfl) (by kernel_rfl) (by kernel_rfl) (fun _ _ _ h => h) (Or.inl ⟨by kernel_rfl, fun W hSW => by go_simp; try with_reducible rfl⟩) (by assumption) ?_
    try simp only [List.getElem_toArray]
    try simp only [List.getElem_cons_succ]
    try simp only [List.getElem_cons_zero]
    try simp only [Act.put]
    try simp only [List.setIfInBounds_toArray]
    try simp only [List.set_cons_succ]
    try simp only [List.set_cons_zero]
    refine wpAnyH_take (i := 30) (v := .bool true) rfl (by kernel_rfl) (by kernel_rfl) (by kernel_rfl) (fun _ _ _ h => h) (Or.inl ⟨by kernel_rfl, fun W hSW => by go_simp; try with_reducible rfl⟩) (by assumption) ?_
    try simp only [List.getElem_toArray]
    try simp only [List.getElem_cons_succ]
    try simp only [List.getElem_cons_zero]
    try simp only [Act.put]
    try simp only [List.setIfInBounds_toArray]
    try simp only [List.set_cons_succ]
    try simp only [List.set_cons_zero]
    refine wpAnyH_take (i := 31) (v := ?_) rfl (by kernel_rfl) (by kernel_rfl) (by kernel_rfl) (fun _ _ _ h => h) (Or.inl ⟨by kernel_rfl, fun W hSW => by go_simp; try with_reducible rfl⟩) (by assumption) ?_
    try simp only [List.getElem_toArray]
    try simp only [List.getElem_cons_succ]
    try simp only [List.getElem_cons_zero]
    try simp only [Act.put]
    try simp only [List.setIfInBounds_toArray]
    try simp only [List.set_cons_succ]
    try simp only [List.set_cons_zero]
    refine wpAnyH_take (i := 32) (v := ?_) rfl (by kernel_rfl) (by kernel_rfl) (by kernel_rfl) (fun _ _ _ h => h) (Or.inl ⟨by kernel_rfl, fun W hSW => by go_simp; try with_reducible rfl⟩) (by assumption) ?_
    try simp only [List.getElem_toArray]
    try simp only [List.getElem_cons_succ]
    try simp only [List.getElem_cons_zero]
    try simp only [Act.put]
    try simp only [List.setIfInBounds_toArray]
    try simp only [List.set_cons_succ]
    try simp only [List.set_cons_zero]
    refine wpAnyH_take (i := 33) (v := .bool true) rfl (by kernel_rfl) (by kernel_rfl) (by kernel_rfl) (fun _ _ _ h => h) (Or.inl ⟨by kernel_rfl, fun W hSW => by go_simp; try with_reducible rfl⟩) (by assumption) ?_
    try simp only [List.getElem_toArray]
    try simp only [List.getElem_cons_succ]
    try simp only [List.getElem_cons_zero]
    try simp only [Act.put]
    try simp only [List.setIfInBounds_toArray]
    try simp only [List.set_cons_succ]
    try simp only [List.set_cons_zero]
    refine wpAnyH_take (i := 34) (v := .bool true) rfl (by kernel_rfl) (by kernel_rfl) (by kernel_rfl) (fun _ _ _ h => h) (Or.inl ⟨by kernel_rfl, fun W hSW => by go_simp; try with_reducible rfl⟩) (by assumption) ?_
    try simp only [List.getElem_toArray]
    try simp only [List.getElem_cons_succ]
    try simp only [List.getElem_cons_zero]
    try simp only [Act.put]
    try simp only [List.setIfInBounds_toArray]
    try simp only [List.set_cons_succ]
    try simp only [List.set_cons_zero]
    refine wpAnyH_take (i := 35) rfl (by kernel_rfl) (by kernel_rfl) (by kernel_rfl) (fun _ _ _ h => h) (Or.inr ⟨by kernel_rfl, rfl⟩) (by assumption) ?_
    try simp only [List.getElem_toArray]
    try simp only [List.getElem_cons_succ]
    try simp only [List.getElem_cons_zero]
    try simp only [Act.put]
    try simp only [List.setIfInBounds_toArray]
    try simp only [List.set_cons_succ]
    try simp only [List.set_cons_zero]
    refine wpAnyH_take (i := 36) rfl (by kernel_rfl) (by kernel_rfl) (by kernel_rfl) (fun _ _ _ h => h) (Or.inr ⟨by kernel_rfl, rfl⟩) (by assumption) ?_
    try simp only [List.getElem_toArray]
    try simp only [List.getElem_cons_succ]
    try simp only [List.getElem_cons_zero]
    try simp only [Act.put]
    try simp only [List.setIfInBounds_toArray]
    try simp only [List.set_cons_succ]
    try simp only [List.set_cons_zero]
    refine wpAnyH_take (i := 37) rfl (by kernel_rfl) (by kernel_rfl) (by kernel_rfl) (fun _ _ _ h => h) (Or.inr ⟨by kernel_rfl, rfl⟩) (by assumption) ?_
    try simp only [List.getElem_toArray]
    try simp only [List.getElem_cons_succ]
    try simp only [List.getElem_cons_zero]
    try simp only [Act.put]
    try simp only [List.setIfInBounds_toArray]
    try simp only [List.set_cons_succ]
    try simp only [List.set_cons_zero]
    refine wpAnyH_take (i := 38) rfl (by kernel_rfl) (by kernel_rfl) (by kernel_rfl) (fun _ _ _ h => h) (Or.inr ⟨by kernel_rfl, rfl⟩) (by assumption) ?_
    try simp only [List.getElem_toArray]
    try simp only [List.getElem_cons_succ]
    try simp only [List.getElem_cons_zero]
    try simp only [Act.put]
    try simp only [List.setIfInBounds_toArray]
    try simp only [List.set_cons_succ]
    try simp only [List.set_cons_zero]
    refine wpAnyH_take (i := 39) rfl (by kernel_rfl) (by kernel_rfl) (by kernel_rfl) (fun _ _ _ h => h) (Or.inr ⟨by kernel_rfl, rfl⟩) (by assumption) ?_
    try simp only [List.getElem_toArray]
    try simp only [List.getElem_cons_succ]
    try simp only [List.getElem_cons_zero]
    try simp only [Act.put]
    try simp only [List.setIfInBounds_toArray]
    try simp only [List.set_cons_succ]
    try simp only [List.set_cons_zero]
    refine wpAnyH_take (i := 40) rfl (by kernel_rfl) (by kernel_rfl) (by kernel_rfl) (fun _ _ _ h => h) (Or.inr ⟨by kernel_rfl, rfl⟩) (by assumption) ?_
    try simp only [List.getElem_toArray]
    try simp only [List.getElem_cons_succ]
    try simp only [List.getElem_cons_zero]
    try simp only [Act.put]
    try simp only [List.setIfInBounds_toArray]
    try simp only [List.set_cons_succ]
    try simp only [List.set_cons_zero]
    refine wpAnyH_take (i := 41) rfl (by kernel_rfl) (by kernel_rfl) (by kernel_rfl) (fun _ _ _ h => h) (Or.inr ⟨by kernel_rfl, rfl⟩) (by assumption) ?_
    try simp only [List.getElem_toArray]
    try simp only [List.getElem_cons_succ]
    try simp only [List.getElem_cons_zero]
    try simp only [Act.put]
    try simp only [List.setIfInBounds_toArray]
    try simp only [List.set_cons_succ]
    try simp only [List.set_cons_zero]
    refine wpAnyH_take (i := 42) rfl (by kernel_rfl) (by kernel_rfl) (by kernel_rfl) (fun _ _ _ h => h) (Or.inr ⟨by kernel_rfl, rfl⟩) (by assumption) ?_
    try simp only [List.getElem_toArray]
    try simp only [List.getElem_cons_succ]
    try simp only [List.getElem_cons_zero]
    try simp only [Act.put]
    try simp only [List.setIfInBounds_toArray]
    try simp only [List.set_cons_succ]
    try simp only [List.set_cons_zero]
    refine wpAnyH_take (i := 43) rfl (by kernel_rfl) (by kernel_rfl) (by kernel_rfl) (fun _ _ _ h => h) (Or.inr ⟨by kernel_rfl, rfl⟩) (by assumption) ?_
    try simp only [List.getElem_toArray]
    try simp only [List.getElem_cons_succ]
    try simp only [List.getElem_cons_zero]
    try simp only [Act.put]
    try simp only [List.setIfInBounds_toArray]
    try simp only [List.set_cons_succ]
    try simp only [List.set_cons_zero]
    refine wpAnyH_take (i := 44) rfl (by kernel_rfl) (by kernel_rfl) (by kernel_rfl) (fun _ _ _ h => h) (Or.inr ⟨by kernel_rfl, rfl⟩) (by assumption) ?_
    try simp only [List.getElem_toArray]
    try simp only [List.getElem_cons_succ]
    try simp only [List.getElem_cons_zero]
    try simp only [Act.put]
    try simp only [List.setIfInBounds_toArray]
    try simp only [List.set_cons_succ]
    try simp only [List.set_cons_zero]
    refine wpAnyH_take (i := 45) rfl (by kernel_rfl) (by kernel_rfl) (by kernel_rfl) (fun _ _ _ h => h) (Or.inr ⟨by kernel_rfl, rfl⟩) (by assumption) ?_
    try simp only [List.getElem_toArray]
    try simp only [List.getElem_cons_succ]
    try simp only [List.getElem_cons_zero]
    try simp only [Act.put]
    try simp only [List.setIfInBounds_toArray]
    try simp only [List.set_cons_succ]
    try simp only [List.set_cons_zero]
    refine wpAnyH_take (i := 46) rfl (by kernel_rfl) (by kernel_rfl) (by kernel_rfl) (fun _ _ _ h => h) (Or.inr ⟨by kernel_rfl, rfl⟩) (by assumption) ?_
    try simp only [List.getElem_toArray]
    try simp only [List.getElem_cons_succ]
    try simp only [List.getElem_cons_zero]
    try simp only [Act.put]
    try simp only [List.setIfInBounds_toArray]
    try simp only [List.set_cons_succ]
    try simp only [List.set_cons_zero]
    refine wpAnyH_take (i := 47) rfl (by kernel_rfl) (by kernel_rfl) (by kernel_rfl) (fun _ _ _ h => h) (Or.inr ⟨by kernel_rfl, rfl⟩) (by assumption) ?_
    try simp only [List.getElem_toArray]
    try simp only [List.getElem_cons_succ]
    try simp only [List.getElem_cons_zero]
    try simp only [Act.put]
    try simp only [List.setIfInBounds_toArray]
    try simp only [List.set_cons_succ]
    try simp only [List.set_cons_zero]
    refine wpAnyH_take (i := 48) rfl (by kernel_rfl) (by kernel_rfl) (by kernel_rfl) (fun _ _ _ h => h) (Or.inr ⟨by kernel_rfl, rfl⟩) (by assumption) ?_
    try simp only [List.getElem_toArray]
    try simp only [List.getElem_cons_succ]
    try simp only [List.getElem_cons_zero]
    try simp only [Act.put]
    try simp only [List.setIfInBounds_toArray]
    try simp only [List.set_cons_succ]
    try simp only [List.set_cons_zero]
    refine wpAnyH_take (i := 49) rfl (by kernel_rfl) (by kernel_rfl) (by kernel_rfl) (fun _ _ _ h => h) (Or.inr ⟨by kernel_rfl, rfl⟩) (by assumption) ?_
    try simp only [List.getElem_toArray]
    try simp only [List.getElem_cons_succ]
    try simp only [List.getElem_cons_zero]
    try simp only [Act.put]
    try simp only [List.setIfInBounds_toArray]
    try simp only [List.set_cons_succ]
    try simp only [List.set_cons_zero]
    refine wpAnyH_take (i := 50) rfl (by kernel_rfl) (by kernel_rfl) (by kernel_rfl) (fun _ _ _ h => h) (Or.inr ⟨by kernel_rfl, rfl⟩) (by assumption) ?_
    try simp only [List.getElem_toArray]
    try simp only [List.getElem_cons_succ]
    try simp only [List.getElem_cons_zero]
    try simp only [Act.put]
    try simp only [List.setIfInBounds_toArray]
    try simp only [List.set_cons_succ]
    try simp only [List.set_cons_zero]
    refine wpAnyH_take (i := 51) rfl (by kernel_rfl) (by kernel_rfl) (by kernel_rfl) (fun _ _ _ h => h) (Or.inr ⟨by kernel_rfl, rfl⟩) (by assumption) ?_
    try simp only [List.getElem_toArray]
    try simp only [List.getElem_cons_succ]
    try simp only [List.getElem_cons_zero]
    try simp only [Act.put]
    try simp only [List.setIfInBounds_toArray]
    try simp only [List.set_cons_succ]
    try simp only [List.set_cons_zero]
    refine wpAnyH_take (i := 52) rfl (by kernel_rfl) (by kernel_rfl) (by kernel_rfl) (fun _ _ _ h => h) (Or.inr ⟨by kernel_rfl, rfl⟩) (by assumption) ?_
    try simp only [List.getElem_toArray]
    try simp only [List.getElem_cons_succ]
    try simp only [List.getElem_cons_zero]
    try simp only [Act.put]
    try simp only [List.setIfInBounds_toArray]
    try simp only [List.set_cons_succ]
    try simp only [List.set_cons_zero]
    refine wpAnyH_take (i := 53) rfl (by kernel_rfl) (by kernel_rfl) (by kernel_rfl) (fun _ _ _ h => h) (Or.inr ⟨by kernel_rfl, rfl⟩) (by assumption) ?_
    try simp only [List.getElem_toArray]
    try simp only [List.getElem_cons_succ]
    try simp only [List.getElem_cons_zero]
    try simp only [Act.put]
    try simp only [List.setIfInBounds_toArray]
    try simp only [List.set_cons_succ]
    try simp only [List.set_cons_zero]
    refine wpAnyH_take (i := 54) rfl (by kernel_rfl) (by kernel_rfl) (by kernel_rfl) (fun _ _ _ h => h) (Or.inr ⟨by kernel_rfl, rfl⟩) (by assumption) ?_
    try simp only [List.getElem_toArray]
    try simp only [List.getElem_cons_succ]
    try simp only [List.getElem_cons_zero]
    try simp only [Act.put]
    try simp only [List.setIfInBounds_toArray]
    try simp only [List.set_cons_succ]
    try simp only [List.set_cons_zero]
    refine wpAnyH_take (i := 55) (v := .bool true) rfl (by kernel_rfl) (by kernel_rfl) (by kernel_rfl) (fun _ _ _ h => h) (Or.inl ⟨by kernel_rfl, fun W hSW => by go_simp; try with_reducible rfl⟩) (by assumption) ?_
    try simp only [List.getElem_toArray]
    try simp only [List.getElem_cons_succ]
    try simp only [List.getElem_cons_zero]
    try simp only [Act.put]
    try simp only [List.setIfInBounds_toArray]
    try simp only [List.set_cons_succ]
    try simp only [List.set_cons_zero]
    refine wpAnyH_take (i := 56) (v := .bool true) rfl (by kernel_rfl) (by kernel_rfl) (by kernel_rfl) (fun _ _ _ h => h) (Or.inl ⟨by kernel_rfl, fun W hSW => by go_simp; try with_reducible rfl⟩) (by assumption) ?_
    try simp only [List.getElem_toArray]
    try simp only [List.getElem_cons_succ]
    try simp only [List.getElem_cons_zero]
    try simp only [Act.put]
    try simp only [List.setIfInBounds_toArray]
    try simp only [List.set_cons_succ]
    try simp only [List.set_cons_zero]
    refine wpAnyH_take (i := 57) (v := ?_) rfl (by kernel_rfl) (by kernel_rfl) (by kernel_rfl) (fun _ _ _ h => h) (Or.inl ⟨by kernel_rfl, fun W hSW => by go_simp; try with_reducible rfl⟩) (by assumption) ?_
    try simp only [List.getElem_toArray]
    try simp only [List.getElem_cons_succ]
    try simp only [List.getElem_cons_zero]
    try simp only [Act.put]
    try simp only [List.setIfInBounds_toArray]
    try simp only [List.set_cons_succ]
    try simp only [List.set_cons_zero]
    refine wpAnyH_done (by kernel_rfl) ?_ _
    have Kf := hid (kA.out.trans (HKA.out _ (HK.out _ ((Kept.refl _ w16).drew.trans hk17))))
    go_wp2
    go_ret
    exact ⟨rfl, Kf.out⟩
  · rw [decide_eq_false hom] at hOM
    go_wp2_with fail
    refine (HT2.out hom B S13 w14 HA14.out (HTA.out.kept KA14.out)).mono ?_
    rintro e w15 ⟨v15, f15, rfl, _, _, hn15⟩
    obtain ⟨S15, hA15, hS15, hk15⟩ := hn15
    have HA15 := hid hA15
    have K15 := hid (K14.out.trans hk15)
    clear hA15 hS15 hk15
    go_wp2_with fail
    refine (HL6.out B S15 w15 HA15.out).mono ?_
    rintro e w16 ⟨v16, L16, rfl, hp16, hso16, ha16, hk16⟩
    obtain rfl : L16 = [⟨h, 2, uB, false⟩, ⟨o, 3, uB, false⟩] := by
      match L16, hp16.length_eq, hp16, hso16 with
      | [p, q], _, hp5, hso5 =>
        have hpm : p ∈ [(⟨h, 2, uB, false⟩ : Sn), ⟨o, 3, uB, false⟩] := hp5.mem_iff.1 (by simp)
        have hle : p.num ≤ q.num := by simpa [SortedNum] using hso5
        simp only [List.mem_cons, List.not_mem_nil, or_false] at hpm
        rcases hpm with rfl | rfl
        · have h2 := hp5.cons_inv
          rw [List.perm_singleton.1 h2]
        · have h2 : [q].Perm [(⟨h, 2, uB, false⟩ : Sn)] := (hp5.trans (List.Perm.swap _ _ _)).cons_inv
          have hq : q = ⟨h, 2, uB, false⟩ := by simpa using List.perm_singleton.1 h2
          rw [hq] at hle
          simp at hle
    rcases ha16 with ⟨h00, _⟩ | ⟨g16, q16, rfl, hq16, hcl⟩
    · cases h00
    have hqq : (2 : Int) ≤ (q16 : Int) := by
      have h1q : 2 ≤ q16 := hq16
      omega
    have V9 : ∀ W, Kept (fun _ => False) w16 W → W.cell? ⟨g16, 9, none⟩ = some (.int .u8 o0) := fun W hk => by
      have h := hcl 1 _ rfl 0 (.int .u8 o0) (by unfold snCells; rw [fit6_self hol, eo]; rfl)
      exact (hk.cell (lt_of_cell h) id).trans h
    have V10 : ∀ W, Kept (fun _ => False) w16 W → W.cell? ⟨g16, 10, none⟩ = some (.int .u8 o1) := fun W hk => by
      have h := hcl 1 _ rfl 1 (.int .u8 o1) (by unfold snCells; rw [fit6_self hol, eo]; rfl)
      exact (hk.cell (lt_of_cell h) id).trans h
    have V11 : ∀ W, Kept (fun _ => False) w16 W → W.cell? ⟨g16, 11, none⟩ = some (.int .u8 o2) := fun W hk => by
      have h := hcl 1 _ rfl 2 (.int .u8 o2) (by unfold snCells; rw [fit6_self hol, eo]; rfl)
      exact (hk.cell (lt_of_cell h) id).trans h
    have V12 : ∀ W, Kept (fun _ => False) w16 W → W.cell? ⟨g16, 12, none⟩ = some (.int .u8 o3) := fun W hk => by
      have h := hcl 1 _ rfl 3 (.int .u8 o3) (by unfold snCells; rw [fit6_self hol, eo]; rfl)
      exact (hk.cell (lt_of_cell h) id).trans h
    have V13 : ∀ W, Kept (fun _ => False) w16 W → W.cell? ⟨g16, 13, none⟩ = some (.int .u8 o4) := fun W hk => by
      have h := hcl 1 _ rfl 4 (.int .u8 o4) (by unfold snCells; rw [fit6_self hol, eo]; rfl)
      exact (hk.cell (lt_of_cell h) id).trans h
    have V14 : ∀ W, Kept (fun _ => False) w16 W → W.cell? ⟨g16, 14, none⟩ = some (.int .u8 o5) := fun W hk => by
      have h := hcl 1 _ rfl 5 (.int .u8 o5) (by unfold snCells; rw [fit6_self hol, eo]; rfl)
      exact (hk.cell (lt_of_cell h) id).trans h
    have V15 : ∀ W, Kept (fun _ => False) w16 W → W.cell? ⟨g16, 15, none⟩ = some (.int .i64 3) := fun W hk => by
      have h := hcl 1 _ rfl 6 (.int .i64 3) (by unfold snCells; rw [fit6_self hol, eo]; rfl)
      exact (hk.cell (lt_of_cell h) id).trans h
    have K16 := hid (K15.out.trans (hk16.mono (T := S13) (fun _ _ h => h.elim)))
    clear hcl hk16 hp16 hso16
    obtain ⟨L0, L1, L2, L3, L4, L5⟩ := Lz.out
    obtain ⟨G0, G1, G2, G3, G4, G5, G6⟩ := Gz.out
    obtain ⟨Y0, Y1, Y2, Y3, Y4, Y5, Y6⟩ := Yz.out
    have HK := hid (fun W (hk : Kept (fun _ => False) w16 W) => K16.out.trans (hk.mono (T := S13) (fun _ _ h => h.elim)))
    have Lx0 : ∀ W, Kept (fun _ => False) w16 W → W.cell? ⟨g12, 0, none⟩ = some (.int .u8 h0) := fun W hk => L0 W (HK.out W hk)
    have Lx1 : ∀ W, Kept (fun _ => False) w16 W → W.cell? ⟨g12, 1, none⟩ = some (.int .u8 h1) := fun W hk => L1 W (HK.out W hk)
    have Lx2 : ∀ W, Kept (fun _ => False) w16 W → W.cell? ⟨g12, 2, none⟩ = some (.int .u8 h2) := fun W hk => L2 W (HK.out W hk)
    have Lx3 : ∀ W, Kept (fun _ => False) w16 W → W.cell? ⟨g12, 3, none⟩ = some (.int .u8 h3) := fun W hk => L3 W (HK.out W hk)
    have Lx4 : ∀ W, Kept (fun _ => False) w16 W → W.cell? ⟨g12, 4, none⟩ = some (.int .u8 h4) := fun W hk => L4 W (HK.out W hk)
    have Lx5 : ∀ W, Kept (fun _ => False) w16 W → W.cell? ⟨g12, 5, none⟩ = some (.int .u8 h5) := fun W hk => L5 W (HK.out W hk)
    have Gx0 : ∀ W, Kept (fun _ => False) w16 W → W.cell? ⟨g13, 0, none⟩ = some (.int .u8 h0) := fun W hk => G0 W (HK.out W hk)
    have Gx1 : ∀ W, Kept (fun _ => False) w16 W → W.cell? ⟨g13, 1, none⟩ = some (.int .u8 h1) := fun W hk => G1 W (HK.out W hk)
    have Gx2 : ∀ W, Kept (fun _ => False) w16 W → W.cell? ⟨g13, 2, none⟩ = some (.int .u8 h2) := fun W hk => G2 W (HK.out W hk)
    have Gx3 : ∀ W, Kept (fun _ => False) w16 W → W.cell? ⟨g13, 3, none⟩ = some (.int .u8 h3) := fun W hk => G3 W (HK.out W hk)
    have Gx4 : ∀ W, Kept (fun _ => False) w16 W → W.cell? ⟨g13, 4, none⟩ = some (.int .u8 h4) := fun W hk => G4 W (HK.out W hk)
    have Gx5 : ∀ W, Kept (fun _ => False) w16 W → W.cell? ⟨g13, 5, none⟩ = some (.int .u8 h5) := fun W hk => G5 W (HK.out W hk)
    have Gx6 : ∀ W, Kept (fun _ => False) w16 W → W.cell? ⟨g13, 6, none⟩ = some (.int .i64 1) := fun W hk => G6 W (HK.out W hk)
    have Yx0 : ∀ W, Kept (fun _ => False) w16 W → W.cell? ⟨w5.heap.size, 0, none⟩ = some (.int .u8 h0) := fun W hk => Y0 W (HK.out W hk)
    have Yx1 : ∀ W, Kept (fun _ => False) w16 W → W.cell? ⟨w5.heap.size, 1, none⟩ = some (.int .u8 h1) := fun W hk => Y1 W (HK.out W hk)
    have Yx2 : ∀ W, Kept (fun _ => False) w16 W → W.cell? ⟨w5.heap.size, 2, none⟩ = some (.int .u8 h2) := fun W hk => Y2 W (HK.out W hk)
    have Yx3 : ∀ W, Kept (fun _ => False) w16 W → W.cell? ⟨w5.heap.size, 3, none⟩ = some (.int .u8 h3) := fun W hk => Y3 W (HK.out W hk)
    have Yx4 : ∀ W, Kept (fun _ => False) w16 W → W.cell? ⟨w5.heap.size, 4, none⟩ = some (.int .u8 h4) := fun W hk => Y4 W (HK.out W hk)
    have Yx5 : ∀ W, Kept (fun _ => False) w16 W → W.cell? ⟨w5.heap.size, 5, none⟩ = some (.int .u8 h5) := fun W hk => Y5 W (HK.out W hk)
    have Yx6 : ∀ W, Kept (fun _ => False) w16 W → W.cell? ⟨w5.heap.size, 6, none⟩ = some (.int .i64 1) := fun W hk => Y6 W (HK.out W hk)
    have BHx0 : ∀ W, Kept (fun _ => False) w16 W → W.cell? ⟨w.heap.size, 0, none⟩ = some (.int .u8 h0) := fun W hk => (BH.out.kept (HKA.out W (HK.out W hk))).c0
    have BHx1 : ∀ W, Kept (fun _ => False) w16 W → W.cell? ⟨w.heap.size, 1, none⟩ = some (.int .u8 h1) := fun W hk => (BH.out.kept (HKA.out W (HK.out W hk))).c1
    have BHx2 : ∀ W, Kept (fun _ => False) w16 W → W.cell? ⟨w.heap.size, 2, none⟩ = some (.int .u8 h2) := fun W hk => (BH.out.kept (HKA.out W (HK.out W hk))).c2
    have BHx3 : ∀ W, Kept (fun _ => False) w16 W → W.cell? ⟨w.heap.size, 3, none⟩ = some (.int .u8 h3) := fun W hk => (BH.out.kept (HKA.out W (HK.out W hk))).c3
    have BHx4 : ∀ W, Kept (fun _ => False) w16 W → W.cell? ⟨w.heap.size, 4, none⟩ = some (.int .u8 h4) := fun W hk => (BH.out.kept (HKA.out W (HK.out W hk))).c4
    have BHx5 : ∀ W, Kept (fun _ => False) w16 W → W.cell? ⟨w.heap.size, 5, none⟩ = some (.int .u8 h5) := fun W hk => (BH.out.kept (HKA.out W (HK.out W hk))).c5
    have BOx0 : ∀ W, Kept (fun _ => False) w16 W → W.cell? ⟨w.heap.size + 1, 0, none⟩ = some (.int .u8 o0) := fun W hk => (BO.out.kept (HKA.out W (HK.out W hk))).c0
    have BOx1 : ∀ W, Kept (fun _ => False) w16 W → W.cell? ⟨w.heap.size + 1, 1, none⟩ = some (.int .u8 o1) := fun W hk => (BO.out.kept (HKA.out W (HK.out W hk))).c1
    have BOx2 : ∀ W, Kept (fun _ => False) w16 W → W.cell? ⟨w.heap.size + 1, 2, none⟩ = some (.int .u8 o2) := fun W hk => (BO.out.kept (HKA.out W (HK.out W hk))).c2
    have BOx3 : ∀ W, Kept (fun _ => False) w16 W → W.cell? ⟨w.heap.size + 1, 3, none⟩ = some (.int .u8 o3) := fun W hk => (BO.out.kept (HKA.out W (HK.out W hk))).c3
    have BOx4 : ∀ W, Kept (fun _ => False) w16 W → W.cell? ⟨w.heap.size + 1, 4, none⟩ = some (.int .u8 o4) := fun W hk => (BO.out.kept (HKA.out W (HK.out W hk))).c4
    have BOx5 : ∀ W, Kept (fun _ => False) w16 W → W.cell? ⟨w.heap.size + 1, 5, none⟩ = some (.int .u8 o5) := fun W hk => (BO.out.kept (HKA.out W (HK.out W hk))).c5
    have BMx0 : ∀ W, Kept (fun _ => False) w16 W → W.cell? ⟨w.heap.size + 1 + 1, 0, none⟩ = some (.int .u8 9) := fun W hk => (BM.out.kept (HKA.out W (HK.out W hk))).c0
    have BMx1 : ∀ W, Kept (fun _ => False) w16 W → W.cell? ⟨w.heap.size + 1 + 1, 1, none⟩ = some (.int .u8 0) := fun W hk => (BM.out.kept (HKA.out W (HK.out W hk))).c1
    have BMx2 : ∀ W, Kept (fun _ => False) w16 W → W.cell? ⟨w.heap.size + 1 + 1, 2, none⟩ = some (.int .u8 0) := fun W hk => (BM.out.kept (HKA.out W (HK.out W hk))).c2
    have BMx3 : ∀ W, Kept (fun _ => False) w16 W → W.cell? ⟨w.heap.size + 1 + 1, 3, none⟩ = some (.int .u8 0) := fun W hk => (BM.out.kept (HKA.out W (HK.out W hk))).c3
    have BMx4 : ∀ W, Kept (fun _ => False) w16 W → W.cell? ⟨w.heap.size + 1 + 1, 4, none⟩ = some (.int .u8 0) := fun W hk => (BM.out.kept (HKA.out W (HK.out W hk))).c4
    have BMx5 : ∀ W, Kept (fun _ => False) w16 W → W.cell? ⟨w.heap.size + 1 + 1, 5, none⟩ = some (.int .u8 0) := fun W hk => (BM.out.kept (HKA.out W (HK.out W hk))).c5
    have hq1 : (1 : Int) ≤ (q12 : Int) := by omega
    have hq3 : (1 : Int) ≤ (q13 : Int) := by omega
    clear L0 L1 L2 L3 L4 L5 G0 G1 G2 G3 G4 G5 G6 Y0 Y1 Y2 Y3 Y4 Y5 Y6
    go_wp2
    refine wp_region_held_drew (S := Kept (fun _ => False) w16) (by kernel_rfl) ((Kept.refl _ w16).drew) (fun hSd => ?_)
    refine wpAnyH_ready (rs := [0]) (by kernel_rfl) (by simp) ?_
    refine AllReadyH.cons rfl (fun K hK => ?_) AllReadyH.nil
    go_simp
    refine (HAL.out w16.drew (kA.out.trans (HKA.out _ (HK.out _ (Kept.refl _ w16).drew)))).mono ?_
    rintro e w17 ⟨rfl, hk17⟩
    refine hK.out _ _ ((Kept.refl _ w16).drew.trans hk17) (fun _ => ?_)
    clear hK K
    try simp only [List.getElem_toArray]
    try simp only [List.getElem_cons_succ]
    try simp only [List.getElem_cons_zero]
    try simp only [Act.put]
    try simp only [List.setIfInBounds_toArray]
    try simp only [List.set_cons_succ]
    try simp only [List.set_cons_zero]
    refine wpAnyH_take (i := 1) (v := ?_) rfl (by kernel_rfl) (by kernel_rfl) (by kernel_rfl) (fun _ _ _ h => h) (Or.inl ⟨by kernel_rfl, fun W hSW => by go_simp; try with_reducible rfl⟩) (by assumption) ?_
    try simp only [List.getElem_toArray]
    try simp only [List.getElem_cons_succ]
    try simp only [List.getElem_cons_zero]
    try simp only [Act.put]
    try simp only [List.setIfInBounds_toArray]
    try simp only [List.set_cons_succ]
    try simp only [List.set_cons_zero]
    refine wpAnyH_take (i := 2) (v := ?_) rfl (by kernel_rfl) (by kernel_rfl) (by kernel_rfl) (fun _ _ _ h => h) (Or.inl ⟨by kernel_rfl, fun W hSW => by go_simp; try with_reducible rfl⟩) (by assumption) ?_
    try simp only [List.getElem_toArray]
    try simp only [List.getElem_cons_succ]
    try simp only [List.getElem_cons_zero]
    try simp only [Act.put]
    try simp only [List.setIfInBounds_toArray]
    try simp only [List.set_cons_succ]
    try simp only [List.set_cons_zero]
    refine wpAnyH_take (i := 3) (v := .bool true) rfl (by kernel_rfl) (by kernel_rfl) (by kernel_rfl) (fun _ _ _ h => h) (Or.inl ⟨by kernel_rfl, fun W hSW => by go_simp; try with_reducible rfl⟩) (by assumption) ?_
    try simp only [List.getElem_toArray]
    try simp only [List.getElem_cons_succ]
    try simp only [List.getElem_cons_zero]
    try simp only [Act.put]
    try simp only [List.setIfInBounds_toArray]
    try simp only [List.set_cons_succ]
    try simp only [List.set_cons_zero]
    refine wpAnyH_take (i := 4) (v := .bool true) rfl (by kernel_rfl) (by kernel_rfl) (by kernel_rfl) (fun _ _ _ h => h) (Or.inl ⟨by kernel_rfl, fun W hSW => by go_simp; try with_reducible rfl⟩) (by assumption) ?_
    try simp only [List.getElem_toArray]
    try simp only [List.getElem_cons_succ]
    try simp only [List.getElem_cons_zero]
    try simp only [Act.put]
    try simp only [List.setIfInBounds_toArray]
    try simp only [List.set_cons_succ]
    try simp only [List.set_cons_zero]
    refine wpAnyH_take (i := 5) (v := .bool true) rfl (by kernel_rfl) (by kernel_rfl) (by kernel_rfl) (fun _ _ _ h => h) (Or.inl ⟨by kernel_rfl, fun W hSW => by go_simp; try with_reducible rfl⟩) (by assumption) ?_
    try simp only [List.getElem_toArray]
    try simp only [List.getElem_cons_succ]
    try simp only [List.getElem_cons_zero]
    try simp only [Act.put]
    try simp only [List.setIfInBounds_toArray]
    try simp only [List.set_cons_succ]
    try simp only [List.set_cons_zero]
    refine wpAnyH_take (i := 6) (v := ?_) rfl (by kernel_rfl) (by kernel_rfl) (by kernel_rfl) (fun _ _ _ h => h) (Or.inl ⟨by kernel_rfl, fun W hSW => by go_simp; try with_reducible rfl⟩) (by assumption) ?_
    try simp only [List.getElem_toArray]
    try simp only [List.getElem_cons_succ]
    try simp only [List.getElem_cons_zero]
    try simp only [Act.put]
    try simp only [List.setIfInBounds_toArray]
    try simp only [List.set_cons_succ]
    try simp only [List.set_cons_zero]
    refine wpAnyH_take (i := 7) (v := ?_) rfl (by kernel_rfl) (by kernel_rfl) (by kernel_rfl) (fun _ _ _ h => h) (Or.inl ⟨by kernel_rfl, fun W hSW => by go_simp; try with_reducible rfl⟩) (by assumption) ?_
    try simp only [List.getElem_toArray]
    try simp only [List.getElem_cons_succ]
    try simp only [List.getElem_cons_zero]
    try simp only [Act.put]
    try simp only [List.setIfInBounds_toArray]
    try simp only [List.set_cons_succ]
    try simp only [List.set_cons_zero]
    refine wpAnyH_take (i := 8) (v := .bool true) rfl (by kernel_rfl) (by kernel_rfl) (by kernel_rfl) (fun _ _ _ h => h) (Or.inl ⟨by kernel_rfl, fun W hSW => by go_simp; try with_reducible rfl⟩) (by assumption) ?_
    try simp only [List.getElem_toArray]
    try simp only [List.getElem_cons_succ]
    try simp only [List.getElem_cons_zero]
    try simp only [Act.put]
    try simp only [List.setIfInBounds_toArray]
    try simp only [List.set_cons_succ]
    try simp only [List.set_cons_zero]
    refine wpAnyH_take (i := 9) (v := .bool true) rfl (by kernel_rfl) (by kernel_rfl) (by kernel_rfl) (fun _ _ _ h => h) (Or.inl ⟨by kernel_rfl, fun W hSW => by go_simp; try with_reducible rfl⟩) (by assumption) ?_
    try simp only [List.getElem_toArray]
    try simp only [List.getElem_cons_succ]
    try simp only [List.getElem_cons_zero]
    try simp only [Act.put]
    try simp only [List.setIfInBounds_toArray]
    try simp only [List.set_cons_succ]
    try simp only [List.set_cons_zero]
    refine wpAnyH_take (i := 10) (v := .bool true) rfl (by kernel_rfl) (by kernel_rfl) (by kernel_rfl) (fun _ _ _ h => h) (Or.inl ⟨by kernel_rfl, fun W hSW => by go_simp; try with_reducible rfl⟩) (by assumption) ?_
    try simp only [List.getElem_toArray]
    try simp only [List.getElem_cons_succ]
    try simp only [List.getElem_cons_zero]
    try simp only [Act.put]
    try simp only [List.setIfInBounds_toArray]
    try simp only [List.set_cons_succ]
    try simp only [List.set_cons_zero]
    refine wpAnyH_take (i := 11) (v := ?_) rfl (by kernel_rfl) (by kernel_rfl) (by kernel_rfl) (fun _ _ _ h => h) (Or.inl ⟨by kernel_rfl, fun W hSW => by go_simp; try with_reducible rfl⟩) (by assumption) ?_
    try simp only [List.getElem_toArray]
    try simp only [List.getElem_cons_succ]
    try simp only [List.getElem_cons_zero]
    try simp only [Act.put]
    try simp only [List.setIfInBounds_toArray]
    try simp only [List.set_cons_succ]
    try simp only [List.set_cons_zero]
    refine wpAnyH_take (i := 12) (v := ?_) rfl (by kernel_rfl) (by kernel_rfl) (by kernel_rfl) (fun _ _ _ h => h) (Or.inl ⟨by kernel_rfl, fun W hSW => by go_simp; try with_reducible rfl⟩) (by assumption) ?_
    try simp only [List.getElem_toArray]
    try simp only [List.getElem_cons_succ]
    try simp only [List.getElem_cons_zero]
    try simp only [Act.put]
    try simp only [List.setIfInBounds_toArray]
    try simp only [List.set_cons_succ]
    try simp only [List.set_cons_zero]
    refine wpAnyH_take (i := 13) (v := ?_) rfl (by kernel_rfl) (by kernel_rfl) (by kernel_rfl) (fun _ _ _ h => h) (Or.inl ⟨by kernel_rfl, fun W hSW => by go_simp; try with_reducible rfl⟩) (by assumption) ?_
    try simp only [List.getElem_toArray]
    try simp only [List.getElem_cons_succ]
    try simp only [List.getElem_cons_zero]
    try simp only [Act.put]
    try simp only [List.setIfInBounds_toArray]
    try simp only [List.set_cons_succ]
    try simp only [List.set_cons_zero]
    refine wpAnyH_take (i := 14) (v := ?_) rfl (by kernel_rfl) (by kernel_rfl) (by kernel_rfl) (fun _ _ _ h => h) (Or.inl ⟨by kernel_rfl, fun W hSW => by go_simp; try with_reducible rfl⟩) (by assumption) ?_
    try simp only [List.getElem_toArray]
    try simp only [List.getElem_cons_succ]
    try simp only [List.getElem_cons_zero]
    try simp only [Act.put]
    try simp only [List.setIfInBounds_toArray]
    try simp only [List.set_cons_succ]
    try simp only [List.set_cons_zero]
    refine wpAnyH_take (i := 15) (v := ?_) rfl (by kernel_rfl) (by kernel_rfl) (by kernel_rfl) (fun _ _ _ h => h) (Or.inl ⟨by kernel_rfl, fun W hSW => by go_simp; try with_reducible rfl⟩) (by assumption) ?_
    try simp only [List.getElem_toArray]
    try simp only [List.getElem_cons_succ]
    try simp only [List.getElem_cons_zero]
    try simp only [Act.put]
    try simp only [List.setIfInBounds_toArray]
    try simp only [List.set_cons_succ]
    try simp only [List.set_cons_zero]
    refine wpAnyH_take (i := 16) (v := .bool true) rfl (by kernel_rfl) (by kernel_rfl) (by kernel_rfl) (fun _ _ _ h => h) (Or.inl ⟨by kernel_rfl, fun W hSW => by go_simp; try with_reducible rfl⟩) (by assumption) ?_
    try simp only [List.getElem_toArray]
    try simp only [List.getElem_cons_succ]
    try simp only [List.getElem_cons_zero]
    try simp only [Act.put]
    try simp only [List.setIfInBounds_toArray]
    try simp only [List.set_cons_succ]
    try simp only [List.set_cons_zero]
    refine wpAnyH_take (i := 17) (v := .bool true) rfl (by kernel_rfl) (by kernel_rfl) (by kernel_rfl) (fun _ _ _ h => h) (Or.inl ⟨by kernel_rfl, fun W hSW => by go_simp; try with_reducible rfl⟩) (by assumption) ?_
    try simp only [List.getElem_toArray]
    try simp only [List.getElem_cons_succ]
    try simp only [List.getElem_cons_zero]
    try simp only [Act.put]
    try simp only [List.setIfInBounds_toArray]
    try simp only [List.set_cons_succ]
    try simp only [List.set_cons_zero]
    refine wpAnyH_take (i := 18) (v := .bool true) rfl (by kernel_rfl) (by kernel_rfl) (by kernel_rfl) (fun _ _ _ h => h) (Or.inl ⟨by kernel_rfl, fun W hSW => by go_simp; try with_reducible rfl⟩) (by assumption) ?_
    try simp only [List.getElem_toArray]
    try simp only [List.getElem_cons_succ]
    try simp only [List.getElem_cons_zero]
    try simp only [Act.put]
    try simp only [List.setIfInBounds_toArray]
    try simp only [List.set_cons_succ]
    try simp only [List.set_cons_zero]
    refine wpAnyH_take (i := 19) (v := ?_) rfl (by kernel_rfl) (by kernel_rfl) (by kernel_rfl) (fun _ _ _ h => h) (Or.inl ⟨by kernel_rfl, fun W hSW => by go_simp; try with_reducible rfl⟩) (by assumption) ?_
    try simp only [List.getElem_toArray]
    try simp only [List.getElem_cons_succ]
    try simp only [List.getElem_cons_zero]
    try simp only [Act.put]
    try simp only [List.setIfInBounds_toArray]
    try simp only [List.set_cons_succ]
    try simp only [List.set_cons_zero]
    refine wpAnyH_take (i := 20) (v := ?_) rfl (by kernel_rfl) (by kernel_rfl) (by kernel_rfl) (fun _ _ _ h => h) (Or.inl ⟨by kernel_rfl, fun W hSW => by go_simp; try with_reducible rfl⟩) (by assumption) ?_
    try simp only [List.getElem_toArray]
    try simp only [List.getElem_cons_succ]
    try simp only [List.getElem_cons_zero]
    try simp only [Act.put]
    try simp only [List.setIfInBounds_toArray]
    try simp only [List.set_cons_succ]
    try simp only [List.set_cons_zero]
    refine wpAnyH_take (i := 21) (v := .bool true) rfl (by kernel_rfl) (by kernel_rfl) (by kernel_rfl) (fun _ _ _ h => h) (Or.inl ⟨by kernel_rfl, fun W hSW => by go_simp; try with_reducible rfl⟩) (by assumption) ?_
    try simp only [List.getElem_toArray]
    try simp only [List.getElem_cons_succ]
    try simp only [List.getElem_cons_zero]
    try simp only [Act.put]
    try simp only [List.setIfInBounds_toArray]
    try simp only [List.set_cons_succ]
    try simp only [List.set_cons_zero]
    refine wpAnyH_take (i := 22) (v := .bool true) rfl (by kernel_rfl) (by kernel_rfl) (by kernel_rfl) (fun _ _ _ h => h) (Or.inl ⟨by kernel_rfl, fun W hSW => by go_simp; try with_reducible rfl⟩) (by assumption) ?_
    try simp only [List.getElem_toArray]
    try simp only [List.getElem_cons_succ]
    try simp only [List.getElem_cons_zero]
    try simp only [Act.put]
    try simp only [List.setIfInBounds_toArray]
    try simp only [List.set_cons_succ]
    try simp only [List.set_cons_zero]
    refine wpAnyH_take (i := 23) (v := .bool true) rfl (by kernel_rfl) (by kernel_rfl) (by kernel_rfl) (fun _ _ _ h => h) (Or.inl ⟨by kernel_rfl, fun W hSW => by go_simp; try with_reducible rfl⟩) (by assumption) ?_
    try simp only [List.getElem_toArray]
    try simp only [List.getElem_cons_succ]
    try simp only [List.getElem_cons_zero]
    try simp only [Act.put]
    try simp only [List.setIfInBounds_toArray]
    try simp only [List.set_cons_succ]
    try simp only [List.set_cons_zero]
    refine wpAnyH_take (i := 24) (v := ?_) rfl (by kernel_rfl) (by kernel_rfl) (by kernel_rfl) (fun _ _ _ h => h) (Or.inl ⟨by kernel_rfl, fun W hSW => by go_simp; try with_reducible rfl⟩) (by assumption) ?_
    try simp only [List.getElem_toArray]
    try simp only [List.getElem_cons_succ]
    try simp only [List.getElem_cons_zero]
    try simp only [Act.put]
    try simp only [List.setIfInBounds_toArray]
    try simp only [List.set_cons_succ]
    try simp only [List.set_cons_zero]
    refine wpAnyH_take (i := 25) (v := ?_) rfl (by kernel_rfl) (by kernel_rfl) (by kernel_rfl) (fun _ _ _ h => h) (Or.inl ⟨by kernel_rfl, fun W hSW => by go_simp; try with_reducible rfl⟩) (by assumption) ?_
    try simp only [List.getElem_toArray]
    try simp only [List.getElem_cons_succ]
    try simp only [List.getElem_cons_zero]
    try simp only [Act.put]
    try simp only [List.setIfInBounds_toArray]
    try simp only [List.set_cons_succ]
    try simp only [List.set_cons_zero]
    refine wpAnyH_take (i := 26) (v := ?_) rfl (by kernel_rfl) (by kernel_rfl) (by kernel_rfl) (fun _ _ _ h => h) (Or.inl ⟨by kernel_rfl, fun W hSW => by go_simp; try with_reducible rfl⟩) (by assumption) ?_
    try simp only [List.getElem_toArray]
    try simp only [List.getElem_cons_succ]
    try simp only [List.getElem_cons_zero]
    try simp only [Act.put]
    try simp only [List.setIfInBounds_toArray]
    try simp only [List.set_cons_succ]
    try simp only [List.set_cons_zero]
    refine wpAnyH_take (i := 27) (v := ?_) rfl (by kernel_rfl) (by kernel_rfl) (by kernel_rfl) (fun _ _ _ h => h) (Or.inl ⟨by kernel_rfl, fun W hSW => by go_simp; try with_reducible rfl⟩) (by assumption) ?_
    try simp only [List.getElem_toArray]
    try simp only [List.getElem_cons_succ]
    try simp only [List.getElem_cons_zero]
    try simp only [Act.put]
    try simp only [List.setIfInBounds_toArray]
    try simp only [List.set_cons_succ]
    try simp only [List.set_cons_zero]
    refine wpAnyH_take (i := 28) (v := .bool true) rfl (by kernel_rfl) (by kernel_rfl) (by kernel_rfl) (fun _ _ _ h => h) (Or.inl ⟨by kernel_rfl, fun W hSW => by go_simp; try with_reducible rfl⟩) (by assumption) ?_
    try simp only [List.getElem_toArray]
    try simp only [List.getElem_cons_succ]
    try simp only [List.getElem_cons_zero]
    try simp only [Act.put]
    try simp only [List.setIfInBounds_toArray]
    try simp only [List.set_cons_succ]
    try simp only [List.set_cons_zero]
    refine wpAnyH_take (i := 29) (v := .bool true) rfl (by kernel_rfl) (by kernel_rfl) (by kernel_rfl) (fun _ _ _ h => h) (Or.inl ⟨by kernel_rfl, fun W hSW => by go_simp; try with_reducible rfl⟩) (by assumption) ?_
    try simp only [List.getElem_toArray]
    try simp only [List.getElem_cons_succ]
    try simp only [List.getElem_cons_zero]
    try simp only [Act.put]
    try simp only [List.setIfInBounds_toArray]
    try simp only [List.set_cons_succ]
    try simp only [List.set_cons_zero]
    refine wpAnyH_take (i := 30) (v := .bool true) rfl (by kernel_rfl) (by kernel_rfl) (by kernel_rfl) (fun _ _ _ h => h) (Or.inl ⟨by kernel_rfl, fun W hSW => by go_simp; try with_reducible rfl⟩) (by assumption) ?_
    try simp only [List.getElem_toArray]
    try simp only [List.getElem_cons_succ]
    try simp only [List.getElem_cons_zero]
    try simp only [Act.put]
    try simp only [List.setIfInBounds_toArray]
    try simp only [List.set_cons_succ]
    try simp only [List.set_cons_zero]
    refine wpAnyH_take (i := 31) (v := ?_) rfl (by kernel_rfl) (by kernel_rfl) (by kernel_rfl) (fun _ _ _ h => h) (Or.inl ⟨by kernel_rfl, fun W hSW => by go_simp; try with_reducible rfl⟩) (by assumption) ?_
    try simp only [List.getElem_toArray]
    try simp only [List.getElem_cons_succ]
    try simp only [List.getElem_cons_zero]
    try simp only [Act.put]
    try simp only [List.setIfInBounds_toArray]
    try simp only [List.set_cons_succ]
    try simp only [List.set_cons_zero]
    refine wpAnyH_take (i := 32) (v := ?_) rfl (by kernel_rfl) (by kernel_rfl) (by kernel_rfl) (fun _ _ _ h => h) (Or.inl ⟨by kernel_rfl, fun W hSW => by go_simp; try with_reducible rfl⟩) (by assumption) ?_
    try simp only [List.getElem_toArray]
    try simp only [List.getElem_cons_succ]
    try simp only [List.getElem_cons_zero]
    try simp only [Act.put]
    try simp only [List.setIfInBounds_toArray]
    try simp only [List.set_cons_succ]
    try simp only [List.set_cons_zero]
    refine wpAnyH_take (i := 33) (v := .bool false) rfl (by kernel_rfl) (by kernel_rfl) (by kernel_rfl) (fun _ _ _ h => h) (Or.inl ⟨by kernel_rfl, fun W hSW => by go_simp; try with_reducible rfl⟩) (by assumption) ?_
    try simp only [List.getElem_toArray]
    try simp only [List.getElem_cons_succ]
    try simp only [List.getElem_cons_zero]
    try simp only [Act.put]
    try simp only [List.setIfInBounds_toArray]
    try simp only [List.set_cons_succ]
    try simp only [List.set_cons_zero]
    refine wpAnyH_take (i := 34) (v := .bool false) rfl (by kernel_rfl) (by kernel_rfl) (by kernel_rfl) (fun _ _ _ h => h) (Or.inl ⟨by kernel_rfl, fun W hSW => by go_simp; try with_reducible rfl⟩) (by assumption) ?_
    try simp only [List.getElem_toArray]
    try simp only [List.getElem_cons_succ]
    try simp only [List.getElem_cons_zero]
    try simp only [Act.put]
    try simp only [List.setIfInBounds_toArray]
    try simp only [List.set_cons_succ]
    try simp only [List.set_cons_zero]
    refine wpAnyH_take (i := 35) (v := ?_) rfl (by kernel_rfl) (by kernel_rfl) (by kernel_rfl) (fun _ _ _ h => h) (Or.inl ⟨by kernel_rfl, fun W hSW => by go_simp; try with_reducible rfl⟩) (by assumption) ?_
    try simp only [List.getElem_toArray]
    try simp only [List.getElem_cons_succ]
    try simp only [List.getElem_cons_zero]
    try simp only [Act.put]
    try simp only [List.setIfInBounds_toArray]
    try simp only [List.set_cons_succ]
    try simp only [List.set_cons_zero]
    refine wpAnyH_take (i := 36) (v := ?_) rfl (by kernel_rfl) (by kernel_rfl) (by kernel_rfl) (fun _ _ _ h => h) (Or.inl ⟨by kernel_rfl, fun W hSW => by go_simp; try with_reducible rfl⟩) (by assumption) ?_
    try simp only [List.getElem_toArray]
    try simp only [List.getElem_cons_succ]
    try simp only [List.getElem_cons_zero]
    try simp only [Act.put]
    try simp only [List.setIfInBounds_toArray]
    try simp only [List.set_cons_succ]
    try simp only [List.set_cons_zero]
    refine wpAnyH_take (i := 37) (v := .bool true) rfl (by kernel_rfl) (by kernel_rfl) (by kernel_rfl) (fun _ _ _ h => h) (Or.inl ⟨by kernel_rfl, fun W hSW => by go_simp; try with_reducible rfl⟩) (by assumption) ?_
    try simp only [List.getElem_toArray]
    try simp only [List.getElem_cons_succ]
    try simp only [List.getElem_cons_zero]
    try simp only [Act.put]
    try simp only [List.setIfInBounds_toArray]
    try simp only [List.set_cons_succ]
    try simp only [List.set_cons_zero]
    refine wpAnyH_take (i := 38) (v := .bool true) rfl (by kernel_rfl) (by kernel_rfl) (by kernel_rfl) (fun _ _ _ h => h) (Or.inl ⟨by kernel_rfl, fun W hSW => by go_simp; try with_reducible rfl⟩) (by assumption) ?_
    try simp only [List.getElem_toArray]
    try simp only [List.getElem_cons_succ]
    try simp only [List.getElem_cons_zero]
    try simp only [Act.put]
    try simp only [List.setIfInBounds_toArray]
    try simp only [List.set_cons_succ]
    try simp only [List.set_cons_zero]
    refine wpAnyH_take (i := 39) (v := ?_) rfl (by kernel_rfl) (by kernel_rfl) (by kernel_rfl) (fun _ _ _ h => h) (Or.inl ⟨by kernel_rfl, fun W hSW => by go_simp; try with_reducible rfl⟩) (by assumption) ?_
    try simp only [List.getElem_toArray]
    try simp only [List.getElem_cons_succ]
    try simp only [List.getElem_cons_zero]
    try simp only [Act.put]
    try simp only [List.setIfInBounds_toArray]
    try simp only [List.set_cons_succ]
    try simp only [List.set_cons_zero]
    refine wpAnyH_take (i := 40) (v := ?_) rfl (by kernel_rfl) (by kernel_rfl) (by kernel_rfl) (fun _ _ _ h => h) (Or.inl ⟨by kernel_rfl, fun W hSW => by go_simp; try with_reducible rfl⟩) (by assumption) ?_
    try simp only [List.getElem_toArray]
    try simp only [List.getElem_cons_succ]
    try simp only [List.getElem_cons_zero]
    try simp only [Act.put]
    try simp only [List.setIfInBounds_toArray]
    try simp only [List.set_cons_succ]
    try simp only [List.set_cons_zero]
    refine wpAnyH_take (i := 41) (v := ?_) rfl (by kernel_rfl) (by kernel_rfl) (by kernel_rfl) (fun _ _ _ h => h) (Or.inl ⟨by kernel_rfl, fun W hSW => by go_simp; try with_reducible rfl⟩) (by assumption) ?_
    try simp only [List.getElem_toArray]
    try simp only [List.getElem_cons_succ]
    try simp only [List.getElem_cons_zero]
    try simp only [Act.put]
    try simp only [List.setIfInBounds_toArray]
    try simp only [List.set_cons_succ]
    try simp only [List.set_cons_zero]
    refine wpAnyH_take (i := 42) (v := ?_) rfl (by kernel_rfl) (by kernel_rfl) (by kernel_rfl) (fun _ _ _ h => h) (Or.inl ⟨by kernel_rfl, fun W hSW => by go_simp; try with_reducible rfl⟩) (by assumption) ?_
    try simp only [List.getElem_toArray]
    try simp only [List.getElem_cons_succ]
    try simp only [List.getElem_cons_zero]
    try simp only [Act.put]
    try simp only [List.setIfInBounds_toArray]
    try simp only [List.set_cons_succ]
    try simp only [List.set_cons_zero]
    refine wpAnyH_take (i := 43) (v := ?_) rfl (by kernel_rfl) (by kernel_rfl) (by kernel_rfl) (fun _ _ _ h => h) (Or.inl ⟨by kernel_rfl, fun W hSW => by go_simp; try with_reducible rfl⟩) (by assumption) ?_
    try simp only [List.getElem_toArray]
    try simp only [List.getElem_cons_succ]
    try simp only [List.getElem_cons_zero]
    try simp only [Act.put]
    try simp only [List.setIfInBounds_toArray]
    try simp only [List.set_cons_succ]
    try simp only [List.set_cons_zero]
    refine wpAnyH_take (i := 44) (v := .bool true) rfl (by kernel_rfl) (by kernel_rfl) (by kernel_rfl) (fun _ _ _ h => h) (Or.inl ⟨by kernel_rfl, fun W hSW => by go_simp; try with_reducible rfl⟩) (by assumption) ?_
    try simp only [List.getElem_toArray]
    try simp only [List.getElem_cons_succ]
    try simp only [List.getElem_cons_zero]
    try simp only [Act.put]
    try simp only [List.setIfInBounds_toArray]
    try simp only [List.set_cons_succ]
    try simp only [List.set_cons_zero]
    refine wpAnyH_take (i := 45) (v := .bool true) rfl (by kernel_rfl) (by kernel_rfl) (by kernel_rfl) (fun _ _ _ h => h) (Or.inl ⟨by kernel_rfl, fun W hSW => by go_simp; try with_reducible rfl⟩) (by assumption) ?_
    try simp only [List.getElem_toArray]
    try simp only [List.getElem_cons_succ]
    try simp only [List.getElem_cons_zero]
    try simp only [Act.put]
    try simp only [List.setIfInBounds_toArray]
    try simp only [List.set_cons_succ]
    try simp only [List.set_cons_zero]
    refine wpAnyH_take (i := 46) (v := .bool true) rfl (by kernel_rfl) (by kernel_rfl) (by kernel_rfl) (fun _ _ _ h => h) (Or.inl ⟨by kernel_rfl, fun W hSW => by go_simp; try with_reducible rfl⟩) (by assumption) ?_
    try simp only [List.getElem_toArray]
    try simp only [List.getElem_cons_succ]
    try simp only [List.getElem_cons_zero]
    try simp only [Act.put]
    try simp only [List.setIfInBounds_toArray]
    try simp only [List.set_cons_succ]
    try simp only [List.set_cons_zero]
    refine wpAnyH_take (i := 47) (v := ?_) rfl (by kernel_rfl) (by kernel_rfl) (by kernel_rfl) (fun _ _ _ h => h) (Or.inl ⟨by kernel_rfl, fun W hSW => by go_simp; try with_reducible rfl⟩) (by assumption) ?_
    try simp only [List.getElem_toArray]
    try simp only [List.getElem_cons_succ]
    try simp only [List.getElem_cons_zero]
    try simp only [Act.put]
    try simp only [List.setIfInBounds_toArray]
    try simp only [List.set_cons_succ]
    try simp only [List.set_cons_zero]
    refine wpAnyH_take (i := 48) (v := ?_) rfl (by kernel_rfl) (by kernel_rfl) (by kernel_rfl) (fun _ _ _ h => h) (Or.inl ⟨by kernel_rfl, fun W hSW => by go_simp; try with_reducible rfl⟩) (by assumption) ?_
    try simp only [List.getElem_toArray]
    try simp only [List.getElem_cons_succ]
    try simp only [List.getElem_cons_zero]
    try simp only [Act.put]
    try simp only [List.setIfInBounds_toArray]
    try simp only [List.set_cons_succ]
    try simp only [List.set_cons_zero]
    refine wpAnyH_take (i := 49) (v := ?_) rfl (by kernel_rfl) (by kernel_rfl) (by kernel_rfl) (fun _ _ _ h => h) (Or.inl ⟨by kernel_rfl, fun W hSW => by go_simp; try with_reducible rfl⟩) (by assumption) ?_
    try simp only [List.getElem_toArray]
    try simp only [List.getElem_cons_succ]
    try simp only [List.getElem_cons_zero]
    try simp only [Act.put]
    try simp only [List.setIfInBounds_toArray]
    try simp only [List.set_cons_succ]
    try simp only [List.set_cons_zero]
    refine wpAnyH_take (i := 50) (v := ?_) rfl (by kernel_rfl) (by kernel_rfl) (by kernel_rfl) (fun _ _ _ h => h) (Or.inl ⟨by kernel_rfl, fun W hSW => by go_simp; try with_reducible rfl⟩) (by assumption) ?_
    try simp only [List.getElem_toArray]
    try simp only [List.getElem_cons_succ]
    try simp only [List.getElem_cons_zero]
    try simp only [Act.put]
    try simp only [List.setIfInBounds_toArray]
    try simp only [List.set_cons_succ]
    try simp only [List.set_cons_zero]
    refine wpAnyH_take (i := 51) (v := ?_) rfl (by kernel_rfl) (by kernel_rfl) (by kernel_rfl) (fun _ _ _ h => h) (Or.inl ⟨by kernel_rfl, fun W hSW => by go_simp; try with_reducible rfl⟩) (by assumption) ?_
    try simp only [List.getElem_toArray]
    try simp only [List.getElem_cons_succ]
    try simp only [List.getElem_cons_zero]
    try simp only [Act.put]
    try simp only [List.setIfInBounds_toArray]
    try simp only [List.set_cons_succ]
    try simp only [List.set_cons_zero]
    refine wpAnyH_take (i := 52) (v := ?_) rfl (by kernel_rfl) (by kernel_rfl) (by kernel_rfl) (fun _ _ _ h => h) (Or.inl ⟨by kernel_rfl, fun W hSW => by go_simp; try with_reducible rfl⟩) (by assumption) ?_
    try simp only [List.getElem_toArray]
    try simp only [List.getElem_cons_succ]
    try simp only [List.getElem_cons_zero]
    try simp only [Act.put]
    try simp only [List.setIfInBounds_toArray]
    try simp only [List.set_cons_succ]
    try simp only [List.set_cons_zero]
    refine wpAnyH_take (i := 53) (v := .bool true) rfl (by kernel_rfl) (by kernel_rfl) (by kernel_rfl) (fun _ _ _ h => h) (Or.inl ⟨by kernel_rfl, fun W hSW => by go_simp; try with_reducible rfl⟩) (by assumption) ?_
    try simp only [List.getElem_toArray]
    try simp only [List.getElem_cons_succ]
    try simp only [List.getElem_cons_zero]
    try simp only [Act.put]
    try simp only [List.setIfInBounds_toArray]
    try simp only [List.set_cons_succ]
    try simp only [List.set_cons_zero]
    refine wpAnyH_take (i := 54) (v := .bool true) rfl (by kernel_rfl) (by kernel_rfl) (by kernel_rfl) (fun _ _ _ h => h) (Or.inl ⟨by kernel_rfl, fun W hSW => by go_simp; try with_reducible rfl⟩) (by assumption) ?_
    try simp only [List.getElem_toArray]
    try simp only [List.getElem_cons_succ]
    try simp only [List.getElem_cons_zero]
    try simp only [Act.put]
    try simp only [List.setIfInBounds_toArray]
    try simp only [List.set_cons_succ]
    try simp only [List.set_cons_zero]
    refine wpAnyH_take (i := 55) (v := .bool true) rfl (by kernel_rfl) (by kernel_rfl) (by kernel_rfl) (fun _ _ _ h => h) (Or.inl ⟨by kernel_rfl, fun W hSW => by go_simp; try with_reducible rfl⟩) (by assumption) ?_
    try simp only [List.getElem_toArray]
    try simp only [List.getElem_cons_succ]
    try simp only [List.getElem_cons_zero]
    try simp only [Act.put]
    try simp only [List.setIfInBounds_toArray]
    try simp only [List.set_cons_succ]
    try simp only [List.set_cons_zero]
    refine wpAnyH_take (i := 56) (v := .bool true) rfl (by kernel_rfl) (by kernel_rfl) (by kernel_rfl) (fun _ _ _ h => h) (Or.inl ⟨by kernel_rfl, fun W hSW => by go_simp; try with_reducible rfl⟩) (by assumption) ?_
    try simp only [List.getElem_toArray]
    try simp only [List.getElem_cons_succ]
    try simp only [List.getElem_cons_zero]
    try simp only [Act.put]
    try simp only [List.setIfInBounds_toArray]
    try simp only [List.set_cons_succ]
    try simp only [List.set_cons_zero]
    refine wpAnyH_take (i := 57) (v := ?_) rfl (by kernel_rfl) (by kernel_rfl) (by kernel_rfl) (fun _ _ _ h => h) (Or.inl ⟨by kernel_rfl, fun W hSW => by go_simp; try with_reducible rfl⟩) (by assumption) ?_
    try simp only [List.getElem_toArray]
    try simp only [List.getElem_cons_succ]
    try simp only [List.getElem_cons_zero]
    try simp only [Act.put]
    try simp only [List.setIfInBounds_toArray]
    try simp only [List.set_cons_succ]
    try simp only [List.set_cons_zero]
    refine wpAnyH_done (by kernel_rfl) ?_ _
    have Kf := hid (kA.out.trans (HKA.out _ (HK.out _ ((Kept.refl _ w16).drew.trans hk17))))
    go_wp2
    go_ret
    exact ⟨rfl, Kf.out⟩
end Go.Proofs.YtgaamehjdoakhaaDoor
