/- The law AcSame returns true. -/
import Derived.Test.YtgaamehjdoakhaaDoorAcPadrOf
namespace Go.Proofs.YtgaamehjdoakhaaDoor
open Go.RowKit

/-- What a right Padr does to the sessions. -/
def askS (c : Cs) (h : List UInt8) (u : ByteArray) : Cs := (admitF c h eB u).2.2
theorem good_ask {c : Cs} (hg : Good c) {h : List UInt8} (hh : h.length = 6) (u : ByteArray) : Good (askS c h u) := good_admit hg hh eB u
theorem mac_ask (c : Cs) (h : List UInt8) (u : ByteArray) : (askS c h u).mac = c.mac ∧ (askS c h u).secret = c.secret ∧ (askS c h u).gone = c.gone := by
  unfold askS
  rw [admit_e]
  split
  · exact ⟨rfl, rfl, rfl⟩
  · split
    · exact ⟨rfl, rfl, rfl⟩
    · exact ⟨rfl, rfl, rfl⟩

/-- A right Padr, taken. -/
theorem mine_ask {wA W : World} {B : Nat} {c : Cs} (hm : CMine wA W B c) (hg : Good c) (hT : Tabs wA) (hmac : c.mac = m9) (hsec : c.secret = sB) {h : List UInt8} (hh : h.length = 6) (hne : ¬ h = m9) {u : ByteArray} (hu : u.size ≤ 900) :
    Calls Tryd.prog 12 #[.pointer (some ⟨B, 0, none⟩), frV (askedF h m9 25 0 (padrTags u (mk5 h))), .int .i64 6] W fun e w' => ∃ v f, e = .returned v ∧ f.dst = h ∧ OwnE w' W.heap.size v [f] ∧ CMine wA w' B (askS c h u) := by
  have hok : AskOk (padrTags u (mk5 h)) := padr_ok (by rw [mk5_size]; omega)
  have hc : checkB c.secret h eB (mk5 h) 6 = true := by rw [hsec]; exact check_make sB h eB 5 6 (Or.inl (by decide))
  have key := CMine.padr hm hg hT.t hT.z hh (by rw [hmac]; exact hne) hok 6 (by unfold In64; omega)
  rw [hmac, grant_padr hc] at key
  obtain ⟨f, hf, he⟩ := grant_one hg (h := h) (u := u) (by omega)
  rw [he] at key
  exact key.mono fun e w' ⟨v, he, ho, hn⟩ => ⟨v, f, he, hf, ho, hn⟩

/-- One session of a card for a uniq. -/
def one5 (h : List UInt8) (a : ByteArray) : Cs := beginF (c00 5) h a
theorem one5_sess (h : List UInt8) (a : ByteArray) : (one5 h a).sess = [⟨h, 1, a, false⟩] := by unfold one5 beginF; rw [next_0]; rfl
theorem one5_last (h : List UInt8) (a : ByteArray) : (one5 h a).last = 1 := by unfold one5 beginF; exact next_0 5
theorem ask_none (h : List UInt8) (a : ByteArray) : askS (c00 5) h a = one5 h a := by
  have e1 : unusedF (c00 5) h a = 0 := rfl
  have e2 : roomF (c00 5) h = true := rfl
  unfold askS
  rw [admit_e, e1, e2, if_neg (by simp), if_neg (by simp)]
  rfl
theorem unused_one (h : List UInt8) (a b : ByteArray) : unusedF (one5 h a) h b = if a = b then 1 else 0 := by
  unfold unusedF
  rw [one5_sess]
  by_cases e : a = b
  · have hf : isFor h b ⟨h, 1, a, false⟩ = true := by simp [isFor, sameB_iff, e]
    rw [if_pos e, List.find?_cons_of_pos hf]
  · have hf : isFor h b ⟨h, 1, a, false⟩ = false := by
      have : sameB a b = false := by
        cases hq : sameB a b with
        | false => rfl
        | true => exact absurd (sameB_iff.1 hq) e
      simp [isFor, this]
    rw [if_neg e, List.find?_cons_of_neg (by rw [hf]; simp)]
    rfl
theorem ask_again (h : List UInt8) (a : ByteArray) : askS (one5 h a) h a = one5 h a := by
  unfold askS
  rw [admit_e, unused_one, if_pos rfl, if_pos (by simp)]
theorem far_bits (l : List Nat) (t : Nat) (h : ∀ a ∈ l, ¬ a < 64) : l.foldl bitF t = t := by
  induction l generalizing t with
  | nil => rfl
  | cons a r ih =>
    have e : bitF t a = t := if_neg (h a (by simp))
    rw [List.foldl_cons, e]
    exact ih t (fun x hx => h x (by simp [hx]))
theorem ctz_all : Lib.ctz 64 (18446744073709551615 - 0) = 0 := by decide +kernel
theorem next_far {c : Cs} (h : ∀ x ∈ c.sess, ¬ offF c.last x.num < 64) : nextF c = c.last % 65535 + 1 := by
  have e1 : takenF c = 0 := far_bits _ 0 (fun a ha => by
    obtain ⟨x, hx, rfl⟩ := List.mem_map.1 ha
    exact h x hx)
  unfold nextF
  rw [e1, ctz_all]
  rfl
theorem next_one (h : List UInt8) (a : ByteArray) : nextF (one5 h a) = 2 := by
  rw [next_far (fun x hx => by
    rw [one5_sess] at hx
    obtain rfl := List.mem_singleton.1 hx
    rw [one5_last]
    unfold offF
    simp only []
    omega), one5_last]
theorem ask_other (h : List UInt8) {a b : ByteArray} (e : a ≠ b) : (askS (one5 h a) h b).sess = [⟨h, 1, a, false⟩, ⟨h, 2, b, false⟩] := by
  have e2 : roomF (one5 h a) h = true := by
    unfold roomF eachF
    rw [one5_sess]
    have : (one5 h a).most = 5 := rfl
    rw [this]
    simp [isOfMac]
  unfold askS
  rw [admit_e, unused_one, if_neg e, if_neg (by simp), e2, if_neg (by simp)]
  unfold beginF
  rw [next_one, one5_sess]
  simp [dropS, isIdZ]

set_option maxHeartbeats 4000000 in
set_option maxRecDepth 100000 in
theorem acSame_walk (h : List UInt8) (hh : h.length = 6) (a : ByteArray) (s1 : a.size ≤ 140737488351232) (b : ByteArray) (s2 : b.size ≤ 140737488351232) (n : Int) (hn : In64 n) (w : World) (hT : Tabs w) :
    Calls Tryd.prog 6 #[.agg (Lib.byteCells h).toArray, .string a, .string b, .int .i64 n] w fun e w' => e = .returned (.bool true) ∧ Kept (fun _ => False) w w' := by
  obtain ⟨h0, h1, h2, h3, h4, h5, eh⟩ := six_cells hh
  have HAL := hid (fun W (hk : Kept (fun _ => False) w W) => alive_any W (hT.kept hk))
  have hE := mac_eq h m9 hh rfl
  rw [eh] at hE ⊢
  change ∀ W, Sem.run Tryd.prog (Op.equalIn 10000 23 (.agg #[.int .u8 h0, .int .u8 h1, .int .u8 h2, .int .u8 h3, .int .u8 h4, .int .u8 h5]) (.agg #[.int .u8 9, .int .u8 0, .int .u8 0, .int .u8 0, .int .u8 0, .int .u8 0])) W = .ok (decide (h = m9)) W at hE
  obtain ⟨wA, hwA⟩ : ∃ wA, wA = (w.alloc (.cells #[.int .u8 h0, .int .u8 h1, .int .u8 h2, .int .u8 h3, .int .u8 h4, .int .u8 h5] 23)).alloc (.cells #[.int .u8 9, .int .u8 0, .int .u8 0, .int .u8 0, .int .u8 0, .int .u8 0] 23) := ⟨_, rfl⟩
  have HwA := hid hwA
  have kA : Hid (Kept (fun _ => False) w wA) := by rw [hwA]; exact ((Kept.refl _ w).alloc _).alloc _
  have BH : Hid (Box6 wA w.heap.size (.int .u8 h0) (.int .u8 h1) (.int .u8 h2) (.int .u8 h3) (.int .u8 h4) (.int .u8 h5)) := by rw [hwA]; exact (box6_new w _ _ _ _ _ _ _).alloc _
  have BM : Hid (Box6 wA (w.heap.size + 1) (.int .u8 9) (.int .u8 0) (.int .u8 0) (.int .u8 0) (.int .u8 0) (.int .u8 0)) := by
    rw [hwA]
    have h := box6_new (w.alloc (.cells #[.int .u8 h0, .int .u8 h1, .int .u8 h2, .int .u8 h3, .int .u8 h4, .int .u8 h5] 23)) 23 (.int .u8 9) (.int .u8 0) (.int .u8 0) (.int .u8 0) (.int .u8 0) (.int .u8 0)
    rw [show (w.alloc (.cells #[.int .u8 h0, .int .u8 h1, .int .u8 h2, .int .u8 h3, .int .u8 h4, .int .u8 h5] 23)).heap.size = w.heap.size + 1 from by simp] at h
    exact h
  have HTA := hid (hT.kept kA.out)
  clear hwA
  by_cases hown : h = m9
  · rw [decide_eq_true hown] at hE
    clear hT
    go_enter Tryd.func6, Tryd.ntmps6
    go_wp2_with fail
    rw [← HwA.out]
    refine (HAL.out _ kA.out).mono ?_
    rintro e w1 ⟨rfl, hk1⟩
    go_wp2
    go_ret
    exact ⟨rfl, kA.out.trans hk1⟩
  · rw [decide_eq_false hown] at hE
    by_cases hsz : a.size + b.size ≤ 200
    · by_cases hn1 : n < 1
      · have hs : ¬ (200 : Int) < (a.size : Int) + (b.size : Int) := by omega
        clear hT
        go_enter Tryd.func6, Tryd.ntmps6
        go_wp2_with fail
        rw [← HwA.out]
        refine (HAL.out _ kA.out).mono ?_
        rintro e w1 ⟨rfl, hk1⟩
        go_wp2
        go_ret
        exact ⟨rfl, kA.out.trans hk1⟩
      · by_cases hn2 : 20 < n
        · have hs : ¬ (200 : Int) < (a.size : Int) + (b.size : Int) := by omega
          clear hT
          go_enter Tryd.func6, Tryd.ntmps6
          go_wp2_with fail
          rw [← HwA.out]
          refine (HAL.out _ kA.out).mono ?_
          rintro e w1 ⟨rfl, hk1⟩
          go_wp2
          go_ret
          exact ⟨rfl, kA.out.trans hk1⟩
        · have hs : ¬ (200 : Int) < (a.size : Int) + (b.size : Int) := by omega
          obtain ⟨N, rfl⟩ : ∃ N : Nat, n = (N : Int) := ⟨n.toNat, by omega⟩
          have HN := hid (new_mine 5 (by omega) (by omega))
          have HPa := hid (fun W (hT : Tables W) => padr_any h m9 hh rfl a (by omega) W hT)
          have HPb := hid (fun W (hT : Tables W) => padr_any h m9 hh rfl b (by omega) W hT)
          rw [eh] at HPa HPb
          change Hid (∀ W, Tables W → Calls Tryd.prog 19 #[.agg #[.int .u8 h0, .int .u8 h1, .int .u8 h2, .int .u8 h3, .int .u8 h4, .int .u8 h5], .agg #[.int .u8 9, .int .u8 0, .int .u8 0, .int .u8 0, .int .u8 0, .int .u8 0], .string a] W fun e w' => e = .returned (frV (askedF h m9 25 0 (padrTags a (mk5 h)))) ∧ Kept (fun _ => False) W w') at HPa
          change Hid (∀ W, Tables W → Calls Tryd.prog 19 #[.agg #[.int .u8 h0, .int .u8 h1, .int .u8 h2, .int .u8 h3, .int .u8 h4, .int .u8 h5], .agg #[.int .u8 9, .int .u8 0, .int .u8 0, .int .u8 0, .int .u8 0, .int .u8 0], .string b] W fun e w' => e = .returned (frV (askedF h m9 25 0 (padrTags b (mk5 h)))) ∧ Kept (fun _ => False) W w') at HPb
          have g0 := good_c00 5 (by omega) (by omega)
          have g1 : Good (one5 h a) := by rw [← ask_none]; exact good_ask g0 hh a
          have g2 : Good (askS (one5 h a) h b) := good_ask g1 hh b
          have HT0 := hid (fun wA W B (hm : CMine wA W B (c00 5)) (hT : Tabs wA) => mine_ask hm g0 hT rfl rfl hh hown (u := a) (by omega))
          have HT1 := hid (fun wA W B (hm : CMine wA W B (one5 h a)) (hT : Tabs wA) => mine_ask hm g1 hT rfl rfl hh hown (u := a) (by omega))
          have HT2 := hid (fun wA W B (hm : CMine wA W B (one5 h a)) (hT : Tabs wA) => mine_ask hm g1 hT rfl rfl hh hown (u := b) (by omega))
          rw [ask_none] at HT0
          rw [ask_again] at HT1
          have HL1 := hid (fun wA W B (hm : CMine wA W B (one5 h a)) => CMine.live hm g1)
          have HL2 := hid (fun wA W B (hm : CMine wA W B (askS (one5 h a) h b)) => CMine.live hm g2)
          rw [one5_sess] at HL1
          have Hses := hid (show (a = b → (askS (one5 h a) h b).sess = [⟨h, 1, a, false⟩]) ∧ (a ≠ b → (askS (one5 h a) h b).sess = [⟨h, 1, a, false⟩, ⟨h, 2, b, false⟩]) from ⟨fun e => by rw [← e, ask_again, one5_sess], fun e => ask_other h e⟩)
          generalize frV (askedF h m9 25 0 (padrTags a (mk5 h))) = FA at *
          generalize frV (askedF h m9 25 0 (padrTags b (mk5 h))) = FB at *
          generalize hc2 : askS (one5 h a) h b = c2 at *
          generalize one5 h a = c1 at *
          generalize c00 5 = ca at *
          clear hT g0 g1 g2 hc2
          go_enter Tryd.func6, Tryd.ntmps6
          go_wp2_with fail
          rw [← HwA.out]
          refine (HN.out _).mono ?_
          rintro e w1 ⟨B, rfl, hm1⟩
          have hst := hid hm1
          clear hm1
          go_wp2
          go_loopw [12] (fun v wr => ∃ j : Nat, j ≤ N ∧ v = .int .i64 (j : Int) ∧ ∃ c0, (c0 = ca ∧ j = 0 ∨ c0 = c1 ∧ 0 < j) ∧ CMine wA wr B c0) (fun v _ => N - (intOf v).toNat)
          case atStart => exact ⟨0, Nat.zero_le _, rfl, ca, Or.inl ⟨rfl, rfl⟩, hst.out⟩
          case round =>
            obtain ⟨j, hj, rfl, c0, hc0, hmr⟩ := hrel
            have Hmr := hid hmr
            have Kr := hid hmr.kept
            by_cases hlt : j < N
            · have hltz : (j : Int) < (N : Int) := by omega
              obtain ⟨a0, a1, a2, a3, a4, a5⟩ := BH.out.kept Kr.out
              obtain ⟨b0, b1, b2, b3, b4, b5⟩ := BM.out.kept Kr.out
              clear hmr hst
              go_wp2_with fail
              refine (HPa.out _ (HTA.out.kept Kr.out).t).mono ?_
              rintro e w2 ⟨rfl, hk2⟩
              clear a0 a1 a2 a3 a4 a5 b0 b1 b2 b3 b4 b5
              rcases hc0 with ⟨rfl, rfl⟩ | ⟨rfl, hj0⟩
              · go_wp2_with fail
                refine (HT0.out _ _ _ (Hmr.out.still hk2) HTA.out).mono ?_
                rintro e w3 ⟨v3, f3, rfl, _, _, hm3⟩
                go_wp2
                go_roundw
                case rel => exact ⟨1, by omega, by go_num, c1, Or.inr ⟨rfl, by omega⟩, hm3⟩
                case measure => simp [intOf]; omega
              · go_wp2_with fail
                refine (HT1.out _ _ _ (Hmr.out.still hk2) HTA.out).mono ?_
                rintro e w3 ⟨v3, f3, rfl, _, _, hm3⟩
                go_wp2
                go_roundw
                case rel => exact ⟨j + 1, by omega, by go_num, c0, Or.inr ⟨rfl, by omega⟩, hm3⟩
                case measure => simp [intOf]; omega
            · obtain rfl : j = N := by omega
              obtain rfl : c0 = c1 := by
                rcases hc0 with ⟨_, h0⟩ | ⟨h0, _⟩
                · omega
                · exact h0
              clear hmr hst hc0
              go_wp2_with fail
              refine (HL1.out _ _ _ Hmr.out).mono ?_
              rintro e w2 ⟨v2, L2, rfl, hp2, _, ha2, hm2⟩
              obtain ⟨p2, q2, rfl⟩ := ha2.slice
              have hl2 : L2.length = 1 := hp2.length_eq
              rw [hl2]
              have Hm2 := hid hm2
              have K2 := hid hm2.kept
              clear ha2 hm2 hp2
              obtain ⟨a0, a1, a2, a3, a4, a5⟩ := BH.out.kept K2.out
              obtain ⟨b0, b1, b2, b3, b4, b5⟩ := BM.out.kept K2.out
              go_wp2_with fail
              refine (HPb.out _ (HTA.out.kept K2.out).t).mono ?_
              rintro e w3 ⟨rfl, hk3⟩
              clear a0 a1 a2 a3 a4 a5 b0 b1 b2 b3 b4 b5
              go_wp2_with fail
              refine (HT2.out _ _ _ (Hm2.out.still hk3) HTA.out).mono ?_
              rintro e w4 ⟨v4, f4, rfl, _, _, hm4⟩
              have Hm4 := hid hm4
              clear hm4 hk3
              by_cases hab : a = b
              · have hse := Hses.out.1 hab
                have heq : (a.toList == b.toList) = true := by rw [hab]; simp
                go_wp2_with fail
                refine (HL2.out _ _ _ Hm4.out).mono ?_
                rintro e w5 ⟨v5, L5, rfl, hp5, _, ha5, hm5⟩
                rw [hse] at hp5
                obtain rfl := List.perm_singleton.1 hp5
                rcases ha5 with ⟨h00, _⟩ | ⟨g5, q5, rfl, hq5, hcl⟩
                · cases h00
                · have K5 := hid (kA.out.trans hm5.kept)
                  have hq5' : (1 : Int) ≤ (q5 : Int) := by
                    have h1q : 1 ≤ q5 := hq5
                    omega
                  have e6 : ∀ W, Kept (fun _ => False) w5 W → W.cell? ⟨g5, 6, none⟩ = some (.int .i64 1) := fun W hk => by
                    have h := hcl 0 _ rfl 6 (.int .i64 1) (by unfold snCells; rw [fit6_self hh, eh]; rfl)
                    exact (hk.cell (lt_of_cell h) id).trans h
                  have e7 : ∀ W, Kept (fun _ => False) w5 W → W.cell? ⟨g5, 7, none⟩ = some (.string a) := fun W hk => by
                    have h := hcl 0 _ rfl 7 (.string a) (by unfold snCells; rw [fit6_self hh, eh]; rfl)
                    exact (hk.cell (lt_of_cell h) id).trans h
                  clear hcl hm5
                  go_wp2_with fail
                  refine (HAL.out _ K5.out).mono ?_
                  rintro e w6 ⟨rfl, hk6⟩
                  have e6' := e6 w6 hk6
                  have e7' := e7 w6 hk6
                  clear e6 e7
                  go_wp2
                  go_ret
                  exact ⟨by simp, K5.out.trans hk6⟩
              · have hse := Hses.out.2 hab
                have heq : (a.toList == b.toList) = false := by
                  rw [beq_eq_false_iff_ne, ByteArray.toList_eq, ByteArray.toList_eq]
                  exact fun e => hab (bytes_ext e)
                go_wp2_with fail
                refine (HL2.out _ _ _ Hm4.out).mono ?_
                rintro e w5 ⟨v5, L5, rfl, hp5, hso5, ha5, hm5⟩
                rw [hse] at hp5
                obtain rfl : L5 = [⟨h, 1, a, false⟩, ⟨h, 2, b, false⟩] := by
                  match L5, hp5.length_eq, hp5, hso5 with
                  | [p, q], _, hp5, hso5 =>
                    have hpm : p ∈ [(⟨h, 1, a, false⟩ : Sn), ⟨h, 2, b, false⟩] := hp5.mem_iff.1 (by simp)
                    have hle : p.num ≤ q.num := by simpa [SortedNum] using hso5
                    simp only [List.mem_cons, List.not_mem_nil, or_false] at hpm
                    rcases hpm with rfl | rfl
                    · have h2 := hp5.cons_inv
                      rw [List.perm_singleton.1 h2]
                    · have h2 : [q].Perm [(⟨h, 1, a, false⟩ : Sn)] := (hp5.trans (List.Perm.swap _ _ _)).cons_inv
                      have hq : q = ⟨h, 1, a, false⟩ := by simpa using List.perm_singleton.1 h2
                      rw [hq] at hle
                      simp at hle
                rcases ha5 with ⟨h00, _⟩ | ⟨g5, q5, rfl, hq5, hcl⟩
                · cases h00
                · have K5 := hid (kA.out.trans hm5.kept)
                  have hq5' : (2 : Int) ≤ (q5 : Int) := by
                    have h1q : 2 ≤ q5 := hq5
                    omega
                  have e6 : ∀ W, Kept (fun _ => False) w5 W → W.cell? ⟨g5, 6, none⟩ = some (.int .i64 1) := fun W hk => by
                    have h := hcl 0 _ rfl 6 (.int .i64 1) (by unfold snCells; rw [fit6_self hh, eh]; rfl)
                    exact (hk.cell (lt_of_cell h) id).trans h
                  have e7 : ∀ W, Kept (fun _ => False) w5 W → W.cell? ⟨g5, 7, none⟩ = some (.string a) := fun W hk => by
                    have h := hcl 0 _ rfl 7 (.string a) (by unfold snCells; rw [fit6_self hh, eh]; rfl)
                    exact (hk.cell (lt_of_cell h) id).trans h
                  clear hcl hm5
                  go_wp2_with fail
                  refine (HAL.out _ K5.out).mono ?_
                  rintro e w6 ⟨rfl, hk6⟩
                  have e6' := e6 w6 hk6
                  have e7' := e7 w6 hk6
                  clear e6 e7
                  go_wp2
                  go_ret
                  exact ⟨by simp, K5.out.trans hk6⟩
    · have hs : (200 : Int) < (a.size : Int) + (b.size : Int) := by omega
      clear hT
      go_enter Tryd.func6, Tryd.ntmps6
      go_wp2_with fail
      rw [← HwA.out]
      refine (HAL.out _ kA.out).mono ?_
      rintro e w1 ⟨rfl, hk1⟩
      go_wp2
      go_ret
      exact ⟨rfl, kA.out.trans hk1⟩
end Go.Proofs.YtgaamehjdoakhaaDoor
