/- The law PapIds: it returns true for every name, secret and number of Starts, and leaves what was there. -/
import Derived.Test.YtifkiiplknkgnaaPapBackWalk
namespace Go.Proofs.Ytifkiiplknkgnaa
open Go.RowKit

/-- How far the client has come: L the last Id. -/
structure IdsI (w : World) (b : Nat) (D : ByteArray) (L : Int) (W : World) : Prop where
  cl : ∃ c : Pc, ClIn W b c ∧ GoodC c ∧ c.data = D ∧ c.retry = 5 ∧ c.wait = 1 ∧ c.id = L ∧ doneC c = false
  kept : Kept (fun _ => False) w W
  base : w.heap.size ≤ b

theorem id_next {x : Int} (_h : 0 ≤ x ∧ x ≤ 255) : ((x + 1) % 256 == x) = false := by rw [beq_eq_false_iff_ne]; omega
theorem id_next2 {x : Int} (_h : 0 ≤ x ∧ x ≤ 255) : (((x + 1) % 256 + 1) % 256 == x) = false := by rw [beq_eq_false_iff_ne]; omega

/-- One Start: its packet, and how far it has come. -/
theorem ids_start {w W : World} {b : Nat} {D : ByteArray} {L : Int} (h : IdsI w b D L W) :
    Calls Try.prog 18 #[.pointer (some ⟨b, 0, none⟩)] W fun e w' => ∃ (g cap : Nat) (X : Int), e = .returned (.slice (some ⟨g, 0, none⟩) 1 cap) ∧ 1 ≤ cap ∧ cap ≤ maxLen ∧ Box4 w' g (.int .i64 1) (.int .i64 X) (.slice none 0 0) (.string D) ∧ (X == L) = false ∧ IdsI w b D X w' ∧
      Hid (Calls Try.prog 22 #[.pointer (some ⟨b, 0, none⟩)] w' fun e w2 => ∃ (g cap : Nat) (Y : Int), e = .returned (.slice (some ⟨g, 0, none⟩) 1 cap) ∧ 1 ≤ cap ∧ cap ≤ maxLen ∧ Box4 w2 g (.int .i64 1) (.int .i64 Y) (.slice none 0 0) (.string D) ∧ (Y == L) = false ∧ IdsI w b D Y w2) := by
  obtain ⟨⟨c, hc, hg, rfl, hr, hw, rfl, hd⟩, hk, hb⟩ := h
  refine (start_any b c hg W hc).mono ?_
  rintro e w' ⟨v, rfl, hc', ho, hk'⟩
  obtain ⟨g, cap, rfl, h1, h2, h3, bx⟩ := OwnQ.one ho
  have hk2 : Kept (fun _ => False) w w' := hk.andThen hk' (fun i hi e => by omega)
  have hg' := hg.start
  refine ⟨g, cap, (c.id + 1) % 256, rfl, h1, h2, bx, id_next hg.id, ⟨⟨_, hc', hg', rfl, hr, hw, rfl, rfl⟩, hk2, hb⟩, ?_⟩
  refine (tick_any b _ hg' w' hc').mono ?_
  rintro e w2 ⟨v, rfl, hc2, ho2, hk3⟩
  have e1 : tickC (startC c).2 = (sentC (startC c).2, askC { (startC c).2 with ticks := 1, again := 1 }) := by
    unfold tickC
    rw [if_pos (by rfl), if_neg (by show ¬ (0 + 1 < c.wait); omega), if_neg (by show ¬ ((0 : Int) = c.retry); omega)]
    rfl
  rw [e1] at ho2 hc2
  obtain ⟨g2, cap2, rfl, h4, h5, h6, bx2⟩ := OwnQ.one ho2
  have hk4 : Kept (fun _ => False) w w2 := hk2.andThen hk3 (fun i hi e => by omega)
  have hg2 := hg'.tick
  rw [e1] at hg2
  exact ⟨g2, cap2, ((c.id + 1) % 256 + 1) % 256, rfl, h4, h5, bx2, id_next2 hg.id, ⟨⟨_, hc2, hg2, rfl, hr, hw, rfl, rfl⟩, hk4, hb⟩⟩
theorem IdsI.on {w W W' : World} {b : Nat} {D : ByteArray} {L : Int} (h : IdsI w b D L W) (hk : Kept (fun _ => False) W W') : IdsI w b D L W' := by
  obtain ⟨⟨c, hc, r⟩, k, hb⟩ := h
  exact ⟨⟨c, hc.kept0 hk, r⟩, k.trans hk, hb⟩
theorem ids_done {w W : World} {b : Nat} {D : ByteArray} {L : Int} (h : IdsI w b D L W) :
    Calls Try.prog 21 #[.pointer (some ⟨b, 0, none⟩)] W fun e w' => (∃ q, e = .returned (.tuple #[.bool false, .bool q])) ∧ Kept (fun _ => False) w w' := by
  obtain ⟨⟨c, hc, hg, rfl, hr, hw, rfl, hd⟩, hk, hb⟩ := h
  refine (done_any b c W hc).mono ?_
  rintro e w' ⟨rfl, hk'⟩
  rw [hd]
  exact ⟨⟨_, rfl⟩, hk.trans hk'⟩

set_option maxHeartbeats 2000000 in
set_option maxRecDepth 100000 in
theorem papIds_walk (n s : ByteArray) (k : Int) (w : World) (hn : n.size ≤ 140737488351232) (hs : s.size ≤ 140737488351232) (_ : -9223372036854775808 ≤ k ∧ k ≤ 9223372036854775807) :
    Calls Try.prog 7 #[.string n, .string s, .int .i64 k] w fun e w' => e = .returned (.bool true) ∧ Below w.heap.size w w' := by
  have Ha := hid aliveP_any
  by_cases h0 : (putReqF n s).2 = 0
  · obtain ⟨n6, s6, e0⟩ := putReqF_ok h0
    have HN := hid (newC_ok n s n6 s6 5 1 (by decide) (by decide) w)
    have hD := getReqF_put n s n6 s6
    have hDs : (layF n ++ layF s).size ≤ 140737488351232 := by rw [ByteArray.size_append, layF_size, layF_size]; omega
    clear h0 e0
    have HV := hid (fun W (i : Int) => serve_any 1 i none 0 0 (layF n ++ layF s) hDs W)
    rw [show serveF 1 0 (layF n ++ layF s) = (n, s, true) by unfold serveF; rw [hD]; rfl] at HV
    generalize layF n ++ layF s = D at *
    by_cases h1 : k < 1
    · go_enter Try.func7, Try.ntmps7
      go_wp2_with fail
      refine HN.out.mono ?_
      rintro e w1 ⟨b, hb, rfl, hc, hk1⟩
      go_wp2_with fail
      refine (Ha.out _).mono ?_
      rintro e w2 ⟨rfl, hk2⟩
      go_wp2
      go_ret
      exact ⟨rfl, below_of (hk1.trans hk2)⟩
    · by_cases h2 : 40 < k
      · go_enter Try.func7, Try.ntmps7
        go_wp2_with fail
        refine HN.out.mono ?_
        rintro e w1 ⟨b, hb, rfl, hc, hk1⟩
        go_wp2_with fail
        refine (Ha.out _).mono ?_
        rintro e w2 ⟨rfl, hk2⟩
        go_wp2
        go_ret
        exact ⟨rfl, below_of (hk1.trans hk2)⟩
      · obtain ⟨m, rfl⟩ : ∃ m : Nat, k = (m : Int) := ⟨k.toNat, by omega⟩
        unfold pkV at HV
        go_enter Try.func7, Try.ntmps7
        go_wp2_with fail
        refine HN.out.mono ?_
        rintro e w1 ⟨b, hb, rfl, hc, hk1⟩
        have HI : Hid (IdsI w b D 0 w1) := ⟨⟨_, hc, GoodC.new (by decide) (by decide), rfl, rfl, rfl, rfl, rfl⟩, hk1, hb⟩
        clear hc hk1 HN
        go_wp2
        go_loopw [9, 10] (fun vl vi wr => ∃ (L : Int) (j : Nat), vl = .int .i64 L ∧ vi = .int .i64 (j : Int) ∧ j ≤ m ∧ Hid (IdsI w b D L wr)) (fun _ vi _ => m - (intOf vi).toNat)
        case atStart => exact ⟨0, 0, rfl, rfl, Nat.zero_le _, HI.out⟩
        case round =>
          obtain ⟨L, j, rfl, rfl, hj, HR⟩ := hrel
          clear HI
          by_cases hlt : j < m
          · have HS := hid (ids_start HR.out)
            by_cases h3 : j % 3 = 2
            · have h3a : ((j : Int).tmod 3 == 2) = true := by rw [Int.tmod_eq_emod_of_nonneg (by omega), beq_iff_eq]; omega
              have h3b : ((j : Int) % 3 == 2) = true := by rw [beq_iff_eq]; omega
              go_wp2_with fail
              refine HS.out.mono ?_
              rintro e w2 ⟨g, cap, X, rfl, hcap, hcap2, bx, hX, hI, HT⟩
              clear bx hX hI HS
              go_wp2_with fail
              refine HT.out.mono ?_
              rintro e w3 ⟨g2, cap2, Y, rfl, hcap3, hcap4, bx, hX, hI⟩
              have HI := hid hI
              have BX := hid bx
              obtain ⟨d0, d1, d2, d3⟩ := bx
              clear hI HT hcap hcap2
              go_wp2_with fail
              refine (HV.out _ _).mono ?_
              rintro e w4 ⟨rfl, hk4⟩
              have HI4 := hid (HI.out.on hk4)
              obtain ⟨d0', d1', d2', d3'⟩ := BX.out.kept hk4 (fun h => h)
              clear HI hk4 d0 d1 d2 d3 BX
              go_wp2
              go_roundw
              case rel => exact ⟨Y, j + 1, rfl, by go_num, by omega, HI4.out⟩
              case measure => simp [intOf]; omega
            · have h3a : ((j : Int).tmod 3 == 2) = false := by rw [Int.tmod_eq_emod_of_nonneg (by omega), beq_eq_false_iff_ne]; omega
              have h3b : ((j : Int) % 3 == 2) = false := by rw [beq_eq_false_iff_ne]; omega
              go_wp2_with fail
              refine HS.out.mono ?_
              rintro e w2 ⟨g, cap, X, rfl, hcap, hcap2, bx, hX, hI, HT⟩
              have HI := hid hI
              have BX := hid bx
              obtain ⟨d0, d1, d2, d3⟩ := bx
              clear hI HT HS
              go_wp2_with fail
              refine (HV.out _ _).mono ?_
              rintro e w4 ⟨rfl, hk4⟩
              have HI4 := hid (HI.out.on hk4)
              obtain ⟨d0', d1', d2', d3'⟩ := BX.out.kept hk4 (fun h => h)
              clear HI hk4 d0 d1 d2 d3 BX
              go_wp2
              go_roundw
              case rel => exact ⟨X, j + 1, rfl, by go_num, by omega, HI4.out⟩
              case measure => simp [intOf]; omega
          · have HD := hid (ids_done HR.out)
            go_wp2_with fail
            refine HD.out.mono ?_
            rintro e w2 ⟨⟨q, rfl⟩, hk2⟩
            go_wp2_with fail
            refine (Ha.out _).mono ?_
            rintro e w3 ⟨rfl, hk3⟩
            have HK := hid (hk2.trans hk3)
            clear hk2 hk3
            go_wp2
            go_ret
            exact ⟨rfl, below_of HK.out⟩
  · have HN := hid (newC_any n s hn hs 5 1 w)
    have H0 := hid h0
    clear h0
    go_enter Try.func7, Try.ntmps7
    go_wp2_with fail
    refine HN.out.mono ?_
    rintro e w1 ⟨h, hk1⟩
    have h0 := H0.out
    rcases h with ⟨E, h2, h3, rfl⟩ | ⟨h1, _⟩ | ⟨h1, _⟩
    · have hE : (E != 0) = true := by simpa using h2
      clear h2 h3 h0
      go_wp2_with fail
      refine (Ha.out _).mono ?_
      rintro e w2 ⟨rfl, hk2⟩
      go_wp2
      go_ret
      exact ⟨rfl, below_of (hk1.trans hk2)⟩
    · exact absurd h1 h0
    · exact absurd h1 h0
end Go.Proofs.Ytifkiiplknkgnaa
