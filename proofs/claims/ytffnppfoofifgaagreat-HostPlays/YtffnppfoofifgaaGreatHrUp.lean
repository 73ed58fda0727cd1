/- The contract of the document's own Num (tollgateref1), at a seat without package wire. · The contract of the document's own Get (tollgateref5): the packet of some bytes, or the error. · The contract of the document's own GetTags (tollgateref5): the tags of some bytes, or the error. · The contract of the document's read: a frame's packet and its tags, or no. · The contract of the document's own Find (tollgateref5). -/
import Derived.Test.YtffnppfoofifgaaGreatTagRefOne
import Derived.Test.YtffnppfoofifgaaGreatTagGet
import Derived.Test.YtffnppfoofifgaaGreatTagGetTags
import Derived.Test.YtffnppfoofifgaaGreatHrIn
import Derived.Test.YtffnppfoofifgaaGreatEtGet
import Derived.Test.YtffnppfoofifgaaGreatTagFind
namespace Go.Proofs.YtffnppfoofifgaaGreat
open Go.RowKit

theorem num_at (s : ByteArray) (k : Nat) (h : k + 1 < s.size) : numOf ((s.data.toList.drop k).take 2) = (s.data.toList.getD k 0).toNat * 256 + (s.data.toList.getD (k + 1) 0).toNat := by
  rw [num_two (by rw [List.length_drop, ← Lib.size_eq]; omega)]
  simp [List.getD_eq_getElem?_getD, List.getElem?_drop]

set_option maxHeartbeats 1000000 in
set_option maxRecDepth 100000 in
theorem refNum_any (s : ByteArray) (hs : s.size ≤ maxLen) (k : Nat) (h : k + 1 < s.size) (w : World) :
    Calls Tryz.prog 122 #[.string s, .int .i64 (k : Int)] w fun e w' => e = .returned (.int .i64 (numOf ((s.data.toList.drop k).take 2) : Int)) ∧ Kept (fun _ => False) w w' := by
  unfold maxLen at hs
  rw [num_at s k h]
  have b0 := (s.data.toList.getD k 0).toNat_lt
  have b1 := (s.data.toList.getD (k + 1) 0).toNat_lt
  have x0 := index_at s k (by omega) (k : Int) rfl
  have x1 := index_at s (k + 1) h ((k : Int) + 1) (by omega)
  generalize (s.data.toList.getD k 0).toNat = A at b0 x0
  generalize (s.data.toList.getD (k + 1) 0).toNat = B at b1 x1
  have hwr : IntKind.i64.wrap ((k : Int) + 1) = (k : Int) + 1 := by rw [IntKind.wrap_i64]; omega
  go_enter Tryz.func122, Tryz.ntmps122
  go_wp2
  go_region
  go_wp2
  go_ret
  exact ⟨ret_int (by omega), (Kept.refl _ _).drew⟩
end Go.Proofs.YtffnppfoofifgaaGreat

namespace Go.Proofs.YtffnppfoofifgaaGreat
open Go.RowKit

set_option maxHeartbeats 4000000 in
set_option maxRecDepth 100000 in
theorem refGet_yes (s : ByteArray) (hsz : s.size ≤ 140737488351232) (h6 : 6 ≤ s.size) (B n m : Nat) (h0 : s.data.toList.getD 0 0 = 17) (h1 : (s.data.toList.getD 1 0).toNat = B) (hB : B < 256)
    (hn : numOf ((s.data.toList.drop 4).take 2) = n) (hm : numOf ((s.data.toList.drop 2).take 2) = m) (hl : n ≤ 1494) (hs : 6 + n ≤ s.size) (w : World) :
    Calls Tryz.prog 32 #[.string s] w fun e w' => e = .returned (.tuple #[.agg #[.int .i64 (B : Int), .int .i64 (m : Int), .string (s.extract 6 (6 + n))], .int .i64 0]) ∧ Kept (fun _ => False) w w' := by
  have x0 := index_at s 0 (by omega) 0 rfl
  have x1 := index_at s 1 (by omega) 1 rfl
  rw [h0] at x0
  rw [h1] at x1
  have i6 := mid_at s 6 (6 + n) (by omega) (by omega) 6 (6 + (n : Int)) rfl (by omega)
  have hwr : IntKind.i64.wrap (6 + (n : Int)) = 6 + (n : Int) := by rw [IntKind.wrap_i64]; omega
  have HG4 := hid (refNum_any s (by unfold maxLen; omega) 4 (by omega))
  have HG2 := hid (fun w0 => sinceK (refNum_any s (by unfold maxLen; omega) 2 (by omega)) w0)
  rw [hn] at HG4
  rw [hm] at HG2
  have hsn : (n : Int) ≤ (s.size : Int) - 6 := by omega
  have hwB : IntKind.i64.wrap (B : Int) = (B : Int) := by rw [IntKind.wrap_i64]; omega
  have hb4 : ¬ (1494 : Int) < (n : Int) := by omega
  clear h0 h1 hn hm
  go_enter Tryz.func32, Tryz.ntmps32
  go_wp2_with fail
  refine (HG4.out _).mono ?_
  rintro e1 w1 ⟨rfl, hk1⟩
  have O1 := hid ((own3_new w 82 (.int .i64 0) (.int .i64 0) (.string ⟨#[]⟩)).kept hk1)
  have K1 := hid (((Kept.refl (fun _ => False) w).alloc (.cells #[.int .i64 0, .int .i64 0, .string ⟨#[]⟩] 82)).trans hk1)
  have D1 := (Kept.refl (fun _ => False) w1).drew
  clear hk1
  go_wp2_with fail
  go_region_with (first | (go_at_call 122; refine (HG2.out w1 _ (by assumption)).mono ?_; rintro e3 w3 ⟨rfl, hk3⟩; obtain ⟨⟨c0, c1, c2⟩, f0⟩ := O1.out.kept hk3))
  all_goals
    go_wp2
    refine bodyPost_ret (v := .tuple #[.agg #[.int .i64 (B : Int), .int .i64 (m : Int), .string (s.extract 6 (6 + n))], .int .i64 0]) (by simp [results, Tryz.results32, go_sem, c0, c1, c2]) rfl ⟨rfl, ?_⟩
    first
      | exact (((K1.out.trans hk3).setCell (Or.inl (Nat.le_refl _)) _).setCell (Or.inl (Nat.le_refl _)) _).setCell (Or.inl (Nat.le_refl _)) _
      | exact (((K1.out.trans hk3).setCell (Or.inl (Nat.le_refl _)) _).setCell (Or.inl (Nat.le_refl _)) _).setCell (Or.inl (Nat.le_refl _)) _

set_option maxHeartbeats 1000000 in
set_option maxRecDepth 100000 in
theorem refGet_no1 (s : ByteArray) (e : Int) (hsz : s.size ≤ 140737488351232) (h : (s.size < 6 ∧ e = 5) ∨ (6 ≤ s.size ∧ ((s.data.toList.getD 0 0).toNat ≠ 17) ∧ e = 4)) (w : World) :
    Calls Tryz.prog 32 #[.string s] w fun r w' => r = .returned (.tuple #[.agg #[.int .i64 0, .int .i64 0, .string ⟨#[]⟩], .int .i64 e]) ∧ Kept (fun _ => False) w w' := by
  obtain ⟨⟨c0, c1, c2⟩, f0⟩ := own3_new w 82 (.int .i64 0) (.int .i64 0) (.string ⟨#[]⟩)
  rcases h with ⟨h, rfl⟩ | ⟨h6, h0, rfl⟩
  · go_enter Tryz.func32, Tryz.ntmps32
    go_wp2
    exact bodyPost_ret (v := .tuple #[.agg #[.int .i64 0, .int .i64 0, .string ⟨#[]⟩], .int .i64 5]) (by simp [results, Tryz.results32, go_sem, c0, c1, c2]) rfl ⟨rfl, (Kept.refl _ w).alloc _⟩
  · have x0 := index_at s 0 (by omega) 0 rfl
    have hne : (((s.data.toList.getD 0 0).toNat : Int) != 17) = true := by
      rw [bne_iff_ne]
      omega
    generalize (s.data.toList.getD 0 0).toNat = A at *
    go_enter Tryz.func32, Tryz.ntmps32
    go_wp2
    exact bodyPost_ret (v := .tuple #[.agg #[.int .i64 0, .int .i64 0, .string ⟨#[]⟩], .int .i64 4]) (by simp [results, Tryz.results32, go_sem, c0, c1, c2]) rfl ⟨rfl, (Kept.refl _ w).alloc _⟩

set_option maxHeartbeats 1000000 in
set_option maxRecDepth 100000 in
theorem refGet_no2 (s : ByteArray) (e : Int) (n : Nat) (hsz : s.size ≤ 140737488351232) (h6 : 6 ≤ s.size) (h0 : s.data.toList.getD 0 0 = 17) (hn : numOf ((s.data.toList.drop 4).take 2) = n) (hn6 : n < 65536)
    (h : (1494 < n ∧ e = 2) ∨ (n ≤ 1494 ∧ s.size < 6 + n ∧ e = 5)) (w : World) :
    Calls Tryz.prog 32 #[.string s] w fun r w' => r = .returned (.tuple #[.agg #[.int .i64 0, .int .i64 0, .string ⟨#[]⟩], .int .i64 e]) ∧ Kept (fun _ => False) w w' := by
  have x0 := index_at s 0 (by omega) 0 rfl
  rw [h0] at x0
  have HG4 := hid (refNum_any s (by unfold maxLen; omega) 4 (by omega))
  rw [hn] at HG4
  clear h0 hn
  rcases h with ⟨h, rfl⟩ | ⟨h1, h2, rfl⟩
  · have hb4 : (1494 : Int) < (n : Int) := by omega
    clear h
    go_enter Tryz.func32, Tryz.ntmps32
    go_wp2_with fail
    refine (HG4.out _).mono ?_
    rintro e1 w1 ⟨rfl, hk1⟩
    obtain ⟨⟨c0, c1, c2⟩, f0⟩ := (own3_new w 82 (.int .i64 0) (.int .i64 0) (.string ⟨#[]⟩)).kept hk1
    have K1 := hid (((Kept.refl (fun _ => False) w).alloc (.cells #[.int .i64 0, .int .i64 0, .string ⟨#[]⟩] 82)).trans hk1)
    clear hk1
    go_wp2
    exact bodyPost_ret (v := .tuple #[.agg #[.int .i64 0, .int .i64 0, .string ⟨#[]⟩], .int .i64 2]) (by simp [results, Tryz.results32, go_sem, c0, c1, c2]) rfl ⟨rfl, (((K1.out).setCell (Or.inl (Nat.le_refl _)) _).setCell (Or.inl (Nat.le_refl _)) _).setCell (Or.inl (Nat.le_refl _)) _⟩
  · have hb4 : ¬ (1494 : Int) < (n : Int) := by omega
    have hsn : (s.size : Int) - 6 < (n : Int) := by omega
    clear h1 h2
    go_enter Tryz.func32, Tryz.ntmps32
    go_wp2_with fail
    refine (HG4.out _).mono ?_
    rintro e1 w1 ⟨rfl, hk1⟩
    obtain ⟨⟨c0, c1, c2⟩, f0⟩ := (own3_new w 82 (.int .i64 0) (.int .i64 0) (.string ⟨#[]⟩)).kept hk1
    have K1 := hid (((Kept.refl (fun _ => False) w).alloc (.cells #[.int .i64 0, .int .i64 0, .string ⟨#[]⟩] 82)).trans hk1)
    clear hk1
    go_wp2
    exact bodyPost_ret (v := .tuple #[.agg #[.int .i64 0, .int .i64 0, .string ⟨#[]⟩], .int .i64 5]) (by simp [results, Tryz.results32, go_sem, c0, c1, c2]) rfl ⟨rfl, (((K1.out).setCell (Or.inl (Nat.le_refl _)) _).setCell (Or.inl (Nat.le_refl _)) _).setCell (Or.inl (Nat.le_refl _)) _⟩

/-- 'Get(b)'. -/
theorem refGet_any (s : ByteArray) (hs : s.size ≤ 140737488351232) (w : World) :
    Calls Tryz.prog 32 #[.string s] w fun e w' => e = .returned (.tuple #[discV (getDiscF s.data.toList).1, .int .i64 (getDiscF s.data.toList).2]) ∧ Kept (fun _ => False) w w' := by
  have hl : s.data.toList.length = s.size := (Lib.size_eq s).symm
  by_cases h6 : s.size < 6
  · have e : getDiscF s.data.toList = (⟨0, 0, []⟩, 5) := by unfold getDiscF; rw [if_pos (by omega)]
    rw [e]
    exact refGet_no1 s 5 hs (Or.inl ⟨h6, rfl⟩) w
  · by_cases h0 : (s.data.toList.getD 0 0).toNat ≠ 17
    · have e : getDiscF s.data.toList = (⟨0, 0, []⟩, 4) := by unfold getDiscF; rw [if_neg (by omega), if_pos h0]
      rw [e]
      exact refGet_no1 s 4 hs (Or.inr ⟨by omega, h0, rfl⟩) w
    · have h0' : s.data.toList.getD 0 0 = 17 := by
        apply UInt8.toNat_inj.1
        simpa using h0
      have hn6 := num2_lt (s.data.toList.drop 4)
      by_cases h1 : 1494 < numOf ((s.data.toList.drop 4).take 2)
      · have e : getDiscF s.data.toList = (⟨0, 0, []⟩, 2) := by unfold getDiscF; rw [if_neg (by omega), if_neg h0, if_pos h1]
        rw [e]
        exact refGet_no2 s 2 _ hs (by omega) h0' rfl hn6 (Or.inl ⟨h1, rfl⟩) w
      · by_cases h2 : s.data.toList.length - 6 < numOf ((s.data.toList.drop 4).take 2)
        · have e : getDiscF s.data.toList = (⟨0, 0, []⟩, 5) := by unfold getDiscF; rw [if_neg (by omega), if_neg h0, if_neg h1, if_pos h2]
          rw [e]
          exact refGet_no2 s 5 _ hs (by omega) h0' rfl hn6 (Or.inr ⟨by omega, by omega, rfl⟩) w
        · have e : getDiscF s.data.toList = (⟨(s.data.toList.getD 1 0).toNat, numOf ((s.data.toList.drop 2).take 2), (s.data.toList.drop 6).take (numOf ((s.data.toList.drop 4).take 2))⟩, 0) := by
            unfold getDiscF; rw [if_neg (by omega), if_neg h0, if_neg h1, if_neg h2]
          rw [e]
          refine (refGet_yes s hs (by omega) _ _ _ h0' rfl (UInt8.toNat_lt _) rfl rfl (by omega) (by omega) w).mono ?_
          rintro r w' ⟨rfl, hk⟩
          refine ⟨?_, hk⟩
          have hx : s.extract 6 (6 + numOf ((s.data.toList.drop 4).take 2)) = ⟨((s.data.toList.drop 6).take (numOf ((s.data.toList.drop 4).take 2))).toArray⟩ := by
            apply bytes_ext
            rw [Lib.extract_data, Nat.add_sub_cancel_left]
          rw [hx]
          rfl
end Go.Proofs.YtffnppfoofifgaaGreat

namespace Go.Proofs.YtffnppfoofifgaaGreat
open Go.RowKit

set_option maxHeartbeats 4000000 in
set_option maxRecDepth 100000 in
theorem refGetTags_any (s : ByteArray) (hs : s.size ≤ 140737488351232) (w : World) :
    Calls Tryz.prog 129 #[.string s] w fun e w' => ∃ v, e = .returned (.tuple #[v, .int .i64 (tagsOn s.data.toList []).2]) ∧ OwnT w' w.heap.size v (tagsOn s.data.toList []).1 ∧ Kept (fun _ => False) w w' := by
  obtain ⟨i0, hi, hz0, hz1, hz2⟩ := info_parts infoTag
  obtain ⟨R, hR⟩ : ∃ R, R = tagsOn s.data.toList [] := ⟨_, rfl⟩
  rw [← hR]
  have HR := hid hR.symm
  clear hR
  go_enter Tryz.func129, Tryz.ntmps129
  go_wp2
  go_loopw [4, 5] (fun vl va wr => ∃ (a : Nat) (acc : List Tg), a ≤ s.size ∧ va = .int .i64 (a : Int) ∧ Hid (acc.length ≤ 20 ∧ tagsOn (s.data.toList.drop a) acc = R ∧ Mid w vl acc wr)) (fun _ va _ => s.size - (intOf va).toNat)
  case atStart => exact ⟨0, [], Nat.zero_le _, rfl, Nat.zero_le _, HR.out, OwnT.nil _ _, Kept.refl _ _⟩
  case round =>
    obtain ⟨a, acc, ha, rfl, HI⟩ := hrel
    obtain ⟨h20, hT, hmid⟩ := HI.out
    have Hm := hid hmid
    have hb : s.size ≤ maxLen := by unfold maxLen; omega
    have hbl : (s.data.toList.drop a).length = s.size - a := by rw [List.length_drop, ← Lib.size_eq]
    rw [tagsOn_eq] at hT
    clear HI HR hmid
    by_cases ha0 : a = s.size
    · rw [if_pos (Or.inl (by omega))] at hT
      have HT := hid hT
      have haz : ¬ (a : Int) < (s.size : Int) := by omega
      clear hT hbl ha0
      go_wp2
      go_ret2
      exact ⟨_, by rw [← HT.out]; rfl, by rw [← HT.out]; exact Hm.out.1, Hm.out.2⟩
    · have haz : (a : Int) < (s.size : Int) := by omega
      by_cases h2 : s.size - a < 2
      · rw [if_neg (by omega), if_pos (by omega)] at hT
        have HT := hid hT
        have h2z : ¬ (2 : Int) ≤ (s.size : Int) - (a : Int) := by omega
        have h4z : (s.size : Int) - (a : Int) < 4 := by omega
        clear hT hbl ha0 h2
        go_wp2
        go_ret2
        exact ⟨_, by rw [← HT.out]; rfl, by rw [← HT.out]; exact OwnT.nil _ _, Hm.out.2⟩
      · have h2z : (2 : Int) ≤ (s.size : Int) - (a : Int) := by omega
        have HG0 := hid (Mid.since (refNum_any s hb a (by omega)) w u4 acc)
        obtain ⟨m, hm⟩ : ∃ m, m = numOf ((s.data.toList.drop a).take 2) := ⟨_, rfl⟩
        rw [← hm] at HG0 hT
        by_cases hm0 : m = 0
        · rw [if_pos (Or.inr ⟨by omega, hm0⟩)] at hT
          have HT := hid hT
          subst hm0
          clear hT hbl ha0 h2 hm
          go_wp2_with fail
          refine (HG0.out _ Hm.out).mono ?_
          rintro e w1 ⟨rfl, hm1⟩
          have Hm1 := hid hm1
          clear hm1
          go_wp2
          go_ret2
          exact ⟨_, by rw [← HT.out]; rfl, by rw [← HT.out]; exact Hm1.out.1, Hm1.out.2⟩
        · have hmz : ((m : Int) == 0) = false := by rw [beq_eq_false_iff_ne]; omega
          rw [if_neg (by omega)] at hT
          by_cases h4 : s.size - a < 4
          · rw [if_pos (by omega)] at hT
            have HT := hid hT
            have h4z : (s.size : Int) - (a : Int) < 4 := by omega
            clear hT hbl ha0 h2 hm h4 hm0
            go_wp2_with fail
            refine (HG0.out _ Hm.out).mono ?_
            rintro e w1 ⟨rfl, hm1⟩
            have Hm1 := hid hm1
            clear hm1
            go_wp2
            go_ret2
            exact ⟨_, by rw [← HT.out]; rfl, by rw [← HT.out]; exact OwnT.nil _ _, Hm1.out.2⟩
          · have h4z : ¬ (s.size : Int) - (a : Int) < 4 := by omega
            rw [if_neg (by omega)] at hT
            have HG2 := hid (Mid.since (refNum_any s hb (a + 2) (by omega)) w u4 acc)
            rw [← List.drop_drop, show ((a + 2 : Nat) : Int) = (a : Int) + 2 by omega] at HG2
            have hn6 := num2_lt ((s.data.toList.drop a).drop 2)
            obtain ⟨n, hn⟩ : ∃ n, n = numOf (((s.data.toList.drop a).drop 2).take 2) := ⟨_, rfl⟩
            rw [← hn] at hT HG2 hn6
            clear hn
            by_cases h5 : s.size - a < 4 + n
            · rw [if_pos (by omega)] at hT
              have HT := hid hT
              have h5z : (s.size : Int) - (a : Int) - 4 < (n : Int) := by omega
              clear hT hbl ha0 h2 hm h4 hm0 h5
              go_wp2_with fail
              refine (HG0.out _ Hm.out).mono ?_
              rintro e w1 ⟨rfl, hm1⟩
              have Hm1 := hid hm1
              clear hm1
              go_wp2_with fail
              refine (HG2.out _ Hm1.out).mono ?_
              rintro e w2 ⟨rfl, hm2⟩
              have Hm2 := hid hm2
              clear hm2
              go_wp2
              go_ret2
              exact ⟨_, by rw [← HT.out]; rfl, by rw [← HT.out]; exact OwnT.nil _ _, Hm2.out.2⟩
            · rw [if_neg (by omega)] at hT
              have h5z : ¬ (s.size : Int) - (a : Int) - 4 < (n : Int) := by omega
              obtain ⟨p, cap, hv4⟩ := slice_of Hm.out.1
              subst hv4
              by_cases h6 : 20 ≤ acc.length
              · rw [if_pos h6] at hT
                have HT := hid hT
                have h6z : (20 : Int) ≤ (acc.length : Int) := by omega
                clear hT hbl ha0 h2 hm h4 hm0 h5 h6
                go_wp2_with fail
                refine (HG0.out _ Hm.out).mono ?_
                rintro e w1 ⟨rfl, hm1⟩
                have Hm1 := hid hm1
                clear hm1
                go_wp2_with fail
                refine (HG2.out _ Hm1.out).mono ?_
                rintro e w2 ⟨rfl, hm2⟩
                have Hm2 := hid hm2
                clear hm2
                go_wp2_with fail
                refine (HG2.out _ Hm2.out).mono ?_
                rintro e w3 ⟨rfl, hm3⟩
                have Hm3 := hid hm3
                clear hm3
                go_wp2
                go_ret2
                exact ⟨_, by rw [← HT.out]; rfl, by rw [← HT.out]; exact OwnT.nil _ _, Hm3.out.2⟩
              · rw [if_neg h6] at hT
                have h6z : ¬ (20 : Int) ≤ (acc.length : Int) := by omega
                have j4 := mid_at s (a + 4) (a + 4 + n) (by omega) (by omega) ((a : Int) + 4) ((a : Int) + 4 + (n : Int)) (by omega) (by omega)
                have hw4 : IntKind.i64.wrap ((a : Int) + 4) = (a : Int) + 4 := by rw [IntKind.wrap_i64]; omega
                have hw5 : IntKind.i64.wrap ((a : Int) + 4 + (n : Int)) = (a : Int) + 4 + (n : Int) := by rw [IntKind.wrap_i64]; omega
                have eV : (⟨(((s.data.toList.drop a).drop 4).take n).toArray⟩ : ByteArray) = s.extract (a + 4) (a + 4 + n) := by
                  apply bytes_ext
                  rw [Lib.extract_data, Nat.add_sub_cancel_left, List.drop_drop]
                rw [eV, List.drop_drop] at hT
                obtain ⟨X, hX⟩ : ∃ X, X = s.extract (a + 4) (a + 4 + n) := ⟨_, rfl⟩
                rw [← hX] at hT j4
                have HT := hid hT
                have HO : Hid (∀ W o, Mid w (.slice p acc.length cap) acc W → (W.alloc o).ownsRow w.heap.size 97 2 (.slice p acc.length cap) acc.length (rowT acc)) := fun W o h => World.ownsRow.alloc h.1 o
                have HS : Hid (∀ W o, Mid w (.slice p acc.length cap) acc W → w.heap.size ≤ (W.alloc o).heap.size) := fun W o h => (h.2.alloc o).size
                have HF : Hid (∀ W w' g' cap', Mid w (.slice p acc.length cap) acc W → w'.ownsRow w.heap.size 97 2 (.slice (some ⟨g', 0, none⟩) (acc.length + 1) cap') (acc.length + 1) (rowT acc ++ [.int .i64 (m : Int), .string X]) → (W.alloc (.cells #[.int .i64 (m : Int), .string X] 97)).grownBy w' (Value.slice p acc.length cap).ownBlock → Mid w (.slice (some ⟨g', 0, none⟩) (acc.length + 1) cap') (acc ++ [⟨(m : Int), X⟩]) w') :=
                  fun W w' g' cap' h1 h2 h3 => own_more (x := ⟨(m : Int), X⟩) h1.2 h1.1 h2 h3
                have h20' : acc.length < 20 := by omega
                have hfin : a + (4 + n) ≤ s.size := by omega
                clear hT hbl ha0 h2 hm h4 hm0 h5 h6 eV hX
                go_wp2_with fail
                refine (HG0.out _ Hm.out).mono ?_
                rintro e w1 ⟨rfl, hm1⟩
                have Hm1 := hid hm1
                clear hm1
                go_wp2_with fail
                refine (HG2.out _ Hm1.out).mono ?_
                rintro e w2 ⟨rfl, hm2⟩
                have Hm2 := hid hm2
                clear hm2
                go_wp2_with fail
                refine (HG2.out _ Hm2.out).mono ?_
                rintro e w3 ⟨rfl, hm3⟩
                have hM2 : Mid w (.slice p acc.length cap) acc w3.drew := ⟨hm3.1.kept (Kept.refl _ _).drew, hm3.2.drew⟩
                clear hm3 Hm Hm1 Hm2 HG2
                go_wp2
                go_region_held_law (fun W => Kept (fun _ => False) w W) (first | assumption | exact hM2.2 | (refine Kept.alloc ?_ _; assumption))
                  (first
                    | (refine step_append_lies _ rfl (.tmp 46) (.tmp 59) 88 rfl w.heap.size 97 i0 (.agg #[.int .i64 0, .string ⟨#[]⟩]) 2 24 Tryz.underlying88 hi hz0 hz1 hz2 rfl (by decide) _ acc.length (rowT acc) rfl (HO.out _ _ (by assumption)) _ 1 1 [.int .i64 (m : Int), .string X] rfl rfl (World.news_of_block (heap_alloc_new _ _)) (by intro u hu; simp at hu; rcases hu with rfl | rfl <;> rfl) (by decide) (by unfold maxLen; omega) (by omega) (HS.out _ _ (by assumption)) _ rfl ?_; intro g' cap' w6 hown' hgrow hgg hgl'; have hM6 := HF.out _ _ _ _ (by assumption) hown' hgrow; have hK6 := hM6.2)
                    | (go_at_call 122; refine (HG0.out _ (by assumption)).mono ?_; rintro e w4 ⟨rfl, hm4⟩; have hK4 := hm4.2))
                all_goals
                  clear hown' hgrow hgg hgl'
                  go_wp2
                  exact ⟨⟨a + (4 + n), _, hfin, by go_num, by simp; omega, HT.out, hM6⟩, by simp [intOf]; omega⟩
end Go.Proofs.YtffnppfoofifgaaGreat

namespace Go.Proofs.YtffnppfoofifgaaGreat
open Go.RowKit

set_option maxHeartbeats 4000000 in
set_option maxRecDepth 100000 in
theorem rRead_any (f : Fr) (hdst : f.dst.length = 6) (hsrc : f.src.length = 6) (hsz : f.data.size ≤ 1000000) (w : World) :
    Calls Tryz.prog 39 #[frV f] w fun e w' => ∃ (c s : Int) (dd : ByteArray) (p : Option Addr) (n cap : Nat), e = .returned (.tuple #[.agg #[.int .i64 c, .int .i64 s, .string dd], .slice p n cap, .bool (getE f).2.2]) ∧ ((getE f).2.2 = true → c = ((getE f).1.code : Int) ∧ s = ((getE f).1.session : Int) ∧ n = (getE f).2.1.length ∧ OwnT w' w.heap.size (.slice p n cap) (getE f).2.1) ∧ Kept (fun _ => False) w w' := by
  obtain ⟨dst, src, ty, x⟩ := f
  simp only [] at hdst hsrc hsz
  obtain ⟨d0, d1, d2, d3, d4, d5, hd⟩ := six_cells hdst
  obtain ⟨s0, s1, s2, s3, s4, s5, hs⟩ := six_cells hsrc
  have hfv : frV ⟨dst, src, ty, x⟩ = .agg #[.int .u8 d0, .int .u8 d1, .int .u8 d2, .int .u8 d3, .int .u8 d4, .int .u8 d5, .int .u8 s0, .int .u8 s1, .int .u8 s2, .int .u8 s3, .int .u8 s4, .int .u8 s5, .int .i64 ty, .string x] := by unfold frV frList; simp only []; rw [hd, hs]; rfl
  rw [hfv]
  have hl := getDisc_size x.data.toList
  rw [← Lib.size_eq] at hl
  have HG := hid (fun W => refGet_any x (by omega) W)
  have HT := hid (fun W => refGetTags_any ⟨(getDiscF x.data.toList).1.data.toArray⟩ (by rw [Lib.size_eq]; show (getDiscF x.data.toList).1.data.length ≤ _; omega) W)
  change Hid (∀ W, Calls Tryz.prog 129 #[.string ⟨(getDiscF x.data.toList).1.data.toArray⟩] W fun e w' => ∃ v, e = .returned (.tuple #[v, .int .i64 (tagsOn (getDiscF x.data.toList).1.data []).2]) ∧ OwnT w' W.heap.size v (tagsOn (getDiscF x.data.toList).1.data []).1 ∧ Kept (fun _ => False) W w') at HT
  unfold getE
  simp only []
  generalize (tagsOn (getDiscF x.data.toList).1.data []).1 = l at *
  generalize (tagsOn (getDiscF x.data.toList).1.data []).2 = E2 at *
  generalize (getDiscF x.data.toList).1 = d at *
  generalize (getDiscF x.data.toList).2 = E1 at *
  unfold discV at HG
  obtain ⟨w1, hw1⟩ : ∃ w1, w1 = (w.alloc (.cells #[.int .u8 d0, .int .u8 d1, .int .u8 d2, .int .u8 d3, .int .u8 d4, .int .u8 d5, .int .u8 s0, .int .u8 s1, .int .u8 s2, .int .u8 s3, .int .u8 s4, .int .u8 s5, .int .i64 ty, .string x] 55)).alloc (.cells #[.int .i64 0, .int .i64 0, .string ⟨#[]⟩] 82) := ⟨_, rfl⟩
  have Hw1 := hid hw1
  have k1 : Kept (fun _ => False) w w1 := by rw [hw1]; exact ((Kept.refl _ w).alloc _).alloc _
  have hB1 : w1.heap[w.heap.size]? = some (.cells #[.int .u8 d0, .int .u8 d1, .int .u8 d2, .int .u8 d3, .int .u8 d4, .int .u8 d5, .int .u8 s0, .int .u8 s1, .int .u8 s2, .int .u8 s3, .int .u8 s4, .int .u8 s5, .int .i64 ty, .string x] 55 (0, 0)) := by rw [hw1]; exact (((Kept.refl (fun _ => False) (w.alloc (.cells #[.int .u8 d0, .int .u8 d1, .int .u8 d2, .int .u8 d3, .int .u8 d4, .int .u8 d5, .int .u8 s0, .int .u8 s1, .int .u8 s2, .int .u8 s3, .int .u8 s4, .int .u8 s5, .int .i64 ty, .string x] 55))).alloc (.cells #[.int .i64 0, .int .i64 0, .string ⟨#[]⟩] 82)).block w.heap.size (by simp) id).trans (heap_alloc_new w _)
  have hO1 : Own3 w1 (w.heap.size + 1) (.int .i64 0) (.int .i64 0) (.string ⟨#[]⟩) := by
    have h := own3_new (w.alloc (.cells #[.int .u8 d0, .int .u8 d1, .int .u8 d2, .int .u8 d3, .int .u8 d4, .int .u8 d5, .int .u8 s0, .int .u8 s1, .int .u8 s2, .int .u8 s3, .int .u8 s4, .int .u8 s5, .int .i64 ty, .string x] 55)) 82 (.int .i64 0) (.int .i64 0) (.string ⟨#[]⟩)
    rw [show (w.alloc (.cells #[.int .u8 d0, .int .u8 d1, .int .u8 d2, .int .u8 d3, .int .u8 d4, .int .u8 d5, .int .u8 s0, .int .u8 s1, .int .u8 s2, .int .u8 s3, .int .u8 s4, .int .u8 s5, .int .i64 ty, .string x] 55)).heap.size = w.heap.size + 1 from by simp] at h
    rw [hw1]
    exact h
  have HW1s : Hid (w.heap.size + 1 < w1.heap.size) := lt_of_cell hO1.1.1
  have K1 := hid k1
  have O1 := hid hO1
  have p12 : w1.cell? ⟨w.heap.size, 12, none⟩ = some (.int .i64 ty) := cell_of_row w1 _ 12 _ _ _ hB1
  have p13 : w1.cell? ⟨w.heap.size, 13, none⟩ = some (.string x) := cell_of_row w1 _ 13 _ _ _ hB1
  rw [hw1] at p12 p13
  clear hw1 k1 hB1 hfv hd hs hl
  by_cases hty : ty = 34915
  · subst hty
    rw [if_neg (by simp)]
    by_cases h1 : E1 = 0
    · subst h1
      rw [if_neg (by simp)]
      clear hO1
      by_cases h2 : E2 = 0
      · subst h2
        rw [if_neg (by simp)]
        go_enter Tryz.func39, Tryz.ntmps39
        go_wp2_with fail
        rw [← Hw1.out]
        refine (HG.out _).mono ?_
        rintro e w2 ⟨rfl, hk2⟩
        obtain ⟨w3, hw3⟩ : ∃ w3, w3 = w2.alloc (.cells #[.int .i64 (d.code : Int), .int .i64 (d.session : Int), .string ⟨d.data.toArray⟩] 82) := ⟨_, rfl⟩
        have Hw3 := hid hw3
        have k13 : Kept (fun _ => False) w1 w3 := by rw [hw3]; exact hk2.alloc _
        have HW13 := hid k13.size
        have b3 : Box3 w3 w2.heap.size (.int .i64 (d.code : Int)) (.int .i64 (d.session : Int)) (.string ⟨d.data.toArray⟩) := by rw [hw3]; exact box3_new w2 _ _ _ _
        have HW3s : Hid (w2.heap.size < w3.heap.size) := by rw [hw3]; show _ < _; simp
        have HW2s := hid (Nat.le_trans K1.out.size hk2.size)
        clear hw3 hk2 p12 p13
        have e2 := b3.2.2
        rw [Hw3.out] at e2
        go_wp2_with fail
        rw [← Hw3.out]
        refine (HT.out _).mono ?_
        rintro e w4 ⟨v4, rfl, ho4, hk4⟩
        have k14 : Kept (fun _ => False) w1 w4 := k13.trans hk4
        clear e2
        obtain ⟨p4, cp4, rfl⟩ := slice_of ho4
        obtain ⟨⟨c0, c1, c2⟩, f0⟩ := O1.out.kept k14
        obtain ⟨z0, z1, z2⟩ : Box3 w4 w2.heap.size (.int .i64 (d.code : Int)) (.int .i64 (d.session : Int)) (.string ⟨d.data.toArray⟩) := b3.carry (below_of hk4) HW3s.out
        have HO4 := hid ho4
        have K4 := hid (K1.out.trans k14)
        have hws : w1.heap.size ≤ w3.heap.size := HW13.out
        clear ho4 hk4 k14 b3 k13
        go_wp2
        refine bodyPost_ret (v := .tuple #[.agg #[.int .i64 (d.code : Int), .int .i64 (d.session : Int), .string ⟨d.data.toArray⟩], .slice p4 l.length cp4, .bool true]) (by simp [results, Tryz.results39, go_sem, c0, c1, c2]) rfl ⟨_, _, _, p4, l.length, cp4, rfl, fun _ => ⟨rfl, rfl, rfl, ?_⟩, ?_⟩
        · refine OwnT.mono (HO4.out.keptAt ((((Kept.refl (fun i => i = w.heap.size + 1) w4).setCell (p := ⟨w.heap.size + 1, 0, none⟩) (Or.inr (by rfl)) _).setCell (p := ⟨w.heap.size + 1, 1, none⟩) (Or.inr (by rfl)) _).setCell (p := ⟨w.heap.size + 1, 2, none⟩) (Or.inr (by rfl)) _) (fun i hi e => by have h9 := HW1s.out; omega)) (Nat.le_trans K1.out.size hws)
        · repeat (refine Kept.setCell ?_ (Or.inl (by simp only []; omega)) _)
          exact K4.out
      · rw [if_pos h2]
        have n2 : (E2 == 0) = false := by simpa using h2
        go_enter Tryz.func39, Tryz.ntmps39
        go_wp2_with fail
        rw [← Hw1.out]
        refine (HG.out _).mono ?_
        rintro e w2 ⟨rfl, hk2⟩
        obtain ⟨w3, hw3⟩ : ∃ w3, w3 = w2.alloc (.cells #[.int .i64 (d.code : Int), .int .i64 (d.session : Int), .string ⟨d.data.toArray⟩] 82) := ⟨_, rfl⟩
        have Hw3 := hid hw3
        have k13 : Kept (fun _ => False) w1 w3 := by rw [hw3]; exact hk2.alloc _
        have HW13 := hid k13.size
        have b3 : Box3 w3 w2.heap.size (.int .i64 (d.code : Int)) (.int .i64 (d.session : Int)) (.string ⟨d.data.toArray⟩) := by rw [hw3]; exact box3_new w2 _ _ _ _
        have HW3s : Hid (w2.heap.size < w3.heap.size) := by rw [hw3]; show _ < _; simp
        have HW2s := hid (Nat.le_trans K1.out.size hk2.size)
        clear hw3 hk2 p12 p13
        have e2 := b3.2.2
        rw [Hw3.out] at e2
        go_wp2_with fail
        rw [← Hw3.out]
        refine (HT.out _).mono ?_
        rintro e w4 ⟨v4, rfl, ho4, hk4⟩
        have k14 : Kept (fun _ => False) w1 w4 := k13.trans hk4
        clear e2
        obtain ⟨p4, cp4, rfl⟩ := slice_of ho4
        obtain ⟨⟨c0, c1, c2⟩, f0⟩ := O1.out.kept k14
        obtain ⟨z0, z1, z2⟩ : Box3 w4 w2.heap.size (.int .i64 (d.code : Int)) (.int .i64 (d.session : Int)) (.string ⟨d.data.toArray⟩) := b3.carry (below_of hk4) HW3s.out
        have K4 := hid (K1.out.trans k14)
        clear ho4 hk4 k14 b3 k13
        go_wp2
        refine bodyPost_ret (v := .tuple #[.agg #[.int .i64 (d.code : Int), .int .i64 (d.session : Int), .string ⟨d.data.toArray⟩], .slice p4 l.length cp4, .bool false]) (by simp [results, Tryz.results39, go_sem, c0, c1, c2]) rfl ⟨_, _, _, p4, l.length, cp4, rfl, fun h => (by cases h), ?_⟩
        repeat (refine Kept.setCell ?_ (Or.inl (by simp only []; omega)) _)
        exact K4.out
    · rw [if_pos h1]
      have n1 : (E1 != 0) = true := by simpa using h1
      clear hO1
      go_enter Tryz.func39, Tryz.ntmps39
      go_wp2_with fail
      rw [← Hw1.out]
      refine (HG.out _).mono ?_
      rintro e w2 ⟨rfl, hk2⟩
      obtain ⟨w3, hw3⟩ : ∃ w3, w3 = w2.alloc (.cells #[.int .i64 (d.code : Int), .int .i64 (d.session : Int), .string ⟨d.data.toArray⟩] 82) := ⟨_, rfl⟩
      have Hw3 := hid hw3
      have k13 : Kept (fun _ => False) w1 w3 := by rw [hw3]; exact hk2.alloc _
      have HW13 := hid k13.size
      have b3 : Box3 w3 w2.heap.size (.int .i64 (d.code : Int)) (.int .i64 (d.session : Int)) (.string ⟨d.data.toArray⟩) := by rw [hw3]; exact box3_new w2 _ _ _ _
      have HW3s : Hid (w2.heap.size < w3.heap.size) := by rw [hw3]; show _ < _; simp
      have HW2s := hid (Nat.le_trans K1.out.size hk2.size)
      clear hw3 hk2 p12 p13
      obtain ⟨⟨c0, c1, c2⟩, f0⟩ := O1.out.kept k13
      have K3 := hid (K1.out.trans k13)
      rw [Hw3.out] at c0 c1 c2 f0
      clear b3 k13
      go_wp2
      refine bodyPost_ret (v := .tuple #[.agg #[.int .i64 0, .int .i64 0, .string ⟨#[]⟩], .slice none 0 0, .bool false]) (by simp [results, Tryz.results39, go_sem, c0, c1, c2]) rfl ⟨_, _, _, none, 0, 0, rfl, fun h => (by cases h), ?_⟩
      repeat (refine Kept.setCell ?_ (Or.inl (by simp only []; omega)) _)
      have h9 := K3.out
      rw [Hw3.out] at h9
      exact h9
  · rw [if_pos hty]
    have nt : (ty != 34915) = true := by simpa using hty
    obtain ⟨⟨c0, c1, c2⟩, f0⟩ := hO1
    rw [Hw1.out] at c0 c1 c2 f0
    go_enter Tryz.func39, Tryz.ntmps39
    go_wp2
    refine bodyPost_ret (v := .tuple #[.agg #[.int .i64 0, .int .i64 0, .string ⟨#[]⟩], .slice none 0 0, .bool false]) (by simp [results, Tryz.results39, go_sem, c0, c1, c2]) rfl ⟨_, _, _, none, 0, 0, rfl, fun h => (by cases h), ?_⟩
    exact ((Kept.refl _ w).alloc _).alloc _
end Go.Proofs.YtffnppfoofifgaaGreat

namespace Go.Proofs.YtffnppfoofifgaaGreat
open Go.RowKit

set_option maxHeartbeats 2000000 in
set_option maxRecDepth 100000 in
theorem refFind_any (v : Value) (l : List Tg) (kind : Int) (w : World) (hv : TagsAt w v l) (hl : l.length ≤ 1000000) (hsz : ∀ x ∈ l, x.value.size ≤ 140737488351232) :
    Calls Tryz.prog 40 #[v, .int .i64 kind] w fun e w' => e = .returned (.tuple #[.string (findF l kind).1, .int .i64 ((findF l kind).2 : Int)]) ∧ Kept (fun _ => False) w w' := by
  obtain ⟨p, cap, rfl⟩ := hv.slice
  have Hat : Hid (∀ (j : Nat) (x : Tg), l[j]? = some x → ∀ W, Kept (fun _ => False) w W → ∃ g o, p = some ⟨g, o, none⟩ ∧ l.length ≤ cap ∧ W.cell? ⟨g, o + j * 2, none⟩ = some (.int .i64 x.type) ∧ W.cell? ⟨g, o + j * 2 + 1, none⟩ = some (.string x.value)) :=
    fun j x hj W hW => (hv.kept0 hW).at hj
  have Hsz := hid hsz
  clear hv hsz
  go_enter Tryz.func40, Tryz.ntmps40
  go_wp2
  go_loopw [6, 7, 8] (fun v6 v7 vi wr => ∃ (j : Nat) (S : ByteArray) (n : Nat), j ≤ l.length ∧ n ≤ j ∧ vi = .int .i64 (j : Int) ∧ v6 = .string S ∧ v7 = .int .i64 (n : Int) ∧ Hid (findF (l.take j) kind = (S, n) ∧ Kept (fun _ => False) w wr)) (fun _ _ vi _ => l.length - (intOf vi).toNat)
  case atStart => exact ⟨0, ⟨#[]⟩, 0, Nat.zero_le _, Nat.le_refl _, rfl, rfl, rfl, rfl, Kept.refl _ _⟩
  case round =>
    obtain ⟨j, S, n, hj, hnj, rfl, rfl, rfl, HI⟩ := hrel
    by_cases hlt : j < l.length
    · have hltz : (j : Int) < (l.length : Int) := by omega
      obtain ⟨x, hx⟩ : ∃ x, l[j]? = some x := ⟨l[j], by simp [hlt]⟩
      obtain ⟨g, o, rfl, hcap, c0, c1⟩ := Hat.out j x hx wr HI.out.2
      have hxs := Hsz.out x (List.mem_of_getElem? hx)
      have HK := hid HI.out.2
      have hF : findF (l.take (j + 1)) kind = findOn kind (S, n) x := by rw [take_next hx, findF_snoc, HI.out.1]
      by_cases hty : x.type = kind
      · rw [findOn_yes hty] at hF
        have hne : (x.type == kind) = true := by simp [hty]
        cases n with
        | zero =>
          rw [if_pos rfl] at hF
          have HF := hid hF
          clear hF hx HI hty
          generalize x.type = T at *
          generalize x.value = V at *
          go_wp2
          exact ⟨⟨j + 1, _, 1, hlt, by omega, by go_num, rfl, rfl, HF.out, HK.out⟩, by simp [intOf]; omega⟩
        | succ n =>
          rw [if_neg (by simp)] at hF
          have HF := hid hF
          have hn0 : (((n + 1 : Nat) : Int) == 0) = false := by rw [beq_eq_false_iff_ne]; omega
          clear hF hx HI hty
          generalize x.type = T at *
          generalize x.value = V at *
          obtain ⟨q, hq⟩ : ∃ q : Nat, q = n + 1 := ⟨_, rfl⟩
          rw [← hq] at HF hn0 hnj ⊢
          clear hq
          go_wp2
          exact ⟨⟨j + 1, S, q + 1, hlt, by omega, by go_num, rfl, by go_num, HF.out, HK.out⟩, by simp [intOf]; omega⟩
      · rw [findOn_no hty] at hF
        have HF := hid hF
        have hne : (x.type == kind) = false := by simpa using hty
        clear hF hx HI hty
        generalize x.type = T at *
        generalize x.value = V at *
        go_wp2
        exact ⟨⟨j + 1, S, n, hlt, by omega, by go_num, rfl, rfl, HF.out, HK.out⟩, by simp [intOf]; omega⟩
    · obtain rfl : j = l.length := by omega
      obtain ⟨hF, hk⟩ := HI.out
      rw [List.take_length] at hF
      have HF := hid hF
      clear hF HI hlt
      go_wp2
      go_ret2
      exact ⟨by rw [HF.out]; rfl, hk⟩
end Go.Proofs.YtffnppfoofifgaaGreat
