/- The contract of the document's own GetTags (tollgateref5): the tags of some bytes, or the error. -/
import Derived.Test.YtdceopnjokdblaaGreatTagRefOne
import Derived.Test.YtdceopnjokdblaaGreatTagGetTags
namespace Go.Proofs.YtdceopnjokdblaaGreat
open Go.RowKit

set_option maxHeartbeats 4000000 in
set_option maxRecDepth 100000 in
theorem refGetTags_any (s : ByteArray) (hs : s.size ≤ 140737488351232) (w : World) :
    Calls Tryz.prog 14 #[.string s] w fun e w' => ∃ v, e = .returned (.tuple #[v, .int .i64 (tagsOn s.data.toList []).2]) ∧ OwnT w' w.heap.size v (tagsOn s.data.toList []).1 ∧ Kept (fun _ => False) w w' := by
  obtain ⟨i0, hi, hz0, hz1, hz2⟩ := info_parts infoTag
  obtain ⟨R, hR⟩ : ∃ R, R = tagsOn s.data.toList [] := ⟨_, rfl⟩
  rw [← hR]
  have HR := hid hR.symm
  clear hR
  go_enter Tryz.func14, Tryz.ntmps14
  go_wp2
  go_loopw [4, 5] (fun vl va wr => ∃ (a : Nat) (acc : List Tg), a ≤ s.size ∧ va = .int .i64 (a : Int) ∧ Hid (acc.length ≤ 20 ∧ tagsOn (s.data.toList.drop a) acc = R ∧ Mid w vl acc wr)) (fun _ va _ => s.size - (intOf va).toNat)
  case atStart => exact ⟨0, [], Nat.zero_le _, rfl, Nat.zero_le _, HR.out, OwnT.nil _ _, Kept.refl _ _⟩
  case round =>
    obtain ⟨a, acc, ha, rfl, HI⟩ := hrel
    obtain ⟨h20, hT, hmid⟩ := HI.out
    have Hm := hid hmid
    have hb : s.size ≤ maxLen := by unfold maxLen; omega
    have hbl : (s.data.toList.drop a).length = s.size - a := by rw [List.length_drop, ← Lib.size_eq]
    rw [tagsOn_eq] at hT
    clear HI HR hmid
    by_cases ha0 : a = s.size
    · rw [if_pos (Or.inl (by omega))] at hT
      have HT := hid hT
      have haz : ¬ (a : Int) < (s.size : Int) := by omega
      clear hT hbl ha0
      go_wp2
      go_ret2
      exact ⟨_, by rw [← HT.out]; rfl, by rw [← HT.out]; exact Hm.out.1, Hm.out.2⟩
    · have haz : (a : Int) < (s.size : Int) := by omega
      by_cases h2 : s.size - a < 2
      · rw [if_neg (by omega), if_pos (by omega)] at hT
        have HT := hid hT
        have h2z : ¬ (2 : Int) ≤ (s.size : Int) - (a : Int) := by omega
        have h4z : (s.size : Int) - (a : Int) < 4 := by omega
        clear hT hbl ha0 h2
        go_wp2
        go_ret2
        exact ⟨_, by rw [← HT.out]; rfl, by rw [← HT.out]; exact OwnT.nil _ _, Hm.out.2⟩
      · have h2z : (2 : Int) ≤ (s.size : Int) - (a : Int) := by omega
        have HG0 := hid (Mid.since (refNum_any s hb a (by omega)) w u4 acc)
        obtain ⟨m, hm⟩ : ∃ m, m = numOf ((s.data.toList.drop a).take 2) := ⟨_, rfl⟩
        rw [← hm] at HG0 hT
        by_cases hm0 : m = 0
        · rw [if_pos (Or.inr ⟨by omega, hm0⟩)] at hT
          have HT := hid hT
          subst hm0
          clear hT hbl ha0 h2 hm
          go_wp2_with fail
          refine (HG0.out _ Hm.out).mono ?_
          rintro e w1 ⟨rfl, hm1⟩
          have Hm1 := hid hm1
          clear hm1
          go_wp2
          go_ret2
          exact ⟨_, by rw [← HT.out]; rfl, by rw [← HT.out]; exact Hm1.out.1, Hm1.out.2⟩
        · have hmz : ((m : Int) == 0) = false := by rw [beq_eq_false_iff_ne]; omega
          rw [if_neg (by omega)] at hT
          by_cases h4 : s.size - a < 4
          · rw [if_pos (by omega)] at hT
            have HT := hid hT
            have h4z : (s.size : Int) - (a : Int) < 4 := by omega
            clear hT hbl ha0 h2 hm h4 hm0
            go_wp2_with fail
            refine (HG0.out _ Hm.out).mono ?_
            rintro e w1 ⟨rfl, hm1⟩
            have Hm1 := hid hm1
            clear hm1
            go_wp2
            go_ret2
            exact ⟨_, by rw [← HT.out]; rfl, by rw [← HT.out]; exact OwnT.nil _ _, Hm1.out.2⟩
          · have h4z : ¬ (s.size : Int) - (a : Int) < 4 := by omega
            rw [if_neg (by omega)] at hT
            have HG2 := hid (Mid.since (refNum_any s hb (a + 2) (by omega)) w u4 acc)
            rw [← List.drop_drop, show ((a + 2 : Nat) : Int) = (a : Int) + 2 by omega] at HG2
            have hn6 := num2_lt ((s.data.toList.drop a).drop 2)
            obtain ⟨n, hn⟩ : ∃ n, n = numOf (((s.data.toList.drop a).drop 2).take 2) := ⟨_, rfl⟩
            rw [← hn] at hT HG2 hn6
            clear hn
            by_cases h5 : s.size - a < 4 + n
            · rw [if_pos (by omega)] at hT
              have HT := hid hT
              have h5z : (s.size : Int) - (a : Int) - 4 < (n : Int) := by omega
              clear hT hbl ha0 h2 hm h4 hm0 h5
              go_wp2_with fail
              refine (HG0.out _ Hm.out).mono ?_
              rintro e w1 ⟨rfl, hm1⟩
              have Hm1 := hid hm1
              clear hm1
              go_wp2_with fail
              refine (HG2.out _ Hm1.out).mono ?_
              rintro e w2 ⟨rfl, hm2⟩
              have Hm2 := hid hm2
              clear hm2
              go_wp2
              go_ret2
              exact ⟨_, by rw [← HT.out]; rfl, by rw [← HT.out]; exact OwnT.nil _ _, Hm2.out.2⟩
            · rw [if_neg (by omega)] at hT
              have h5z : ¬ (s.size : Int) - (a : Int) - 4 < (n : Int) := by omega
              obtain ⟨p, cap, hv4⟩ := slice_of Hm.out.1
              subst hv4
              by_cases h6 : 20 ≤ acc.length
              · rw [if_pos h6] at hT
                have HT := hid hT
                have h6z : (20 : Int) ≤ (acc.length : Int) := by omega
                clear hT hbl ha0 h2 hm h4 hm0 h5 h6
                go_wp2_with fail
                refine (HG0.out _ Hm.out).mono ?_
                rintro e w1 ⟨rfl, hm1⟩
                have Hm1 := hid hm1
                clear hm1
                go_wp2_with fail
                refine (HG2.out _ Hm1.out).mono ?_
                rintro e w2 ⟨rfl, hm2⟩
                have Hm2 := hid hm2
                clear hm2
                go_wp2_with fail
                refine (HG2.out _ Hm2.out).mono ?_
                rintro e w3 ⟨rfl, hm3⟩
                have Hm3 := hid hm3
                clear hm3
                go_wp2
                go_ret2
                exact ⟨_, by rw [← HT.out]; rfl, by rw [← HT.out]; exact OwnT.nil _ _, Hm3.out.2⟩
              · rw [if_neg h6] at hT
                have h6z : ¬ (20 : Int) ≤ (acc.length : Int) := by omega
                have j4 := mid_at s (a + 4) (a + 4 + n) (by omega) (by omega) ((a : Int) + 4) ((a : Int) + 4 + (n : Int)) (by omega) (by omega)
                have hw4 : IntKind.i64.wrap ((a : Int) + 4) = (a : Int) + 4 := by rw [IntKind.wrap_i64]; omega
                have hw5 : IntKind.i64.wrap ((a : Int) + 4 + (n : Int)) = (a : Int) + 4 + (n : Int) := by rw [IntKind.wrap_i64]; omega
                have eV : (⟨(((s.data.toList.drop a).drop 4).take n).toArray⟩ : ByteArray) = s.extract (a + 4) (a + 4 + n) := by
                  apply bytes_ext
                  rw [Lib.extract_data, Nat.add_sub_cancel_left, List.drop_drop]
                rw [eV, List.drop_drop] at hT
                obtain ⟨X, hX⟩ : ∃ X, X = s.extract (a + 4) (a + 4 + n) := ⟨_, rfl⟩
                rw [← hX] at hT j4
                have HT := hid hT
                have HO : Hid (∀ W o, Mid w (.slice p acc.length cap) acc W → (W.alloc o).ownsRow w.heap.size 63 2 (.slice p acc.length cap) acc.length (rowT acc)) := fun W o h => World.ownsRow.alloc h.1 o
                have HS : Hid (∀ W o, Mid w (.slice p acc.length cap) acc W → w.heap.size ≤ (W.alloc o).heap.size) := fun W o h => (h.2.alloc o).size
                have HF : Hid (∀ W w' g' cap', Mid w (.slice p acc.length cap) acc W → w'.ownsRow w.heap.size 63 2 (.slice (some ⟨g', 0, none⟩) (acc.length + 1) cap') (acc.length + 1) (rowT acc ++ [.int .i64 (m : Int), .string X]) → (W.alloc (.cells #[.int .i64 (m : Int), .string X] 63)).grownBy w' (Value.slice p acc.length cap).ownBlock → Mid w (.slice (some ⟨g', 0, none⟩) (acc.length + 1) cap') (acc ++ [⟨(m : Int), X⟩]) w') :=
                  fun W w' g' cap' h1 h2 h3 => own_more (x := ⟨(m : Int), X⟩) h1.2 h1.1 h2 h3
                have h20' : acc.length < 20 := by omega
                have hfin : a + (4 + n) ≤ s.size := by omega
                clear hT hbl ha0 h2 hm h4 hm0 h5 h6 eV hX
                go_wp2_with fail
                refine (HG0.out _ Hm.out).mono ?_
                rintro e w1 ⟨rfl, hm1⟩
                have Hm1 := hid hm1
                clear hm1
                go_wp2_with fail
                refine (HG2.out _ Hm1.out).mono ?_
                rintro e w2 ⟨rfl, hm2⟩
                have Hm2 := hid hm2
                clear hm2
                go_wp2_with fail
                refine (HG2.out _ Hm2.out).mono ?_
                rintro e w3 ⟨rfl, hm3⟩
                have hM2 : Mid w (.slice p acc.length cap) acc w3.drew := ⟨hm3.1.kept (Kept.refl _ _).drew, hm3.2.drew⟩
                clear hm3 Hm Hm1 Hm2 HG2
                go_wp2
                go_region_held_law (fun W => Kept (fun _ => False) w W) (first | assumption | exact hM2.2 | (refine Kept.alloc ?_ _; assumption))
                  (first
                    | (refine step_append_lies _ rfl (.tmp 46) (.tmp 59) 24 rfl w.heap.size 63 i0 (.agg #[.int .i64 0, .string ⟨#[]⟩]) 2 24 Tryz.underlying24 hi hz0 hz1 hz2 rfl (by decide) _ acc.length (rowT acc) rfl (HO.out _ _ (by assumption)) _ 1 1 [.int .i64 (m : Int), .string X] rfl rfl (World.news_of_block (heap_alloc_new _ _)) (by intro u hu; simp at hu; rcases hu with rfl | rfl <;> rfl) (by decide) (by unfold maxLen; omega) (by omega) (HS.out _ _ (by assumption)) _ rfl ?_; intro g' cap' w6 hown' hgrow hgg hgl'; have hM6 := HF.out _ _ _ _ (by assumption) hown' hgrow; have hK6 := hM6.2)
                    | (go_at_call 28; refine (HG0.out _ (by assumption)).mono ?_; rintro e w4 ⟨rfl, hm4⟩; have hK4 := hm4.2))
                all_goals
                  clear hown' hgrow hgg hgl'
                  go_wp2
                  exact ⟨⟨a + (4 + n), _, hfin, by go_num, by simp; omega, HT.out, hM6⟩, by simp [intOf]; omega⟩
end Go.Proofs.YtdceopnjokdblaaGreat
