/- The contract of tag.GetTags: the tags of some bytes, or the error; for every string of at most 2^47 bytes. -/
import Derived.Test.YtffnppfoofifgaaGreatTagPutTags
import Derived.Deep.RegionHeldLaw
import Derived.Deep.AppendLies
namespace Go.Proofs.YtffnppfoofifgaaGreat
open Go.RowKit

/-- No tag stands at the front. -/
def endB (l : List UInt8) : Bool := decide (l.length = 0) || (decide (2 ≤ l.length) && decide (numOf (l.take 2) = 0))
theorem endB_iff {l : List UInt8} : endB l = true ↔ (l.length = 0 ∨ (2 ≤ l.length ∧ numOf (l.take 2) = 0)) := by simp [endB]

set_option maxHeartbeats 1000000 in
set_option maxRecDepth 100000 in
theorem isEnd_any (s : ByteArray) (hs : s.size ≤ maxLen) (w : World) :
    Calls Tryz.prog 169 #[.string s] w fun e w' => e = .returned (.bool (endB s.data.toList)) ∧ Kept (fun _ => False) w w' := by
  have hl : s.data.toList.length = s.size := (Lib.size_eq s).symm
  by_cases h0 : s.size = 0
  · obtain rfl := str_nil s h0
    go_enter Tryz.func169, Tryz.ntmps169
    go_wp2
    go_ret
    exact ⟨rfl, Kept.refl _ _⟩
  · have hne0 : ¬ s.toList = [] := by
      intro e
      rw [ByteArray.toList_eq] at e
      exact h0 (by rw [Lib.size_eq, e]; rfl)
    have hne : s.toList.isEmpty = false := by
      rw [List.isEmpty_eq_false_iff]
      exact hne0
    by_cases h1 : s.size < 2
    · have e : endB s.data.toList = false := by
        rw [← Bool.not_eq_true, endB_iff]
        omega
      rw [e]
      have h1z : ¬ (2 : Int) ≤ (s.size : Int) := by omega
      clear hl
      go_enter Tryz.func169, Tryz.ntmps169
      go_wp2
      go_ret
      exact ⟨rfl, Kept.refl _ _⟩
    · have h1z : (2 : Int) ≤ (s.size : Int) := by omega
      have HG := hid (getWord_any s hs (by omega))
      have e : endB s.data.toList = ((numOf (s.data.toList.take 2) : Int) == 0) := by
        rw [Bool.eq_iff_iff, endB_iff, beq_iff_eq]
        omega
      rw [e]
      generalize numOf (s.data.toList.take 2) = N at *
      clear hl e
      go_enter Tryz.func169, Tryz.ntmps169
      go_wp2_with (go_at_call 167; refine (HG.out _).mono ?_; rintro e w1 ⟨rfl, hk1⟩)
      go_ret
      exact ⟨rfl, by assumption⟩

theorem cells_pair_new (w : World) (x : Tg) : ∀ (j : Nat) (u : Value), ([.int .i64 x.type, .string x.value] : List Value)[j]? = some u → (w.alloc (.cells #[.int .i64 x.type, .string x.value] 97)).cell? ((⟨w.heap.size, 0, none⟩ : Addr).add j) = some u := cells_two_new _ _ _ _

/-- One more tag. -/
theorem own_more {w0 w w' : World} {v v' : Value} {l : List Tg} {x : Tg} (hk : Kept (fun _ => False) w0 w) (hown : OwnT w w0.heap.size v l)
    (hown' : w'.ownsRow w0.heap.size 97 2 v' (l.length + 1) (rowT l ++ [.int .i64 x.type, .string x.value])) (hg : (w.alloc (.cells #[.int .i64 x.type, .string x.value] 97)).grownBy w' v.ownBlock) :
    OwnT w' w0.heap.size v' (l ++ [x]) ∧ Kept (fun _ => False) w0 w' := by
  constructor
  · unfold OwnT
    rw [rowT_append, rowT_one, List.length_append]
    exact hown'
  · exact (hk.alloc _).grown hg (fun j hj => Or.inl (World.ownsRow.lt hown j hj).1)

/-- The list as it stands in the middle of a round. -/
def Mid (w : World) (vl : Value) (acc : List Tg) (W : World) : Prop := OwnT W w.heap.size vl acc ∧ Kept (fun _ => False) w W

theorem Mid.since {f : FuncId} {args : Array Value} {r : Ending} (h : ∀ w, Calls Tryz.prog f args w fun e w' => e = r ∧ Kept (fun _ => False) w w') (w : World) (vl : Value) (acc : List Tg) :
    ∀ W, Mid w vl acc W → Calls Tryz.prog f args W fun e w' => e = r ∧ Mid w vl acc w' := fun W hW =>
  (h W).mono fun _ _ ⟨h1, h2⟩ => ⟨h1, hW.1.kept h2, hW.2.trans h2⟩

set_option maxHeartbeats 4000000 in
set_option maxRecDepth 100000 in
theorem getTags_any (s : ByteArray) (hs : s.size ≤ 140737488351232) (w : World) :
    Calls Tryz.prog 125 #[.string s] w fun e w' => ∃ v, e = .returned (.tuple #[v, .int .i64 (tagsOn s.data.toList []).2]) ∧ OwnT w' w.heap.size v (tagsOn s.data.toList []).1 ∧ Kept (fun _ => False) w w' := by
  obtain ⟨i0, hi, hz0, hz1, hz2⟩ := info_parts infoTag
  obtain ⟨R, hR⟩ : ∃ R, R = tagsOn s.data.toList [] := ⟨_, rfl⟩
  rw [← hR]
  have HR := hid hR.symm
  clear hR
  go_enter Tryz.func125, Tryz.ntmps125
  go_wp2
  go_loopw [0, 4] (fun vb vl wr => ∃ (b : ByteArray) (acc : List Tg), vb = .string b ∧ Hid (b.size ≤ s.size ∧ acc.length ≤ 20 ∧ tagsOn b.data.toList acc = R ∧ Mid w vl acc wr)) (fun vb _ _ => (strV vb).size)
  case atStart => exact ⟨s, [], rfl, Nat.le_refl _, Nat.zero_le _, HR.out, OwnT.nil _ _, Kept.refl _ _⟩
  case round =>
    obtain ⟨b, acc, rfl, HI⟩ := hrel
    obtain ⟨hbs, h20, hT, hmid⟩ := HI.out
    have hb : b.size ≤ maxLen := by unfold maxLen; omega
    have hbl : b.data.toList.length = b.size := (Lib.size_eq b).symm
    have HE := hid (Mid.since (isEnd_any b hb) w u4 acc)
    rw [tagsOn_eq] at hT
    clear HI HR
    cases he : endB b.data.toList with
    | true =>
      rw [if_pos (endB_iff.1 he)] at hT
      rw [he] at HE
      have HT := hid hT
      have Hm := hid hmid
      clear hT hmid he hbl
      go_wp2_with fail
      refine (HE.out _ Hm.out).mono ?_
      rintro e w1 ⟨rfl, hm1⟩
      have Hm1 := hid hm1
      clear hm1
      go_wp2
      go_ret2
      exact ⟨_, by rw [← HT.out]; rfl, by rw [← HT.out]; exact Hm1.out.1, Hm1.out.2⟩
    | false =>
      rw [if_neg (by rw [← endB_iff, he]; simp)] at hT
      rw [he] at HE
      have Hm := hid hmid
      clear hmid he
      by_cases h4 : b.size < 4
      · rw [if_pos (by omega)] at hT
        have HT := hid hT
        clear hT hbl
        go_wp2_with fail
        refine (HE.out _ Hm.out).mono ?_
        rintro e w1 ⟨rfl, hm1⟩
        have Hm1 := hid hm1
        clear hm1
        go_wp2
        go_ret2
        exact ⟨_, by rw [← HT.out]; rfl, by rw [← HT.out]; exact OwnT.nil _ _, Hm1.out.2⟩
      · rw [if_neg (by omega)] at hT
        have hx4 : (b.extract 2 4).size = 2 := by rw [ByteArray.size_extract]; omega
        have HG4 := hid (Mid.since (getWord_any (b.extract 2 4) (by rw [hx4]; unfold maxLen; omega) (by omega)) w u4 acc)
        rw [take_num b 2] at HG4
        have i4 := mid_at b 2 4 (by omega) (by omega) 2 4 rfl rfl
        have hn6 := num2_lt (b.data.toList.drop 2)
        have HG0 := hid (Mid.since (getWord_any b hb (by omega)) w u4 acc)
        obtain ⟨n, hn⟩ : ∃ n, n = numOf ((b.data.toList.drop 2).take 2) := ⟨_, rfl⟩
        rw [← hn] at hT HG4 hn6
        clear hx4 hn
        by_cases h5 : b.size < 4 + n
        · rw [if_pos (by omega)] at hT
          have HT := hid hT
          have h5z : (b.size : Int) < 4 + (n : Int) := by omega
          clear hT hbl HG0
          go_wp2_with fail
          refine (HE.out _ Hm.out).mono ?_
          rintro e w1 ⟨rfl, hm1⟩
          have Hm1 := hid hm1
          clear hm1
          go_wp2_with fail
          refine (HG4.out _ Hm1.out).mono ?_
          rintro e w2 ⟨rfl, hm2⟩
          have Hm2 := hid hm2
          clear hm2
          go_wp2
          go_ret2
          exact ⟨_, by rw [← HT.out]; rfl, by rw [← HT.out]; exact OwnT.nil _ _, Hm2.out.2⟩
        · rw [if_neg (by omega)] at hT
          have h5z : ¬ (b.size : Int) < 4 + (n : Int) := by omega
          by_cases h6 : 20 ≤ acc.length
          · rw [if_pos h6] at hT
            have HT := hid hT
            obtain ⟨p, cap, hv4⟩ := slice_of Hm.out.1
            have e20 : acc.length = 20 := by omega
            rw [e20] at hv4
            subst hv4
            clear hT hbl HG0
            go_wp2_with fail
            refine (HE.out _ Hm.out).mono ?_
            rintro e w1 ⟨rfl, hm1⟩
            have Hm1 := hid hm1
            clear hm1
            go_wp2_with fail
            refine (HG4.out _ Hm1.out).mono ?_
            rintro e w2 ⟨rfl, hm2⟩
            have Hm2 := hid hm2
            clear hm2
            go_wp2
            go_ret2
            exact ⟨_, by rw [← HT.out]; rfl, by rw [← HT.out]; exact OwnT.nil _ _, Hm2.out.2⟩
          · rw [if_neg h6] at hT
            obtain ⟨p, cap, hv4⟩ := slice_of Hm.out.1
            subst hv4
            have h6z : ((acc.length : Int) == 20) = false := by rw [beq_eq_false_iff_ne]; omega
            have j4 := mid_at b 4 (4 + n) (by omega) (by omega) 4 (4 + (n : Int)) rfl (by omega)
            have jE := last_at b (4 + n) (by omega) (4 + (n : Int)) (by omega)
            have HC := hid (Mid.since (fun W => (clone_any (b.extract 4 (4 + n)) W (by rw [ByteArray.size_extract]; omega)).mono fun _ _ ⟨h1, h2⟩ => ⟨h1, kept_of h2⟩) w (.slice p acc.length cap) acc)
            obtain ⟨m, hm⟩ : ∃ m, m = numOf (b.data.toList.take 2) := ⟨_, rfl⟩
            have eV : (⟨((b.data.toList.drop 4).take n).toArray⟩ : ByteArray) = b.extract 4 (4 + n) := by
              apply bytes_ext
              rw [Lib.extract_data, Nat.add_sub_cancel_left]
            rw [← hm, eV, ← sub_data b (4 + n)] at hT
            rw [← hm] at HG0
            have HT := hid hT
            have hsz : (b.extract (4 + n) b.size).size < b.size := by rw [ByteArray.size_extract]; omega
            have HO : Hid (∀ W o, Mid w (.slice p acc.length cap) acc W → (W.alloc o).ownsRow w.heap.size 97 2 (.slice p acc.length cap) acc.length (rowT acc)) := fun W o h => World.ownsRow.alloc h.1 o
            have HS : Hid (∀ W o, Mid w (.slice p acc.length cap) acc W → w.heap.size ≤ (W.alloc o).heap.size) := fun W o h => (h.2.alloc o).size
            have HF : Hid (∀ W w' g' cap', Mid w (.slice p acc.length cap) acc W → w'.ownsRow w.heap.size 97 2 (.slice (some ⟨g', 0, none⟩) (acc.length + 1) cap') (acc.length + 1) (rowT acc ++ [.int .i64 (m : Int), .string (b.extract 4 (4 + n))]) → (W.alloc (.cells #[.int .i64 (m : Int), .string (b.extract 4 (4 + n))] 97)).grownBy w' (Value.slice p acc.length cap).ownBlock → Mid w (.slice (some ⟨g', 0, none⟩) (acc.length + 1) cap') (acc ++ [⟨(m : Int), b.extract 4 (4 + n)⟩]) w') :=
              fun W w' g' cap' h1 h2 h3 => own_more (x := ⟨(m : Int), b.extract 4 (4 + n)⟩) h1.2 h1.1 h2 h3
            clear hT hbl hm eV
            have h20' : acc.length < 20 := by omega
            go_wp2_with fail
            refine (HE.out _ Hm.out).mono ?_
            rintro e w1 ⟨rfl, hm1⟩
            have Hm1 := hid hm1
            clear hm1
            go_wp2_with fail
            refine (HG4.out _ Hm1.out).mono ?_
            rintro e w2 ⟨rfl, hm2⟩
            have hM2 : Mid w (.slice p acc.length cap) acc w2.drew := ⟨hm2.1.kept (Kept.refl _ _).drew, hm2.2.drew⟩
            clear hm2 HE HG4 Hm Hm1
            go_wp2
            go_region_held_law (fun W => Kept (fun _ => False) w W) (first | assumption | exact hM2.2 | (refine Kept.alloc ?_ _; assumption))
              (first
                | (refine step_append_lies _ rfl (.tmp 23) (.tmp 31) 88 rfl w.heap.size 97 i0 (.agg #[.int .i64 0, .string ⟨#[]⟩]) 2 24 Tryz.underlying88 hi hz0 hz1 hz2 rfl (by decide) _ acc.length (rowT acc) rfl (HO.out _ _ (by assumption)) _ 1 1 [.int .i64 (m : Int), .string (b.extract 4 (4 + n))] rfl rfl (World.news_of_block (heap_alloc_new _ _)) (by intro u hu; simp at hu; rcases hu with rfl | rfl <;> rfl) (by decide) (by unfold maxLen; omega) (by omega) (HS.out _ _ (by assumption)) _ rfl ?_; intro g' cap' w6 hown' hgrow hgg hgl'; have hM6 := HF.out _ _ _ _ (by assumption) hown' hgrow; have hK6 := hM6.2)
                | (go_at_call 167; refine (HG0.out _ (by assumption)).mono ?_; rintro e w3 ⟨rfl, hm3⟩; have hK3 := hm3.2)
                | (go_at_call 168; refine (HC.out _ (by assumption)).mono ?_; rintro e w5 ⟨rfl, hm5⟩; have hK5 := hm5.2))
            all_goals
              clear hown' hgrow hgg hgl'
              go_wp2
              exact ⟨⟨_, _, rfl, by omega, by simp; omega, HT.out, hM6⟩, by simp [strV]; omega⟩
end Go.Proofs.YtffnppfoofifgaaGreat
