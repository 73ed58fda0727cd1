/- The contracts of ether.GetDisc and ether.GetSession: what is read of a frame, whatever it is. -/
import Derived.Test.YtffnppfoofifgaaGreatEtDisc
namespace Go.Proofs.YtffnppfoofifgaaGreat
open Go.RowKit

/-- What GetDisc tells. -/
def getE (f : Fr) : Dc × List Tg × Bool :=
  if f.type ≠ 34915 then (⟨0, 0, []⟩, [], false) else if (getDiscF f.data.data.toList).2 ≠ 0 then (⟨0, 0, []⟩, [], false) else if (tagsOn (getDiscF f.data.data.toList).1.data []).2 ≠ 0 then (⟨0, 0, []⟩, [], false) else ((getDiscF f.data.data.toList).1, (tagsOn (getDiscF f.data.data.toList).1.data []).1, true)
/-- What GetSession tells. -/
def getS (f : Fr) : Int × ByteArray × Bool :=
  if f.type ≠ 34916 then (0, ⟨#[]⟩, false) else if (getDiscF f.data.data.toList).2 ≠ 0 ∨ (getDiscF f.data.data.toList).1.code ≠ 0 then (0, ⟨#[]⟩, false) else (((getDiscF f.data.data.toList).1.session : Int), ⟨(getDiscF f.data.data.toList).1.data.toArray⟩, true)

theorem OwnT.keptAt {S : Nat → Prop} {w w' : World} {base : Nat} {v : Value} {l : List Tg} (h : OwnT w base v l) (hk : Kept S w w') (hS : ∀ i, base ≤ i → ¬ S i) : OwnT w' base v l := by
  rcases h.2 with ⟨rfl, h0⟩ | ⟨g, cap, cur, rfl, hb, hg, h1, h2, h3, h4⟩
  · exact ⟨h.1, Or.inl ⟨rfl, h0⟩⟩
  · exact ⟨h.1, Or.inr ⟨g, cap, cur, rfl, hb, (hk.block g (Array.getElem?_eq_some_iff.1 hg).1 (hS g hb)).trans hg, h1, h2, h3, h4⟩⟩

theorem getDisc_size (l : List UInt8) : (getDiscF l).1.data.length ≤ l.length := by
  unfold getDiscF
  split
  · simp
  · split
    · simp
    · split
      · simp
      · split
        · simp
        · show ((l.drop 6).take _).length ≤ _
          rw [List.length_take, List.length_drop]
          omega

set_option maxHeartbeats 4000000 in
set_option maxRecDepth 100000 in
theorem getE_any (f : Fr) (hdst : f.dst.length = 6) (hsrc : f.src.length = 6) (hsz : f.data.size ≤ 1000000) (w : World) :
    Calls Tryz.prog 35 #[frV f] w fun e w' => ∃ p cap, e = .returned (.tuple #[discV (getE f).1, .slice p (getE f).2.1.length cap, .bool (getE f).2.2]) ∧ OwnT w' w.heap.size (.slice p (getE f).2.1.length cap) (getE f).2.1 ∧ Kept (fun _ => False) w w' := by
  obtain ⟨dst, src, ty, x⟩ := f
  simp only [] at hdst hsrc hsz
  obtain ⟨d0, d1, d2, d3, d4, d5, hd⟩ := six_cells hdst
  obtain ⟨s0, s1, s2, s3, s4, s5, hs⟩ := six_cells hsrc
  have hfv : frV ⟨dst, src, ty, x⟩ = .agg #[.int .u8 d0, .int .u8 d1, .int .u8 d2, .int .u8 d3, .int .u8 d4, .int .u8 d5, .int .u8 s0, .int .u8 s1, .int .u8 s2, .int .u8 s3, .int .u8 s4, .int .u8 s5, .int .i64 ty, .string x] := by unfold frV frList; simp only []; rw [hd, hs]; rfl
  rw [hfv]
  have hl := getDisc_size x.data.toList
  rw [← Lib.size_eq] at hl
  have HG := hid (fun W => getDisc_any x (by omega) W)
  have HT := hid (fun W => getTags_any ⟨(getDiscF x.data.toList).1.data.toArray⟩ (by rw [Lib.size_eq]; show (getDiscF x.data.toList).1.data.length ≤ _; omega) W)
  change Hid (∀ W, Calls Tryz.prog 125 #[.string ⟨(getDiscF x.data.toList).1.data.toArray⟩] W fun e w' => ∃ v, e = .returned (.tuple #[v, .int .i64 (tagsOn (getDiscF x.data.toList).1.data []).2]) ∧ OwnT w' W.heap.size v (tagsOn (getDiscF x.data.toList).1.data []).1 ∧ Kept (fun _ => False) W w') at HT
  unfold getE
  simp only []
  generalize (tagsOn (getDiscF x.data.toList).1.data []).1 = l at *
  generalize (tagsOn (getDiscF x.data.toList).1.data []).2 = E2 at *
  generalize (getDiscF x.data.toList).1 = d at *
  generalize (getDiscF x.data.toList).2 = E1 at *
  unfold discV at HG
  obtain ⟨w1, hw1⟩ : ∃ w1, w1 = (w.alloc (.cells #[.int .u8 d0, .int .u8 d1, .int .u8 d2, .int .u8 d3, .int .u8 d4, .int .u8 d5, .int .u8 s0, .int .u8 s1, .int .u8 s2, .int .u8 s3, .int .u8 s4, .int .u8 s5, .int .i64 ty, .string x] 55)).alloc (.cells #[.int .i64 0, .int .i64 0, .string ⟨#[]⟩] 82) := ⟨_, rfl⟩
  have Hw1 := hid hw1
  have k1 : Kept (fun _ => False) w w1 := by rw [hw1]; exact ((Kept.refl _ w).alloc _).alloc _
  have hB1 : w1.heap[w.heap.size]? = some (.cells #[.int .u8 d0, .int .u8 d1, .int .u8 d2, .int .u8 d3, .int .u8 d4, .int .u8 d5, .int .u8 s0, .int .u8 s1, .int .u8 s2, .int .u8 s3, .int .u8 s4, .int .u8 s5, .int .i64 ty, .string x] 55 (0, 0)) := by rw [hw1]; exact (((Kept.refl (fun _ => False) (w.alloc (.cells #[.int .u8 d0, .int .u8 d1, .int .u8 d2, .int .u8 d3, .int .u8 d4, .int .u8 d5, .int .u8 s0, .int .u8 s1, .int .u8 s2, .int .u8 s3, .int .u8 s4, .int .u8 s5, .int .i64 ty, .string x] 55))).alloc (.cells #[.int .i64 0, .int .i64 0, .string ⟨#[]⟩] 82)).block w.heap.size (by simp) id).trans (heap_alloc_new w _)
  have hO1 : Own3 w1 (w.heap.size + 1) (.int .i64 0) (.int .i64 0) (.string ⟨#[]⟩) := by
    have h := own3_new (w.alloc (.cells #[.int .u8 d0, .int .u8 d1, .int .u8 d2, .int .u8 d3, .int .u8 d4, .int .u8 d5, .int .u8 s0, .int .u8 s1, .int .u8 s2, .int .u8 s3, .int .u8 s4, .int .u8 s5, .int .i64 ty, .string x] 55)) 82 (.int .i64 0) (.int .i64 0) (.string ⟨#[]⟩)
    rw [show (w.alloc (.cells #[.int .u8 d0, .int .u8 d1, .int .u8 d2, .int .u8 d3, .int .u8 d4, .int .u8 d5, .int .u8 s0, .int .u8 s1, .int .u8 s2, .int .u8 s3, .int .u8 s4, .int .u8 s5, .int .i64 ty, .string x] 55)).heap.size = w.heap.size + 1 from by simp] at h
    rw [hw1]
    exact h
  have HW1s : Hid (w.heap.size + 1 < w1.heap.size) := lt_of_cell hO1.1.1
  have K1 := hid k1
  have O1 := hid hO1
  have p12 : w1.cell? ⟨w.heap.size, 12, none⟩ = some (.int .i64 ty) := cell_of_row w1 _ 12 _ _ _ hB1
  have p13 : w1.cell? ⟨w.heap.size, 13, none⟩ = some (.string x) := cell_of_row w1 _ 13 _ _ _ hB1
  rw [hw1] at p12 p13
  clear hw1 k1 hB1 hfv hd hs hl
  by_cases hty : ty = 34915
  · subst hty
    rw [if_neg (by simp)]
    by_cases h1 : E1 = 0
    · subst h1
      rw [if_neg (by simp)]
      clear hO1
      by_cases h2 : E2 = 0
      · subst h2
        rw [if_neg (by simp)]
        go_enter Tryz.func35, Tryz.ntmps35
        go_wp2_with fail
        rw [← Hw1.out]
        refine (HG.out _).mono ?_
        rintro e w2 ⟨rfl, hk2⟩
        obtain ⟨w3, hw3⟩ : ∃ w3, w3 = w2.alloc (.cells #[.int .i64 (d.code : Int), .int .i64 (d.session : Int), .string ⟨d.data.toArray⟩] 82) := ⟨_, rfl⟩
        have Hw3 := hid hw3
        have k13 : Kept (fun _ => False) w1 w3 := by rw [hw3]; exact hk2.alloc _
        have HW13 := hid k13.size
        have b3 : Box3 w3 w2.heap.size (.int .i64 (d.code : Int)) (.int .i64 (d.session : Int)) (.string ⟨d.data.toArray⟩) := by rw [hw3]; exact box3_new w2 _ _ _ _
        have HW3s : Hid (w2.heap.size < w3.heap.size) := by rw [hw3]; show _ < _; simp
        have HW2s := hid (Nat.le_trans K1.out.size hk2.size)
        clear hw3 hk2 p12 p13
        have e2 := b3.2.2
        rw [Hw3.out] at e2
        go_wp2_with fail
        rw [← Hw3.out]
        refine (HT.out _).mono ?_
        rintro e w4 ⟨v4, rfl, ho4, hk4⟩
        have k14 : Kept (fun _ => False) w1 w4 := k13.trans hk4
        clear e2
        obtain ⟨p4, cp4, rfl⟩ := slice_of ho4
        obtain ⟨⟨c0, c1, c2⟩, f0⟩ := O1.out.kept k14
        obtain ⟨z0, z1, z2⟩ : Box3 w4 w2.heap.size (.int .i64 (d.code : Int)) (.int .i64 (d.session : Int)) (.string ⟨d.data.toArray⟩) := b3.carry (below_of hk4) HW3s.out
        have HO4 := hid ho4
        have K4 := hid (K1.out.trans k14)
        have hws : w1.heap.size ≤ w3.heap.size := HW13.out
        clear ho4 hk4 k14 b3 k13
        go_wp2
        refine bodyPost_ret (v := .tuple #[.agg #[.int .i64 (d.code : Int), .int .i64 (d.session : Int), .string ⟨d.data.toArray⟩], .slice p4 l.length cp4, .bool true]) (by simp [results, Tryz.results35, go_sem, c0, c1, c2]) rfl ⟨p4, cp4, rfl, ?_, ?_⟩
        · refine OwnT.mono (HO4.out.keptAt ((((Kept.refl (fun i => i = w.heap.size + 1) w4).setCell (p := ⟨w.heap.size + 1, 0, none⟩) (Or.inr (by rfl)) _).setCell (p := ⟨w.heap.size + 1, 1, none⟩) (Or.inr (by rfl)) _).setCell (p := ⟨w.heap.size + 1, 2, none⟩) (Or.inr (by rfl)) _) (fun i hi e => by have h9 := HW1s.out; omega)) (Nat.le_trans K1.out.size hws)
        · repeat (refine Kept.setCell ?_ (Or.inl (by simp only []; omega)) _)
          exact K4.out
      · rw [if_pos h2]
        have n2 : (E2 != 0) = true := by simpa using h2
        go_enter Tryz.func35, Tryz.ntmps35
        go_wp2_with fail
        rw [← Hw1.out]
        refine (HG.out _).mono ?_
        rintro e w2 ⟨rfl, hk2⟩
        obtain ⟨w3, hw3⟩ : ∃ w3, w3 = w2.alloc (.cells #[.int .i64 (d.code : Int), .int .i64 (d.session : Int), .string ⟨d.data.toArray⟩] 82) := ⟨_, rfl⟩
        have Hw3 := hid hw3
        have k13 : Kept (fun _ => False) w1 w3 := by rw [hw3]; exact hk2.alloc _
        have HW13 := hid k13.size
        have b3 : Box3 w3 w2.heap.size (.int .i64 (d.code : Int)) (.int .i64 (d.session : Int)) (.string ⟨d.data.toArray⟩) := by rw [hw3]; exact box3_new w2 _ _ _ _
        have HW3s : Hid (w2.heap.size < w3.heap.size) := by rw [hw3]; show _ < _; simp
        have HW2s := hid (Nat.le_trans K1.out.size hk2.size)
        clear hw3 hk2 p12 p13
        have e2 := b3.2.2
        rw [Hw3.out] at e2
        go_wp2_with fail
        rw [← Hw3.out]
        refine (HT.out _).mono ?_
        rintro e w4 ⟨v4, rfl, ho4, hk4⟩
        have k14 : Kept (fun _ => False) w1 w4 := k13.trans hk4
        clear e2
        obtain ⟨p4, cp4, rfl⟩ := slice_of ho4
        obtain ⟨⟨c0, c1, c2⟩, f0⟩ := O1.out.kept k14
        have K4 := hid (K1.out.trans k14)
        clear ho4 hk4 k14 b3 k13
        go_wp2
        refine bodyPost_ret (v := .tuple #[.agg #[.int .i64 0, .int .i64 0, .string ⟨#[]⟩], .slice none 0 0, .bool false]) (by simp [results, Tryz.results35, go_sem, c0, c1, c2]) rfl ⟨none, 0, rfl, OwnT.nil _ _, ?_⟩
        repeat (refine Kept.setCell ?_ (Or.inl (by simp only []; omega)) _)
        exact K4.out
    · rw [if_pos h1]
      have n1 : (E1 != 0) = true := by simpa using h1
      clear hO1
      go_enter Tryz.func35, Tryz.ntmps35
      go_wp2_with fail
      rw [← Hw1.out]
      refine (HG.out _).mono ?_
      rintro e w2 ⟨rfl, hk2⟩
      obtain ⟨w3, hw3⟩ : ∃ w3, w3 = w2.alloc (.cells #[.int .i64 (d.code : Int), .int .i64 (d.session : Int), .string ⟨d.data.toArray⟩] 82) := ⟨_, rfl⟩
      have Hw3 := hid hw3
      have k13 : Kept (fun _ => False) w1 w3 := by rw [hw3]; exact hk2.alloc _
      have HW13 := hid k13.size
      have b3 : Box3 w3 w2.heap.size (.int .i64 (d.code : Int)) (.int .i64 (d.session : Int)) (.string ⟨d.data.toArray⟩) := by rw [hw3]; exact box3_new w2 _ _ _ _
      have HW3s : Hid (w2.heap.size < w3.heap.size) := by rw [hw3]; show _ < _; simp
      have HW2s := hid (Nat.le_trans K1.out.size hk2.size)
      clear hw3 hk2 p12 p13
      obtain ⟨⟨c0, c1, c2⟩, f0⟩ := O1.out.kept k13
      have K3 := hid (K1.out.trans k13)
      rw [Hw3.out] at c0 c1 c2 f0
      clear b3 k13
      go_wp2
      refine bodyPost_ret (v := .tuple #[.agg #[.int .i64 0, .int .i64 0, .string ⟨#[]⟩], .slice none 0 0, .bool false]) (by simp [results, Tryz.results35, go_sem, c0, c1, c2]) rfl ⟨none, 0, rfl, OwnT.nil _ _, ?_⟩
      repeat (refine Kept.setCell ?_ (Or.inl (by simp only []; omega)) _)
      have h9 := K3.out
      rw [Hw3.out] at h9
      exact h9
  · rw [if_pos hty]
    have nt : (ty != 34915) = true := by simpa using hty
    obtain ⟨⟨c0, c1, c2⟩, f0⟩ := hO1
    rw [Hw1.out] at c0 c1 c2 f0
    go_enter Tryz.func35, Tryz.ntmps35
    go_wp2
    refine bodyPost_ret (v := .tuple #[.agg #[.int .i64 0, .int .i64 0, .string ⟨#[]⟩], .slice none 0 0, .bool false]) (by simp [results, Tryz.results35, go_sem, c0, c1, c2]) rfl ⟨none, 0, rfl, OwnT.nil _ _, ?_⟩
    exact ((Kept.refl _ w).alloc _).alloc _
end Go.Proofs.YtffnppfoofifgaaGreat
