/- The contract of ether.GetSession: what is read of a frame, whatever it is. -/
import Derived.Test.YtffnppfoofifgaaGreatTk
import Derived.Test.YtffnppfoofifgaaGreatEtGet
namespace Go.Proofs.YtffnppfoofifgaaGreat
open Go.RowKit

set_option maxHeartbeats 4000000 in
set_option maxRecDepth 100000 in
theorem getS_any (f : Fr) (hdst : f.dst.length = 6) (hsrc : f.src.length = 6) (hsz : f.data.size ≤ 1000000) (w : World) :
    Calls Tryz.prog 31 #[frV f] w fun e w' => e = .returned (.tuple #[.int .i64 (getS f).1, .string (getS f).2.1, .bool (getS f).2.2]) ∧ Kept (fun _ => False) w w' := by
  obtain ⟨dst, src, ty, x⟩ := f
  simp only [] at hdst hsrc hsz
  obtain ⟨d0, d1, d2, d3, d4, d5, hd⟩ := six_cells hdst
  obtain ⟨s0, s1, s2, s3, s4, s5, hs⟩ := six_cells hsrc
  have hfv : frV ⟨dst, src, ty, x⟩ = .agg #[.int .u8 d0, .int .u8 d1, .int .u8 d2, .int .u8 d3, .int .u8 d4, .int .u8 d5, .int .u8 s0, .int .u8 s1, .int .u8 s2, .int .u8 s3, .int .u8 s4, .int .u8 s5, .int .i64 ty, .string x] := by unfold frV frList; simp only []; rw [hd, hs]; rfl
  rw [hfv]
  have HG := hid (fun W => getDisc_any x (by omega) W)
  unfold getS
  simp only []
  generalize (getDiscF x.data.toList).1 = d at *
  generalize (getDiscF x.data.toList).2 = E1 at *
  unfold discV at HG
  obtain ⟨w1, hw1⟩ : ∃ w1, w1 = w.alloc (.cells #[.int .u8 d0, .int .u8 d1, .int .u8 d2, .int .u8 d3, .int .u8 d4, .int .u8 d5, .int .u8 s0, .int .u8 s1, .int .u8 s2, .int .u8 s3, .int .u8 s4, .int .u8 s5, .int .i64 ty, .string x] 55) := ⟨_, rfl⟩
  have Hw1 := hid hw1
  have K1 : Hid (Kept (fun _ => False) w w1) := by rw [hw1]; exact (Kept.refl _ w).alloc _
  have hB1 : w1.heap[w.heap.size]? = some (.cells #[.int .u8 d0, .int .u8 d1, .int .u8 d2, .int .u8 d3, .int .u8 d4, .int .u8 d5, .int .u8 s0, .int .u8 s1, .int .u8 s2, .int .u8 s3, .int .u8 s4, .int .u8 s5, .int .i64 ty, .string x] 55 (0, 0)) := by rw [hw1]; exact heap_alloc_new w _
  have p12 : w1.cell? ⟨w.heap.size, 12, none⟩ = some (.int .i64 ty) := cell_of_row w1 _ 12 _ _ _ hB1
  have p13 : w1.cell? ⟨w.heap.size, 13, none⟩ = some (.string x) := cell_of_row w1 _ 13 _ _ _ hB1
  rw [hw1] at p12 p13
  clear hw1 hB1 hfv hd hs
  by_cases hty : ty = 34916
  · subst hty
    rw [if_neg (by simp)]
    by_cases h1 : E1 = 0
    · subst h1
      by_cases h2 : d.code = 0
      · rw [if_neg (by simp [h2])]
        have n2 : ((d.code : Int) != 0) = false := by simp; omega
        clear h2
        go_enter Tryz.func31, Tryz.ntmps31
        go_wp2_with fail
        rw [← Hw1.out]
        refine (HG.out _).mono ?_
        rintro e w2 ⟨rfl, hk2⟩
        obtain ⟨w3, hw3⟩ : ∃ w3, w3 = w2.alloc (.cells #[.int .i64 (d.code : Int), .int .i64 (d.session : Int), .string ⟨d.data.toArray⟩] 82) := ⟨_, rfl⟩
        have Hw3 := hid hw3
        have k13 : Kept (fun _ => False) w1 w3 := by rw [hw3]; exact hk2.alloc _
        have b3 : Box3 w3 w2.heap.size (.int .i64 (d.code : Int)) (.int .i64 (d.session : Int)) (.string ⟨d.data.toArray⟩) := by rw [hw3]; exact box3_new w2 _ _ _ _
        clear hw3 hk2 p12 p13
        obtain ⟨e0, e1, e2⟩ := b3
        have z1 : ∀ W, Kept (fun _ => False) w3 W → W.cell? ⟨w2.heap.size, 1, none⟩ = some (.int .i64 (d.session : Int)) := fun W h => (h.cell (p := ⟨w2.heap.size, 1, none⟩) (lt_of_cell e1) id).trans e1
        have z2 : ∀ W, Kept (fun _ => False) w3 W → W.cell? ⟨w2.heap.size, 2, none⟩ = some (.string ⟨d.data.toArray⟩) := fun W h => (h.cell (p := ⟨w2.heap.size, 2, none⟩) (lt_of_cell e2) id).trans e2
        rw [Hw3.out] at e0
        clear e1 e2
        go_wp2
        rw [← Hw3.out]
        refine wp_region_held_drew (S := Kept (fun _ => False) w3) (by kernel_rfl) ((Kept.refl _ w3).drew) (fun hSd => ?_)
        refine Tks.out (l := [(0, some none), (1, some none), (2, some none), (3, some none), (4, some none), (5, some none), (6, some none)]) ?_
        iterate 7
         refine tkT (v := ?_) rfl (by kernel_rfl) (by kernel_rfl) (by kernel_rfl) (fun _ _ _ h => h) (Or.inl ⟨by kernel_rfl, fun W hSW => by go_simp; try with_reducible rfl⟩) (by assumption) ?_
         try simp only [List.getElem_toArray, List.getElem_cons_succ, List.getElem_cons_zero]
         try go_frame
        refine tkE ?_
        refine wpAnyH_done (by kernel_rfl) ?_ _
        go_wp2
        refine bodyPost_ret (v := .tuple #[.int .i64 (d.session : Int), .string ⟨d.data.toArray⟩, .bool true]) (by simp [results, Tryz.results31, go_sem]) rfl ⟨rfl, (K1.out.trans k13).drew⟩
      · rw [if_pos (by simp [h2])]
        have n2 : ((d.code : Int) != 0) = true := by simp; omega
        clear h2
        go_enter Tryz.func31, Tryz.ntmps31
        go_wp2_with fail
        rw [← Hw1.out]
        refine (HG.out _).mono ?_
        rintro e w2 ⟨rfl, hk2⟩
        obtain ⟨w3, hw3⟩ : ∃ w3, w3 = w2.alloc (.cells #[.int .i64 (d.code : Int), .int .i64 (d.session : Int), .string ⟨d.data.toArray⟩] 82) := ⟨_, rfl⟩
        have Hw3 := hid hw3
        have k13 : Kept (fun _ => False) w1 w3 := by rw [hw3]; exact hk2.alloc _
        have b3 : Box3 w3 w2.heap.size (.int .i64 (d.code : Int)) (.int .i64 (d.session : Int)) (.string ⟨d.data.toArray⟩) := by rw [hw3]; exact box3_new w2 _ _ _ _
        clear hw3 hk2 p12 p13
        obtain ⟨e0, e1, e2⟩ := b3
        rw [Hw3.out] at e0
        clear e1 e2
        go_wp2
        refine bodyPost_ret (v := .tuple #[.int .i64 0, .string ⟨#[]⟩, .bool false]) (by simp [results, Tryz.results31, go_sem]) rfl ⟨rfl, ?_⟩
        have h9 := K1.out.trans k13
        rw [Hw3.out] at h9
        exact h9
    · rw [if_pos (by simp [h1])]
      have n1 : (E1 != 0) = true := by simpa using h1
      go_enter Tryz.func31, Tryz.ntmps31
      go_wp2_with fail
      rw [← Hw1.out]
      refine (HG.out _).mono ?_
      rintro e w2 ⟨rfl, hk2⟩
      obtain ⟨w3, hw3⟩ : ∃ w3, w3 = w2.alloc (.cells #[.int .i64 (d.code : Int), .int .i64 (d.session : Int), .string ⟨d.data.toArray⟩] 82) := ⟨_, rfl⟩
      have Hw3 := hid hw3
      have k13 : Kept (fun _ => False) w1 w3 := by rw [hw3]; exact hk2.alloc _
      have b3 : Box3 w3 w2.heap.size (.int .i64 (d.code : Int)) (.int .i64 (d.session : Int)) (.string ⟨d.data.toArray⟩) := by rw [hw3]; exact box3_new w2 _ _ _ _
      clear hw3 hk2 p12 p13
      clear b3
      go_wp2
      refine bodyPost_ret (v := .tuple #[.int .i64 0, .string ⟨#[]⟩, .bool false]) (by simp [results, Tryz.results31, go_sem]) rfl ⟨rfl, ?_⟩
      have h9 := K1.out.trans k13
      rw [Hw3.out] at h9
      exact h9
  · rw [if_pos hty]
    have nt : (ty != 34916) = true := by simpa using hty
    go_enter Tryz.func31, Tryz.ntmps31
    go_wp2
    refine bodyPost_ret (v := .tuple #[.int .i64 0, .string ⟨#[]⟩, .bool false]) (by simp [results, Tryz.results31, go_sem]) rfl ⟨rfl, (Kept.refl _ w).alloc _⟩
end Go.Proofs.YtffnppfoofifgaaGreat
