/- The law AcNone returns true. -/
import Derived.Test.YtgaamehjdoakhaaDoorAcNoneKit
namespace Go.Proofs.YtgaamehjdoakhaaDoor
open Go.RowKit

set_option maxHeartbeats 4000000 in
set_option maxRecDepth 100000 in
theorem acNone_walk (a b : List UInt8) (la : a.length = 6) (lb : b.length = 6) (ty : Int) (_wt : In64 ty) (x : ByteArray) (sx : x.size ≤ 140737488351232) (i : List UInt8) (li : i.length = 6) (n : Int) (_wn : In64 n) (w : World) (hT : Tabs w) :
    Calls Tryd.prog 3 #[.agg (frList ⟨a, b, ty, x⟩).toArray, idV i n] w fun e w' => e = .returned (.bool true) ∧ Kept (fun _ => False) w w' := by
  obtain ⟨d0, d1, d2, d3, d4, d5, ea⟩ := six_cells la
  obtain ⟨s0, s1, s2, s3, s4, s5, eb⟩ := six_cells lb
  obtain ⟨y0, y1, y2, y3, y4, y5, ei⟩ := six_cells li
  have hfv : (frList ⟨a, b, ty, x⟩).toArray = #[.int .u8 d0, .int .u8 d1, .int .u8 d2, .int .u8 d3, .int .u8 d4, .int .u8 d5, .int .u8 s0, .int .u8 s1, .int .u8 s2, .int .u8 s3, .int .u8 s4, .int .u8 s5, .int .i64 ty, .string x] := by unfold frList; simp only []; rw [ea, eb]; rfl
  have hiv : idV i n = .agg #[.int .u8 y0, .int .u8 y1, .int .u8 y2, .int .u8 y3, .int .u8 y4, .int .u8 y5, .int .i64 n] := by unfold idV idCells; rw [ei]; rfl
  rw [hfv, hiv]
  have HAL := hid (fun W (hk : Kept (fun _ => False) w W) => alive_any W (hT.kept hk))
  obtain ⟨w1, hw1⟩ : ∃ w1, w1 = (w.alloc (.cells #[.int .u8 d0, .int .u8 d1, .int .u8 d2, .int .u8 d3, .int .u8 d4, .int .u8 d5, .int .u8 s0, .int .u8 s1, .int .u8 s2, .int .u8 s3, .int .u8 s4, .int .u8 s5, .int .i64 ty, .string x] 25)).alloc (.cells #[.int .u8 y0, .int .u8 y1, .int .u8 y2, .int .u8 y3, .int .u8 y4, .int .u8 y5, .int .i64 n] 27) := ⟨_, rfl⟩
  have Hw1 := hid hw1
  have K1 : Hid (Kept (fun _ => False) w w1) := by rw [hw1]; exact ((Kept.refl _ w).alloc _).alloc _
  have OF : Hid (Own14 w1 w.heap.size #[.int .u8 d0, .int .u8 d1, .int .u8 d2, .int .u8 d3, .int .u8 d4, .int .u8 d5, .int .u8 s0, .int .u8 s1, .int .u8 s2, .int .u8 s3, .int .u8 s4, .int .u8 s5, .int .i64 ty, .string x]) := by rw [hw1]; exact (own14_new w _).kept ((Kept.refl _ _).alloc _)
  have OI : Hid (Box7 w1 (w.heap.size + 1) #[.int .u8 y0, .int .u8 y1, .int .u8 y2, .int .u8 y3, .int .u8 y4, .int .u8 y5, .int .i64 n]) := by
    rw [hw1]
    have h := heap_alloc_new (w.alloc (.cells #[.int .u8 d0, .int .u8 d1, .int .u8 d2, .int .u8 d3, .int .u8 d4, .int .u8 d5, .int .u8 s0, .int .u8 s1, .int .u8 s2, .int .u8 s3, .int .u8 s4, .int .u8 s5, .int .i64 ty, .string x] 25)) (.cells #[.int .u8 y0, .int .u8 y1, .int .u8 y2, .int .u8 y3, .int .u8 y4, .int .u8 y5, .int .i64 n] 27)
    rw [show (w.alloc (.cells #[.int .u8 d0, .int .u8 d1, .int .u8 d2, .int .u8 d3, .int .u8 d4, .int .u8 d5, .int .u8 s0, .int .u8 s1, .int .u8 s2, .int .u8 s3, .int .u8 s4, .int .u8 s5, .int .i64 ty, .string x] 25)).heap.size = w.heap.size + 1 from by simp] at h
    exact h
  have p0 : ∀ W, Kept (fun _ => False) w1 W → W.cell? ⟨w.heap.size, 0, none⟩ = some (.int .u8 d0) := fun W h => (cell_of_row W w.heap.size 0 _ _ _ (OF.out.kept h)).trans rfl
  have p1 : ∀ W, Kept (fun _ => False) w1 W → W.cell? ⟨w.heap.size, 1, none⟩ = some (.int .u8 d1) := fun W h => (cell_of_row W w.heap.size 1 _ _ _ (OF.out.kept h)).trans rfl
  have p2 : ∀ W, Kept (fun _ => False) w1 W → W.cell? ⟨w.heap.size, 2, none⟩ = some (.int .u8 d2) := fun W h => (cell_of_row W w.heap.size 2 _ _ _ (OF.out.kept h)).trans rfl
  have p3 : ∀ W, Kept (fun _ => False) w1 W → W.cell? ⟨w.heap.size, 3, none⟩ = some (.int .u8 d3) := fun W h => (cell_of_row W w.heap.size 3 _ _ _ (OF.out.kept h)).trans rfl
  have p4 : ∀ W, Kept (fun _ => False) w1 W → W.cell? ⟨w.heap.size, 4, none⟩ = some (.int .u8 d4) := fun W h => (cell_of_row W w.heap.size 4 _ _ _ (OF.out.kept h)).trans rfl
  have p5 : ∀ W, Kept (fun _ => False) w1 W → W.cell? ⟨w.heap.size, 5, none⟩ = some (.int .u8 d5) := fun W h => (cell_of_row W w.heap.size 5 _ _ _ (OF.out.kept h)).trans rfl
  have p6 : ∀ W, Kept (fun _ => False) w1 W → W.cell? ⟨w.heap.size, 6, none⟩ = some (.int .u8 s0) := fun W h => (cell_of_row W w.heap.size 6 _ _ _ (OF.out.kept h)).trans rfl
  have p7 : ∀ W, Kept (fun _ => False) w1 W → W.cell? ⟨w.heap.size, 7, none⟩ = some (.int .u8 s1) := fun W h => (cell_of_row W w.heap.size 7 _ _ _ (OF.out.kept h)).trans rfl
  have p8 : ∀ W, Kept (fun _ => False) w1 W → W.cell? ⟨w.heap.size, 8, none⟩ = some (.int .u8 s2) := fun W h => (cell_of_row W w.heap.size 8 _ _ _ (OF.out.kept h)).trans rfl
  have p9 : ∀ W, Kept (fun _ => False) w1 W → W.cell? ⟨w.heap.size, 9, none⟩ = some (.int .u8 s3) := fun W h => (cell_of_row W w.heap.size 9 _ _ _ (OF.out.kept h)).trans rfl
  have p10 : ∀ W, Kept (fun _ => False) w1 W → W.cell? ⟨w.heap.size, 10, none⟩ = some (.int .u8 s4) := fun W h => (cell_of_row W w.heap.size 10 _ _ _ (OF.out.kept h)).trans rfl
  have p11 : ∀ W, Kept (fun _ => False) w1 W → W.cell? ⟨w.heap.size, 11, none⟩ = some (.int .u8 s5) := fun W h => (cell_of_row W w.heap.size 11 _ _ _ (OF.out.kept h)).trans rfl
  have p12 : ∀ W, Kept (fun _ => False) w1 W → W.cell? ⟨w.heap.size, 12, none⟩ = some (.int .i64 ty) := fun W h => (cell_of_row W w.heap.size 12 _ _ _ (OF.out.kept h)).trans rfl
  have p13 : ∀ W, Kept (fun _ => False) w1 W → W.cell? ⟨w.heap.size, 13, none⟩ = some (.string x) := fun W h => (cell_of_row W w.heap.size 13 _ _ _ (OF.out.kept h)).trans rfl
  have i0 : ∀ W, Kept (fun _ => False) w1 W → W.cell? ⟨w.heap.size + 1, 0, none⟩ = some (.int .u8 y0) := fun W h => ((OI.out.kept h id).cell 0).trans rfl
  have i1 : ∀ W, Kept (fun _ => False) w1 W → W.cell? ⟨w.heap.size + 1, 1, none⟩ = some (.int .u8 y1) := fun W h => ((OI.out.kept h id).cell 1).trans rfl
  have i2 : ∀ W, Kept (fun _ => False) w1 W → W.cell? ⟨w.heap.size + 1, 2, none⟩ = some (.int .u8 y2) := fun W h => ((OI.out.kept h id).cell 2).trans rfl
  have i3 : ∀ W, Kept (fun _ => False) w1 W → W.cell? ⟨w.heap.size + 1, 3, none⟩ = some (.int .u8 y3) := fun W h => ((OI.out.kept h id).cell 3).trans rfl
  have i4 : ∀ W, Kept (fun _ => False) w1 W → W.cell? ⟨w.heap.size + 1, 4, none⟩ = some (.int .u8 y4) := fun W h => ((OI.out.kept h id).cell 4).trans rfl
  have i5 : ∀ W, Kept (fun _ => False) w1 W → W.cell? ⟨w.heap.size + 1, 5, none⟩ = some (.int .u8 y5) := fun W h => ((OI.out.kept h id).cell 5).trans rfl
  have i6 : ∀ W, Kept (fun _ => False) w1 W → W.cell? ⟨w.heap.size + 1, 6, none⟩ = some (.int .i64 n) := fun W h => ((OI.out.kept h id).cell 6).trans rfl
  clear hw1 hfv hiv
  by_cases hsz : x.size ≤ 3000
  · have hlen : ¬ (3000 : Int) < (x.size : Int) := by omega
    have hs1 : w1.heap.size = w.heap.size + 1 + 1 := by rw [Hw1.out]; simp
    obtain ⟨w2, hw2⟩ : ∃ w2, w2 = w1.alloc (.cells #[.int .u8 0, .int .u8 0, .int .u8 0, .int .u8 0, .int .u8 0, .int .u8 0, .string ⟨#[]⟩, .slice none 0 0, .string ⟨#[]⟩, .int .i64 0, .map none, .int .i64 0, .slice none 0 0] 34) := ⟨_, rfl⟩
    have Hw2 := hid hw2
    have k12 : Hid (Kept (fun _ => False) w1 w2) := by rw [hw2]; exact (Kept.refl _ w1).alloc _
    have hz6 : w2.cell? ⟨w.heap.size + 1 + 1, 6, none⟩ = some (.string ⟨#[]⟩) := by rw [hw2, ← hs1, World.cell?_alloc_new]; rfl
    have HNz : Hid (∀ W, Kept (fun _ => False) w2 W → Calls Tryd.prog 22 #[.pointer (some ⟨w.heap.size + 1 + 1, 0, none⟩)] W fun e w' => e = .returned (.bool true) ∧ w' = W) := fun W hk => by
      have h := isNone_some (w.heap.size + 1 + 1) ⟨#[]⟩ W ((hk.cell (p := ⟨w.heap.size + 1 + 1, 6, none⟩) (lt_of_cell hz6) id).trans hz6)
      rw [show (⟨#[]⟩ : ByteArray).toList.isEmpty = true from by rw [ByteArray.toList_eq]; rfl] at h
      exact h
    have D1 := hid (fun W => data_none (.pointer none) d0 d1 d2 d3 d4 d5 s0 s1 s2 s3 s4 s5 ty x W (fun W' _ => isNone_nil W'))
    have D2 := hid (fun W (hk : Kept (fun _ => False) w2 W) => data_none (.pointer (some ⟨w.heap.size + 1 + 1, 0, none⟩)) d0 d1 d2 d3 d4 d5 s0 s1 s2 s3 s4 s5 ty x W (fun W' h => HNz.out W' (hk.trans h)))
    have F1 := hid (fun W => frame_none (.pointer none) y0 y1 y2 y3 y4 y5 n ⟨#[]⟩ W (fun W' _ => isNone_nil W'))
    have C2 := hid (fun W (hk : Kept (fun _ => False) w2 W) => close_none (.pointer (some ⟨w.heap.size + 1 + 1, 0, none⟩)) y0 y1 y2 y3 y4 y5 n W (fun W' h => HNz.out W' (hk.trans h)))
    have T1 := hid (fun W => take_none (.pointer none) d0 d1 d2 d3 d4 d5 s0 s1 s2 s3 s4 s5 ty x 0 W (fun W' _ => isNone_nil W'))
    have T2 := hid (fun W (hk : Kept (fun _ => False) w2 W) => take_none (.pointer (some ⟨w.heap.size + 1 + 1, 0, none⟩)) d0 d1 d2 d3 d4 d5 s0 s1 s2 s3 s4 s5 ty x 0 W (fun W' h => HNz.out W' (hk.trans h)))
    have L1 := hid (fun W => live_none (.pointer none) W (fun W' _ => isNone_nil W'))
    have L2 := hid (fun W (hk : Kept (fun _ => False) w2 W) => live_none (.pointer (some ⟨w.heap.size + 1 + 1, 0, none⟩)) W (fun W' h => HNz.out W' (hk.trans h)))
    have G1 := hid (fun W => gone_none (.pointer none) W (fun W' _ => isNone_nil W'))
    have G2 := hid (fun W (hk : Kept (fun _ => False) w2 W) => gone_none (.pointer (some ⟨w.heap.size + 1 + 1, 0, none⟩)) W (fun W' h => HNz.out W' (hk.trans h)))
    have HP := hid (fun W (h : Kept (fun _ => False) w2 W) => (⟨p0 W (k12.out.trans h), p1 W (k12.out.trans h), p2 W (k12.out.trans h), p3 W (k12.out.trans h), p4 W (k12.out.trans h), p5 W (k12.out.trans h), p6 W (k12.out.trans h), p7 W (k12.out.trans h), p8 W (k12.out.trans h), p9 W (k12.out.trans h), p10 W (k12.out.trans h), p11 W (k12.out.trans h), p12 W (k12.out.trans h), p13 W (k12.out.trans h)⟩ : W.cell? ⟨w.heap.size, 0, none⟩ = some (.int .u8 d0) ∧ W.cell? ⟨w.heap.size, 1, none⟩ = some (.int .u8 d1) ∧ W.cell? ⟨w.heap.size, 2, none⟩ = some (.int .u8 d2) ∧ W.cell? ⟨w.heap.size, 3, none⟩ = some (.int .u8 d3) ∧ W.cell? ⟨w.heap.size, 4, none⟩ = some (.int .u8 d4) ∧ W.cell? ⟨w.heap.size, 5, none⟩ = some (.int .u8 d5) ∧ W.cell? ⟨w.heap.size, 6, none⟩ = some (.int .u8 s0) ∧ W.cell? ⟨w.heap.size, 7, none⟩ = some (.int .u8 s1) ∧ W.cell? ⟨w.heap.size, 8, none⟩ = some (.int .u8 s2) ∧ W.cell? ⟨w.heap.size, 9, none⟩ = some (.int .u8 s3) ∧ W.cell? ⟨w.heap.size, 10, none⟩ = some (.int .u8 s4) ∧ W.cell? ⟨w.heap.size, 11, none⟩ = some (.int .u8 s5) ∧ W.cell? ⟨w.heap.size, 12, none⟩ = some (.int .i64 ty) ∧ W.cell? ⟨w.heap.size, 13, none⟩ = some (.string x)))
    have HI := hid (fun W (h : Kept (fun _ => False) w2 W) => (⟨i0 W (k12.out.trans h), i1 W (k12.out.trans h), i2 W (k12.out.trans h), i3 W (k12.out.trans h), i4 W (k12.out.trans h), i5 W (k12.out.trans h), i6 W (k12.out.trans h)⟩ : W.cell? ⟨w.heap.size + 1, 0, none⟩ = some (.int .u8 y0) ∧ W.cell? ⟨w.heap.size + 1, 1, none⟩ = some (.int .u8 y1) ∧ W.cell? ⟨w.heap.size + 1, 2, none⟩ = some (.int .u8 y2) ∧ W.cell? ⟨w.heap.size + 1, 3, none⟩ = some (.int .u8 y3) ∧ W.cell? ⟨w.heap.size + 1, 4, none⟩ = some (.int .u8 y4) ∧ W.cell? ⟨w.heap.size + 1, 5, none⟩ = some (.int .u8 y5) ∧ W.cell? ⟨w.heap.size + 1, 6, none⟩ = some (.int .i64 n)))
    clear hw2 hz6 hT hs1 p0 p1 p2 p3 p4 p5 p6 p7 p8 p9 p10 p11 p12 p13 i0 i1 i2 i3 i4 i5 i6
    go_enter Tryd.func3, Tryd.ntmps3
    go_wp2_with fail
    rw [← Hw1.out, ← Hw2.out]
    refine (D1.out _).mono ?_
    rintro e w3 ⟨rfl, hk3⟩
    have K3 := hid hk3
    obtain ⟨w3', hw3'⟩ : ∃ w3', w3' = w3.alloc (.cells #[.int .u8 0, .int .u8 0, .int .u8 0, .int .u8 0, .int .u8 0, .int .u8 0, .int .i64 0] 27) := ⟨_, rfl⟩
    have Hw3 := hid hw3'
    have K3' : Hid (Kept (fun _ => False) w2 w3') := by rw [hw3']; exact hk3.alloc _
    obtain ⟨a0, a1, a2, a3, a4, a5, a6, a7, a8, a9, a10, a11, a12, a13⟩ := HP.out w3' K3'.out
    rw [hw3'] at a0 a1 a2 a3 a4 a5 a6 a7 a8 a9 a10 a11 a12 a13
    clear hw3' hk3
    go_wp2_with fail
    rw [← Hw3.out]
    refine (D2.out _ K3'.out).mono ?_
    rintro e w4 ⟨rfl, hk4⟩
    clear a0 a1 a2 a3 a4 a5 a6 a7 a8 a9 a10 a11 a12 a13
    obtain ⟨w4', hw4'⟩ : ∃ w4', w4' = w4.alloc (.cells #[.int .u8 0, .int .u8 0, .int .u8 0, .int .u8 0, .int .u8 0, .int .u8 0, .int .i64 0] 27) := ⟨_, rfl⟩
    have Hw4 := hid hw4'
    have K4' : Hid (Kept (fun _ => False) w2 w4') := by rw [hw4']; exact (K3'.out.trans hk4).alloc _
    obtain ⟨a0, a1, a2, a3, a4, a5, a6⟩ := HI.out w4' K4'.out
    rw [hw4'] at a0 a1 a2 a3 a4 a5 a6
    clear hw4' hk4
    go_wp2_with fail
    rw [← Hw4.out]
    refine (F1.out _).mono ?_
    rintro e w5 ⟨rfl, hk5⟩
    clear a0 a1 a2 a3 a4 a5 a6
    obtain ⟨w5', hw5'⟩ : ∃ w5', w5' = w5.alloc (.cells Z14 25) := ⟨_, rfl⟩
    have Hw5 := hid hw5'
    have K5' : Hid (Kept (fun _ => False) w2 w5') := by rw [hw5']; exact (K4'.out.trans hk5).alloc _
    obtain ⟨a0, a1, a2, a3, a4, a5, a6⟩ := HI.out w5' K5'.out
    rw [hw5'] at a0 a1 a2 a3 a4 a5 a6
    clear hw5' hk5
    go_wp2_with fail
    rw [← Hw5.out]
    refine (C2.out _ K5'.out).mono ?_
    rintro e w6 ⟨rfl, hk6⟩
    clear a0 a1 a2 a3 a4 a5 a6
    have K6 := hid (K5'.out.trans hk6)
    have KA := hid (K1.out.trans (k12.out.trans K6.out))
    have p0 : ∀ W, Kept (fun _ => False) w2 W → W.cell? ⟨w.heap.size, 0, none⟩ = some (.int .u8 d0) := fun W h => (HP.out W h).1
    have p1 : ∀ W, Kept (fun _ => False) w2 W → W.cell? ⟨w.heap.size, 1, none⟩ = some (.int .u8 d1) := fun W h => (HP.out W h).2.1
    have p2 : ∀ W, Kept (fun _ => False) w2 W → W.cell? ⟨w.heap.size, 2, none⟩ = some (.int .u8 d2) := fun W h => (HP.out W h).2.2.1
    have p3 : ∀ W, Kept (fun _ => False) w2 W → W.cell? ⟨w.heap.size, 3, none⟩ = some (.int .u8 d3) := fun W h => (HP.out W h).2.2.2.1
    have p4 : ∀ W, Kept (fun _ => False) w2 W → W.cell? ⟨w.heap.size, 4, none⟩ = some (.int .u8 d4) := fun W h => (HP.out W h).2.2.2.2.1
    have p5 : ∀ W, Kept (fun _ => False) w2 W → W.cell? ⟨w.heap.size, 5, none⟩ = some (.int .u8 d5) := fun W h => (HP.out W h).2.2.2.2.2.1
    have p6 : ∀ W, Kept (fun _ => False) w2 W → W.cell? ⟨w.heap.size, 6, none⟩ = some (.int .u8 s0) := fun W h => (HP.out W h).2.2.2.2.2.2.1
    have p7 : ∀ W, Kept (fun _ => False) w2 W → W.cell? ⟨w.heap.size, 7, none⟩ = some (.int .u8 s1) := fun W h => (HP.out W h).2.2.2.2.2.2.2.1
    have p8 : ∀ W, Kept (fun _ => False) w2 W → W.cell? ⟨w.heap.size, 8, none⟩ = some (.int .u8 s2) := fun W h => (HP.out W h).2.2.2.2.2.2.2.2.1
    have p9 : ∀ W, Kept (fun _ => False) w2 W → W.cell? ⟨w.heap.size, 9, none⟩ = some (.int .u8 s3) := fun W h => (HP.out W h).2.2.2.2.2.2.2.2.2.1
    have p10 : ∀ W, Kept (fun _ => False) w2 W → W.cell? ⟨w.heap.size, 10, none⟩ = some (.int .u8 s4) := fun W h => (HP.out W h).2.2.2.2.2.2.2.2.2.2.1
    have p11 : ∀ W, Kept (fun _ => False) w2 W → W.cell? ⟨w.heap.size, 11, none⟩ = some (.int .u8 s5) := fun W h => (HP.out W h).2.2.2.2.2.2.2.2.2.2.2.1
    have p12 : ∀ W, Kept (fun _ => False) w2 W → W.cell? ⟨w.heap.size, 12, none⟩ = some (.int .i64 ty) := fun W h => (HP.out W h).2.2.2.2.2.2.2.2.2.2.2.2.1
    have p13 : ∀ W, Kept (fun _ => False) w2 W → W.cell? ⟨w.heap.size, 13, none⟩ = some (.string x) := fun W h => (HP.out W h).2.2.2.2.2.2.2.2.2.2.2.2.2
    clear hk6
    have hw0 : IntKind.i64.wrap 0 = 0 := by rw [IntKind.wrap_i64]; rfl
    go_wp2
    refine wp_region_held_drew (S := Kept (fun _ => False) w2) (by kernel_rfl) (K6.out.drew) (fun hSd => ?_)
    refine wpAnyH_ready (rs := [0]) (by kernel_rfl) (by simp) ?_
    refine AllReadyH.cons rfl (fun K hK => ?_) AllReadyH.nil
    go_simp
    refine (HAL.out _ KA.out.drew).mono ?_
    rintro e w7 ⟨rfl, hk7⟩
    have K7 : Kept (fun _ => False) w2 w7 := K6.out.drew.trans hk7
    refine hK.out _ _ (K7) (fun _ => ?_)
    clear hK K
    try simp only [List.getElem_toArray]
    try simp only [List.getElem_cons_succ]
    try simp only [List.getElem_cons_zero]
    try simp only [Act.put]
    try simp only [List.setIfInBounds_toArray]
    try simp only [List.set_cons_succ]
    try simp only [List.set_cons_zero]
    refine wpAnyH_take (i := 1) (v := .bool true) rfl (by kernel_rfl) (by kernel_rfl) (by kernel_rfl) (fun _ _ _ h => h) (Or.inl ⟨by kernel_rfl, fun W hSW => by go_simp; try with_reducible rfl⟩) (by assumption) ?_
    try simp only [List.getElem_toArray]
    try simp only [List.getElem_cons_succ]
    try simp only [List.getElem_cons_zero]
    try simp only [Act.put]
    try simp only [List.setIfInBounds_toArray]
    try simp only [List.set_cons_succ]
    try simp only [List.set_cons_zero]
    refine wpAnyH_take (i := 2) (v := ?_) rfl (by kernel_rfl) (by kernel_rfl) (by kernel_rfl) (fun _ _ _ h => h) (Or.inl ⟨by kernel_rfl, fun W hSW => by go_simp; try with_reducible rfl⟩) (by assumption) ?_
    try simp only [List.getElem_toArray]
    try simp only [List.getElem_cons_succ]
    try simp only [List.getElem_cons_zero]
    try simp only [Act.put]
    try simp only [List.setIfInBounds_toArray]
    try simp only [List.set_cons_succ]
    try simp only [List.set_cons_zero]
    refine wpAnyH_take (i := 3) (v := .bool true) rfl (by kernel_rfl) (by kernel_rfl) (by kernel_rfl) (fun _ _ _ h => h) (Or.inl ⟨by kernel_rfl, fun W hSW => by go_simp; try with_reducible rfl⟩) (by assumption) ?_
    try simp only [List.getElem_toArray]
    try simp only [List.getElem_cons_succ]
    try simp only [List.getElem_cons_zero]
    try simp only [Act.put]
    try simp only [List.setIfInBounds_toArray]
    try simp only [List.set_cons_succ]
    try simp only [List.set_cons_zero]
    refine wpAnyH_take (i := 4) (v := .bool true) rfl (by kernel_rfl) (by kernel_rfl) (by kernel_rfl) (fun _ _ _ h => h) (Or.inl ⟨by kernel_rfl, fun W hSW => by go_simp; try with_reducible rfl⟩) (by assumption) ?_
    try simp only [List.getElem_toArray]
    try simp only [List.getElem_cons_succ]
    try simp only [List.getElem_cons_zero]
    try simp only [Act.put]
    try simp only [List.setIfInBounds_toArray]
    try simp only [List.set_cons_succ]
    try simp only [List.set_cons_zero]
    refine wpAnyH_take (i := 5) (v := .bool true) rfl (by kernel_rfl) (by kernel_rfl) (by kernel_rfl) (fun _ _ _ h => h) (Or.inl ⟨by kernel_rfl, fun W hSW => by go_simp; try with_reducible rfl⟩) (by assumption) ?_
    try simp only [List.getElem_toArray]
    try simp only [List.getElem_cons_succ]
    try simp only [List.getElem_cons_zero]
    try simp only [Act.put]
    try simp only [List.setIfInBounds_toArray]
    try simp only [List.set_cons_succ]
    try simp only [List.set_cons_zero]
    refine wpAnyH_take (i := 6) (v := ?_) rfl (by kernel_rfl) (by kernel_rfl) (by kernel_rfl) (fun _ _ _ h => h) (Or.inl ⟨by kernel_rfl, fun W hSW => by go_simp; try with_reducible rfl⟩) (by assumption) ?_
    try simp only [List.getElem_toArray]
    try simp only [List.getElem_cons_succ]
    try simp only [List.getElem_cons_zero]
    try simp only [Act.put]
    try simp only [List.setIfInBounds_toArray]
    try simp only [List.set_cons_succ]
    try simp only [List.set_cons_zero]
    refine wpAnyH_take (i := 7) (v := .bool true) rfl (by kernel_rfl) (by kernel_rfl) (by kernel_rfl) (fun _ _ _ h => h) (Or.inl ⟨by kernel_rfl, fun W hSW => by go_simp; try with_reducible rfl⟩) (by assumption) ?_
    try simp only [List.getElem_toArray]
    try simp only [List.getElem_cons_succ]
    try simp only [List.getElem_cons_zero]
    try simp only [Act.put]
    try simp only [List.setIfInBounds_toArray]
    try simp only [List.set_cons_succ]
    try simp only [List.set_cons_zero]
    refine wpAnyH_take (i := 8) (v := .bool true) rfl (by kernel_rfl) (by kernel_rfl) (by kernel_rfl) (fun _ _ _ h => h) (Or.inl ⟨by kernel_rfl, fun W hSW => by go_simp; try with_reducible rfl⟩) (by assumption) ?_
    try simp only [List.getElem_toArray]
    try simp only [List.getElem_cons_succ]
    try simp only [List.getElem_cons_zero]
    try simp only [Act.put]
    try simp only [List.setIfInBounds_toArray]
    try simp only [List.set_cons_succ]
    try simp only [List.set_cons_zero]
    refine wpAnyH_take (i := 9) (v := .bool true) rfl (by kernel_rfl) (by kernel_rfl) (by kernel_rfl) (fun _ _ _ h => h) (Or.inl ⟨by kernel_rfl, fun W hSW => by go_simp; try with_reducible rfl⟩) (by assumption) ?_
    try simp only [List.getElem_toArray]
    try simp only [List.getElem_cons_succ]
    try simp only [List.getElem_cons_zero]
    try simp only [Act.put]
    try simp only [List.setIfInBounds_toArray]
    try simp only [List.set_cons_succ]
    try simp only [List.set_cons_zero]
    refine wpAnyH_take (i := 10) (v := ?_) rfl (by kernel_rfl) (by kernel_rfl) (by kernel_rfl) (fun _ _ _ h => h) (Or.inl ⟨by kernel_rfl, fun W hSW => by go_simp; try with_reducible rfl⟩) (by assumption) ?_
    try simp only [List.getElem_toArray]
    try simp only [List.getElem_cons_succ]
    try simp only [List.getElem_cons_zero]
    try simp only [Act.put]
    try simp only [List.setIfInBounds_toArray]
    try simp only [List.set_cons_succ]
    try simp only [List.set_cons_zero]
    refine wpAnyH_take (i := 11) (v := .bool true) rfl (by kernel_rfl) (by kernel_rfl) (by kernel_rfl) (fun _ _ _ h => h) (Or.inl ⟨by kernel_rfl, fun W hSW => by go_simp; try with_reducible rfl⟩) (by assumption) ?_
    try simp only [List.getElem_toArray]
    try simp only [List.getElem_cons_succ]
    try simp only [List.getElem_cons_zero]
    try simp only [Act.put]
    try simp only [List.setIfInBounds_toArray]
    try simp only [List.set_cons_succ]
    try simp only [List.set_cons_zero]
    refine wpAnyH_take (i := 12) (v := .bool true) rfl (by kernel_rfl) (by kernel_rfl) (by kernel_rfl) (fun _ _ _ h => h) (Or.inl ⟨by kernel_rfl, fun W hSW => by go_simp; try with_reducible rfl⟩) (by assumption) ?_
    try simp only [List.getElem_toArray]
    try simp only [List.getElem_cons_succ]
    try simp only [List.getElem_cons_zero]
    try simp only [Act.put]
    try simp only [List.setIfInBounds_toArray]
    try simp only [List.set_cons_succ]
    try simp only [List.set_cons_zero]
    refine wpAnyH_take (i := 13) (v := .bool true) rfl (by kernel_rfl) (by kernel_rfl) (by kernel_rfl) (fun _ _ _ h => h) (Or.inl ⟨by kernel_rfl, fun W hSW => by go_simp; try with_reducible rfl⟩) (by assumption) ?_
    try simp only [List.getElem_toArray]
    try simp only [List.getElem_cons_succ]
    try simp only [List.getElem_cons_zero]
    try simp only [Act.put]
    try simp only [List.setIfInBounds_toArray]
    try simp only [List.set_cons_succ]
    try simp only [List.set_cons_zero]
    refine wpAnyH_take (i := 14) (v := ?_) rfl (by kernel_rfl) (by kernel_rfl) (by kernel_rfl) (fun _ _ _ h => h) (Or.inl ⟨by kernel_rfl, fun W hSW => by go_simp; try with_reducible rfl⟩) (by assumption) ?_
    try simp only [List.getElem_toArray]
    try simp only [List.getElem_cons_succ]
    try simp only [List.getElem_cons_zero]
    try simp only [Act.put]
    try simp only [List.setIfInBounds_toArray]
    try simp only [List.set_cons_succ]
    try simp only [List.set_cons_zero]
    refine wpAnyH_take (i := 15) (v := .bool true) rfl (by kernel_rfl) (by kernel_rfl) (by kernel_rfl) (fun _ _ _ h => h) (Or.inl ⟨by kernel_rfl, fun W hSW => by go_simp; try with_reducible rfl⟩) (by assumption) ?_
    try simp only [List.getElem_toArray]
    try simp only [List.getElem_cons_succ]
    try simp only [List.getElem_cons_zero]
    try simp only [Act.put]
    try simp only [List.setIfInBounds_toArray]
    try simp only [List.set_cons_succ]
    try simp only [List.set_cons_zero]
    refine wpAnyH_take (i := 16) (v := .bool true) rfl (by kernel_rfl) (by kernel_rfl) (by kernel_rfl) (fun _ _ _ h => h) (Or.inl ⟨by kernel_rfl, fun W hSW => by go_simp; try with_reducible rfl⟩) (by assumption) ?_
    try simp only [List.getElem_toArray]
    try simp only [List.getElem_cons_succ]
    try simp only [List.getElem_cons_zero]
    try simp only [Act.put]
    try simp only [List.setIfInBounds_toArray]
    try simp only [List.set_cons_succ]
    try simp only [List.set_cons_zero]
    refine wpAnyH_take (i := 17) (v := .bool true) rfl (by kernel_rfl) (by kernel_rfl) (by kernel_rfl) (fun _ _ _ h => h) (Or.inl ⟨by kernel_rfl, fun W hSW => by go_simp; try with_reducible rfl⟩) (by assumption) ?_
    try simp only [List.getElem_toArray]
    try simp only [List.getElem_cons_succ]
    try simp only [List.getElem_cons_zero]
    try simp only [Act.put]
    try simp only [List.setIfInBounds_toArray]
    try simp only [List.set_cons_succ]
    try simp only [List.set_cons_zero]
    refine wpAnyH_take (i := 18) (v := ?_) rfl (by kernel_rfl) (by kernel_rfl) (by kernel_rfl) (fun _ _ _ h => h) (Or.inl ⟨by kernel_rfl, fun W hSW => by go_simp; try with_reducible rfl⟩) (by assumption) ?_
    try simp only [List.getElem_toArray]
    try simp only [List.getElem_cons_succ]
    try simp only [List.getElem_cons_zero]
    try simp only [Act.put]
    try simp only [List.setIfInBounds_toArray]
    try simp only [List.set_cons_succ]
    try simp only [List.set_cons_zero]
    refine wpAnyH_take (i := 19) (v := ?_) rfl (by kernel_rfl) (by kernel_rfl) (by kernel_rfl) (fun _ _ _ h => h) (Or.inl ⟨by kernel_rfl, fun W hSW => by go_simp; try with_reducible rfl⟩) (by assumption) ?_
    try simp only [List.getElem_toArray]
    try simp only [List.getElem_cons_succ]
    try simp only [List.getElem_cons_zero]
    try simp only [Act.put]
    try simp only [List.setIfInBounds_toArray]
    try simp only [List.set_cons_succ]
    try simp only [List.set_cons_zero]
    refine wpAnyH_take (i := 22) (v := ?_) rfl (by kernel_rfl) (by kernel_rfl) (by kernel_rfl) (fun _ _ _ h => h) (Or.inl ⟨by kernel_rfl, fun W hSW => by go_simp; try with_reducible rfl⟩) (by assumption) ?_
    try simp only [List.getElem_toArray]
    try simp only [List.getElem_cons_succ]
    try simp only [List.getElem_cons_zero]
    try simp only [Act.put]
    try simp only [List.setIfInBounds_toArray]
    try simp only [List.set_cons_succ]
    try simp only [List.set_cons_zero]
    refine wpAnyH_take (i := 23) (v := ?_) rfl (by kernel_rfl) (by kernel_rfl) (by kernel_rfl) (fun _ _ _ h => h) (Or.inl ⟨by kernel_rfl, fun W hSW => by go_simp; try with_reducible rfl⟩) (by assumption) ?_
    try simp only [List.getElem_toArray]
    try simp only [List.getElem_cons_succ]
    try simp only [List.getElem_cons_zero]
    try simp only [Act.put]
    try simp only [List.setIfInBounds_toArray]
    try simp only [List.set_cons_succ]
    try simp only [List.set_cons_zero]
    refine wpAnyH_take (i := 27) (v := ?_) rfl (by kernel_rfl) (by kernel_rfl) (by kernel_rfl) (fun _ _ _ h => h) (Or.inl ⟨by kernel_rfl, fun W hSW => by go_simp; try with_reducible rfl⟩) (by assumption) ?_
    try simp only [List.getElem_toArray]
    try simp only [List.getElem_cons_succ]
    try simp only [List.getElem_cons_zero]
    try simp only [Act.put]
    try simp only [List.setIfInBounds_toArray]
    try simp only [List.set_cons_succ]
    try simp only [List.set_cons_zero]
    refine wpAnyH_take (i := 31) (v := ?_) rfl (by kernel_rfl) (by kernel_rfl) (by kernel_rfl) (fun _ _ _ h => h) (Or.inl ⟨by kernel_rfl, fun W hSW => by go_simp; try with_reducible rfl⟩) (by assumption) ?_
    try simp only [List.getElem_toArray]
    try simp only [List.getElem_cons_succ]
    try simp only [List.getElem_cons_zero]
    try simp only [Act.put]
    try simp only [List.setIfInBounds_toArray]
    try simp only [List.set_cons_succ]
    try simp only [List.set_cons_zero]
    refine wpAnyH_take (i := 35) (v := ?_) rfl (by kernel_rfl) (by kernel_rfl) (by kernel_rfl) (fun _ _ _ h => h) (Or.inl ⟨by kernel_rfl, fun W hSW => by go_simp; try with_reducible rfl⟩) (by assumption) ?_
    try simp only [List.getElem_toArray]
    try simp only [List.getElem_cons_succ]
    try simp only [List.getElem_cons_zero]
    try simp only [Act.put]
    try simp only [List.setIfInBounds_toArray]
    try simp only [List.set_cons_succ]
    try simp only [List.set_cons_zero]
    refine wpAnyH_take (i := 39) (v := ?_) rfl (by kernel_rfl) (by kernel_rfl) (by kernel_rfl) (fun _ _ _ h => h) (Or.inl ⟨by kernel_rfl, fun W hSW => by go_simp; try with_reducible rfl⟩) (by assumption) ?_
    try simp only [List.getElem_toArray]
    try simp only [List.getElem_cons_succ]
    try simp only [List.getElem_cons_zero]
    try simp only [Act.put]
    try simp only [List.setIfInBounds_toArray]
    try simp only [List.set_cons_succ]
    try simp only [List.set_cons_zero]
    refine wpAnyH_ready (rs := [20]) (by kernel_rfl) (by simp) ?_
    refine AllReadyH.cons rfl (fun K hK => ?_) AllReadyH.nil
    go_simp
    refine (T1.out _).mono ?_
    rintro e w8 ⟨rfl, hk8⟩
    have K8 := K7.trans hk8
    refine hK.out _ _ (K8) (fun _ => ?_)
    clear hK K
    try simp only [List.getElem_toArray]
    try simp only [List.getElem_cons_succ]
    try simp only [List.getElem_cons_zero]
    try simp only [Act.put]
    try simp only [List.setIfInBounds_toArray]
    try simp only [List.set_cons_succ]
    try simp only [List.set_cons_zero]
    refine wpAnyH_take (i := 21) (v := ?_) rfl (by kernel_rfl) (by kernel_rfl) (by kernel_rfl) (fun _ _ _ h => h) (Or.inl ⟨by kernel_rfl, fun W hSW => by go_simp; try with_reducible rfl⟩) (by assumption) ?_
    try simp only [List.getElem_toArray]
    try simp only [List.getElem_cons_succ]
    try simp only [List.getElem_cons_zero]
    try simp only [Act.put]
    try simp only [List.setIfInBounds_toArray]
    try simp only [List.set_cons_succ]
    try simp only [List.set_cons_zero]
    refine wpAnyH_ready (rs := [24]) (by kernel_rfl) (by simp) ?_
    refine AllReadyH.cons rfl (fun K hK => ?_) AllReadyH.nil
    go_simp
    refine (T2.out _ K8).mono ?_
    rintro e w9 ⟨rfl, hk9⟩
    have K9 := K8.trans hk9
    refine hK.out _ _ (K9) (fun _ => ?_)
    clear hK K
    try simp only [List.getElem_toArray]
    try simp only [List.getElem_cons_succ]
    try simp only [List.getElem_cons_zero]
    try simp only [Act.put]
    try simp only [List.setIfInBounds_toArray]
    try simp only [List.set_cons_succ]
    try simp only [List.set_cons_zero]
    refine wpAnyH_take (i := 25) (v := ?_) rfl (by kernel_rfl) (by kernel_rfl) (by kernel_rfl) (fun _ _ _ h => h) (Or.inl ⟨by kernel_rfl, fun W hSW => by go_simp; try with_reducible rfl⟩) (by assumption) ?_
    try simp only [List.getElem_toArray]
    try simp only [List.getElem_cons_succ]
    try simp only [List.getElem_cons_zero]
    try simp only [Act.put]
    try simp only [List.setIfInBounds_toArray]
    try simp only [List.set_cons_succ]
    try simp only [List.set_cons_zero]
    refine wpAnyH_take (i := 26) (v := ?_) rfl (by kernel_rfl) (by kernel_rfl) (by kernel_rfl) (fun _ _ _ h => h) (Or.inl ⟨by kernel_rfl, fun W hSW => by go_simp; try with_reducible rfl⟩) (by assumption) ?_
    try simp only [List.getElem_toArray]
    try simp only [List.getElem_cons_succ]
    try simp only [List.getElem_cons_zero]
    try simp only [Act.put]
    try simp only [List.setIfInBounds_toArray]
    try simp only [List.set_cons_succ]
    try simp only [List.set_cons_zero]
    refine wpAnyH_ready (rs := [28]) (by kernel_rfl) (by simp) ?_
    refine AllReadyH.cons rfl (fun K hK => ?_) AllReadyH.nil
    go_simp
    refine (L1.out _).mono ?_
    rintro e w10 ⟨rfl, rfl⟩
    refine hK.out _ _ (K9) (fun _ => ?_)
    clear hK K
    try simp only [List.getElem_toArray]
    try simp only [List.getElem_cons_succ]
    try simp only [List.getElem_cons_zero]
    try simp only [Act.put]
    try simp only [List.setIfInBounds_toArray]
    try simp only [List.set_cons_succ]
    try simp only [List.set_cons_zero]
    refine wpAnyH_take (i := 29) (v := ?_) rfl (by kernel_rfl) (by kernel_rfl) (by kernel_rfl) (fun _ _ _ h => h) (Or.inl ⟨by kernel_rfl, fun W hSW => by go_simp; try with_reducible rfl⟩) (by assumption) ?_
    try simp only [List.getElem_toArray]
    try simp only [List.getElem_cons_succ]
    try simp only [List.getElem_cons_zero]
    try simp only [Act.put]
    try simp only [List.setIfInBounds_toArray]
    try simp only [List.set_cons_succ]
    try simp only [List.set_cons_zero]
    refine wpAnyH_take (i := 30) (v := ?_) rfl (by kernel_rfl) (by kernel_rfl) (by kernel_rfl) (fun _ _ _ h => h) (Or.inl ⟨by kernel_rfl, fun W hSW => by go_simp; try with_reducible rfl⟩) (by assumption) ?_
    try simp only [List.getElem_toArray]
    try simp only [List.getElem_cons_succ]
    try simp only [List.getElem_cons_zero]
    try simp only [Act.put]
    try simp only [List.setIfInBounds_toArray]
    try simp only [List.set_cons_succ]
    try simp only [List.set_cons_zero]
    refine wpAnyH_ready (rs := [32]) (by kernel_rfl) (by simp) ?_
    refine AllReadyH.cons rfl (fun K hK => ?_) AllReadyH.nil
    go_simp
    refine (L2.out _ K9).mono ?_
    rintro e w11 ⟨rfl, rfl⟩
    refine hK.out _ _ (K9) (fun _ => ?_)
    clear hK K
    try simp only [List.getElem_toArray]
    try simp only [List.getElem_cons_succ]
    try simp only [List.getElem_cons_zero]
    try simp only [Act.put]
    try simp only [List.setIfInBounds_toArray]
    try simp only [List.set_cons_succ]
    try simp only [List.set_cons_zero]
    refine wpAnyH_take (i := 33) (v := ?_) rfl (by kernel_rfl) (by kernel_rfl) (by kernel_rfl) (fun _ _ _ h => h) (Or.inl ⟨by kernel_rfl, fun W hSW => by go_simp; try with_reducible rfl⟩) (by assumption) ?_
    try simp only [List.getElem_toArray]
    try simp only [List.getElem_cons_succ]
    try simp only [List.getElem_cons_zero]
    try simp only [Act.put]
    try simp only [List.setIfInBounds_toArray]
    try simp only [List.set_cons_succ]
    try simp only [List.set_cons_zero]
    refine wpAnyH_take (i := 34) (v := ?_) rfl (by kernel_rfl) (by kernel_rfl) (by kernel_rfl) (fun _ _ _ h => h) (Or.inl ⟨by kernel_rfl, fun W hSW => by go_simp; try with_reducible rfl⟩) (by assumption) ?_
    try simp only [List.getElem_toArray]
    try simp only [List.getElem_cons_succ]
    try simp only [List.getElem_cons_zero]
    try simp only [Act.put]
    try simp only [List.setIfInBounds_toArray]
    try simp only [List.set_cons_succ]
    try simp only [List.set_cons_zero]
    refine wpAnyH_ready (rs := [36]) (by kernel_rfl) (by simp) ?_
    refine AllReadyH.cons rfl (fun K hK => ?_) AllReadyH.nil
    go_simp
    refine (G1.out _).mono ?_
    rintro e w12 ⟨rfl, rfl⟩
    refine hK.out _ _ (K9) (fun _ => ?_)
    clear hK K
    try simp only [List.getElem_toArray]
    try simp only [List.getElem_cons_succ]
    try simp only [List.getElem_cons_zero]
    try simp only [Act.put]
    try simp only [List.setIfInBounds_toArray]
    try simp only [List.set_cons_succ]
    try simp only [List.set_cons_zero]
    refine wpAnyH_take (i := 37) (v := ?_) rfl (by kernel_rfl) (by kernel_rfl) (by kernel_rfl) (fun _ _ _ h => h) (Or.inl ⟨by kernel_rfl, fun W hSW => by go_simp; try with_reducible rfl⟩) (by assumption) ?_
    try simp only [List.getElem_toArray]
    try simp only [List.getElem_cons_succ]
    try simp only [List.getElem_cons_zero]
    try simp only [Act.put]
    try simp only [List.setIfInBounds_toArray]
    try simp only [List.set_cons_succ]
    try simp only [List.set_cons_zero]
    refine wpAnyH_take (i := 38) (v := ?_) rfl (by kernel_rfl) (by kernel_rfl) (by kernel_rfl) (fun _ _ _ h => h) (Or.inl ⟨by kernel_rfl, fun W hSW => by go_simp; try with_reducible rfl⟩) (by assumption) ?_
    try simp only [List.getElem_toArray]
    try simp only [List.getElem_cons_succ]
    try simp only [List.getElem_cons_zero]
    try simp only [Act.put]
    try simp only [List.setIfInBounds_toArray]
    try simp only [List.set_cons_succ]
    try simp only [List.set_cons_zero]
    refine wpAnyH_ready (rs := [40]) (by kernel_rfl) (by simp) ?_
    refine AllReadyH.cons rfl (fun K hK => ?_) AllReadyH.nil
    go_simp
    refine (G2.out _ K9).mono ?_
    rintro e w13 ⟨rfl, rfl⟩
    refine hK.out _ _ (K9) (fun _ => ?_)
    clear hK K
    try simp only [List.getElem_toArray]
    try simp only [List.getElem_cons_succ]
    try simp only [List.getElem_cons_zero]
    try simp only [Act.put]
    try simp only [List.setIfInBounds_toArray]
    try simp only [List.set_cons_succ]
    try simp only [List.set_cons_zero]
    refine wpAnyH_take (i := 41) (v := ?_) rfl (by kernel_rfl) (by kernel_rfl) (by kernel_rfl) (fun _ _ _ h => h) (Or.inl ⟨by kernel_rfl, fun W hSW => by go_simp; try with_reducible rfl⟩) (by assumption) ?_
    try simp only [List.getElem_toArray]
    try simp only [List.getElem_cons_succ]
    try simp only [List.getElem_cons_zero]
    try simp only [Act.put]
    try simp only [List.setIfInBounds_toArray]
    try simp only [List.set_cons_succ]
    try simp only [List.set_cons_zero]
    refine wpAnyH_take (i := 42) (v := ?_) rfl (by kernel_rfl) (by kernel_rfl) (by kernel_rfl) (fun _ _ _ h => h) (Or.inl ⟨by kernel_rfl, fun W hSW => by go_simp; try with_reducible rfl⟩) (by assumption) ?_
    try simp only [List.getElem_toArray]
    try simp only [List.getElem_cons_succ]
    try simp only [List.getElem_cons_zero]
    try simp only [Act.put]
    try simp only [List.setIfInBounds_toArray]
    try simp only [List.set_cons_succ]
    try simp only [List.set_cons_zero]
    refine wpAnyH_take (i := 43) (v := .bool true) rfl (by kernel_rfl) (by kernel_rfl) (by kernel_rfl) (fun _ _ _ h => h) (Or.inl ⟨by kernel_rfl, fun W hSW => by go_simp; try with_reducible rfl⟩) (by assumption) ?_
    try simp only [List.getElem_toArray]
    try simp only [List.getElem_cons_succ]
    try simp only [List.getElem_cons_zero]
    try simp only [Act.put]
    try simp only [List.setIfInBounds_toArray]
    try simp only [List.set_cons_succ]
    try simp only [List.set_cons_zero]
    refine wpAnyH_take (i := 44) (v := .bool true) rfl (by kernel_rfl) (by kernel_rfl) (by kernel_rfl) (fun _ _ _ h => h) (Or.inl ⟨by kernel_rfl, fun W hSW => by go_simp; try with_reducible rfl⟩) (by assumption) ?_
    try simp only [List.getElem_toArray]
    try simp only [List.getElem_cons_succ]
    try simp only [List.getElem_cons_zero]
    try simp only [Act.put]
    try simp only [List.setIfInBounds_toArray]
    try simp only [List.set_cons_succ]
    try simp only [List.set_cons_zero]
    refine wpAnyH_take (i := 45) (v := .bool true) rfl (by kernel_rfl) (by kernel_rfl) (by kernel_rfl) (fun _ _ _ h => h) (Or.inl ⟨by kernel_rfl, fun W hSW => by go_simp; try with_reducible rfl⟩) (by assumption) ?_
    try simp only [List.getElem_toArray]
    try simp only [List.getElem_cons_succ]
    try simp only [List.getElem_cons_zero]
    try simp only [Act.put]
    try simp only [List.setIfInBounds_toArray]
    try simp only [List.set_cons_succ]
    try simp only [List.set_cons_zero]
    refine wpAnyH_done (by kernel_rfl) ?_ _
    go_wp2
    go_ret
    exact ⟨rfl, K1.out.trans (k12.out.trans K9)⟩
  · have hlen : (3000 : Int) < (x.size : Int) := by omega
    have q13 := p13 w1 (Kept.refl _ _)
    rw [Hw1.out] at q13
    clear hT
    go_enter Tryd.func3, Tryd.ntmps3
    go_wp2_with fail
    rw [← Hw1.out]
    refine (HAL.out _ K1.out).mono ?_
    rintro e w2 ⟨rfl, hk2⟩
    go_wp2
    go_ret
    exact ⟨rfl, K1.out.trans hk2⟩
end Go.Proofs.YtgaamehjdoakhaaDoor
