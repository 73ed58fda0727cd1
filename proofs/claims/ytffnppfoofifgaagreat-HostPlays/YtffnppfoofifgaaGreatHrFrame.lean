/- The contract of the document's host: Frame. (Written by gen_hrframe.py.) -/
import Derived.Test.YtffnppfoofifgaaGreatTk
import Derived.Test.YtffnppfoofifgaaGreatHrIn
namespace Go.Proofs.YtffnppfoofifgaaGreat
open Go.RowKit

def frameD (h : Hd) (data : ByteArray) : Fr × Int := if h.state = 3 then etFrame h.ac h.mac 34916 0 h.session data.data.toList else (frNone, 20)

set_option maxHeartbeats 4000000 in
set_option maxRecDepth 100000 in
theorem rFrame_any (b : Nat) (h : Hd) (hg : GoodD h) (data : ByteArray) (hd : data.size ≤ 1000000) (w : World) (H : HdIn w b h) :
    Calls Tryz.prog 16 #[.pointer (some ⟨b, 0, none⟩), .string data] w fun e w' => e = .returned (.tuple #[frV (frameD h data).1, .int .i64 (frameD h data).2]) ∧ Kept (fun _ => False) w w' := by
  obtain ⟨x0, x1, x2, x3, x4, x5, hx⟩ := six_cells hg.mac
  obtain ⟨y0, y1, y2, y3, y4, y5, hy⟩ := six_cells hg.ac
  have hlt := H.lt
  have HC := hid (fun X (hk : Kept (fun _ => False) w X) => (H.kept hk (fun h => h)).cells hx hy)
  have K0 : Hid (Kept (fun _ => False) w (w.alloc (.cells #[.int .u8 0, .int .u8 0, .int .u8 0, .int .u8 0, .int .u8 0, .int .u8 0, .int .u8 0, .int .u8 0, .int .u8 0, .int .u8 0, .int .u8 0, .int .u8 0, .int .i64 0, .string ⟨#[]⟩] 55))) := (Kept.refl _ w).alloc _
  have O0 : Hid ((w.alloc (.cells #[.int .u8 0, .int .u8 0, .int .u8 0, .int .u8 0, .int .u8 0, .int .u8 0, .int .u8 0, .int .u8 0, .int .u8 0, .int .u8 0, .int .u8 0, .int .u8 0, .int .i64 0, .string ⟨#[]⟩] 55)).heap[w.heap.size]? = some (.cells #[.int .u8 0, .int .u8 0, .int .u8 0, .int .u8 0, .int .u8 0, .int .u8 0, .int .u8 0, .int .u8 0, .int .u8 0, .int .u8 0, .int .u8 0, .int .u8 0, .int .i64 0, .string ⟨#[]⟩] 55 (0, 0))) := heap_alloc_new w _
  have c10 := (HC.out _ K0.out).c10
  have c11 := (HC.out _ K0.out).c11
  unfold frameD
  by_cases hs : h.state = 3
  · rw [if_pos hs]
    have n3 : (h.state != 3) = false := by simp [hs]
    have HP := hid (fun W => refPut_any 0 h.session data (by omega) W)
    change Hid (∀ W, Calls Tryz.prog 34 #[.agg #[.int .i64 0, .int .i64 h.session, .string data]] W fun e w' => e = .returned (.tuple #[.string ⟨(putDiscF 0 h.session data.data.toList).1.toArray⟩, .int .i64 (putDiscF 0 h.session data.data.toList).2]) ∧ Kept (fun _ => False) W w') at HP
    unfold etFrame
    generalize (⟨(putDiscF 0 h.session data.data.toList).1.toArray⟩ : ByteArray) = P at *
    generalize (putDiscF 0 h.session data.data.toList).2 = E at *
    have hv : frV ⟨h.ac, h.mac, 34916, P⟩ = .agg #[.int .u8 y0, .int .u8 y1, .int .u8 y2, .int .u8 y3, .int .u8 y4, .int .u8 y5, .int .u8 x0, .int .u8 x1, .int .u8 x2, .int .u8 x3, .int .u8 x4, .int .u8 x5, .int .i64 34916, .string P] := by
      unfold frV frList
      simp only
      rw [hx, hy]
      rfl
    clear hx hy hs hd
    by_cases hE : E = 0
    · rw [if_pos hE]
      simp only
      rw [hv]
      have hE1 : (E != 0) = false := by simp [hE]
      clear hE hv
      go_enter Tryz.func16, Tryz.ntmps16
      go_upto_region 3 with fail
      generalize w.alloc (.cells #[.int .u8 0, .int .u8 0, .int .u8 0, .int .u8 0, .int .u8 0, .int .u8 0, .int .u8 0, .int .u8 0, .int .u8 0, .int .u8 0, .int .u8 0, .int .u8 0, .int .i64 0, .string ⟨#[]⟩] 55) = w1 at *
      go_wp2_with fail
      refine (HP.out _).mono ?_
      rintro e w2 ⟨rfl, hk2⟩
      have O2 : w2.heap[w.heap.size]? = some (.cells #[.int .u8 0, .int .u8 0, .int .u8 0, .int .u8 0, .int .u8 0, .int .u8 0, .int .u8 0, .int .u8 0, .int .u8 0, .int .u8 0, .int .u8 0, .int .u8 0, .int .i64 0, .string ⟨#[]⟩] 55 (0, 0)) := (hk2.block w.heap.size (Array.getElem?_eq_some_iff.1 O0.out).1 (fun h => h)).trans O0.out
      have K2 := hid (K0.out.trans hk2)
      clear hk2 c10 c11
      have KK : ∀ {X : World}, Kept (fun i => i = w.heap.size) w2 X → Kept (fun _ => False) w X := fun h => K2.out.andThen h (fun i hi e => absurd e (by omega))
      have r0 : ∀ X, Kept (fun i => i = w.heap.size) w2 X → X.cell? ⟨b, 0, none⟩ = some (.int .u8 x0) := fun X hk => (HC.out X (KK hk)).c0
      have r1 : ∀ X, Kept (fun i => i = w.heap.size) w2 X → X.cell? ⟨b, 1, none⟩ = some (.int .u8 x1) := fun X hk => (HC.out X (KK hk)).c1
      have r2 : ∀ X, Kept (fun i => i = w.heap.size) w2 X → X.cell? ⟨b, 2, none⟩ = some (.int .u8 x2) := fun X hk => (HC.out X (KK hk)).c2
      have r3 : ∀ X, Kept (fun i => i = w.heap.size) w2 X → X.cell? ⟨b, 3, none⟩ = some (.int .u8 x3) := fun X hk => (HC.out X (KK hk)).c3
      have r4 : ∀ X, Kept (fun i => i = w.heap.size) w2 X → X.cell? ⟨b, 4, none⟩ = some (.int .u8 x4) := fun X hk => (HC.out X (KK hk)).c4
      have r5 : ∀ X, Kept (fun i => i = w.heap.size) w2 X → X.cell? ⟨b, 5, none⟩ = some (.int .u8 x5) := fun X hk => (HC.out X (KK hk)).c5
      have r12 : ∀ X, Kept (fun i => i = w.heap.size) w2 X → X.cell? ⟨b, 12, none⟩ = some (.int .u8 y0) := fun X hk => (HC.out X (KK hk)).c12
      have r13 : ∀ X, Kept (fun i => i = w.heap.size) w2 X → X.cell? ⟨b, 13, none⟩ = some (.int .u8 y1) := fun X hk => (HC.out X (KK hk)).c13
      have r14 : ∀ X, Kept (fun i => i = w.heap.size) w2 X → X.cell? ⟨b, 14, none⟩ = some (.int .u8 y2) := fun X hk => (HC.out X (KK hk)).c14
      have r15 : ∀ X, Kept (fun i => i = w.heap.size) w2 X → X.cell? ⟨b, 15, none⟩ = some (.int .u8 y3) := fun X hk => (HC.out X (KK hk)).c15
      have r16 : ∀ X, Kept (fun i => i = w.heap.size) w2 X → X.cell? ⟨b, 16, none⟩ = some (.int .u8 y4) := fun X hk => (HC.out X (KK hk)).c16
      have r17 : ∀ X, Kept (fun i => i = w.heap.size) w2 X → X.cell? ⟨b, 17, none⟩ = some (.int .u8 y5) := fun X hk => (HC.out X (KK hk)).c17
      go_upto_region 6 with fail
      refine wp_region_held_drew (S := Kept (fun i => i = w.heap.size) w2) (by kernel_rfl) ((Kept.refl _ w2).drew) (fun hSd => ?_)
      refine Tks.out (l := [(0, some none), (1, some none), (2, some none), (3, some none), (4, some none), (5, some none), (6, some none), (7, some none), (8, some none), (9, some none)]) ?_
      iterate 10
       refine tkT (v := ?_) rfl (by kernel_rfl) (by kernel_rfl) (by kernel_rfl) (fun _ _ _ h => h) (Or.inl ⟨by kernel_rfl, fun W hSW => by go_simp; try with_reducible rfl⟩) (by assumption) ?_
       try simp only [List.getElem_toArray, List.getElem_cons_succ, List.getElem_cons_zero]
       try go_frame
      refine tkE ?_
      refine wpAnyH_ready (rs := [10]) (by kernel_rfl) (by simp) ?_
      refine AllReadyH.cons rfl (fun K hK => ?_) AllReadyH.nil
      refine step_store_row rfl _ _ _ rfl w.heap.size #[.int .u8 0, .int .u8 0, .int .u8 0, .int .u8 0, .int .u8 0, .int .u8 0, .int .u8 0, .int .u8 0, .int .u8 0, .int .u8 0, .int .u8 0, .int .u8 0, .int .i64 0, .string ⟨#[]⟩] #[.int .u8 y0, .int .u8 y1, .int .u8 y2, .int .u8 y3, .int .u8 y4, .int .u8 y5, .int .u8 x0, .int .u8 x1, .int .u8 x2, .int .u8 x3, .int .u8 x4, .int .u8 x5, .int .i64 34916, .string P] rfl rfl O2 (by kernel_rfl) rfl (by simp [Value.oneCell']) ?_
      refine hK.out _ _ (((Kept.refl _ w2).drew.setRow (Or.inr (by rfl)) _)) (fun _ => ?_)
      clear hK K
      try simp only [List.getElem_toArray, List.getElem_cons_succ, List.getElem_cons_zero]
      try go_frame
      refine wpAnyH_take (i := 11) (v := ?_) rfl (by kernel_rfl) (by kernel_rfl) (by kernel_rfl) (fun _ _ _ h => h) (Or.inl ⟨by kernel_rfl, fun W hSW => by go_simp; try with_reducible rfl⟩) (by assumption) ?_
      try simp only [List.getElem_toArray, List.getElem_cons_succ, List.getElem_cons_zero]
      try go_frame
      refine wpAnyH_done (by kernel_rfl) ?_ _
      have hs := setRow_heap w2.drew w.heap.size #[.int .u8 0, .int .u8 0, .int .u8 0, .int .u8 0, .int .u8 0, .int .u8 0, .int .u8 0, .int .u8 0, .int .u8 0, .int .u8 0, .int .u8 0, .int .u8 0, .int .i64 0, .string ⟨#[]⟩] #[.int .u8 y0, .int .u8 y1, .int .u8 y2, .int .u8 y3, .int .u8 y4, .int .u8 y5, .int .u8 x0, .int .u8 x1, .int .u8 x2, .int .u8 x3, .int .u8 x4, .int .u8 x5, .int .i64 34916, .string P] 55 (0, 0) O2
      have K3 := hid ((KK (Kept.refl _ w2).drew).setRow (g := w.heap.size) (Or.inl (Nat.le_refl _)) #[.int .u8 y0, .int .u8 y1, .int .u8 y2, .int .u8 y3, .int .u8 y4, .int .u8 y5, .int .u8 x0, .int .u8 x1, .int .u8 x2, .int .u8 x3, .int .u8 x4, .int .u8 x5, .int .i64 34916, .string P])
      generalize w2.drew.setRow w.heap.size #[.int .u8 y0, .int .u8 y1, .int .u8 y2, .int .u8 y3, .int .u8 y4, .int .u8 y5, .int .u8 x0, .int .u8 x1, .int .u8 x2, .int .u8 x3, .int .u8 x4, .int .u8 x5, .int .i64 34916, .string P] = w3 at *
      have hg2 := fun j => cell_of_row w3 w.heap.size j _ _ _ hs
      have g0 := hg2 0
      have g1 := hg2 1
      have g2 := hg2 2
      have g3 := hg2 3
      have g4 := hg2 4
      have g5 := hg2 5
      have g6 := hg2 6
      have g7 := hg2 7
      have g8 := hg2 8
      have g9 := hg2 9
      have g10 := hg2 10
      have g11 := hg2 11
      have g12 := hg2 12
      have g13 := hg2 13
      simp only [List.getElem?_toArray, List.getElem?_cons_zero, List.getElem?_cons_succ] at g0 g1 g2 g3 g4 g5 g6 g7 g8 g9 g10 g11 g12 g13
      clear hg2 hs
      go_wp2
      refine bodyPost_ret (v := .tuple #[.agg #[.int .u8 y0, .int .u8 y1, .int .u8 y2, .int .u8 y3, .int .u8 y4, .int .u8 y5, .int .u8 x0, .int .u8 x1, .int .u8 x2, .int .u8 x3, .int .u8 x4, .int .u8 x5, .int .i64 34916, .string P], .int .i64 0]) (by simp [results, Tryz.results16, go_sem, g0, g1, g2, g3, g4, g5, g6, g7, g8, g9, g10, g11, g12, g13]) rfl ⟨?_, K3.out⟩
      first | rfl | trace_state
    · rw [if_neg hE]
      simp only
      rw [frV_zero]
      have hE1 : (E != 0) = true := by simpa using hE
      clear hE hv
      go_enter Tryz.func16, Tryz.ntmps16
      go_upto_region 3 with fail
      generalize w.alloc (.cells #[.int .u8 0, .int .u8 0, .int .u8 0, .int .u8 0, .int .u8 0, .int .u8 0, .int .u8 0, .int .u8 0, .int .u8 0, .int .u8 0, .int .u8 0, .int .u8 0, .int .i64 0, .string ⟨#[]⟩] 55) = w1 at *
      go_wp2_with fail
      refine (HP.out _).mono ?_
      rintro e w2 ⟨rfl, hk2⟩
      have O2 : w2.heap[w.heap.size]? = some (.cells #[.int .u8 0, .int .u8 0, .int .u8 0, .int .u8 0, .int .u8 0, .int .u8 0, .int .u8 0, .int .u8 0, .int .u8 0, .int .u8 0, .int .u8 0, .int .u8 0, .int .i64 0, .string ⟨#[]⟩] 55 (0, 0)) := (hk2.block w.heap.size (Array.getElem?_eq_some_iff.1 O0.out).1 (fun h => h)).trans O0.out
      have K2 := hid (K0.out.trans hk2)
      have hg2 := fun j => cell_of_row w2 w.heap.size j _ _ _ O2
      have g0 := hg2 0
      have g1 := hg2 1
      have g2 := hg2 2
      have g3 := hg2 3
      have g4 := hg2 4
      have g5 := hg2 5
      have g6 := hg2 6
      have g7 := hg2 7
      have g8 := hg2 8
      have g9 := hg2 9
      have g10 := hg2 10
      have g11 := hg2 11
      have g12 := hg2 12
      have g13 := hg2 13
      simp only [List.getElem?_toArray, List.getElem?_cons_zero, List.getElem?_cons_succ] at g0 g1 g2 g3 g4 g5 g6 g7 g8 g9 g10 g11 g12 g13
      have ff : ∀ j, w2.frozen? ⟨w.heap.size, j, none⟩ = false := fun j => by simp [World.frozen?, O2]
      have f0 := ff 0
      have f1 := ff 1
      have f2 := ff 2
      have f3 := ff 3
      have f4 := ff 4
      have f5 := ff 5
      have f6 := ff 6
      have f7 := ff 7
      have f8 := ff 8
      have f9 := ff 9
      have f10 := ff 10
      have f11 := ff 11
      have f12 := ff 12
      have f13 := ff 13
      clear hk2 c10 c11 hg2 ff
      go_wp2
      refine bodyPost_ret (v := .tuple #[.agg Z14, .int .i64 E]) (by simp [results, Tryz.results16, go_sem, g0, g1, g2, g3, g4, g5, g6, g7, g8, g9, g10, g11, g12, g13]) rfl ⟨rfl, ?_⟩
      repeat (refine Kept.setCell ?_ (Or.inl (by simp)) _)
      exact K2.out
  · rw [if_neg hs]
    simp only
    rw [frV_zero]
    have n3 : (h.state != 3) = true := by simpa using hs
    clear hx hy hs hd c11
    go_enter Tryz.func16, Tryz.ntmps16
    go_wp2
    refine bodyPost_ret (v := .tuple #[.agg Z14, .int .i64 20]) (by simp [results, Tryz.results16, go_sem]) rfl ⟨rfl, ?_⟩
    repeat (refine Kept.setCell ?_ (Or.inl (by simp)) _)
    exact (Kept.refl _ w).alloc _
end Go.Proofs.YtffnppfoofifgaaGreat
