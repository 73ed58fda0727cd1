/- Host.Frame: the session's frame, or the error. -/
import Derived.Test.YtffnppfoofifgaaGreatTk
import Derived.Test.YtffnppfoofifgaaGreatHsUp
import Derived.Test.YtffnppfoofifgaaGreatEtPutS
namespace Go.Proofs.YtffnppfoofifgaaGreat
open Go.RowKit

/-- What Frame tells. -/
def frameH (h : Hs) (data : ByteArray) : Fr × Int := if h.state = 3 then etFrame h.conc h.mac 34916 0 h.session data.data.toList else (frNone, 20)

set_option maxHeartbeats 2000000 in
set_option maxRecDepth 100000 in
theorem frame_state (b : Nat) (av : Value) (h : Hs) (hg : GoodH h) (data : ByteArray) (w : World) (hH : HostIn w b av h) (hst : ¬ h.state = 3) :
    Calls Tryz.prog 15 #[.pointer (some ⟨b, 0, none⟩), .string data] w fun e w' => e = .returned (.tuple #[.agg Z14, .int .i64 20]) ∧ Kept (fun _ => False) w w' := by
  obtain ⟨x0, x1, x2, x3, x4, x5, hx⟩ := six_cells hg.mac
  obtain ⟨y0, y1, y2, y3, y4, y5, hy⟩ := six_cells hg.conc
  have hlt : b < w.heap.size := hH.lt (Or.inl rfl)
  have K0 : Hid (Kept (fun _ => False) w (w.alloc (.cells #[.int .u8 0, .int .u8 0, .int .u8 0, .int .u8 0, .int .u8 0, .int .u8 0, .int .u8 0, .int .u8 0, .int .u8 0, .int .u8 0, .int .u8 0, .int .u8 0, .int .i64 0, .string ⟨#[]⟩] 55))) := (Kept.refl _ w).alloc _
  have HN := hid ((hH.kept0 K0.out).notNone hg)
  have c10 := ((hH.kept0 K0.out).cells hx hy).c10
  have n3 : (h.state != 3) = true := by simpa using hst
  clear hH hg hx hy hst
  go_enter Tryz.func15, Tryz.ntmps15
  go_wp2_with fail
  refine HN.out.mono ?_
  rintro e w' ⟨rfl, hw'⟩
  rw [hw']
  clear hw' w'
  go_wp2
  refine bodyPost_ret (v := .tuple #[.agg Z14, .int .i64 20]) (by simp [results, Tryz.results15, go_sem]) rfl ⟨rfl, ?_⟩
  repeat (refine Kept.setCell ?_ (Or.inl (by simp)) _)
  exact (Kept.refl _ w).alloc _

set_option maxHeartbeats 4000000 in
set_option maxRecDepth 100000 in
theorem frame_live (b : Nat) (av : Value) (h : Hs) (hg : GoodH h) (data : ByteArray) (hd : data.size ≤ 1000000) (w : World) (hH : HostIn w b av h) (hst : h.state = 3) :
    Calls Tryz.prog 15 #[.pointer (some ⟨b, 0, none⟩), .string data] w fun e w' => e = .returned (.tuple #[frV (etFrame h.conc h.mac 34916 0 h.session data.data.toList).1, .int .i64 (etFrame h.conc h.mac 34916 0 h.session data.data.toList).2]) ∧ Kept (fun _ => False) w w' := by
  have HSE := hid (fun W => session_any h.conc h.mac hg.conc hg.mac h.session data (by omega) W)
  obtain ⟨y0, y1, y2, y3, y4, y5, x0, x1, x2, x3, x4, x5, k, d, hform⟩ := et_form hg.conc hg.mac 34916 0 h.session data.data.toList
  obtain ⟨t0, t1, t2, t3, t4, t5, ht⟩ := six_cells hg.mac
  obtain ⟨z0, z1, z2, z3, z4, z5, hz⟩ := six_cells hg.conc
  rw [hform]
  rw [hform, hz, ht] at HSE
  generalize (etFrame h.conc h.mac 34916 0 h.session data.data.toList).2 = E at *
  have hlt : b < w.heap.size := hH.lt (Or.inl rfl)
  have HN := hid (fun W (hk : Kept (fun _ => False) w W) => (hH.kept0 hk).notNone hg)
  have HC := hid (fun W (hk : Kept (fun _ => False) w W) => (hH.kept0 hk).cells ht hz)
  obtain ⟨w1, hw1⟩ : ∃ w1, w1 = w.alloc (.cells #[.int .u8 0, .int .u8 0, .int .u8 0, .int .u8 0, .int .u8 0, .int .u8 0, .int .u8 0, .int .u8 0, .int .u8 0, .int .u8 0, .int .u8 0, .int .u8 0, .int .i64 0, .string ⟨#[]⟩] 55) := ⟨_, rfl⟩
  have Hw1 := hid hw1
  have K1 : Hid (Kept (fun _ => False) w w1) := by rw [hw1]; exact (Kept.refl _ w).alloc _
  have O1 : Hid (w1.heap[w.heap.size]? = some (.cells #[.int .u8 0, .int .u8 0, .int .u8 0, .int .u8 0, .int .u8 0, .int .u8 0, .int .u8 0, .int .u8 0, .int .u8 0, .int .u8 0, .int .u8 0, .int .u8 0, .int .i64 0, .string ⟨#[]⟩] 55 (0, 0))) := by rw [hw1]; exact heap_alloc_new w _
  have HN1 := hid (HN.out w1 K1.out)
  have e10 := (HC.out w1 K1.out).c10
  rw [hw1] at HN1 e10
  have n3 : (h.state != 3) = false := by simpa using hst
  have KK : ∀ {W : World}, Kept (fun i => i = w.heap.size) w1 W → Kept (fun _ => False) w W := fun h => K1.out.andThen h (fun i hi e => absurd e (by omega))
  have r0 := fun W (hW : Kept (fun i => i = w.heap.size) w1 W) => (HC.out W (KK hW)).c0
  have r1 := fun W (hW : Kept (fun i => i = w.heap.size) w1 W) => (HC.out W (KK hW)).c1
  have r2 := fun W (hW : Kept (fun i => i = w.heap.size) w1 W) => (HC.out W (KK hW)).c2
  have r3 := fun W (hW : Kept (fun i => i = w.heap.size) w1 W) => (HC.out W (KK hW)).c3
  have r4 := fun W (hW : Kept (fun i => i = w.heap.size) w1 W) => (HC.out W (KK hW)).c4
  have r5 := fun W (hW : Kept (fun i => i = w.heap.size) w1 W) => (HC.out W (KK hW)).c5
  have r11 := fun W (hW : Kept (fun i => i = w.heap.size) w1 W) => (HC.out W (KK hW)).c11
  have r12 := fun W (hW : Kept (fun i => i = w.heap.size) w1 W) => (HC.out W (KK hW)).c12
  have r13 := fun W (hW : Kept (fun i => i = w.heap.size) w1 W) => (HC.out W (KK hW)).c13
  have r14 := fun W (hW : Kept (fun i => i = w.heap.size) w1 W) => (HC.out W (KK hW)).c14
  have r15 := fun W (hW : Kept (fun i => i = w.heap.size) w1 W) => (HC.out W (KK hW)).c15
  have r16 := fun W (hW : Kept (fun i => i = w.heap.size) w1 W) => (HC.out W (KK hW)).c16
  have r17 := fun W (hW : Kept (fun i => i = w.heap.size) w1 W) => (HC.out W (KK hW)).c17
  clear hH hg ht hz hform hst hd hw1 HN HC
  go_enter Tryz.func15, Tryz.ntmps15
  go_wp2_with fail
  refine HN1.out.mono ?_
  rintro e w' ⟨rfl, hw'⟩
  rw [hw']
  clear hw' w'
  go_wp2_with fail
  rw [← Hw1.out]
  clear e10 n3 HN1
  refine wp_region_held_drew (S := Kept (fun i => i = w.heap.size) w1) (by kernel_rfl) ((Kept.refl _ w1).drew) (fun hSd => ?_)
  refine Tks.out (l := [(0, some none), (1, some none), (2, some none), (3, some none), (4, some none), (5, some none), (6, some none), (7, some none), (8, some none), (9, some none), (10, some none), (11, some none), (12, some none), (13, some none), (14, some none)]) ?_
  iterate 15
   refine tkT (v := ?_) rfl (by kernel_rfl) (by kernel_rfl) (by kernel_rfl) (fun _ _ _ h => h) (Or.inl ⟨by kernel_rfl, fun W hSW => by go_simp; try with_reducible rfl⟩) (by assumption) ?_
   try simp only [List.getElem_toArray, List.getElem_cons_succ, List.getElem_cons_zero]
   try go_frame
  refine tkE ?_
  refine wpAnyH_ready (rs := [15]) (by kernel_rfl) (by simp) ?_
  refine AllReadyH.cons rfl (fun K hK => ?_) AllReadyH.nil
  go_simp
  refine (HSE.out _).mono ?_
  rintro e w2 ⟨rfl, hk2⟩
  have K2 : Kept (fun i => i = w.heap.size) w1 w2 := (Kept.refl _ w1).drew.trans (hk2.mono (fun _ _ h => h.elim))
  have O2 : w2.heap[w.heap.size]? = some (.cells #[.int .u8 0, .int .u8 0, .int .u8 0, .int .u8 0, .int .u8 0, .int .u8 0, .int .u8 0, .int .u8 0, .int .u8 0, .int .u8 0, .int .u8 0, .int .u8 0, .int .i64 0, .string ⟨#[]⟩] 55 (0, 0)) := (hk2.block w.heap.size (Array.getElem?_eq_some_iff.1 O1.out).1 id).trans O1.out
  refine hK.out _ _ (K2) (fun _ => ?_)
  clear hK K
  try simp only [List.getElem_toArray, List.getElem_cons_succ, List.getElem_cons_zero]
  try go_frame
  refine Tks.out (l := [(16, some none), (17, some none)]) ?_
  iterate 2
   refine tkT (v := ?_) rfl (by kernel_rfl) (by kernel_rfl) (by kernel_rfl) (fun _ _ _ h => h) (Or.inl ⟨by kernel_rfl, fun W hSW => by go_simp; try with_reducible rfl⟩) (by assumption) ?_
   try simp only [List.getElem_toArray, List.getElem_cons_succ, List.getElem_cons_zero]
   try go_frame
  refine tkE ?_
  refine wpAnyH_ready (rs := [18]) (by kernel_rfl) (by simp) ?_
  refine AllReadyH.cons rfl (fun K hK => ?_) AllReadyH.nil
  refine step_store_row rfl _ _ _ rfl w.heap.size #[.int .u8 0, .int .u8 0, .int .u8 0, .int .u8 0, .int .u8 0, .int .u8 0, .int .u8 0, .int .u8 0, .int .u8 0, .int .u8 0, .int .u8 0, .int .u8 0, .int .i64 0, .string ⟨#[]⟩] #[.int .u8 y0, .int .u8 y1, .int .u8 y2, .int .u8 y3, .int .u8 y4, .int .u8 y5, .int .u8 x0, .int .u8 x1, .int .u8 x2, .int .u8 x3, .int .u8 x4, .int .u8 x5, .int .i64 k, .string d] rfl rfl O2 (by kernel_rfl) rfl (by simp [Value.oneCell']) ?_
  refine hK.out _ _ (K2.setRow (Or.inr (by rfl)) _) (fun _ => ?_)
  clear hK K
  try simp only [List.getElem_toArray, List.getElem_cons_succ, List.getElem_cons_zero]
  try go_frame
  refine wpAnyH_take (i := 19) (v := ?_) rfl (by kernel_rfl) (by kernel_rfl) (by kernel_rfl) (fun _ _ _ h => h) (Or.inl ⟨by kernel_rfl, fun W hSW => by go_simp; try with_reducible rfl⟩) (by assumption) ?_
  try simp only [List.getElem_toArray, List.getElem_cons_succ, List.getElem_cons_zero]
  try go_frame
  refine wpAnyH_done (by kernel_rfl) ?_ _
  have hs := setRow_heap w2 w.heap.size #[.int .u8 0, .int .u8 0, .int .u8 0, .int .u8 0, .int .u8 0, .int .u8 0, .int .u8 0, .int .u8 0, .int .u8 0, .int .u8 0, .int .u8 0, .int .u8 0, .int .i64 0, .string ⟨#[]⟩] #[.int .u8 y0, .int .u8 y1, .int .u8 y2, .int .u8 y3, .int .u8 y4, .int .u8 y5, .int .u8 x0, .int .u8 x1, .int .u8 x2, .int .u8 x3, .int .u8 x4, .int .u8 x5, .int .i64 k, .string d] 55 (0, 0) O2
  have K3 := hid ((KK K2).setRow (g := w.heap.size) (Or.inl (Nat.le_refl _)) #[.int .u8 y0, .int .u8 y1, .int .u8 y2, .int .u8 y3, .int .u8 y4, .int .u8 y5, .int .u8 x0, .int .u8 x1, .int .u8 x2, .int .u8 x3, .int .u8 x4, .int .u8 x5, .int .i64 k, .string d])
  generalize w2.setRow w.heap.size #[.int .u8 y0, .int .u8 y1, .int .u8 y2, .int .u8 y3, .int .u8 y4, .int .u8 y5, .int .u8 x0, .int .u8 x1, .int .u8 x2, .int .u8 x3, .int .u8 x4, .int .u8 x5, .int .i64 k, .string d] = w3 at *
  have hg2 := fun j => cell_of_row w3 w.heap.size j _ _ _ hs
  have g0 := hg2 0
  have g1 := hg2 1
  have g2 := hg2 2
  have g3 := hg2 3
  have g4 := hg2 4
  have g5 := hg2 5
  have g6 := hg2 6
  have g7 := hg2 7
  have g8 := hg2 8
  have g9 := hg2 9
  have g10 := hg2 10
  have g11 := hg2 11
  have g12 := hg2 12
  have g13 := hg2 13
  simp only [List.getElem?_toArray, List.getElem?_cons_zero, List.getElem?_cons_succ] at g0 g1 g2 g3 g4 g5 g6 g7 g8 g9 g10 g11 g12 g13
  clear hg2 hs
  go_wp2
  refine bodyPost_ret (v := .tuple #[.agg #[.int .u8 y0, .int .u8 y1, .int .u8 y2, .int .u8 y3, .int .u8 y4, .int .u8 y5, .int .u8 x0, .int .u8 x1, .int .u8 x2, .int .u8 x3, .int .u8 x4, .int .u8 x5, .int .i64 k, .string d], .int .i64 E]) (by simp [results, Tryz.results15, go_sem, g0, g1, g2, g3, g4, g5, g6, g7, g8, g9, g10, g11, g12, g13]) rfl ⟨rfl, ?_⟩
  exact K3.out

theorem frameH_any (b : Nat) (av : Value) (h : Hs) (hg : GoodH h) (data : ByteArray) (hd : data.size ≤ 1000000) (w : World) (hH : HostIn w b av h) :
    Calls Tryz.prog 15 #[.pointer (some ⟨b, 0, none⟩), .string data] w fun e w' => e = .returned (.tuple #[frV (frameH h data).1, .int .i64 (frameH h data).2]) ∧ Kept (fun _ => False) w w' := by
  unfold frameH
  by_cases hst : h.state = 3
  · rw [if_pos hst]
    exact frame_live b av h hg data hd w hH hst
  · rw [if_neg hst, frV_zero]
    exact frame_state b av h hg data w hH hst
end Go.Proofs.YtffnppfoofifgaaGreat
