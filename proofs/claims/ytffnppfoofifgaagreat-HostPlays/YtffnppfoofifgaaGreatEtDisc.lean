/- The contract of ether.Disc: a frame of discovery, or none. -/
import Derived.Test.YtffnppfoofifgaaGreatEtFrame
namespace Go.Proofs.YtffnppfoofifgaaGreat
open Go.RowKit

set_option maxHeartbeats 2000000 in
set_option maxRecDepth 100000 in
theorem disc_any (to src : List UInt8) (hto : to.length = 6) (hsrc : src.length = 6) (code session : Int) (v : Value) (l : List Tg) (w : World) (hv : TagsAt w v l) (hsz : ∀ x ∈ l, x.value.size ≤ 140737488351232) :
    Calls Tryz.prog 28 #[.agg (Lib.byteCells to).toArray, .agg (Lib.byteCells src).toArray, .int .i64 code, .int .i64 session, v] w
      fun e w' => ∃ u, e = .returned u ∧ OwnE w' w.heap.size u (etDisc to src code session l) ∧ Kept (fun _ => False) w w' := by
  have HP := hid (fun W (hk : Kept (fun _ => False) w W) => putTags_any v l W (hv.kept0 hk) hsz)
  have hpl : (putTagsF l).1.length ≤ 140737488351232 := by
    unfold putTagsF
    split
    · simp
    · split
      · simp
      · split
        · simp
        · rw [bytesT_length]; omega
  have HF := hid (fun W => frame_any to src hto hsrc 34915 code session ⟨(putTagsF l).1.toArray⟩ (by rw [Lib.size_eq]; exact hpl) W)
  unfold etDisc
  have HFF : Hid (etFrame to src 34915 code session (putTagsF l).1 = etFrame to src 34915 code session (putTagsF l).1) := rfl
  have hfr := hid (fun (he : (etFrame to src 34915 code session (putTagsF l).1).2 = 0) => show (frList (etFrame to src 34915 code session (putTagsF l).1).1).length = 14 from by
    unfold etFrame
    split
    · simp [frList, Lib.byteCells_length, hto, hsrc]
    · simp [frList, frNone, Lib.byteCells])
  obtain ⟨f, hf⟩ : ∃ f, f = etFrame to src 34915 code session (putTagsF l).1 := ⟨_, rfl⟩
  simp only [] at HF
  rw [← hf] at HF hfr ⊢
  have Hform := hid (show ∃ y0 y1 y2 y3 y4 y5 x0 x1 x2 x3 x4 x5 : Int, ∃ k : Int, ∃ d : ByteArray, frList f.1 = [.int .u8 y0, .int .u8 y1, .int .u8 y2, .int .u8 y3, .int .u8 y4, .int .u8 y5, .int .u8 x0, .int .u8 x1, .int .u8 x2, .int .u8 x3, .int .u8 x4, .int .u8 x5, .int .i64 k, .string d] from by
    rw [hf]
    unfold etFrame
    split
    · obtain ⟨y0, y1, y2, y3, y4, y5, hy⟩ := six_cells hto
      obtain ⟨x0, x1, x2, x3, x4, x5, hx⟩ := six_cells hsrc
      exact ⟨y0, y1, y2, y3, y4, y5, x0, x1, x2, x3, x4, x5, _, _, by simp only [frList]; rw [hx, hy]; rfl⟩
    · exact ⟨0, 0, 0, 0, 0, 0, 0, 0, 0, 0, 0, 0, _, _, rfl⟩)
  obtain ⟨z0, z1, z2, z3, z4, z5, hz⟩ := six_cells hto
  obtain ⟨t0, t1, t2, t3, t4, t5, ht⟩ := six_cells hsrc
  rw [hz, ht] at HF ⊢
  generalize (putTagsF l).2 = E at *
  generalize (putTagsF l).1 = D at *
  generalize f.2 = E2 at *
  obtain ⟨y0, y1, y2, y3, y4, y5, x0, x1, x2, x3, x4, x5, k, d, hform⟩ := Hform.out
  have hfv : frV f.1 = .agg #[.int .u8 y0, .int .u8 y1, .int .u8 y2, .int .u8 y3, .int .u8 y4, .int .u8 y5, .int .u8 x0, .int .u8 x1, .int .u8 x2, .int .u8 x3, .int .u8 x4, .int .u8 x5, .int .i64 k, .string d] := by unfold frV; rw [hform]
  rw [hfv] at HF
  have HO := hid (fun W (hb : w.heap.size ≤ W.heap.size) (he : E2 = 0) => own_frame W w.heap.size hb f.1 (hfr.out he))
  rw [hform] at HO
  clear hfr hfv hform Hform hf hpl HFF hv hsz hto hsrc hz ht
  have K0 := hid (((Kept.refl (fun _ => False) w).alloc (.cells #[.int .u8 z0, .int .u8 z1, .int .u8 z2, .int .u8 z3, .int .u8 z4, .int .u8 z5] 23)).alloc (.cells #[.int .u8 t0, .int .u8 t1, .int .u8 t2, .int .u8 t3, .int .u8 t4, .int .u8 t5] 23))
  have B0 := hid ((box6_new w 23 (.int .u8 z0) (.int .u8 z1) (.int .u8 z2) (.int .u8 z3) (.int .u8 z4) (.int .u8 z5)).kept ((Kept.refl (fun _ => False) _).alloc (.cells #[.int .u8 t0, .int .u8 t1, .int .u8 t2, .int .u8 t3, .int .u8 t4, .int .u8 t5] 23)))
  have B1 := hid (box6_new (w.alloc (.cells #[.int .u8 z0, .int .u8 z1, .int .u8 z2, .int .u8 z3, .int .u8 z4, .int .u8 z5] 23)) 23 (.int .u8 t0) (.int .u8 t1) (.int .u8 t2) (.int .u8 t3) (.int .u8 t4) (.int .u8 t5))
  rw [show (w.alloc (.cells #[.int .u8 z0, .int .u8 z1, .int .u8 z2, .int .u8 z3, .int .u8 z4, .int .u8 z5] 23)).heap.size = w.heap.size + 1 from by simp] at B1
  by_cases hE : E = 0
  · subst hE
    rw [if_pos rfl]
    by_cases hE2 : E2 = 0
    · subst hE2
      rw [if_pos rfl]
      go_enter Tryz.func28, Tryz.ntmps28
      go_wp2_with fail
      refine (HP.out _ K0.out).mono ?_
      rintro e w1 ⟨rfl, hk1⟩
      obtain ⟨b0, b1, b2, b3, b4, b5⟩ := B0.out.kept hk1
      obtain ⟨f0, f1, f2, f3, f4, f5⟩ := B1.out.kept hk1
      have K1 := hid (K0.out.trans hk1)
      clear hk1 K0 B0 B1
      go_wp2_with fail
      refine (HF.out _).mono ?_
      rintro e w2 ⟨rfl, hk2⟩
      have K2 := hid (K1.out.trans hk2)
      clear hk2 K1 b0 b1 b2 b3 b4 b5 f0 f1 f2 f3 f4 f5
      go_wp2
      go_ret
      have h := HO.out (w2.alloc (.cells #[.int .u8 y0, .int .u8 y1, .int .u8 y2, .int .u8 y3, .int .u8 y4, .int .u8 y5, .int .u8 x0, .int .u8 x1, .int .u8 x2, .int .u8 x3, .int .u8 x4, .int .u8 x5, .int .i64 k, .string d] 55)) (by simp; exact Nat.le_succ_of_le K2.out.size) (by trivial)
      rw [show (w2.alloc (.cells #[.int .u8 y0, .int .u8 y1, .int .u8 y2, .int .u8 y3, .int .u8 y4, .int .u8 y5, .int .u8 x0, .int .u8 x1, .int .u8 x2, .int .u8 x3, .int .u8 x4, .int .u8 x5, .int .i64 k, .string d] 55)).heap.size = w2.heap.size + 1 from by simp] at h
      exact ⟨_, rfl, h, (K2.out.alloc _).alloc _⟩
    · rw [if_neg hE2]
      have hne : (E2 != 0) = true := by simpa using hE2
      go_enter Tryz.func28, Tryz.ntmps28
      go_wp2_with fail
      refine (HP.out _ K0.out).mono ?_
      rintro e w1 ⟨rfl, hk1⟩
      obtain ⟨b0, b1, b2, b3, b4, b5⟩ := B0.out.kept hk1
      obtain ⟨f0, f1, f2, f3, f4, f5⟩ := B1.out.kept hk1
      have K1 := hid (K0.out.trans hk1)
      clear hk1 K0 B0 B1
      go_wp2_with fail
      refine (HF.out _).mono ?_
      rintro e w2 ⟨rfl, hk2⟩
      have K2 := hid (K1.out.trans hk2)
      clear hk2 K1 b0 b1 b2 b3 b4 b5 f0 f1 f2 f3 f4 f5
      go_wp2
      go_ret
      exact ⟨_, rfl, OwnE.nil _ _, K2.out.alloc _⟩
  · rw [if_neg hE]
    have hne : (E != 0) = true := by simpa using hE
    go_enter Tryz.func28, Tryz.ntmps28
    go_wp2_with fail
    refine (HP.out _ K0.out).mono ?_
    rintro e w1 ⟨rfl, hk1⟩
    have K1 := hid (K0.out.trans hk1)
    clear hk1 K0 B0 B1
    go_wp2
    go_ret
    exact ⟨_, rfl, OwnE.nil _ _, K1.out⟩
end Go.Proofs.YtffnppfoofifgaaGreat
