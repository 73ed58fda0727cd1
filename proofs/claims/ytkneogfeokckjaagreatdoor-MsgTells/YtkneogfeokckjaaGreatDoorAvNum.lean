/- The contract of avp.Num. -/
import Derived.Test.YtkneogfeokckjaaGreatDoorAvCut
import Derived.Test.YtkneogfeokckjaaGreatDoorLowI
namespace Go.Proofs.YtkneogfeokckjaaGreatDoor
open Go.RowKit

theorem lowI_snoc (v : Int) (k j : Nat) (h : j < k) : lowI (v / 256 ^ (k - (j + 1))) (j + 1) = lowI (v / 256 ^ (k - j)) j ++ [UInt8.ofNat (v / 2 ^ (8 * (k - 1 - j)) % 256).toNat] := by
  have e : v / 256 ^ (k - (j + 1)) / 256 = v / 256 ^ (k - j) := by
    rw [Int.ediv_ediv_of_nonneg (by exact Int.le_of_lt (Int.pow_pos (by decide))), show (256 : Int) ^ (k - (j + 1)) * 256 = 256 ^ (k - j) from by rw [← Int.pow_succ]; congr 1; omega]
  have e2 : (2 : Int) ^ (8 * (k - 1 - j)) = 256 ^ (k - (j + 1)) := by
    rw [Int.pow_mul, show k - 1 - j = k - (j + 1) by omega]
    rfl
  rw [lowI, e, e2]
theorem cells_snocI (l : List UInt8) (m : Int) (h0 : 0 ≤ m) (h : m < 256) : Lib.byteCells (l ++ [UInt8.ofNat m.toNat]) = Lib.byteCells l ++ [Value.int .u8 m] := by
  have e := cells_snoc l m.toNat (by omega)
  rw [e]
  congr 3
  omega
def numV (v n : Int) : ByteArray := if n < 1 ∨ 8 < n then ⟨#[]⟩ else ⟨(lowI v n.toNat).toArray⟩
theorem numL_step {base : Nat} {w wr w1 : World} {u v' : Value} {k j : Nat} {v : Int} {o : Obj} (hj : j < k) (hw : base ≤ wr.heap.size) (hbel : Kept (fun _ => False) w wr) (hbw : w.heap.size ≤ base)
    (hown : wr.ownsRow base 5 1 u j (Lib.byteCells (lowI (v / 256 ^ (k - j)) j)))
    (hown' : w1.ownsRow base 5 1 v' (j + 1) (Lib.byteCells (lowI (v / 256 ^ (k - j)) j) ++ [Value.int .u8 (v / 2 ^ (8 * (k - 1 - j)) % 256)]))
    (hg : (wr.alloc o).grownBy w1 u.ownBlock) :
    w1.ownsRow base 5 1 v' (j + 1) (Lib.byteCells (lowI (v / 256 ^ (k - (j + 1))) (j + 1))) ∧ Kept (fun _ => False) w w1 ∧ base ≤ w1.heap.size := by
  have hs : (wr.alloc o).heap.size = wr.heap.size + 1 := by simp
  have hs1 := hg.size
  refine ⟨?_, (hbel.alloc o).grown hg (fun i hi => Or.inl (Nat.le_trans hbw (hown.lt i hi).1)), by omega⟩
  rw [lowI_snoc v k j hj, cells_snocI _ _ (Int.emod_nonneg _ (by decide)) (Int.emod_lt_of_pos _ (by decide))]
  exact hown'

set_option maxHeartbeats 4000000 in
set_option maxRecDepth 100000 in
theorem num_any (kind v n : Int) (hn : -9223372036854775808 ≤ n ∧ n ≤ 9223372036854775807) (w : World) :
    Calls Tryz.prog 32 #[.int .i64 kind, .int .i64 v, .int .i64 n] w fun e w' => e = .returned (avV ⟨true, false, 0, kind, numV v n⟩) ∧ Kept (fun _ => False) w w' := by
  obtain ⟨i0, hi, hz0, hz1, hz2⟩ := info_parts info5
  have hk0 : Kept (fun _ => False) w (w.alloc (.cells #[.bool false, .bool false, .int .i64 0, .int .i64 0, .string ⟨#[]⟩] 72)) := (Kept.refl (fun _ => False) w).alloc _
  have hs0 : (w.alloc (.cells #[.bool false, .bool false, .int .i64 0, .int .i64 0, .string ⟨#[]⟩] 72)).heap.size = w.heap.size + 1 := by simp
  have HZ : Hid (AvAt ((w.alloc (.cells #[.bool false, .bool false, .int .i64 0, .int .i64 0, .string ⟨#[]⟩] 72)).alloc (.cells #[.bool true, .bool false, .int .i64 0, .int .i64 kind, .string ⟨#[]⟩] 72)) w.heap.size av0) := (AvAt.new w av0).kept0 ((Kept.refl _ _).alloc _)
  have HT : Hid (AvAt ((w.alloc (.cells #[.bool false, .bool false, .int .i64 0, .int .i64 0, .string ⟨#[]⟩] 72)).alloc (.cells #[.bool true, .bool false, .int .i64 0, .int .i64 kind, .string ⟨#[]⟩] 72)) (w.heap.size + 1) ⟨true, false, 0, kind, ⟨#[]⟩⟩) := by
    have h := AvAt.new (w.alloc (.cells #[.bool false, .bool false, .int .i64 0, .int .i64 0, .string ⟨#[]⟩] 72)) ⟨true, false, 0, kind, ⟨#[]⟩⟩
    rw [hs0] at h
    exact h
  have HK := hid (hk0.alloc (.cells #[.bool true, .bool false, .int .i64 0, .int .i64 kind, .string ⟨#[]⟩] 72))
  clear hk0 hs0
  unfold numV
  by_cases hc : n < 1 ∨ 8 < n
  · rw [if_pos hc]
    have hcase : n < 1 ∨ (¬ n < 1 ∧ 8 < n) := by omega
    clear hc
    rcases hcase with h1 | ⟨h1, h8⟩
    · go_enter Tryz.func32, Tryz.ntmps32
      go_upto_region 2 with fail
      generalize (w.alloc (.cells #[.bool false, .bool false, .int .i64 0, .int .i64 0, .string ⟨#[]⟩] 72)).alloc (.cells #[.bool true, .bool false, .int .i64 0, .int .i64 kind, .string ⟨#[]⟩] 72) = W0 at *
      obtain ⟨t0, t1, t2, t3, t4⟩ := HT.out.cells
      obtain ⟨z0, z1, z2, z3, z4⟩ := HZ.out.cells
      have f0 := HZ.out.frozen 0
      have f1 := HZ.out.frozen 1
      have f2 := HZ.out.frozen 2
      have f3 := HZ.out.frozen 3
      have f4 := HZ.out.frozen 4
      unfold av0 at z0 z1 z2 z3 z4
      simp only at t0 t1 t2 t3 t4 z0 z1 z2 z3 z4
      go_wp2
      refine bodyPost_ret (v := avV ⟨true, false, 0, kind, ⟨#[]⟩⟩) (by simp [results, Tryz.results32, go_sem, z0, z1, z2, z3, z4, avV]) rfl ⟨rfl, ?_⟩
      exact ((((HK.out.setCell (Or.inl (Nat.le_refl _)) _).setCell (Or.inl (Nat.le_refl _)) _).setCell (Or.inl (Nat.le_refl _)) _).setCell (Or.inl (Nat.le_refl _)) _).setCell (Or.inl (Nat.le_refl _)) _
    · go_enter Tryz.func32, Tryz.ntmps32
      go_upto_region 2 with fail
      generalize (w.alloc (.cells #[.bool false, .bool false, .int .i64 0, .int .i64 0, .string ⟨#[]⟩] 72)).alloc (.cells #[.bool true, .bool false, .int .i64 0, .int .i64 kind, .string ⟨#[]⟩] 72) = W0 at *
      obtain ⟨t0, t1, t2, t3, t4⟩ := HT.out.cells
      obtain ⟨z0, z1, z2, z3, z4⟩ := HZ.out.cells
      have f0 := HZ.out.frozen 0
      have f1 := HZ.out.frozen 1
      have f2 := HZ.out.frozen 2
      have f3 := HZ.out.frozen 3
      have f4 := HZ.out.frozen 4
      unfold av0 at z0 z1 z2 z3 z4
      simp only at t0 t1 t2 t3 t4 z0 z1 z2 z3 z4
      go_wp2
      refine bodyPost_ret (v := avV ⟨true, false, 0, kind, ⟨#[]⟩⟩) (by simp [results, Tryz.results32, go_sem, z0, z1, z2, z3, z4, avV]) rfl ⟨rfl, ?_⟩
      exact ((((HK.out.setCell (Or.inl (Nat.le_refl _)) _).setCell (Or.inl (Nat.le_refl _)) _).setCell (Or.inl (Nat.le_refl _)) _).setCell (Or.inl (Nat.le_refl _)) _).setCell (Or.inl (Nat.le_refl _)) _
  · rw [if_neg hc]
    obtain ⟨k, rfl⟩ := Int.eq_ofNat_of_zero_le (show 0 ≤ n by omega)
    rw [Int.toNat_natCast]
    have h1 : ¬ (k : Int) < 1 := by omega
    have h8 : ¬ (8 : Int) < (k : Int) := by omega
    have hk1 : 1 ≤ k := by omega
    have hk8 : k ≤ 8 := by omega
    clear hc hn
    go_enter Tryz.func32, Tryz.ntmps32
    go_upto_region 2 with fail
    generalize (w.alloc (.cells #[.bool false, .bool false, .int .i64 0, .int .i64 0, .string ⟨#[]⟩] 72)).alloc (.cells #[.bool true, .bool false, .int .i64 0, .int .i64 kind, .string ⟨#[]⟩] 72) = W0 at *
    go_wp2_with (at_make; refine wpList_make_own _ rfl _ _ 127 rfl W0.heap.size 5 i0 (.int .u8 0) 1 Tryz.underlying127 hi hz0 hz1 .i64 .i64 _ k rfl rfl ?m1 ?m2 ?m3 ?m4 ?_)
    case m1 => first | exact Nat.le_refl _ | omega | (rw [hz2]; omega) | (unfold maxLen; omega)
    case m2 => first | exact Nat.le_refl _ | omega | (rw [hz2]; omega) | (unfold maxLen; omega)
    case m3 => first | exact Nat.le_refl _ | omega | (rw [hz2]; omega) | (unfold maxLen; omega)
    intro w1 hown1 hg1
    have hb1 : Kept (fun _ => False) W0 w1 := (Kept.refl _ W0).grown hg1 (fun j hj => by cases hj)
    clear hg1
    go_wp2
    go_loopw [8, 9] (fun v1 s wr => ∃ j : Nat, j ≤ k ∧ s = .int .i64 (8 * (k - 1 - j : Int)) ∧ wr.ownsRow W0.heap.size 5 1 v1 j (Lib.byteCells (lowI (v / 256 ^ (k - j)) j)) ∧ Kept (fun _ => False) W0 wr ∧ W0.heap.size ≤ wr.heap.size)
      (fun _ s _ => (intOf s + 8).toNat)
    case atStart => exact ⟨0, Nat.zero_le _, by simp, hown1, hb1, hb1.size⟩
    case round =>
      obtain ⟨j, hj, rfl, hownr, hbel, hbs⟩ := hrel
      clear hown1 hb1
      by_cases hlt : j < k
      · go_wp2_with (at_builtin; refine wpList_append_own _ rfl _ _ 127 rfl W0.heap.size 5 i0 (.int .u8 0) 1 1 Tryz.underlying127 hi hz0 hz1 hz2 rfl (by decide) _ _ _ rfl (hownr.alloc _) ⟨wr.heap.size, 0, none⟩ 1 1 [.int .u8 (v / 2 ^ (8 * (k - 1 - j)) % 256)] rfl rfl ?c1 ?c2 ?c3 ?c4 ?c5 ?_)
        case c1 => exact cell_one_new _ _ _
        case c2 => intro u hu; simp at hu; subst hu; rfl
        case c3 => unfold maxLen; omega
        case c4 => omega
        case c5 => simp; omega
        intro v' w1 hown' hgrow _
        have R := numL_step hlt hbs hbel (Nat.le_refl _) hownr hown' hgrow
        clear hown' hgrow hownr
        go_wp2
        go_roundw
        case rel => exact ⟨j + 1, by omega, by go_num, R.1, R.2.1, R.2.2⟩
        case measure => simp [intOf]; omega
      · obtain rfl : j = k := by omega
        rw [Nat.sub_self, Int.pow_zero, Int.ediv_one] at hownr
        have hcv := put_conv hownr
        obtain ⟨S, hS⟩ : ∃ S : ByteArray, S = ⟨(lowI v j).toArray⟩ := ⟨_, rfl⟩
        rw [← hS] at hcv
        have HS := hid hS
        have ha := HT.out.kept0 hbel
        have HT1 := hid (ha.setValue S)
        have f4 := ha.frozen 4
        obtain ⟨t0, t1, t2, t3, t4⟩ := ha.cells
        have hz' := HZ.out.kept0 hbel
        have HZ1 : Hid (AvAt (wr.setCell ⟨w.heap.size + 1, 4, none⟩ (.string S)) w.heap.size av0) := hz'.kept ((Kept.refl (fun i => i = w.heap.size + 1) wr).setCell (Or.inr rfl) _) (by omega)
        have HK1 := hid ((HK.out.trans hbel).setCell (p := ⟨w.heap.size + 1, 4, none⟩) (Or.inl (Nat.le_succ _)) (.string S))
        clear hownr hbel hS ha hz'
        go_upto_region 10 with fail
        generalize wr.setCell ⟨w.heap.size + 1, 4, none⟩ (.string S) = W2 at *
        clear t0 t1 t2 t3 t4 f4
        obtain ⟨t0, t1, t2, t3, t4⟩ := HT1.out.cells
        obtain ⟨z0, z1, z2, z3, z4⟩ := HZ1.out.cells
        have f0 := HZ1.out.frozen 0
        have f1 := HZ1.out.frozen 1
        have f2 := HZ1.out.frozen 2
        have f3 := HZ1.out.frozen 3
        have f4 := HZ1.out.frozen 4
        unfold av0 at z0 z1 z2 z3 z4
        simp only at t0 t1 t2 t3 t4 z0 z1 z2 z3 z4
        go_wp2
        refine bodyPost_ret (v := avV ⟨true, false, 0, kind, S⟩) (by simp [results, Tryz.results32, go_sem, z0, z1, z2, z3, z4, avV]) rfl ⟨by rw [HS.out], ?_⟩
        exact ((((HK1.out.setCell (Or.inl (Nat.le_refl _)) _).setCell (Or.inl (Nat.le_refl _)) _).setCell (Or.inl (Nat.le_refl _)) _).setCell (Or.inl (Nat.le_refl _)) _).setCell (Or.inl (Nat.le_refl _)) _
end Go.Proofs.YtkneogfeokckjaaGreatDoor
