/- The walk of the law PoolLeast: for every number and list of ints it returns true, where the library's table of powers holds what its text lays. -/
import Derived.Test.YtblcojggjplndaaDoorPpOne
import Derived.Test.YtblcojggjplndaaDoorPpMask
import Derived.Test.YtblcojggjplndaaDoorPpArgs
import Derived.Test.YtblcojggjplndaaDoorPlNeq
import Derived.OpenShut
namespace Go.Proofs.YtblcojggjplndaaDoor
open Go.RowKit

def xN : Ad := ⟨10, 0, 0, 0⟩
theorem xN_good (n : Int) : goodP xN n ↔ 1 ≤ n ∧ n ≤ 256 := by
  have : numAd xN = 167772160 := by decide
  unfold goodP
  omega

set_option maxHeartbeats 8000000 in
set_option maxRecDepth 100000 in
theorem poolLeast_walk (n : Int) (v : Value) (l : List Int) (w : World) (hn : -9223372036854775808 ≤ n ∧ n ≤ 9223372036854775807) (hv : IntsR w v l) (_ : l.length ≤ maxLen) (hl : ∀ x ∈ l, I64 x) (hT : PowTab w) :
    Calls Tryd.prog 7 #[.int .i64 n, v] w fun e w' => e = .returned (.bool true) ∧ Below w.heap.size w w' := by
  obtain ⟨p, cap, rfl⟩ := hv.slice
  have HV := hid hv
  have HA : Hid (∀ W, Kept (fun _ => False) w W → _) := hid (fun W hk => alive16_any W (hT.kept hk))
  have HAdd : Hid (∀ k W, Calls Tryd.prog 21 #[.agg #[.int .u8 10, .int .u8 0, .int .u8 0, .int .u8 0], .int .i64 k] W fun e w' => e = .returned (adV (addAd xN k)) ∧ Kept (fun _ => False) W w') := fun k W => add_any xN k W
  have K0 := hid ((Kept.refl (fun _ => False) w).alloc (.cells #[.int .u8 10, .int .u8 0, .int .u8 0, .int .u8 0] 23))
  have B0 := hid (four4_new w 23 (.int .u8 10) (.int .u8 0) (.int .u8 0) (.int .u8 0))
  have HX := hid hl
  clear hv hT hl
  by_cases hg : goodP xN n
  · obtain ⟨g1, g2⟩ := (xN_good n).1 hg
    obtain ⟨m, rfl⟩ : ∃ m : Nat, n = (m : Int) := ⟨n.toNat, by omega⟩
    have C1 : Hid (∀ W, Kept (fun _ => False) w W → Calls Tryd.prog 9 #[.agg #[.int .u8 10, .int .u8 0, .int .u8 0, .int .u8 0], .int .i64 (m : Int)] W fun e w' => ∃ b, e = .returned (.tuple #[.pointer (some ⟨b, 0, none⟩), .int .i64 0]) ∧ PMine w w' b xN (List.replicate m lt0) ∧ Kept (fun _ => False) W w') := fun W hk => new_mine2 hk xN m (by omega) (by omega) hg.2.2
    clear hg
    go_enter Tryd.func7, Tryd.ntmps7
    go_upto_region 2 with fail
    generalize w.alloc (.cells #[.int .u8 10, .int .u8 0, .int .u8 0, .int .u8 0] 23) = W at *
    obtain ⟨⟨c0, c1, c2, c3⟩, _⟩ := B0.out
    go_wp2_with fail
    refine (C1.out _ K0.out).mono ?_
    rintro e w1 ⟨b, rfl, m1, k1⟩
    have M1 := hid m1
    have B1 := hid (B0.out.kept k1 (fun h => h))
    clear m1 k1 c0 c1 c2 c3 B0 K0 C1
    by_cases h50 : 50 < l.length
    · have hz : (50 : Int) < (l.length : Int) := by omega
      go_wp2_with fail
      refine (HA.out _ M1.out.kept).mono ?_
      rintro e w2 ⟨rfl, k2⟩
      have M2 := hid (M1.out.still k2)
      clear k2
      go_wp2
      go_ret
      exact ⟨rfl, M2.out.kept.below (Nat.le_refl _) (fun _ h => h.elim)⟩
    · have hz : ¬ (50 : Int) < (l.length : Int) := by omega
      rw [maskL_none, maskL_congr (g' := fun i => decide (i < 0)) (fun i _ => by simp)] at M1
      go_wp2
      go_loopw [8] (fun vi wr => ∃ j : Nat, j ≤ m ∧ vi = .int .i64 (j : Int) ∧ Hid (PMine w wr b xN (maskL (fun i => decide (i < j)) m) ∧ Four4 wr w.heap.size (.int .u8 10) (.int .u8 0) (.int .u8 0) (.int .u8 0))) (fun vi _ => m - (intOf vi).toNat)
      case atStart => exact ⟨0, Nat.zero_le _, rfl, M1.out, B1.out⟩
      case round =>
        obtain ⟨j, hj, rfl, HJ⟩ := hrel
        by_cases hlt : j < m
        · have hltz : (j : Int) < (m : Int) := by omega
          have CT := hid (HJ.out.1.take (i64s 1 (by decide) (by decide)) (i64s (j : Int) (by omega) (by omega)) _ (take_up xN j hlt))
          have CA := hid (HAdd.out (j : Int))
          have HEq := hid (ad_self (addAd xN (j : Int)))
          generalize addAd xN (j : Int) = y at *
          unfold adV keyV at *
          simp only at CT
          go_wp2_with fail
          refine CT.out.mono ?_
          rintro e w2 ⟨rfl, m2, k2⟩
          have M2 := hid (m2.still ((Kept.refl (fun _ => False) w2).alloc (.cells #[.int .u8 (y.a.toNat : Int), .int .u8 (y.b.toNat : Int), .int .u8 (y.c.toNat : Int), .int .u8 (y.d.toNat : Int)] 23)))
          have B2 := hid ((HJ.out.2.ppk k2).kept ((Kept.refl (fun _ => False) w2).alloc (.cells #[.int .u8 (y.a.toNat : Int), .int .u8 (y.b.toNat : Int), .int .u8 (y.c.toNat : Int), .int .u8 (y.d.toNat : Int)] 23)) (fun h => h))
          have Y2 := hid (four4_new w2 23 (.int .u8 (y.a.toNat : Int)) (.int .u8 (y.b.toNat : Int)) (.int .u8 (y.c.toNat : Int)) (.int .u8 (y.d.toNat : Int)))
          clear m2 k2 HJ CT
          go_upto_region 11 with fail
          generalize w2.alloc (.cells #[.int .u8 (y.a.toNat : Int), .int .u8 (y.b.toNat : Int), .int .u8 (y.c.toNat : Int), .int .u8 (y.d.toNat : Int)] 23) = V at *
          generalize w2.heap.size = yb at *
          have y0 : ∀ U, Kept (fun _ => False) V U → U.cell? ⟨yb, 0, none⟩ = some (.int .u8 (y.a.toNat : Int)) := fun U hk => (Y2.out.kept hk (fun h => h)).1.1
          have y1 : ∀ U, Kept (fun _ => False) V U → U.cell? ⟨yb, 1, none⟩ = some (.int .u8 (y.b.toNat : Int)) := fun U hk => (Y2.out.kept hk (fun h => h)).1.2.1
          have y2 : ∀ U, Kept (fun _ => False) V U → U.cell? ⟨yb, 2, none⟩ = some (.int .u8 (y.c.toNat : Int)) := fun U hk => (Y2.out.kept hk (fun h => h)).1.2.2.1
          have y3 : ∀ U, Kept (fun _ => False) V U → U.cell? ⟨yb, 3, none⟩ = some (.int .u8 (y.d.toNat : Int)) := fun U hk => (Y2.out.kept hk (fun h => h)).1.2.2.2
          have x0 : ∀ U, Kept (fun _ => False) V U → U.cell? ⟨w.heap.size, 0, none⟩ = some (.int .u8 10) := fun U hk => (B2.out.kept hk (fun h => h)).1.1
          have x1 : ∀ U, Kept (fun _ => False) V U → U.cell? ⟨w.heap.size, 1, none⟩ = some (.int .u8 0) := fun U hk => (B2.out.kept hk (fun h => h)).1.2.1
          have x2 : ∀ U, Kept (fun _ => False) V U → U.cell? ⟨w.heap.size, 2, none⟩ = some (.int .u8 0) := fun U hk => (B2.out.kept hk (fun h => h)).1.2.2.1
          have x3 : ∀ U, Kept (fun _ => False) V U → U.cell? ⟨w.heap.size, 3, none⟩ = some (.int .u8 0) := fun U hk => (B2.out.kept hk (fun h => h)).1.2.2.2
          refine wp_region_held_drew (S := Kept (fun _ => False) V) (by kernel_rfl) ((Kept.refl _ V).drew) (fun hSd => ?_)
          refine wpAnyH_take (i := 0) (v := ?_) rfl (by kernel_rfl) (by kernel_rfl) (by kernel_rfl) (fun _ _ _ h => h) (Or.inl ⟨by kernel_rfl, fun W hSW => by go_simp; try with_reducible rfl⟩) (by assumption) ?_
          try simp only [List.getElem_toArray]
          try simp only [List.getElem_cons_succ]
          try simp only [List.getElem_cons_zero]
          try simp only [Act.put]
          try simp only [List.setIfInBounds_toArray]
          try simp only [List.set_cons_succ]
          try simp only [List.set_cons_zero]
          refine wpAnyH_take (i := 1) (v := ?_) rfl (by kernel_rfl) (by kernel_rfl) (by kernel_rfl) (fun _ _ _ h => h) (Or.inl ⟨by kernel_rfl, fun W hSW => by go_simp; try with_reducible rfl⟩) (by assumption) ?_
          try simp only [List.getElem_toArray]
          try simp only [List.getElem_cons_succ]
          try simp only [List.getElem_cons_zero]
          try simp only [Act.put]
          try simp only [List.setIfInBounds_toArray]
          try simp only [List.set_cons_succ]
          try simp only [List.set_cons_zero]
          refine wpAnyH_take (i := 2) (v := ?_) rfl (by kernel_rfl) (by kernel_rfl) (by kernel_rfl) (fun _ _ _ h => h) (Or.inl ⟨by kernel_rfl, fun W hSW => by go_simp; try with_reducible rfl⟩) (by assumption) ?_
          try simp only [List.getElem_toArray]
          try simp only [List.getElem_cons_succ]
          try simp only [List.getElem_cons_zero]
          try simp only [Act.put]
          try simp only [List.setIfInBounds_toArray]
          try simp only [List.set_cons_succ]
          try simp only [List.set_cons_zero]
          refine wpAnyH_take (i := 3) (v := ?_) rfl (by kernel_rfl) (by kernel_rfl) (by kernel_rfl) (fun _ _ _ h => h) (Or.inl ⟨by kernel_rfl, fun W hSW => by go_simp; try with_reducible rfl⟩) (by assumption) ?_
          try simp only [List.getElem_toArray]
          try simp only [List.getElem_cons_succ]
          try simp only [List.getElem_cons_zero]
          try simp only [Act.put]
          try simp only [List.setIfInBounds_toArray]
          try simp only [List.set_cons_succ]
          try simp only [List.set_cons_zero]
          refine wpAnyH_take (i := 4) (v := ?_) rfl (by kernel_rfl) (by kernel_rfl) (by kernel_rfl) (fun _ _ _ h => h) (Or.inl ⟨by kernel_rfl, fun W hSW => by go_simp; try with_reducible rfl⟩) (by assumption) ?_
          try simp only [List.getElem_toArray]
          try simp only [List.getElem_cons_succ]
          try simp only [List.getElem_cons_zero]
          try simp only [Act.put]
          try simp only [List.setIfInBounds_toArray]
          try simp only [List.set_cons_succ]
          try simp only [List.set_cons_zero]
          refine wpAnyH_take (i := 5) (v := ?_) rfl (by kernel_rfl) (by kernel_rfl) (by kernel_rfl) (fun _ _ _ h => h) (Or.inl ⟨by kernel_rfl, fun W hSW => by go_simp; try with_reducible rfl⟩) (by assumption) ?_
          try simp only [List.getElem_toArray]
          try simp only [List.getElem_cons_succ]
          try simp only [List.getElem_cons_zero]
          try simp only [Act.put]
          try simp only [List.setIfInBounds_toArray]
          try simp only [List.set_cons_succ]
          try simp only [List.set_cons_zero]
          refine wpAnyH_ready (rs := [6]) (by kernel_rfl) (by simp) ?_
          refine AllReadyH.cons rfl (fun K hK => ?_) AllReadyH.nil
          go_simp
          refine (CA.out _).mono ?_
          rintro e w5 ⟨rfl, hk5⟩
          have hS5 : Kept (fun _ => False) V w5 := (Kept.refl (fun _ => False) V).drew.trans hk5
          clear hk5
          refine hK.out _ _ (hS5) (fun _ => ?_)
          clear hK K
          try simp only [List.getElem_toArray]
          try simp only [List.getElem_cons_succ]
          try simp only [List.getElem_cons_zero]
          try simp only [Act.put]
          try simp only [List.setIfInBounds_toArray]
          try simp only [List.set_cons_succ]
          try simp only [List.set_cons_zero]
          refine wpAnyH_take (i := 7) (v := .bool false) rfl (by kernel_rfl) (by kernel_rfl) (by kernel_rfl) (fun _ _ _ h => h) (Or.inl ⟨by kernel_rfl, fun W hSW => execOp_neq Tryd.eqGuardType23 rfl rfl rfl (HEq.out W)⟩) (by assumption) ?_
          try simp only [List.getElem_toArray]
          try simp only [List.getElem_cons_succ]
          try simp only [List.getElem_cons_zero]
          try simp only [Act.put]
          try simp only [List.setIfInBounds_toArray]
          try simp only [List.set_cons_succ]
          try simp only [List.set_cons_zero]
          refine wpAnyH_take (i := 8) (v := ?_) rfl (by kernel_rfl) (by kernel_rfl) (by kernel_rfl) (fun _ _ _ h => h) (Or.inl ⟨by kernel_rfl, fun W hSW => by go_simp; try with_reducible rfl⟩) (by assumption) ?_
          try simp only [List.getElem_toArray]
          try simp only [List.getElem_cons_succ]
          try simp only [List.getElem_cons_zero]
          try simp only [Act.put]
          try simp only [List.setIfInBounds_toArray]
          try simp only [List.set_cons_succ]
          try simp only [List.set_cons_zero]
          refine wpAnyH_done (by kernel_rfl) ?_ _
          have M5 := hid (M2.out.still hS5)
          have B5 := hid (B2.out.kept hS5 (fun h => h))
          clear x0 x1 x2 x3 y0 y1 y2 y3 CA HEq M2 B2 Y2
          go_wp2
          exact ⟨⟨j + 1, hlt, by go_num, M5.out, B5.out⟩, by simp [intOf]; omega⟩
        · obtain rfl : j = m := by omega
          have hltz : ¬ (j : Int) < (j : Int) := by omega
          go_wp2
          go_loopw [11, 12] (fun vq vi wr => ∃ (i q : Nat) (g : Nat → Bool), i ≤ l.length ∧ vi = .int .i64 (i : Int) ∧ vq = .int .i64 (q : Int) ∧ Hid (LeastB g j q ∧ PMine w wr b xN (maskL g j) ∧ Four4 wr w.heap.size (.int .u8 10) (.int .u8 0) (.int .u8 0) (.int .u8 0))) (fun _ vi _ => l.length - (intOf vi).toNat)
          case atStart => exact ⟨0, j, _, Nat.zero_le _, rfl, rfl, LeastB.up j (Nat.le_refl _), HJ.out.1, HJ.out.2⟩
          case round =>
            obtain ⟨i, q, g, hi, rfl, rfl, HI⟩ := hrel
            by_cases hil : i < l.length
            · have hilz : (i : Int) < (l.length : Int) := by omega
              obtain ⟨x, hx⟩ : ∃ x, l[i]? = some x := ⟨l[i], by simp [hil]⟩
              obtain ⟨ga, go, rfl, hcap, hc⟩ := (HV.out.kept0 HI.out.2.1.kept).at hx
              have hcx := hc 0 _ rfl
              rw [Nat.add_zero, Nat.mul_one] at hcx
              clear hc
              have hb64 : I64 (bits .and .i64 x 255) := bounds_i64 (wf_bits .and .i64 x 255)
              have hqj := HI.out.1.1
              obtain ⟨K, hK⟩ : ∃ K, bits .and .i64 x 255 = K := ⟨_, rfl⟩
              rw [hK] at hb64
              cases hf : findL (maskL g j) 1 K with
              | none =>
                have CG := hid (HI.out.2.1.give (i64s 1 (by decide) (by decide)) hb64 (3, maskL g j) (by unfold giveL; rw [hf]))
                unfold keyV at CG
                simp only at CG
                clear hf hb64
                go_wp2_with fail
                refine CG.out.mono ?_
                rintro e w2 ⟨rfl, m2, k2⟩
                have M2 := hid m2
                have B2 := hid (HI.out.2.2.ppk k2)
                have L2 := hid HI.out.1
                clear m2 k2 CG hcx HI
                go_wp2
                exact ⟨⟨i + 1, q, g, hil, by go_num, rfl, L2.out, M2.out, B2.out⟩, by simp [intOf]; omega⟩
              | some k =>
                obtain ⟨hkj, hgk, _, hKk⟩ := mask_find hf
                have CG := hid (HI.out.2.1.give (i64s 1 (by decide) (by decide)) hb64 (0, maskL (updB g k false) j) (by unfold giveL; rw [hf]; simp only; rw [maskL_off]))
                have L2 := hid (HI.out.1.off hkj)
                unfold keyV at CG
                simp only at CG
                subst hKk
                have hkz : ¬ (j : Int) ≤ (k : Int) := by omega
                clear hf hb64
                go_wp2_with fail
                refine CG.out.mono ?_
                rintro e w2 ⟨rfl, m2, k2⟩
                have M2 := hid m2
                have B2 := hid (HI.out.2.2.ppk k2)
                clear m2 k2 CG hcx HI
                go_wp2
                refine ⟨⟨i + 1, min q k, updB g k false, hil, by go_num, ?_, L2.out, M2.out, B2.out⟩, by simp [intOf]; omega⟩
                exact congrArg (Value.int IntKind.i64) (by omega)
            · obtain rfl : i = l.length := by omega
              have hilz : ¬ (l.length : Int) < (l.length : Int) := by omega
              have hqj := HI.out.1.1
              have ht2 := take_two xN HI.out.1
              by_cases hq : q < j
              · rw [if_pos hq] at ht2
                have hqz : ((q : Int) == (j : Int)) = false := by rw [beq_eq_false_iff_ne]; omega
                have CT := hid (HI.out.2.1.take (i64s 2 (by decide) (by decide)) (i64s 1 (by decide) (by decide)) _ ht2)
                have CA := hid (HAdd.out (q : Int))
                have HEq := hid (ad_self (addAd xN (q : Int)))
                generalize addAd xN (q : Int) = y at *
                unfold adV keyV at *
                simp only at CT
                clear ht2
                go_wp2_with fail
                refine CT.out.mono ?_
                rintro e w2 ⟨rfl, m2, k2⟩
                have M2 := hid (m2.still ((Kept.refl (fun _ => False) w2).alloc (.cells #[.int .u8 (y.a.toNat : Int), .int .u8 (y.b.toNat : Int), .int .u8 (y.c.toNat : Int), .int .u8 (y.d.toNat : Int)] 23)))
                have B2 := hid ((HI.out.2.2.ppk k2).kept ((Kept.refl (fun _ => False) w2).alloc (.cells #[.int .u8 (y.a.toNat : Int), .int .u8 (y.b.toNat : Int), .int .u8 (y.c.toNat : Int), .int .u8 (y.d.toNat : Int)] 23)) (fun h => h))
                have Y2 := hid (four4_new w2 23 (.int .u8 (y.a.toNat : Int)) (.int .u8 (y.b.toNat : Int)) (.int .u8 (y.c.toNat : Int)) (.int .u8 (y.d.toNat : Int)))
                clear m2 k2 HI CT
                go_upto_region 25 with fail
                generalize w2.alloc (.cells #[.int .u8 (y.a.toNat : Int), .int .u8 (y.b.toNat : Int), .int .u8 (y.c.toNat : Int), .int .u8 (y.d.toNat : Int)] 23) = V at *
                generalize w2.heap.size = yb at *
                have y0 : ∀ U, Kept (fun _ => False) V U → U.cell? ⟨yb, 0, none⟩ = some (.int .u8 (y.a.toNat : Int)) := fun U hk => (Y2.out.kept hk (fun h => h)).1.1
                have y1 : ∀ U, Kept (fun _ => False) V U → U.cell? ⟨yb, 1, none⟩ = some (.int .u8 (y.b.toNat : Int)) := fun U hk => (Y2.out.kept hk (fun h => h)).1.2.1
                have y2 : ∀ U, Kept (fun _ => False) V U → U.cell? ⟨yb, 2, none⟩ = some (.int .u8 (y.c.toNat : Int)) := fun U hk => (Y2.out.kept hk (fun h => h)).1.2.2.1
                have y3 : ∀ U, Kept (fun _ => False) V U → U.cell? ⟨yb, 3, none⟩ = some (.int .u8 (y.d.toNat : Int)) := fun U hk => (Y2.out.kept hk (fun h => h)).1.2.2.2
                have x0 : ∀ U, Kept (fun _ => False) V U → U.cell? ⟨w.heap.size, 0, none⟩ = some (.int .u8 10) := fun U hk => (B2.out.kept hk (fun h => h)).1.1
                have x1 : ∀ U, Kept (fun _ => False) V U → U.cell? ⟨w.heap.size, 1, none⟩ = some (.int .u8 0) := fun U hk => (B2.out.kept hk (fun h => h)).1.2.1
                have x2 : ∀ U, Kept (fun _ => False) V U → U.cell? ⟨w.heap.size, 2, none⟩ = some (.int .u8 0) := fun U hk => (B2.out.kept hk (fun h => h)).1.2.2.1
                have x3 : ∀ U, Kept (fun _ => False) V U → U.cell? ⟨w.heap.size, 3, none⟩ = some (.int .u8 0) := fun U hk => (B2.out.kept hk (fun h => h)).1.2.2.2
                refine wp_region_held_drew (S := Kept (fun _ => False) V) (by kernel_rfl) ((Kept.refl _ V).drew) (fun hSd => ?_)
                refine wpAnyH_ready (rs := [0]) (by kernel_rfl) (by simp) ?_
                refine AllReadyH.cons rfl (fun K hK => ?_) AllReadyH.nil
                go_simp
                refine (HA.out _ (M2.out.kept.trans ((Kept.refl (fun _ => False) V).drew))).mono ?_
                rintro e w4 ⟨rfl, hk4⟩
                have hS4 : Kept (fun _ => False) V w4 := (Kept.refl (fun _ => False) V).drew.trans hk4
                clear hk4
                refine hK.out _ _ (hS4) (fun _ => ?_)
                clear hK K
                try simp only [List.getElem_toArray]
                try simp only [List.getElem_cons_succ]
                try simp only [List.getElem_cons_zero]
                try simp only [Act.put]
                try simp only [List.setIfInBounds_toArray]
                try simp only [List.set_cons_succ]
                try simp only [List.set_cons_zero]
                refine wpAnyH_take (i := 1) (v := ?_) rfl (by kernel_rfl) (by kernel_rfl) (by kernel_rfl) (fun _ _ _ h => h) (Or.inl ⟨by kernel_rfl, fun W hSW => by go_simp; try with_reducible rfl⟩) (by assumption) ?_
                try simp only [List.getElem_toArray]
                try simp only [List.getElem_cons_succ]
                try simp only [List.getElem_cons_zero]
                try simp only [Act.put]
                try simp only [List.setIfInBounds_toArray]
                try simp only [List.set_cons_succ]
                try simp only [List.set_cons_zero]
                refine wpAnyH_take (i := 2) (v := ?_) rfl (by kernel_rfl) (by kernel_rfl) (by kernel_rfl) (fun _ _ _ h => h) (Or.inl ⟨by kernel_rfl, fun W hSW => by go_simp; try with_reducible rfl⟩) (by assumption) ?_
                try simp only [List.getElem_toArray]
                try simp only [List.getElem_cons_succ]
                try simp only [List.getElem_cons_zero]
                try simp only [Act.put]
                try simp only [List.setIfInBounds_toArray]
                try simp only [List.set_cons_succ]
                try simp only [List.set_cons_zero]
                refine wpAnyH_take (i := 3) (v := ?_) rfl (by kernel_rfl) (by kernel_rfl) (by kernel_rfl) (fun _ _ _ h => h) (Or.inl ⟨by kernel_rfl, fun W hSW => by go_simp; try with_reducible rfl⟩) (by assumption) ?_
                try simp only [List.getElem_toArray]
                try simp only [List.getElem_cons_succ]
                try simp only [List.getElem_cons_zero]
                try simp only [Act.put]
                try simp only [List.setIfInBounds_toArray]
                try simp only [List.set_cons_succ]
                try simp only [List.set_cons_zero]
                refine wpAnyH_take (i := 4) (v := ?_) rfl (by kernel_rfl) (by kernel_rfl) (by kernel_rfl) (fun _ _ _ h => h) (Or.inl ⟨by kernel_rfl, fun W hSW => by go_simp; try with_reducible rfl⟩) (by assumption) ?_
                try simp only [List.getElem_toArray]
                try simp only [List.getElem_cons_succ]
                try simp only [List.getElem_cons_zero]
                try simp only [Act.put]
                try simp only [List.setIfInBounds_toArray]
                try simp only [List.set_cons_succ]
                try simp only [List.set_cons_zero]
                refine wpAnyH_take (i := 5) (v := ?_) rfl (by kernel_rfl) (by kernel_rfl) (by kernel_rfl) (fun _ _ _ h => h) (Or.inl ⟨by kernel_rfl, fun W hSW => by go_simp; try with_reducible rfl⟩) (by assumption) ?_
                try simp only [List.getElem_toArray]
                try simp only [List.getElem_cons_succ]
                try simp only [List.getElem_cons_zero]
                try simp only [Act.put]
                try simp only [List.setIfInBounds_toArray]
                try simp only [List.set_cons_succ]
                try simp only [List.set_cons_zero]
                refine wpAnyH_take (i := 6) (v := ?_) rfl (by kernel_rfl) (by kernel_rfl) (by kernel_rfl) (fun _ _ _ h => h) (Or.inl ⟨by kernel_rfl, fun W hSW => by go_simp; try with_reducible rfl⟩) (by assumption) ?_
                try simp only [List.getElem_toArray]
                try simp only [List.getElem_cons_succ]
                try simp only [List.getElem_cons_zero]
                try simp only [Act.put]
                try simp only [List.setIfInBounds_toArray]
                try simp only [List.set_cons_succ]
                try simp only [List.set_cons_zero]
                refine wpAnyH_take (i := 7) (v := ?_) rfl (by kernel_rfl) (by kernel_rfl) (by kernel_rfl) (fun _ _ _ h => h) (Or.inl ⟨by kernel_rfl, fun W hSW => by go_simp; try with_reducible rfl⟩) (by assumption) ?_
                try simp only [List.getElem_toArray]
                try simp only [List.getElem_cons_succ]
                try simp only [List.getElem_cons_zero]
                try simp only [Act.put]
                try simp only [List.setIfInBounds_toArray]
                try simp only [List.set_cons_succ]
                try simp only [List.set_cons_zero]
                refine wpAnyH_take (i := 8) (v := ?_) rfl (by kernel_rfl) (by kernel_rfl) (by kernel_rfl) (fun _ _ _ h => h) (Or.inl ⟨by kernel_rfl, fun W hSW => by go_simp; try with_reducible rfl⟩) (by assumption) ?_
                try simp only [List.getElem_toArray]
                try simp only [List.getElem_cons_succ]
                try simp only [List.getElem_cons_zero]
                try simp only [Act.put]
                try simp only [List.setIfInBounds_toArray]
                try simp only [List.set_cons_succ]
                try simp only [List.set_cons_zero]
                refine wpAnyH_ready (rs := [9]) (by kernel_rfl) (by simp) ?_
                refine AllReadyH.cons rfl (fun K hK => ?_) AllReadyH.nil
                go_simp
                refine (CA.out _).mono ?_
                rintro e w5 ⟨rfl, hk5⟩
                have hS5 : Kept (fun _ => False) V w5 := hS4.trans hk5
                clear hk5
                refine hK.out _ _ (hS5) (fun _ => ?_)
                clear hK K
                try simp only [List.getElem_toArray]
                try simp only [List.getElem_cons_succ]
                try simp only [List.getElem_cons_zero]
                try simp only [Act.put]
                try simp only [List.setIfInBounds_toArray]
                try simp only [List.set_cons_succ]
                try simp only [List.set_cons_zero]
                refine wpAnyH_take (i := 10) (v := .bool true) rfl (by kernel_rfl) (by kernel_rfl) (by kernel_rfl) (fun _ _ _ h => h) (Or.inl ⟨by kernel_rfl, fun W hSW => execOp_eql Tryd.eqGuardType23 rfl rfl rfl (HEq.out W)⟩) (by assumption) ?_
                try simp only [List.getElem_toArray]
                try simp only [List.getElem_cons_succ]
                try simp only [List.getElem_cons_zero]
                try simp only [Act.put]
                try simp only [List.setIfInBounds_toArray]
                try simp only [List.set_cons_succ]
                try simp only [List.set_cons_zero]
                refine wpAnyH_take (i := 11) (v := ?_) rfl (by kernel_rfl) (by kernel_rfl) (by kernel_rfl) (fun _ _ _ h => h) (Or.inl ⟨by kernel_rfl, fun W hSW => by go_simp; try with_reducible rfl⟩) (by assumption) ?_
                try simp only [List.getElem_toArray]
                try simp only [List.getElem_cons_succ]
                try simp only [List.getElem_cons_zero]
                try simp only [Act.put]
                try simp only [List.setIfInBounds_toArray]
                try simp only [List.set_cons_succ]
                try simp only [List.set_cons_zero]
                refine wpAnyH_take (i := 12) (v := ?_) rfl (by kernel_rfl) (by kernel_rfl) (by kernel_rfl) (fun _ _ _ h => h) (Or.inl ⟨by kernel_rfl, fun W hSW => by go_simp; try with_reducible rfl⟩) (by assumption) ?_
                try simp only [List.getElem_toArray]
                try simp only [List.getElem_cons_succ]
                try simp only [List.getElem_cons_zero]
                try simp only [Act.put]
                try simp only [List.setIfInBounds_toArray]
                try simp only [List.set_cons_succ]
                try simp only [List.set_cons_zero]
                refine wpAnyH_done (by kernel_rfl) ?_ _
                have M5 := hid (M2.out.still hS5)
                clear x0 x1 x2 x3 y0 y1 y2 y3 CA HEq M2 B2 Y2
                go_wp2
                go_ret
                exact ⟨rfl, M5.out.kept.below (Nat.le_refl _) (fun _ h => h.elim)⟩
              · obtain rfl : q = j := by omega
                rw [if_neg hq] at ht2
                have hqz : ((q : Int) == (q : Int)) = true := by simp
                have CT := hid (HI.out.2.1.take (i64s 2 (by decide) (by decide)) (i64s 1 (by decide) (by decide)) _ ht2)
                unfold adV keyV ad0 at CT
                simp only at CT
                clear ht2
                go_wp2_with fail
                refine CT.out.mono ?_
                rintro e w2 ⟨rfl, m2, k2⟩
                have M2 := hid (m2.still ((Kept.refl (fun _ => False) w2).alloc (.cells #[.int .u8 0, .int .u8 0, .int .u8 0, .int .u8 0] 23)))
                clear m2 k2 HI CT
                go_upto_region 24 with fail
                generalize w2.alloc (.cells #[.int .u8 0, .int .u8 0, .int .u8 0, .int .u8 0] 23) = V at *
                go_wp2_with fail
                refine (HA.out _ M2.out.kept).mono ?_
                rintro e w4 ⟨rfl, hk4⟩
                have M4 := hid (M2.out.still hk4)
                clear hk4
                go_wp2
                go_ret
                exact ⟨rfl, M4.out.kept.below (Nat.le_refl _) (fun _ h => h.elim)⟩
  · have C1 : Hid (∀ W, Calls Tryd.prog 9 #[.agg #[.int .u8 10, .int .u8 0, .int .u8 0, .int .u8 0], .int .i64 n] W fun e w' => e = .returned (.tuple #[.pointer none, .int .i64 1]) ∧ Kept (fun _ => False) W w') := fun W => new_bad xN n hn hg W
    clear hg
    go_enter Tryd.func7, Tryd.ntmps7
    go_upto_region 2 with fail
    generalize w.alloc (.cells #[.int .u8 10, .int .u8 0, .int .u8 0, .int .u8 0] 23) = W at *
    obtain ⟨⟨c0, c1, c2, c3⟩, _⟩ := B0.out
    go_wp2_with fail
    refine (C1.out _).mono ?_
    rintro e w1 ⟨rfl, k1⟩
    have K1 := hid (K0.out.trans k1)
    clear k1 c0 c1 c2 c3 B0 K0 C1
    go_wp2_with fail
    refine (HA.out _ K1.out).mono ?_
    rintro e w2 ⟨rfl, k2⟩
    have K2 := hid (K1.out.trans k2)
    clear k2
    go_wp2
    go_ret
    exact ⟨rfl, K2.out.below (Nat.le_refl _) (fun _ h => h.elim)⟩
end Go.Proofs.YtblcojggjplndaaDoor
