/- The document's own pool (tollgateref13): Has, Give. -/
import Derived.Test.YtblcojggjplndaaDoorPlMem
namespace Go.Proofs.YtblcojggjplndaaDoor
open Go.RowKit

theorem hit_is {t s : Int} {y : Lt} (h : y.is = false) : hitL t s y = false := by simp [hitL, h]
theorem hit_eq {t s : Int} {y : Lt} (h : y.is = true) : hitL t s y = (y.t == t && y.s == s) := by simp [hitL, h]

section
variable {w : World} {base b : Nat} {v : Value} {x : Ad} {l : List Lt}

set_option maxHeartbeats 4000000 in
set_option maxRecDepth 100000 in
theorem rGive_any (h : PoIn w base b v x l) (hl : FewL l) (t s : Int) (ht : I64 t) (hs : I64 s) :
    Calls Tryd.prog 14 #[.pointer (some ⟨b, 0, none⟩), .agg #[.int .i64 t, .int .i64 s]] w fun e w' => e = .returned (.int .i64 (giveL l t s).1) ∧ PoAt w' base b x (giveL l t s).2 ∧ PoK base w w' := by
  obtain ⟨p, cap, rfl⟩ := slice_of h.own
  obtain ⟨R, hR⟩ : ∃ R, R = giveL l t s := ⟨_, rfl⟩
  have HR := hid hR
  rw [← hR]
  have hk0 := (Kept.refl (fun _ => False) w).alloc (.cells #[.int .i64 t, .int .i64 s] 37)
  have H2 := hid (two2_new w 37 (.int .i64 t) (.int .i64 s))
  have HI := hid (h.kept0 hk0)
  have H0 := hid h
  have K0 := hid hk0
  have HL := hid hl
  have hlen := hl.1
  clear h hk0 hR hl
  go_enter Tryd.func14, Tryd.ntmps14
  go_upto_region 1 with fail
  generalize w.alloc (.cells #[.int .i64 t, .int .i64 s] 37) = W at *
  go_wp2
  go_loopw [5] (fun vi wr => ∃ j : Nat, j ≤ l.length ∧ vi = .int .i64 (j : Int) ∧ Hid (Kept (fun _ => False) W wr ∧ findL (l.take j) t s = none)) (fun vi _ => l.length - (intOf vi).toNat)
  case atStart => exact ⟨0, Nat.zero_le _, rfl, Kept.refl _ _, by simp [findL]⟩
  case round =>
    obtain ⟨j, hj, rfl, HJ⟩ := hrel
    have HI' := hid (HI.out.kept0 HJ.out.1)
    have c4 := HI'.out.c4
    by_cases hlt : j < l.length
    · have hltz : (j : Int) < (l.length : Int) := by omega
      obtain ⟨y, hy⟩ : ∃ y, l[j]? = some y := ⟨l[j], by simp [hlt]⟩
      obtain ⟨hy1, hy2⟩ := HL.out.2 y (List.mem_of_getElem? hy)
      obtain ⟨g, rfl, _, _, hcap, hcm, hcs, hfz⟩ := HI'.out.own.at encL hy
      have n0 := hcs 0 _ rfl
      have n1 := hcs 1 _ rfl
      have n2 := hcs 2 _ rfl
      rw [Nat.add_zero] at n0
      obtain ⟨k0, k1⟩ := H2.out.kept HJ.out.1 (fun h => h)
      have heq := pkey_eq hy1 hy2 ht hs
      have HY := hid hy
      have f0 := hfz (j * 3)
      have f1 := hfz (j * 3 + 1)
      have f2 := hfz (j * 3 + 2)
      have hq1 := hid (@hit_is t s y)
      have hq2 := hid (@hit_eq t s y)
      clear hcs hy hfz
      obtain ⟨q, yt, ys⟩ := y
      simp only at n0 n1 n2 heq hy1 hy2 hq1 hq2
      cases q with
      | false =>
        have HN := hid (idx_go HJ.out.2 HY.out (hq1.out rfl))
        go_upto_region 4 with fail
        go_quiet (fail)
        go_wp2
        exact ⟨⟨j + 1, hlt, by go_num, HJ.out.1.drewN _, HN.out⟩, by simp [intOf]; omega⟩
      | true =>
        generalize hB : (yt == t && ys == s) = B at heq hq2
        clear hB
        cases B with
        | false =>
          have HN := hid (idx_go HJ.out.2 HY.out (hq2.out rfl))
          go_upto_region 4 with fail
          go_quiet (fail)
          go_wp2
          exact ⟨⟨j + 1, hlt, by go_num, HJ.out.1.drewN _, HN.out⟩, by simp [intOf]; omega⟩
        | true =>
          have HN := hid (idx_at HJ.out.2 HY.out (hq2.out rfl))
          have hR : Hid (R = (0, l.set j lt0)) := by
            have : findL l t s = some j := HN.out
            rw [HR.out]
            unfold giveL
            rw [this]
            exact rfl
          go_upto_region 4 with fail
          go_quiet (fail)
          go_wp2
          go_ret
          rw [hR.out]
          exact ⟨rfl, ⟨_, (HI'.out.drewN _).setAll HY.out false 0 0⟩, PoIn.keptAll H0.out (PoK.of ((K0.out.trans HJ.out.1).drewN _)) _ _ _ _ _ _⟩
    · obtain rfl : j = l.length := by omega
      have hltz : ¬ (l.length : Int) < (l.length : Int) := by omega
      have hR : Hid (R = (3, l)) := by
        have := HJ.out.2
        rw [List.take_length] at this
        rw [HR.out]
        unfold giveL
        rw [this]
        exact rfl
      go_wp2
      go_ret
      rw [hR.out]
      exact ⟨rfl, ⟨_, HI'.out⟩, PoK.of (K0.out.trans HJ.out.1)⟩

set_option maxHeartbeats 4000000 in
set_option maxRecDepth 100000 in
theorem rHas_any (h : PoIn w base b v x l) (hl : FewL l) (t s : Int) (ht : I64 t) (hs : I64 s) :
    Calls Tryd.prog 16 #[.pointer (some ⟨b, 0, none⟩), .agg #[.int .i64 t, .int .i64 s]] w fun e w' => e = .returned (.tuple #[adV (hasL x l t s).1, .bool (hasL x l t s).2]) ∧ Kept (fun _ => False) w w' := by
  obtain ⟨p, cap, rfl⟩ := slice_of h.own
  obtain ⟨R, hR⟩ : ∃ R, R = hasL x l t s := ⟨_, rfl⟩
  have HR := hid hR
  rw [← hR]
  have HAdd : Hid (∀ n W, Calls Tryd.prog 22 #[adV x, .int .i64 n] W fun e w' => e = .returned (adV (addAd x n)) ∧ Kept (fun _ => False) W w') := rAdd_any x
  have hk0 := (Kept.refl (fun _ => False) w).alloc (.cells #[.int .i64 t, .int .i64 s] 37)
  have hk1 := (Kept.refl (fun _ => False) (w.alloc (.cells #[.int .i64 t, .int .i64 s] 37))).alloc (.cells #[.int .u8 0, .int .u8 0, .int .u8 0, .int .u8 0] 23)
  have H2 := hid ((two2_new w 37 (.int .i64 t) (.int .i64 s)).kept hk1 (fun h => h))
  have H4 := hid (four4_new (w.alloc (.cells #[.int .i64 t, .int .i64 s] 37)) 23 (.int .u8 0) (.int .u8 0) (.int .u8 0) (.int .u8 0))
  have hsz : (w.alloc (.cells #[.int .i64 t, .int .i64 s] 37)).heap.size = w.heap.size + 1 := by simp
  rw [hsz] at H4
  have K0 := hid (hk0.trans hk1)
  have HI := hid (h.kept0 K0.out)
  have HL := hid hl
  have hlen := hl.1
  unfold adV at HAdd
  clear h hk0 hk1 hR hl hsz
  go_enter Tryd.func16, Tryd.ntmps16
  go_upto_region 1 with fail
  generalize (w.alloc (.cells #[.int .i64 t, .int .i64 s] 37)).alloc (.cells #[.int .u8 0, .int .u8 0, .int .u8 0, .int .u8 0] 23) = W at *
  go_wp2
  go_loopw [6] (fun vi wr => ∃ j : Nat, j ≤ l.length ∧ vi = .int .i64 (j : Int) ∧ Hid (Kept (fun _ => False) W wr ∧ findL (l.take j) t s = none)) (fun vi _ => l.length - (intOf vi).toNat)
  case atStart => exact ⟨0, Nat.zero_le _, rfl, Kept.refl _ _, by simp [findL]⟩
  case round =>
    obtain ⟨j, hj, rfl, HJ⟩ := hrel
    have HI' := hid (HI.out.kept0 HJ.out.1)
    have c4 := HI'.out.c4
    by_cases hlt : j < l.length
    · have hltz : (j : Int) < (l.length : Int) := by omega
      obtain ⟨y, hy⟩ : ∃ y, l[j]? = some y := ⟨l[j], by simp [hlt]⟩
      obtain ⟨hy1, hy2⟩ := HL.out.2 y (List.mem_of_getElem? hy)
      obtain ⟨g, rfl, _, _, hcap, hcm, hcs, hfz⟩ := HI'.out.own.at encL hy
      have n0 := hcs 0 _ rfl
      have n1 := hcs 1 _ rfl
      have n2 := hcs 2 _ rfl
      rw [Nat.add_zero] at n0
      obtain ⟨k0, k1⟩ := H2.out.kept HJ.out.1 (fun h => h)
      have heq := pkey_eq hy1 hy2 ht hs
      have HY := hid hy
      have hq1 := hid (@hit_is t s y)
      have hq2 := hid (@hit_eq t s y)
      clear hcs hy hfz
      obtain ⟨q, yt, ys⟩ := y
      simp only at n0 n1 n2 heq hy1 hy2 hq1 hq2
      cases q with
      | false =>
        have HN := hid (idx_go HJ.out.2 HY.out (hq1.out rfl))
        go_upto_region 4 with fail
        go_quiet (fail)
        go_wp2
        exact ⟨⟨j + 1, hlt, by go_num, HJ.out.1.drewN _, HN.out⟩, by simp [intOf]; omega⟩
      | true =>
        generalize hB : (yt == t && ys == s) = B at heq hq2
        clear hB
        cases B with
        | false =>
          have HN := hid (idx_go HJ.out.2 HY.out (hq2.out rfl))
          go_upto_region 4 with fail
          go_quiet (fail)
          go_wp2
          exact ⟨⟨j + 1, hlt, by go_num, HJ.out.1.drewN _, HN.out⟩, by simp [intOf]; omega⟩
        | true =>
          have HN := hid (idx_at HJ.out.2 HY.out (hq2.out rfl))
          have hR : Hid (R = (addAd x (j : Int), true)) := by
            have : findL l t s = some j := HN.out
            rw [HR.out]
            unfold hasL
            rw [this]
            exact rfl
          have HA := hid (HAdd.out (j : Int))
          generalize addAd x (j : Int) = z at *
          have hc := HI'.out
          have d0 := hc.c0
          have d1 := hc.c1
          have d2 := hc.c2
          have d3 := hc.c3
          generalize (x.a.toNat : Int) = xa at *
          generalize (x.b.toNat : Int) = xb at *
          generalize (x.c.toNat : Int) = xc at *
          generalize (x.d.toNat : Int) = xd at *
          clear hc
          go_upto_region 4 with fail
          go_quiet (fail)
          go_wp2_with fail
          refine (HA.out _).mono ?_
          rintro e w3 ⟨rfl, hk3⟩
          have HK3 := hid ((HJ.out.1.drewN _).trans hk3)
          obtain ⟨⟨o0, o1, o2, o3⟩, f⟩ := H4.out.kept HK3.out (fun h => h)
          have f0 := f 0
          have f1 := f 1
          have f2 := f 2
          have f3 := f 3
          clear hk3 n0 n1 n2 k0 k1 c4 d0 d1 d2 d3
          go_wp2
          refine bodyPost_ret (v := .tuple #[.agg #[.int .u8 (z.a.toNat : Int), .int .u8 (z.b.toNat : Int), .int .u8 (z.c.toNat : Int), .int .u8 (z.d.toNat : Int)], .bool true]) (by simp [results, Tryd.results16, go_sem, o0, o1, o2, o3]) rfl ⟨by rw [hR.out]; rfl, ?_⟩
          exact ((((K0.out.trans HK3.out).setCell (Or.inl (Nat.le_succ _)) _).setCell (Or.inl (Nat.le_succ _)) _).setCell (Or.inl (Nat.le_succ _)) _).setCell (Or.inl (Nat.le_succ _)) _
    · obtain rfl : j = l.length := by omega
      have hltz : ¬ (l.length : Int) < (l.length : Int) := by omega
      have hR : Hid (R = (ad0, false)) := by
        have := HJ.out.2
        rw [List.take_length] at this
        rw [HR.out]
        unfold hasL
        rw [this]
        exact rfl
      obtain ⟨⟨o0, o1, o2, o3⟩, f⟩ := H4.out.kept HJ.out.1 (fun h => h)
      have f0 := f 0
      have f1 := f 1
      have f2 := f 2
      have f3 := f 3
      go_wp2
      refine bodyPost_ret (v := .tuple #[.agg #[.int .u8 0, .int .u8 0, .int .u8 0, .int .u8 0], .bool false]) (by simp [results, Tryd.results16, go_sem, o0, o1, o2, o3]) rfl ⟨by rw [hR.out]; rfl, ?_⟩
      exact ((((K0.out.trans HJ.out.1).setCell (Or.inl (Nat.le_succ _)) _).setCell (Or.inl (Nat.le_succ _)) _).setCell (Or.inl (Nat.le_succ _)) _).setCell (Or.inl (Nat.le_succ _)) _
end
end Go.Proofs.YtblcojggjplndaaDoor
