/- The document's own pool (tollgateref13): Take. -/
import Derived.Test.YtblcojggjplndaaDoorPlRef2
namespace Go.Proofs.YtblcojggjplndaaDoor
open Go.RowKit

section
variable {w : World} {base b : Nat} {v : Value} {x : Ad} {l : List Lt}

set_option maxHeartbeats 4000000 in
set_option maxRecDepth 100000 in
/-- Take of a key that has an address. -/
theorem rTake_has (h : PoIn w base b v x l) (hl : FewL l) (t s : Int) (ht : I64 t) (hs : I64 s) (i : Nat) (hf : findL l t s = some i) :
    Calls Tryd.prog 12 #[.pointer (some ⟨b, 0, none⟩), .agg #[.int .i64 t, .int .i64 s]] w fun e w' => e = .returned (.tuple #[adV (addAd x (i : Int)), .int .i64 0]) ∧ PoAt w' base b x l ∧ PoK base w w' := by
  have hk0 := (Kept.refl (fun _ => False) w).alloc (.cells #[.int .i64 t, .int .i64 s] 37)
  have hk1 := (Kept.refl (fun _ => False) (w.alloc (.cells #[.int .i64 t, .int .i64 s] 37))).alloc (.cells #[.int .u8 0, .int .u8 0, .int .u8 0, .int .u8 0] 23)
  have H2 := hid ((two2_new w 37 (.int .i64 t) (.int .i64 s)).kept hk1 (fun h => h))
  have H4 := hid (four4_new (w.alloc (.cells #[.int .i64 t, .int .i64 s] 37)) 23 (.int .u8 0) (.int .u8 0) (.int .u8 0) (.int .u8 0))
  have hsz : (w.alloc (.cells #[.int .i64 t, .int .i64 s] 37)).heap.size = w.heap.size + 1 := by simp
  rw [hsz] at H4
  have K0 := hid (hk0.trans hk1)
  have HI := hid (h.kept0 K0.out)
  have H0 := hid h
  have HH := hid (rHas_any HI.out hl t s ht hs)
  have hh : hasL x l t s = (addAd x (i : Int), true) := by unfold hasL; rw [hf]
  rw [hh] at HH
  unfold adV at *
  simp only at HH
  generalize addAd x (i : Int) = z at *
  clear h hk0 hk1 hl hsz hf hh
  go_enter Tryd.func12, Tryd.ntmps12
  go_upto_region 1 with fail
  generalize (w.alloc (.cells #[.int .i64 t, .int .i64 s] 37)).alloc (.cells #[.int .u8 0, .int .u8 0, .int .u8 0, .int .u8 0] 23) = W at *
  obtain ⟨k0, k1⟩ := H2.out
  have hW : w.heap.size + 1 < W.heap.size := lt_of_cell H4.out.1.1
  go_wp2_with fail
  refine HH.out.mono ?_
  rintro e w1 ⟨rfl, hk1⟩
  have HK1 := hid hk1
  have hk2 := (Kept.refl (fun _ => False) w1).alloc (.cells #[.int .u8 (z.a.toNat : Int), .int .u8 (z.b.toNat : Int), .int .u8 (z.c.toNat : Int), .int .u8 (z.d.toNat : Int)] 23)
  have HK2 := hid (hk1.trans hk2)
  have HZ := hid (four4_new w1 23 (.int .u8 (z.a.toNat : Int)) (.int .u8 (z.b.toNat : Int)) (.int .u8 (z.c.toNat : Int)) (.int .u8 (z.d.toNat : Int)))
  clear hk1 hk2 k0 k1
  go_upto_region 3 with fail
  generalize w1.alloc (.cells #[.int .u8 (z.a.toNat : Int), .int .u8 (z.b.toNat : Int), .int .u8 (z.c.toNat : Int), .int .u8 (z.d.toNat : Int)] 23) = V at *
  obtain ⟨⟨p0, p1, p2, p3⟩, _⟩ := HZ.out
  obtain ⟨⟨o0, o1, o2, o3⟩, f⟩ := H4.out.kept HK2.out (fun h => h)
  have f0 := f 0
  have f1 := f 1
  have f2 := f 2
  have f3 := f 3
  clear f
  go_wp2
  refine bodyPost_ret (v := .tuple #[.agg #[.int .u8 (z.a.toNat : Int), .int .u8 (z.b.toNat : Int), .int .u8 (z.c.toNat : Int), .int .u8 (z.d.toNat : Int)], .int .i64 0]) (by simp [results, Tryd.results12, go_sem, o0, o1, o2, o3]) rfl ⟨rfl, ?_⟩
  have K := fun u0 u1 u2 u3 => ((((K0.out.trans HK2.out).setCell (p := ⟨w.heap.size + 1, 0, none⟩) (Or.inl (Nat.le_succ _)) u0).setCell (p := ⟨w.heap.size + 1, 1, none⟩) (Or.inl (Nat.le_succ _)) u1).setCell (p := ⟨w.heap.size + 1, 2, none⟩) (Or.inl (Nat.le_succ _)) u2).setCell (p := ⟨w.heap.size + 1, 3, none⟩) (Or.inl (Nat.le_succ _)) u3
  exact ⟨⟨_, H0.out.kept0 (K _ _ _ _)⟩, PoK.of (K _ _ _ _)⟩

set_option maxHeartbeats 4000000 in
set_option maxRecDepth 100000 in
/-- Take of a key that has none. -/
theorem rTake_none (h : PoIn w base b v x l) (hl : FewL l) (t s : Int) (ht : I64 t) (hs : I64 s) (hf : findL l t s = none) :
    Calls Tryd.prog 12 #[.pointer (some ⟨b, 0, none⟩), .agg #[.int .i64 t, .int .i64 s]] w fun e w' => e = .returned (.tuple #[adV (takeL x l t s).1, .int .i64 (takeL x l t s).2.1]) ∧ PoAt w' base b x (takeL x l t s).2.2 ∧ PoK base w w' := by
  obtain ⟨p, cap, rfl⟩ := slice_of h.own
  obtain ⟨R, hR⟩ : ∃ R, R = takeL x l t s := ⟨_, rfl⟩
  have HR : Hid (R = match freeL l with | none => (ad0, 10, l) | some i => (addAd x (i : Int), 0, l.set i ⟨true, t, s⟩)) := by
    rw [hR]
    unfold takeL
    rw [hf]
    exact rfl
  rw [← hR]
  have HAdd : Hid (∀ n W, Calls Tryd.prog 22 #[adV x, .int .i64 n] W fun e w' => e = .returned (adV (addAd x n)) ∧ Kept (fun _ => False) W w') := rAdd_any x
  have hk0 := (Kept.refl (fun _ => False) w).alloc (.cells #[.int .i64 t, .int .i64 s] 37)
  have hk1 := (Kept.refl (fun _ => False) (w.alloc (.cells #[.int .i64 t, .int .i64 s] 37))).alloc (.cells #[.int .u8 0, .int .u8 0, .int .u8 0, .int .u8 0] 23)
  have H2 := hid ((two2_new w 37 (.int .i64 t) (.int .i64 s)).kept hk1 (fun h => h))
  have H4 := hid (four4_new (w.alloc (.cells #[.int .i64 t, .int .i64 s] 37)) 23 (.int .u8 0) (.int .u8 0) (.int .u8 0) (.int .u8 0))
  have hsz : (w.alloc (.cells #[.int .i64 t, .int .i64 s] 37)).heap.size = w.heap.size + 1 := by simp
  rw [hsz] at H4
  have K0 := hid (hk0.trans hk1)
  have HI := hid (h.kept0 K0.out)
  have H0 := hid h
  have HH := hid (rHas_any HI.out hl t s ht hs)
  have hh : hasL x l t s = (ad0, false) := by unfold hasL; rw [hf]
  rw [hh] at HH
  have HL := hid hl
  have hlen := hl.1
  unfold adV at HH HAdd
  simp only at HH
  have hz : ad0.a.toNat = 0 ∧ ad0.b.toNat = 0 ∧ ad0.c.toNat = 0 ∧ ad0.d.toNat = 0 := ⟨rfl, rfl, rfl, rfl⟩
  rw [hz.1, hz.2.1, hz.2.2.1, hz.2.2.2] at HH
  clear h hk0 hk1 hl hsz hf hh hR hz
  go_enter Tryd.func12, Tryd.ntmps12
  go_upto_region 1 with fail
  generalize (w.alloc (.cells #[.int .i64 t, .int .i64 s] 37)).alloc (.cells #[.int .u8 0, .int .u8 0, .int .u8 0, .int .u8 0] 23) = W at *
  obtain ⟨k0, k1⟩ := H2.out
  have hW : w.heap.size + 1 < W.heap.size := lt_of_cell H4.out.1.1
  go_wp2_with fail
  refine HH.out.mono ?_
  rintro e w1 ⟨rfl, hk1⟩
  have HK1 := hid hk1
  have hk2 := (Kept.refl (fun _ => False) w1).alloc (.cells #[.int .u8 0, .int .u8 0, .int .u8 0, .int .u8 0] 23)
  have HK2 := hid (hk1.trans hk2)
  obtain ⟨k0', k1'⟩ := H2.out.kept HK2.out (fun h => h)
  have HT : Hid (Two2 (w1.alloc (.cells #[.int .u8 0, .int .u8 0, .int .u8 0, .int .u8 0] 23)) w.heap.size (.int .i64 t) (.int .i64 s)) := ⟨k0', k1'⟩
  clear hk1 hk2 k0 k1 k0' k1'
  go_upto_region 4 with fail
  generalize w1.alloc (.cells #[.int .u8 0, .int .u8 0, .int .u8 0, .int .u8 0] 23) = V at *
  have HI2 := hid (HI.out.kept0 HK2.out)
  have H5 := hid (H4.out.kept HK2.out (fun h => h))
  have K2 := hid (K0.out.trans HK2.out)
  clear HI H4 H2 HK1 HK2 K0 HH
  go_wp2
  go_loopw [8] (fun vi wr => ∃ j : Nat, j ≤ l.length ∧ vi = .int .i64 (j : Int) ∧ Hid (Kept (fun _ => False) V wr ∧ freeL (l.take j) = none)) (fun vi _ => l.length - (intOf vi).toNat)
  case atStart => exact ⟨0, Nat.zero_le _, rfl, Kept.refl _ _, by simp [freeL]⟩
  case round =>
    obtain ⟨j, hj, rfl, HJ⟩ := hrel
    have HI' := hid (HI2.out.kept0 HJ.out.1)
    have c4 := HI'.out.c4
    by_cases hlt : j < l.length
    · have hltz : (j : Int) < (l.length : Int) := by omega
      obtain ⟨y, hy⟩ : ∃ y, l[j]? = some y := ⟨l[j], by simp [hlt]⟩
      obtain ⟨g, rfl, _, _, hcap, hcm, hcs, hfz⟩ := HI'.out.own.at encL hy
      have n0 := hcs 0 _ rfl
      have n1 := hcs 1 _ rfl
      have n2 := hcs 2 _ rfl
      rw [Nat.add_zero] at n0
      have HY := hid hy
      have g0 := hfz (j * 3)
      have g1 := hfz (j * 3 + 1)
      have g2 := hfz (j * 3 + 2)
      clear hcs hy hfz
      obtain ⟨q, yt, ys⟩ := y
      simp only at n0 n1 n2
      cases q with
      | true =>
        have HN := hid (idx_go HJ.out.2 HY.out (q := fun e : Lt => !e.is) rfl)
        go_wp2
        exact ⟨⟨j + 1, hlt, by go_num, HJ.out.1, HN.out⟩, by simp [intOf]; omega⟩
      | false =>
        have hF : freeL l = some j := idx_at HJ.out.2 HY.out (q := fun e : Lt => !e.is) rfl
        have hR : Hid (R = (addAd x (j : Int), 0, l.set j ⟨true, t, s⟩)) := by
          rw [HR.out, hF]
          exact rfl
        have HA := hid (HAdd.out (j : Int))
        obtain ⟨k0, k1⟩ := HT.out.kept HJ.out.1 (fun h => h)
        clear hF
        generalize addAd x (j : Int) = z at *
        go_upto_region 8 with fail
        have H3 := hid ((HI'.out.setAll HY.out true t s).kept0 (Kept.refl (fun _ => False) _).drew)
        have hg : g < w.heap.size := (H0.out.own.block rfl).2.2
        have hng : ¬ w.heap.size + 1 = g := by omega
        have KG : Kept (fun i => i = g) wr ((((wr.setCell ⟨g, j * 3, none⟩ (.bool true)).setCell ⟨g, j * 3 + 1, none⟩ (.int .i64 t)).setCell ⟨g, j * 3 + 2, none⟩ (.int .i64 s))).drew := ((((Kept.refl (fun i => i = g) wr).setCell (p := ⟨g, j * 3, none⟩) (Or.inr rfl) _).setCell (p := ⟨g, j * 3 + 1, none⟩) (Or.inr rfl) _).setCell (p := ⟨g, j * 3 + 2, none⟩) (Or.inr rfl) _).drew
        have H6 := hid ((H5.out.kept HJ.out.1 (fun h => h)).kept KG hng)
        have K3 : Hid (PoK base w ((((wr.setCell ⟨g, j * 3, none⟩ (.bool true)).setCell ⟨g, j * 3 + 1, none⟩ (.int .i64 t)).setCell ⟨g, j * 3 + 2, none⟩ (.int .i64 s))).drew) := Kept.drew (H0.out.keptAll (PoK.of (K2.out.trans HJ.out.1)) _ _ _ _ _ _)
        clear KG
        go_region
        generalize ((((wr.setCell ⟨g, j * 3, none⟩ (.bool true)).setCell ⟨g, j * 3 + 1, none⟩ (.int .i64 t)).setCell ⟨g, j * 3 + 2, none⟩ (.int .i64 s))).drew = U at *
        have c4' := H3.out.c4
        have d0 := H3.out.c0
        have d1 := H3.out.c1
        have d2 := H3.out.c2
        have d3 := H3.out.c3
        generalize (x.a.toNat : Int) = xa at *
        generalize (x.b.toNat : Int) = xb at *
        generalize (x.c.toNat : Int) = xc at *
        generalize (x.d.toNat : Int) = xd at *
        clear n0 n1 n2 c4 g0 g1 g2 k0 k1
        go_wp2_with fail
        refine (HA.out _).mono ?_
        rintro e w3 ⟨rfl, hk3⟩
        have HK3 := hid hk3
        obtain ⟨⟨o0, o1, o2, o3⟩, f⟩ := H6.out.kept hk3 (fun h => h)
        have f0 := f 0
        have f1 := f 1
        have f2 := f 2
        have f3 := f 3
        clear hk3 d0 d1 d2 d3 c4'
        go_wp2
        refine bodyPost_ret (v := .tuple #[.agg #[.int .u8 (z.a.toNat : Int), .int .u8 (z.b.toNat : Int), .int .u8 (z.c.toNat : Int), .int .u8 (z.d.toNat : Int)], .int .i64 0]) (by simp [results, Tryd.results12, go_sem, o0, o1, o2, o3]) rfl ⟨by rw [hR.out]; rfl, ?_⟩
        have K := fun u0 u1 u2 u3 => ((((PoK.trans K3.out (PoK.of HK3.out)).setCell (p := ⟨w.heap.size + 1, 0, none⟩) (Or.inl (Nat.le_succ _)) u0).setCell (p := ⟨w.heap.size + 1, 1, none⟩) (Or.inl (Nat.le_succ _)) u1).setCell (p := ⟨w.heap.size + 1, 2, none⟩) (Or.inl (Nat.le_succ _)) u2).setCell (p := ⟨w.heap.size + 1, 3, none⟩) (Or.inl (Nat.le_succ _)) u3
        have K' := fun u0 u1 u2 u3 => (((((Kept.refl (fun i => i = w.heap.size + 1) w3)).setCell (p := ⟨w.heap.size + 1, 0, none⟩) (Or.inr rfl) u0).setCell (p := ⟨w.heap.size + 1, 1, none⟩) (Or.inr rfl) u1).setCell (p := ⟨w.heap.size + 1, 2, none⟩) (Or.inr rfl) u2).setCell (p := ⟨w.heap.size + 1, 3, none⟩) (Or.inr rfl) u3
        rw [hR.out]
        have H8 := H3.out.kept0 HK3.out
        refine ⟨⟨_, ⟨((K' _ _ _ _).block b H8.lt ?_).trans H8.blk, H8.own.keptS (K' _ _ _ _) ?_⟩⟩, K _ _ _ _⟩
        · have := H0.out.lt
          omega
        · intro i hi
          have : g = i := by simpa [Value.ownBlock] using hi
          omega
    · obtain rfl : j = l.length := by omega
      have hltz : ¬ (l.length : Int) < (l.length : Int) := by omega
      have hR : Hid (R = (ad0, 10, l)) := by
        have := HJ.out.2
        rw [List.take_length] at this
        rw [HR.out, this]
        exact rfl
      obtain ⟨⟨o0, o1, o2, o3⟩, f⟩ := H5.out.kept HJ.out.1 (fun h => h)
      have f0 := f 0
      have f1 := f 1
      have f2 := f 2
      have f3 := f 3
      go_wp2
      refine bodyPost_ret (v := .tuple #[.agg #[.int .u8 0, .int .u8 0, .int .u8 0, .int .u8 0], .int .i64 10]) (by simp [results, Tryd.results12, go_sem, o0, o1, o2, o3]) rfl ⟨by rw [hR.out]; rfl, ?_⟩
      have K := fun u0 u1 u2 u3 => ((((K2.out.trans HJ.out.1).setCell (p := ⟨w.heap.size + 1, 0, none⟩) (Or.inl (Nat.le_succ _)) u0).setCell (p := ⟨w.heap.size + 1, 1, none⟩) (Or.inl (Nat.le_succ _)) u1).setCell (p := ⟨w.heap.size + 1, 2, none⟩) (Or.inl (Nat.le_succ _)) u2).setCell (p := ⟨w.heap.size + 1, 3, none⟩) (Or.inl (Nat.le_succ _)) u3
      rw [hR.out]
      exact ⟨⟨_, H0.out.kept0 (K _ _ _ _)⟩, PoK.of (K _ _ _ _)⟩

theorem rTake_any (h : PoIn w base b v x l) (hl : FewL l) (t s : Int) (ht : I64 t) (hs : I64 s) :
    Calls Tryd.prog 12 #[.pointer (some ⟨b, 0, none⟩), .agg #[.int .i64 t, .int .i64 s]] w fun e w' => e = .returned (.tuple #[adV (takeL x l t s).1, .int .i64 (takeL x l t s).2.1]) ∧ PoAt w' base b x (takeL x l t s).2.2 ∧ PoK base w w' := by
  cases hf : findL l t s with
  | none => exact rTake_none h hl t s ht hs hf
  | some i =>
    have e : takeL x l t s = (addAd x (i : Int), 0, l) := by unfold takeL; rw [hf]
    rw [e]
    exact rTake_has h hl t s ht hs i hf
end
end Go.Proofs.YtblcojggjplndaaDoor
