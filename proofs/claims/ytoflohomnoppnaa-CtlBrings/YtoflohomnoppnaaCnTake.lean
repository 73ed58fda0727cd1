/- The contract of an end's Take. (Written by gen_cntake.py.) -/
import Derived.Test.YtoflohomnoppnaaCnItem
import Derived.Test.YtoflohomnoppnaaCnSend
namespace Go.Proofs.Ytoflohomnoppnaa
open Go.RowKit

abbrev TakeP (w : World) (b : Nat) (vw vf : Value) (c' : Cn) (l : List ByteArray) (e : Ending) (w' : World) : Prop :=
  ∃ vo vw' vf', e = .returned vo ∧ NextN w w' b vw vf c' vw' vf' ∧ OwnS w' w.heap.size vo l ∧ ∀ j, vo.ownBlock = some j → ¬ Sn b vw' vf' j

set_option maxHeartbeats 8000000 in
set_option maxRecDepth 100000 in
theorem take_dead {w : World} {b : Nat} {c : Cn} {vw vf : Value} (h : CnIn w b c vw vf) (hg : GoodN c) (i : Ite) (hd : c.dead = true) :
    Calls Try.prog 15 #[.pointer (some ⟨b, 0, none⟩), iteV i] w (TakeP w b vw vf c []) := by
  have K0 := hid ((Kept.refl (fun _ => False) w).alloc (.cells #[.int .i64 i.ns, .int .i64 i.nr, .string i.body] 25))
  have B0 := hid (IteB.new w i)
  have H := hid h
  have Hg := hid hg
  have H1 := hid (fun W (hk : Kept (fun _ => False) w W) => dead_any b c _ _ W (h.kept0 hk).blk hg.wait.1)
  have HN1 := hid (fun W => isNum_any i.ns W)
  have HN2 := hid (fun W => isNum_any i.nr W)
  rw [hd] at H1
  clear hd
  clear h hg
  unfold iteV
  go_enter Try.func15, Try.ntmps15
  go_upto_region 1 with fail
  generalize w.alloc (.cells #[.int .i64 i.ns, .int .i64 i.nr, .string i.body] 25) = X at *
  generalize w.heap.size = g0 at *
  have c0 := B0.out.c0
  have c1 := B0.out.c1
  have c2 := B0.out.c2
  have HX := hid (H.out.kept0 K0.out)
  go_wp2_with fail
  refine (H1.out _ K0.out).mono ?_
  rintro e w1 ⟨rfl, hq⟩
  rw [hq]
  clear hq w1 H1
  go_wp2
  go_returns
  exact ⟨_, vw, vf, rfl, NextN.same H.out K0.out, OwnG.nil _ _, fun j hj => by cases hj⟩

set_option maxHeartbeats 8000000 in
set_option maxRecDepth 100000 in
theorem take_ns {w : World} {b : Nat} {c : Cn} {vw vf : Value} (h : CnIn w b c vw vf) (hg : GoodN c) (i : Ite) (hd : c.dead = false) (h1 : numN i.ns = false) :
    Calls Try.prog 15 #[.pointer (some ⟨b, 0, none⟩), iteV i] w (TakeP w b vw vf c []) := by
  have K0 := hid ((Kept.refl (fun _ => False) w).alloc (.cells #[.int .i64 i.ns, .int .i64 i.nr, .string i.body] 25))
  have B0 := hid (IteB.new w i)
  have H := hid h
  have Hg := hid hg
  have H1 := hid (fun W (hk : Kept (fun _ => False) w W) => dead_any b c _ _ W (h.kept0 hk).blk hg.wait.1)
  have HN1 := hid (fun W => isNum_any i.ns W)
  have HN2 := hid (fun W => isNum_any i.nr W)
  rw [hd] at H1
  rw [h1] at HN1
  clear hd h1
  clear h hg
  unfold iteV
  go_enter Try.func15, Try.ntmps15
  go_upto_region 1 with fail
  generalize w.alloc (.cells #[.int .i64 i.ns, .int .i64 i.nr, .string i.body] 25) = X at *
  generalize w.heap.size = g0 at *
  have c0 := B0.out.c0
  have c1 := B0.out.c1
  have c2 := B0.out.c2
  have HX := hid (H.out.kept0 K0.out)
  go_wp2_with fail
  refine (H1.out _ K0.out).mono ?_
  rintro e w1 ⟨rfl, hq⟩
  rw [hq]
  clear hq w1 H1
  go_wp2_with fail
  refine (HN1.out _).mono ?_
  rintro e w1 ⟨rfl, hq⟩
  rw [hq]
  clear hq w1 HN1
  go_wp2
  go_returns
  exact ⟨_, vw, vf, rfl, NextN.same H.out K0.out, OwnG.nil _ _, fun j hj => by cases hj⟩

set_option maxHeartbeats 8000000 in
set_option maxRecDepth 100000 in
theorem take_nr {w : World} {b : Nat} {c : Cn} {vw vf : Value} (h : CnIn w b c vw vf) (hg : GoodN c) (i : Ite) (hd : c.dead = false) (h1 : numN i.ns = true) (h2 : numN i.nr = false) :
    Calls Try.prog 15 #[.pointer (some ⟨b, 0, none⟩), iteV i] w (TakeP w b vw vf c []) := by
  have K0 := hid ((Kept.refl (fun _ => False) w).alloc (.cells #[.int .i64 i.ns, .int .i64 i.nr, .string i.body] 25))
  have B0 := hid (IteB.new w i)
  have H := hid h
  have Hg := hid hg
  have H1 := hid (fun W (hk : Kept (fun _ => False) w W) => dead_any b c _ _ W (h.kept0 hk).blk hg.wait.1)
  have HN1 := hid (fun W => isNum_any i.ns W)
  have HN2 := hid (fun W => isNum_any i.nr W)
  rw [hd] at H1
  rw [h1] at HN1
  rw [h2] at HN2
  clear hd h1 h2
  clear h hg
  unfold iteV
  go_enter Try.func15, Try.ntmps15
  go_upto_region 1 with fail
  generalize w.alloc (.cells #[.int .i64 i.ns, .int .i64 i.nr, .string i.body] 25) = X at *
  generalize w.heap.size = g0 at *
  have c0 := B0.out.c0
  have c1 := B0.out.c1
  have c2 := B0.out.c2
  have HX := hid (H.out.kept0 K0.out)
  go_wp2_with fail
  refine (H1.out _ K0.out).mono ?_
  rintro e w1 ⟨rfl, hq⟩
  rw [hq]
  clear hq w1 H1
  go_wp2_with fail
  refine (HN1.out _).mono ?_
  rintro e w1 ⟨rfl, hq⟩
  rw [hq]
  clear hq w1 HN1
  go_wp2_with fail
  refine (HN2.out _).mono ?_
  rintro e w1 ⟨rfl, hq⟩
  rw [hq]
  clear hq w1 HN2
  go_wp2
  go_returns
  exact ⟨_, vw, vf, rfl, NextN.same H.out K0.out, OwnG.nil _ _, fun j hj => by cases hj⟩

set_option maxHeartbeats 8000000 in
set_option maxRecDepth 100000 in
theorem take_none {w : World} {b : Nat} {c : Cn} {vw vf : Value} (h : CnIn w b c vw vf) (hg : GoodN c) (i : Ite) (hd : c.dead = false) (h1 : numN i.ns = true) (h2 : numN i.nr = true) (hx : i.body.toList.isEmpty = true) :
    Calls Try.prog 15 #[.pointer (some ⟨b, 0, none⟩), iteV i] w (TakeP w b vw vf (landN c (ackedN c i.nr)) []) := by
  have K0 := hid ((Kept.refl (fun _ => False) w).alloc (.cells #[.int .i64 i.ns, .int .i64 i.nr, .string i.body] 25))
  have B0 := hid (IteB.new w i)
  have H := hid h
  have Hg := hid hg
  have H1 := hid (fun W (hk : Kept (fun _ => False) w W) => dead_any b c _ _ W (h.kept0 hk).blk hg.wait.1)
  have HN1 := hid (fun W => isNum_any i.ns W)
  have HN2 := hid (fun W => isNum_any i.nr W)
  rw [hd] at H1
  rw [h1] at HN1
  rw [h2] at HN2
  clear hd h1 h2
  clear h hg
  unfold iteV
  go_enter Try.func15, Try.ntmps15
  go_upto_region 1 with fail
  generalize w.alloc (.cells #[.int .i64 i.ns, .int .i64 i.nr, .string i.body] 25) = X at *
  generalize w.heap.size = g0 at *
  have c0 := B0.out.c0
  have c1 := B0.out.c1
  have c2 := B0.out.c2
  have HX := hid (H.out.kept0 K0.out)
  go_wp2_with fail
  refine (H1.out _ K0.out).mono ?_
  rintro e w1 ⟨rfl, hq⟩
  rw [hq]
  clear hq w1 H1
  go_wp2_with fail
  refine (HN1.out _).mono ?_
  rintro e w1 ⟨rfl, hq⟩
  rw [hq]
  clear hq w1 HN1
  go_wp2_with fail
  refine (HN2.out _).mono ?_
  rintro e w1 ⟨rfl, hq⟩
  rw [hq]
  clear hq w1 HN2
  obtain ⟨p10, c10, hv10⟩ := own_slice HX.out.rf
  subst hv10
  have HA := hid (ackedB_any b c p10 c10 vw X HX.out.blk Hg.out i.nr)
  have HAl := hid (ackedN_le c i.nr)
  go_wp2_with fail
  refine (HA.out).mono ?_
  rintro e w2 ⟨rfl, hk2⟩
  have HX2 := hid (HX.out.kept0 hk2)
  have HL := hid (land_any HX2.out Hg.out (ackedN c i.nr) HAl.out)
  have B2 := hid (B0.out.kept hk2 id)
  have K2 := hid (K0.out.trans hk2)
  clear hk2 HA
  go_wp2_with fail
  refine (HL.out).mono ?_
  rintro e w3 ⟨rfl, vf3, hn3⟩
  have HN := hid ((NextN.same H.out K2.out).trans hn3)
  have B3 := hid (B2.out.kept hn3.kept (HX2.out.unlikeB B2.out))
  clear hn3 HL B2 HX2 c0 c1 c2
  obtain ⟨C, hC⟩ : ∃ C, C = landN c (ackedN c i.nr) := ⟨_, rfl⟩
  rw [← hC] at HN
  have HCC := hid hC
  clear hC
  obtain ⟨p11, c11, hv11⟩ := own_slice HN.out.mem.rf
  subst hv11
  have d0 := B3.out.c0
  have d2 := B3.out.c2
  have f11 := HN.out.mem.blk.soft 11
  have f8 := HN.out.mem.blk.soft 8
  have d8 : w3.cell? ⟨b, 8, none⟩ = some (.int .i64 C.come) := HN.out.mem.blk.cell 8
  have d11 : w3.cell? ⟨b, 11, none⟩ = some (.bool C.owed) := HN.out.mem.blk.cell 11
  have hbg : b ≠ g0 := fun e => HN.out.mem.unlikeB B3.out (Or.inl e.symm)
  go_wp2
  go_returns
  rw [← HCC.out]
  exact ⟨_, vw, _, rfl, HN.out, OwnG.nil _ _, fun j hj => by cases hj⟩

set_option maxHeartbeats 8000000 in
set_option maxRecDepth 100000 in
theorem take_other {w : World} {b : Nat} {c : Cn} {vw vf : Value} (h : CnIn w b c vw vf) (hg : GoodN c) (i : Ite) (hd : c.dead = false) (h1 : numN i.ns = true) (h2 : numN i.nr = true) (hx : i.body.toList.isEmpty = false) (hc : ¬ i.ns = (landN c (ackedN c i.nr)).come) :
    Calls Try.prog 15 #[.pointer (some ⟨b, 0, none⟩), iteV i] w (TakeP w b vw vf { landN c (ackedN c i.nr) with owed := true } []) := by
  have K0 := hid ((Kept.refl (fun _ => False) w).alloc (.cells #[.int .i64 i.ns, .int .i64 i.nr, .string i.body] 25))
  have B0 := hid (IteB.new w i)
  have H := hid h
  have Hg := hid hg
  have H1 := hid (fun W (hk : Kept (fun _ => False) w W) => dead_any b c _ _ W (h.kept0 hk).blk hg.wait.1)
  have HN1 := hid (fun W => isNum_any i.ns W)
  have HN2 := hid (fun W => isNum_any i.nr W)
  rw [hd] at H1
  rw [h1] at HN1
  rw [h2] at HN2
  clear hd h1 h2
  have HC := hid hc
  clear hc
  clear h hg
  unfold iteV
  go_enter Try.func15, Try.ntmps15
  go_upto_region 1 with fail
  generalize w.alloc (.cells #[.int .i64 i.ns, .int .i64 i.nr, .string i.body] 25) = X at *
  generalize w.heap.size = g0 at *
  have c0 := B0.out.c0
  have c1 := B0.out.c1
  have c2 := B0.out.c2
  have HX := hid (H.out.kept0 K0.out)
  go_wp2_with fail
  refine (H1.out _ K0.out).mono ?_
  rintro e w1 ⟨rfl, hq⟩
  rw [hq]
  clear hq w1 H1
  go_wp2_with fail
  refine (HN1.out _).mono ?_
  rintro e w1 ⟨rfl, hq⟩
  rw [hq]
  clear hq w1 HN1
  go_wp2_with fail
  refine (HN2.out _).mono ?_
  rintro e w1 ⟨rfl, hq⟩
  rw [hq]
  clear hq w1 HN2
  obtain ⟨p10, c10, hv10⟩ := own_slice HX.out.rf
  subst hv10
  have HA := hid (ackedB_any b c p10 c10 vw X HX.out.blk Hg.out i.nr)
  have HAl := hid (ackedN_le c i.nr)
  go_wp2_with fail
  refine (HA.out).mono ?_
  rintro e w2 ⟨rfl, hk2⟩
  have HX2 := hid (HX.out.kept0 hk2)
  have HL := hid (land_any HX2.out Hg.out (ackedN c i.nr) HAl.out)
  have B2 := hid (B0.out.kept hk2 id)
  have K2 := hid (K0.out.trans hk2)
  clear hk2 HA
  go_wp2_with fail
  refine (HL.out).mono ?_
  rintro e w3 ⟨rfl, vf3, hn3⟩
  have HN := hid ((NextN.same H.out K2.out).trans hn3)
  have B3 := hid (B2.out.kept hn3.kept (HX2.out.unlikeB B2.out))
  clear hn3 HL B2 HX2 c0 c1 c2
  obtain ⟨C, hC⟩ : ∃ C, C = landN c (ackedN c i.nr) := ⟨_, rfl⟩
  rw [← hC] at HN
  rw [← hC] at HC
  have HCC := hid hC
  clear hC
  obtain ⟨p11, c11, hv11⟩ := own_slice HN.out.mem.rf
  subst hv11
  have d0 := B3.out.c0
  have d2 := B3.out.c2
  have f11 := HN.out.mem.blk.soft 11
  have f8 := HN.out.mem.blk.soft 8
  have d8 : w3.cell? ⟨b, 8, none⟩ = some (.int .i64 C.come) := HN.out.mem.blk.cell 8
  have d11 : w3.cell? ⟨b, 11, none⟩ = some (.bool C.owed) := HN.out.mem.blk.cell 11
  have hbg : b ≠ g0 := fun e => HN.out.mem.unlikeB B3.out (Or.inl e.symm)
  have b1 := HN.out.mem.blk.set 11 (.bool true) (c' := { C with owed := true }) rfl
  have hkA : Kept (fun i => i = b) w3 (w3.setCell ⟨b, 11, none⟩ (.bool true)) := kept_cn (Kept.refl (fun i => i = b) w3) rfl 11 _
  have HNA := hid (HN.out.trans (NextN.cells HN.out.mem hkA b1 rfl rfl))
  have BA := hid (B3.out.kept hkA (fun e => hbg e.symm))
  clear b1 hkA
  go_upto_region 7 with fail
  generalize w3.setCell ⟨b, 11, none⟩ (.bool true) = Y at *
  have e0 := BA.out.c0
  have e8 : Y.cell? ⟨b, 8, none⟩ = some (.int .i64 C.come) := HNA.out.mem.blk.cell 8
  clear d0 d2 d8 d11 f11 f8 HN B3
  have hne : (i.ns != C.come) = true := by
    rw [bne_iff_ne]
    exact HC.out
  have hne2 : ¬ i.ns = C.come := HC.out
  go_quiet (fail)
  go_wp2
  go_returns
  rw [← HCC.out]
  exact ⟨_, vw, _, rfl, HNA.out.kept0 ((Kept.refl _ _).drewN _), OwnG.nil _ _, fun j hj => by cases hj⟩

set_option maxHeartbeats 8000000 in
set_option maxRecDepth 100000 in
theorem take_ok {w : World} {b : Nat} {c : Cn} {vw vf : Value} (h : CnIn w b c vw vf) (hg : GoodN c) (i : Ite) (hd : c.dead = false) (h1 : numN i.ns = true) (h2 : numN i.nr = true) (hx : i.body.toList.isEmpty = false) (hc : i.ns = (landN c (ackedN c i.nr)).come) :
    Calls Try.prog 15 #[.pointer (some ⟨b, 0, none⟩), iteV i] w (TakeP w b vw vf { landN c (ackedN c i.nr) with owed := true, come := wrapN ((landN c (ackedN c i.nr)).come + 1) } [i.body]) := by
  have K0 := hid ((Kept.refl (fun _ => False) w).alloc (.cells #[.int .i64 i.ns, .int .i64 i.nr, .string i.body] 25))
  have B0 := hid (IteB.new w i)
  have H := hid h
  have Hg := hid hg
  have H1 := hid (fun W (hk : Kept (fun _ => False) w W) => dead_any b c _ _ W (h.kept0 hk).blk hg.wait.1)
  have HN1 := hid (fun W => isNum_any i.ns W)
  have HN2 := hid (fun W => isNum_any i.nr W)
  rw [hd] at H1
  rw [h1] at HN1
  rw [h2] at HN2
  clear hd h1 h2
  have hgc := (good_landN hg (ackedN c i.nr)).come
  have HC := hid hc
  have HGC := hid hgc
  clear hc hgc
  clear h hg
  unfold iteV
  go_enter Try.func15, Try.ntmps15
  go_upto_region 1 with fail
  generalize w.alloc (.cells #[.int .i64 i.ns, .int .i64 i.nr, .string i.body] 25) = X at *
  generalize w.heap.size = g0 at *
  have c0 := B0.out.c0
  have c1 := B0.out.c1
  have c2 := B0.out.c2
  have HX := hid (H.out.kept0 K0.out)
  go_wp2_with fail
  refine (H1.out _ K0.out).mono ?_
  rintro e w1 ⟨rfl, hq⟩
  rw [hq]
  clear hq w1 H1
  go_wp2_with fail
  refine (HN1.out _).mono ?_
  rintro e w1 ⟨rfl, hq⟩
  rw [hq]
  clear hq w1 HN1
  go_wp2_with fail
  refine (HN2.out _).mono ?_
  rintro e w1 ⟨rfl, hq⟩
  rw [hq]
  clear hq w1 HN2
  obtain ⟨p10, c10, hv10⟩ := own_slice HX.out.rf
  subst hv10
  have HA := hid (ackedB_any b c p10 c10 vw X HX.out.blk Hg.out i.nr)
  have HAl := hid (ackedN_le c i.nr)
  go_wp2_with fail
  refine (HA.out).mono ?_
  rintro e w2 ⟨rfl, hk2⟩
  have HX2 := hid (HX.out.kept0 hk2)
  have HL := hid (land_any HX2.out Hg.out (ackedN c i.nr) HAl.out)
  have B2 := hid (B0.out.kept hk2 id)
  have K2 := hid (K0.out.trans hk2)
  clear hk2 HA
  go_wp2_with fail
  refine (HL.out).mono ?_
  rintro e w3 ⟨rfl, vf3, hn3⟩
  have HN := hid ((NextN.same H.out K2.out).trans hn3)
  have B3 := hid (B2.out.kept hn3.kept (HX2.out.unlikeB B2.out))
  clear hn3 HL B2 HX2 c0 c1 c2
  obtain ⟨C, hC⟩ : ∃ C, C = landN c (ackedN c i.nr) := ⟨_, rfl⟩
  rw [← hC] at HN
  rw [← hC] at HC HGC
  have HCC := hid hC
  clear hC
  obtain ⟨p11, c11, hv11⟩ := own_slice HN.out.mem.rf
  subst hv11
  have d0 := B3.out.c0
  have d2 := B3.out.c2
  have f11 := HN.out.mem.blk.soft 11
  have f8 := HN.out.mem.blk.soft 8
  have d8 : w3.cell? ⟨b, 8, none⟩ = some (.int .i64 C.come) := HN.out.mem.blk.cell 8
  have d11 : w3.cell? ⟨b, 11, none⟩ = some (.bool C.owed) := HN.out.mem.blk.cell 11
  have hbg : b ≠ g0 := fun e => HN.out.mem.unlikeB B3.out (Or.inl e.symm)
  have b1 := HN.out.mem.blk.set 11 (.bool true) (c' := { C with owed := true }) rfl
  have hkA : Kept (fun i => i = b) w3 (w3.setCell ⟨b, 11, none⟩ (.bool true)) := kept_cn (Kept.refl (fun i => i = b) w3) rfl 11 _
  have HNA := hid (HN.out.trans (NextN.cells HN.out.mem hkA b1 rfl rfl))
  have BA := hid (B3.out.kept hkA (fun e => hbg e.symm))
  clear b1 hkA
  go_upto_region 7 with fail
  generalize w3.setCell ⟨b, 11, none⟩ (.bool true) = Y at *
  have e0 := BA.out.c0
  have e8 : Y.cell? ⟨b, 8, none⟩ = some (.int .i64 C.come) := HNA.out.mem.blk.cell 8
  clear d0 d2 d8 d11 f11 f8 HN B3
  have hne : (i.ns != C.come) = false := by
    rw [HC.out]
    simp
  have w1 : IntKind.i64.wrap (C.come + 1) = C.come + 1 := by have := HGC.out; rw [IntKind.wrap_i64]; omega
  have HWr := hid (fun W => wrap_any (C.come + 1) W)
  go_cut [37] from 31 to 38 (fun v wx => v = .bool false ∧ Kept (fun _ => False) Y wx)
  case first =>
    go_quiet (fail)
    go_wp2
    go_meet
    exact ⟨rfl, (Kept.refl _ _).drewN _⟩
  obtain ⟨rfl, hkq⟩ := hcut
  have HNq := hid (HNA.out.kept0 hkq)
  have Bq := hid (BA.out.kept hkq id)
  clear hkq HNA BA e0 e8 hne
  have e8 : wc.cell? ⟨b, 8, none⟩ = some (.int .i64 C.come) := HNq.out.mem.blk.cell 8
  have f8 := HNq.out.mem.blk.soft 8
  go_upto_region 9 with fail
  go_wp2_with fail
  refine (HWr.out _).mono ?_
  rintro e w6 ⟨rfl, hq⟩
  rw [hq]
  clear hq w6 HWr
  have b1 := HNq.out.mem.blk.set 8 (.int .i64 (wrapN (C.come + 1))) (c' := { C with owed := true, come := wrapN (C.come + 1) }) rfl
  have hkA : Kept (fun i => i = b) wc (wc.setCell ⟨b, 8, none⟩ (.int .i64 (wrapN (C.come + 1)))) := kept_cn (Kept.refl (fun i => i = b) wc) rfl 8 _
  have HNB := hid (HNq.out.trans (NextN.cells HNq.out.mem hkA b1 rfl rfl))
  have BB := hid (Bq.out.kept hkA (fun e => hbg e.symm))
  clear b1 hkA HNq Bq
  go_upto_region 10 with fail
  generalize wc.setCell ⟨b, 8, none⟩ (.int .i64 (wrapN (C.come + 1))) = V at *
  have y2 := BB.out.c2
  have hka := (Kept.refl (fun _ => False) V).alloc (.cells #[.string i.body] 9)
  have HNF := hid (HNB.out.kept0 hka)
  have HOF : Hid (OwnS (V.alloc (.cells #[.string i.body] 9)) V.heap.size (.slice (some ⟨V.heap.size, 0, none⟩) 1 1) [i.body]) := ⟨rfl, Or.inr ⟨V.heap.size, 1, #[.string i.body], rfl, Nat.le_refl _, heap_alloc_new V _, Nat.le_refl _, by unfold maxLen; omega, rfl, rfl⟩⟩
  clear hka e8 f8
  go_wp2
  go_returns
  rw [← HCC.out]
  refine ⟨_, vw, _, rfl, HNF.out, HOF.out.mono HNB.out.kept.size, fun j hj hs => ?_⟩
  have h1 := HNB.out.mem.lt hs
  have h2 : V.heap.size = j := by simpa [Value.ownBlock] using hj
  omega

theorem take_any {w : World} {b : Nat} {c : Cn} {vw vf : Value} (h : CnIn w b c vw vf) (hg : GoodN c) (i : Ite) :
    Calls Try.prog 15 #[.pointer (some ⟨b, 0, none⟩), iteV i] w (TakeP w b vw vf (takeN c i).1 (takeN c i).2) := by
  unfold takeN
  by_cases hd : c.dead = true
  · rw [if_pos (Or.inl hd)]
    exact take_dead h hg i hd
  · have hd' : c.dead = false := by simpa using hd
    by_cases h1 : numN i.ns = false
    · rw [if_pos (Or.inr (Or.inl h1))]
      exact take_ns h hg i hd' h1
    · have h1' : numN i.ns = true := by simpa using h1
      by_cases h2 : numN i.nr = false
      · rw [if_pos (Or.inr (Or.inr h2))]
        exact take_nr h hg i hd' h1' h2
      · have h2' : numN i.nr = true := by simpa using h2
        rw [if_neg (fun g => g.elim hd (fun g => g.elim h1 h2))]
        by_cases hx : i.body.size = 0
        · rw [if_pos hx]
          exact take_none h hg i hd' h1' h2' (by rw [isempty hx, ByteArray.toList_eq]; rfl)
        · rw [if_neg hx]
          by_cases hc : i.ns = (landN c (ackedN c i.nr)).come
          · rw [if_pos hc]
            exact take_ok h hg i hd' h1' h2' (nonempty hx) hc
          · rw [if_neg hc]
            exact take_other h hg i hd' h1' h2' (nonempty hx) hc
end Go.Proofs.Ytoflohomnoppnaa
