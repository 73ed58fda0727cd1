/- The walk of the law MsgBack. (Written by gen_msgback.py.) -/
import Derived.Test.YtkneogfeokckjaaDoorMsIn
import Derived.Test.YtkneogfeokckjaaDoorMsLdEq
import Derived.Test.YtkneogfeokckjaaDoorMgSame
import Derived.Test.YtkneogfeokckjaaDoorAvApp
namespace Go.Proofs.YtkneogfeokckjaaDoor
open Go.RowKit

set_option maxHeartbeats 4000000 in
set_option maxRecDepth 100000 in
theorem msgBack_heavy (ct cs cn cr : Int) (ca : List Av) (u : Value) (lt ls : Int) (lq : Bool) (ln lr : Int) (lx s m : ByteArray) (w : World) (hI : AvsIn w u ca) (hl : lightA ca = false) :
    Calls Tryd.prog 3 #[.agg #[.int .i64 ct, .int .i64 cs, .int .i64 cn, .int .i64 cr, u], .agg #[.int .i64 lt, .int .i64 ls, .bool lq, .int .i64 ln, .int .i64 lr, .string lx], .string s, .string m] w fun e w' => e = .returned (.bool true) ∧ Kept (fun _ => False) w w' := by
  have HA := hid aliveM_any
  have HL := hid (fun W (hk : Kept (fun _ => False) w W) => lightA_any u ca W (hI.kept hk).at_ hI.len hI.size)
  rw [hl] at HL
  obtain ⟨p, cap, rfl⟩ := RowsAt.slice hI.at_
  have HC0 := hid ((CtAt.new w ct cs cn cr (.slice p ca.length cap)).kept ((Kept.refl (fun _ => False) (w.alloc (.cells #[.int .i64 ct, .int .i64 cs, .int .i64 cn, .int .i64 cr, .slice p ca.length cap] 24))).alloc (.cells #[.int .i64 lt, .int .i64 ls, .bool lq, .int .i64 ln, .int .i64 lr, .string lx] 26)))
  have HB0 : Hid (LdAt ((w.alloc (.cells #[.int .i64 ct, .int .i64 cs, .int .i64 cn, .int .i64 cr, .slice p ca.length cap] 24)).alloc (.cells #[.int .i64 lt, .int .i64 ls, .bool lq, .int .i64 ln, .int .i64 lr, .string lx] 26)) (w.heap.size + 1) lt ls lq ln lr lx) := by
    have h := LdAt.new (w.alloc (.cells #[.int .i64 ct, .int .i64 cs, .int .i64 cn, .int .i64 cr, .slice p ca.length cap] 24)) lt ls lq ln lr lx
    rw [show (w.alloc (.cells #[.int .i64 ct, .int .i64 cs, .int .i64 cn, .int .i64 cr, .slice p ca.length cap] 24)).heap.size = w.heap.size + 1 from by simp] at h
    exact h
  have HK0 := hid (((Kept.refl (fun _ => False) w).alloc (.cells #[.int .i64 ct, .int .i64 cs, .int .i64 cn, .int .i64 cr, .slice p ca.length cap] 24)).alloc (.cells #[.int .i64 lt, .int .i64 ls, .bool lq, .int .i64 ln, .int .i64 lr, .string lx] 26))
  clear hI hl
  go_enter Tryd.func3, Tryd.ntmps3
  go_upto_region 1 with fail
  generalize (w.alloc (.cells #[.int .i64 ct, .int .i64 cs, .int .i64 cn, .int .i64 cr, .slice p ca.length cap] 24)).alloc (.cells #[.int .i64 lt, .int .i64 ls, .bool lq, .int .i64 ln, .int .i64 lr, .string lx] 26) = W0 at *
  obtain ⟨b0, b1, b2, b3, b4⟩ := HC0.out.cells
  go_wp2_with fail
  refine (HL.out _ HK0.out).mono ?_
  rintro e w1 ⟨rfl, hk1⟩
  have HK1 := hid (HK0.out.trans hk1)
  have HC1 := hid (HC0.out.kept hk1)
  have HB1 := hid (HB0.out.kept hk1)
  clear hk1 HK0 HC0 HB0 HL b0 b1 b2 b3 b4
  obtain ⟨b0, b1, b2, b3, b4⟩ := HC1.out.cells
  obtain ⟨d0, d1, d2, d3, d4, d5⟩ := HB1.out.cells
  go_wp2_with fail
  refine (HA.out _).mono ?_
  rintro e w2 ⟨rfl, hk2⟩
  have HK2 := hid (HK1.out.trans hk2)
  clear hk2
  go_wp2
  go_ret
  exact ⟨rfl, HK2.out⟩

set_option maxHeartbeats 4000000 in
set_option maxRecDepth 100000 in
theorem msgBack_long (ct cs cn cr : Int) (ca : List Av) (u : Value) (lt ls : Int) (lq : Bool) (ln lr : Int) (lx s m : ByteArray) (w : World) (hI : AvsIn w u ca) (hl : lightA ca = true) (hx : lx.size ≤ 140737488351232) (hs : s.size ≤ 140737488351232) (hm : m.size ≤ 140737488351232) (hsum : 3000 < lx.size + m.size + s.size) :
    Calls Tryd.prog 3 #[.agg #[.int .i64 ct, .int .i64 cs, .int .i64 cn, .int .i64 cr, u], .agg #[.int .i64 lt, .int .i64 ls, .bool lq, .int .i64 ln, .int .i64 lr, .string lx], .string s, .string m] w fun e w' => e = .returned (.bool true) ∧ Kept (fun _ => False) w w' := by
  have HA := hid aliveM_any
  have HL := hid (fun W (hk : Kept (fun _ => False) w W) => lightA_any u ca W (hI.kept hk).at_ hI.len hI.size)
  rw [hl] at HL
  obtain ⟨p, cap, rfl⟩ := RowsAt.slice hI.at_
  have HC0 := hid ((CtAt.new w ct cs cn cr (.slice p ca.length cap)).kept ((Kept.refl (fun _ => False) (w.alloc (.cells #[.int .i64 ct, .int .i64 cs, .int .i64 cn, .int .i64 cr, .slice p ca.length cap] 24))).alloc (.cells #[.int .i64 lt, .int .i64 ls, .bool lq, .int .i64 ln, .int .i64 lr, .string lx] 26)))
  have HB0 : Hid (LdAt ((w.alloc (.cells #[.int .i64 ct, .int .i64 cs, .int .i64 cn, .int .i64 cr, .slice p ca.length cap] 24)).alloc (.cells #[.int .i64 lt, .int .i64 ls, .bool lq, .int .i64 ln, .int .i64 lr, .string lx] 26)) (w.heap.size + 1) lt ls lq ln lr lx) := by
    have h := LdAt.new (w.alloc (.cells #[.int .i64 ct, .int .i64 cs, .int .i64 cn, .int .i64 cr, .slice p ca.length cap] 24)) lt ls lq ln lr lx
    rw [show (w.alloc (.cells #[.int .i64 ct, .int .i64 cs, .int .i64 cn, .int .i64 cr, .slice p ca.length cap] 24)).heap.size = w.heap.size + 1 from by simp] at h
    exact h
  have HK0 := hid (((Kept.refl (fun _ => False) w).alloc (.cells #[.int .i64 ct, .int .i64 cs, .int .i64 cn, .int .i64 cr, .slice p ca.length cap] 24)).alloc (.cells #[.int .i64 lt, .int .i64 ls, .bool lq, .int .i64 ln, .int .i64 lr, .string lx] 26))
  obtain ⟨A, hA⟩ : ∃ A, A = lx.size + m.size := ⟨_, rfl⟩
  obtain ⟨B, hB⟩ : ∃ B, B = A + s.size := ⟨_, rfl⟩
  have q1 : IntKind.i64.wrap ((lx.size : Int) + (m.size : Int)) = (A : Int) := by rw [IntKind.wrap_i64]; omega
  have q2 : IntKind.i64.wrap ((A : Int) + (s.size : Int)) = (B : Int) := by rw [IntKind.wrap_i64]; omega
  have q3 : (3000 : Int) < (B : Int) := by omega
  clear hA hB hsum hx hs hm
  clear hI hl
  go_enter Tryd.func3, Tryd.ntmps3
  go_upto_region 1 with fail
  generalize (w.alloc (.cells #[.int .i64 ct, .int .i64 cs, .int .i64 cn, .int .i64 cr, .slice p ca.length cap] 24)).alloc (.cells #[.int .i64 lt, .int .i64 ls, .bool lq, .int .i64 ln, .int .i64 lr, .string lx] 26) = W0 at *
  obtain ⟨b0, b1, b2, b3, b4⟩ := HC0.out.cells
  go_wp2_with fail
  refine (HL.out _ HK0.out).mono ?_
  rintro e w1 ⟨rfl, hk1⟩
  have HK1 := hid (HK0.out.trans hk1)
  have HC1 := hid (HC0.out.kept hk1)
  have HB1 := hid (HB0.out.kept hk1)
  clear hk1 HK0 HC0 HB0 HL b0 b1 b2 b3 b4
  obtain ⟨b0, b1, b2, b3, b4⟩ := HC1.out.cells
  obtain ⟨d0, d1, d2, d3, d4, d5⟩ := HB1.out.cells
  go_wp2_with fail
  refine (HA.out _).mono ?_
  rintro e w2 ⟨rfl, hk2⟩
  have HK2 := hid (HK1.out.trans hk2)
  clear hk2
  go_wp2
  go_ret
  exact ⟨rfl, HK2.out⟩

set_option maxHeartbeats 4000000 in
set_option maxRecDepth 100000 in
theorem msgBack_both (ct cs cn cr : Int) (ca : List Av) (u : Value) (lt ls : Int) (lq : Bool) (ln lr : Int) (lx s m : ByteArray) (w : World) (hI : AvsIn w u ca) (hl : lightA ca = true) (hsum : lx.size + m.size + s.size ≤ 3000) (hn : LdNum ⟨lt, ls, lq, ln, lr, lx⟩) (hT : Tables w) (he : (putCF ⟨ct, cs, cn, cr, ca⟩ s).2 = 0) (hh : (putLF ⟨lt, ls, lq, ln, lr, lx⟩).2 = 0) :
    Calls Tryd.prog 3 #[.agg #[.int .i64 ct, .int .i64 cs, .int .i64 cn, .int .i64 cr, u], .agg #[.int .i64 lt, .int .i64 ls, .bool lq, .int .i64 ln, .int .i64 lr, .string lx], .string s, .string m] w fun e w' => e = .returned (.bool true) ∧ Kept (fun _ => False) w w' := by
  have HA := hid aliveM_any
  have HL := hid (fun W (hk : Kept (fun _ => False) w W) => lightA_any u ca W (hI.kept hk).at_ hI.len hI.size)
  rw [hl] at HL
  have hlen := (lightA_true hl).1
  have HP := hid (fun W (hk : Kept (fun _ => False) w W) => putM_any ⟨ct, cs, cn, cr, ca⟩ u s W (hI.kept hk) (by omega) ((maskAt_of hT).kept hk))
  have HQ := hid (fun W => mPutLoad_any ⟨lt, ls, lq, ln, lr, lx⟩ (show lx.size ≤ _ by omega) W)
  have hbk := getCF_put he m
  obtain ⟨hi1, hg1, hS1, hS2⟩ := raw_load he
  rw [he] at HP
  generalize (putCF ⟨ct, cs, cn, cr, ca⟩ s).1 = S at *
  have HG := hid (fun W (hk : Kept (fun _ => False) w W) => mGet_any (S ++ m) s (by rw [ByteArray.size_append]; omega) (by omega) W (fun _ => (unmAt_of hT).kept hk))
  rw [hbk] at HG
  have HGL := hid (fun W => mGetLoad_any S (by omega) W)
  rw [hg1] at HGL
  have HIc := hid (fun W => mIsCtl_any S (by omega) W)
  rw [hi1] at HIc
  have HSame := hid (fun W v (hv : AvsAt W v ca) (hk : Kept (fun _ => False) w W) => rSameCtl_self ct cs cn cr u v ca W (hI.kept hk).at_ hv (by omega) hI.good)
  generalize (getLF S).1 = L1 at *
  obtain ⟨jt, js, jq, jn, jr, jx⟩ := L1
  unfold ldV at HGL
  have o1 : ¬ (9223372036854775807 < S.size + m.size) := by omega
  clear hbk hi1 hg1 he
  have hbk2 := getLF_put hh m
  obtain ⟨hi2, hT2, hg2⟩ := load_raw hh
  have hg2 := hg2 ⟨#[49, 50, 51, 52, 53, 54, 55, 56, 57, 48, 49, 50]⟩ s (by decide)
  have heq := fun W => ld_eqIn hn (show lx.size ≤ _ by unfold maxLen; omega) W
  rw [hh] at HQ
  generalize (putLF ⟨lt, ls, lq, ln, lr, lx⟩).1 = T at *
  have HGL2 := hid (fun W => mGetLoad_any (T ++ m) (by rw [ByteArray.size_append]; omega) W)
  rw [hbk2] at HGL2
  have HG2 := hid (fun W (hk : Kept (fun _ => False) w W) => mGet_any (T ++ ⟨#[49, 50, 51, 52, 53, 54, 55, 56, 57, 48, 49, 50]⟩) s (by rw [ByteArray.size_append, show (⟨#[49, 50, 51, 52, 53, 54, 55, 56, 57, 48, 49, 50]⟩ : ByteArray).size = 12 from rfl]; omega) (by omega) W (fun _ => (unmAt_of hT).kept hk))
  rw [hg2] at HG2
  generalize (getCF (T ++ ⟨#[49, 50, 51, 52, 53, 54, 55, 56, 57, 48, 49, 50]⟩) s).1 = C2 at *
  obtain ⟨kt, ks, kn, kr, ka⟩ := C2
  have HIl := hid (fun W => mIsCtl_any T (by omega) W)
  rw [hi2] at HIl
  unfold ldV at heq HGL2
  unfold ctV at HG2
  dsimp only at heq HGL2 HG2
  have o2 : ¬ (9223372036854775807 < T.size + m.size) := by omega
  have o3 : ¬ (9223372036854775807 < T.size + 12) := by omega
  clear hbk2 hi2 hg2 hh
  obtain ⟨p, cap, rfl⟩ := RowsAt.slice hI.at_
  have HC0 := hid ((CtAt.new w ct cs cn cr (.slice p ca.length cap)).kept ((Kept.refl (fun _ => False) (w.alloc (.cells #[.int .i64 ct, .int .i64 cs, .int .i64 cn, .int .i64 cr, .slice p ca.length cap] 24))).alloc (.cells #[.int .i64 lt, .int .i64 ls, .bool lq, .int .i64 ln, .int .i64 lr, .string lx] 26)))
  have HB0 : Hid (LdAt ((w.alloc (.cells #[.int .i64 ct, .int .i64 cs, .int .i64 cn, .int .i64 cr, .slice p ca.length cap] 24)).alloc (.cells #[.int .i64 lt, .int .i64 ls, .bool lq, .int .i64 ln, .int .i64 lr, .string lx] 26)) (w.heap.size + 1) lt ls lq ln lr lx) := by
    have h := LdAt.new (w.alloc (.cells #[.int .i64 ct, .int .i64 cs, .int .i64 cn, .int .i64 cr, .slice p ca.length cap] 24)) lt ls lq ln lr lx
    rw [show (w.alloc (.cells #[.int .i64 ct, .int .i64 cs, .int .i64 cn, .int .i64 cr, .slice p ca.length cap] 24)).heap.size = w.heap.size + 1 from by simp] at h
    exact h
  have HK0 := hid (((Kept.refl (fun _ => False) w).alloc (.cells #[.int .i64 ct, .int .i64 cs, .int .i64 cn, .int .i64 cr, .slice p ca.length cap] 24)).alloc (.cells #[.int .i64 lt, .int .i64 ls, .bool lq, .int .i64 ln, .int .i64 lr, .string lx] 26))
  obtain ⟨A, hA⟩ : ∃ A, A = lx.size + m.size := ⟨_, rfl⟩
  obtain ⟨B, hB⟩ : ∃ B, B = A + s.size := ⟨_, rfl⟩
  have q1 : IntKind.i64.wrap ((lx.size : Int) + (m.size : Int)) = (A : Int) := by rw [IntKind.wrap_i64]; omega
  have q2 : IntKind.i64.wrap ((A : Int) + (s.size : Int)) = (B : Int) := by rw [IntKind.wrap_i64]; omega
  have q3 : ¬ (3000 : Int) < (B : Int) := by omega
  unfold ctV at HP HG
  unfold ldV at HQ
  dsimp only at HP HQ HG HGL
  clear hA hB hsum hT hn hlen hS1 hS2 hT2
  clear hI hl
  go_enter Tryd.func3, Tryd.ntmps3
  go_upto_region 1 with fail
  generalize (w.alloc (.cells #[.int .i64 ct, .int .i64 cs, .int .i64 cn, .int .i64 cr, .slice p ca.length cap] 24)).alloc (.cells #[.int .i64 lt, .int .i64 ls, .bool lq, .int .i64 ln, .int .i64 lr, .string lx] 26) = W0 at *
  obtain ⟨b0, b1, b2, b3, b4⟩ := HC0.out.cells
  go_wp2_with fail
  refine (HL.out _ HK0.out).mono ?_
  rintro e w1 ⟨rfl, hk1⟩
  have HK1 := hid (HK0.out.trans hk1)
  have HC1 := hid (HC0.out.kept hk1)
  have HB1 := hid (HB0.out.kept hk1)
  clear hk1 HK0 HC0 HB0 HL b0 b1 b2 b3 b4
  obtain ⟨b0, b1, b2, b3, b4⟩ := HC1.out.cells
  obtain ⟨d0, d1, d2, d3, d4, d5⟩ := HB1.out.cells
  go_wp2_with fail
  refine (HP.out _ HK1.out).mono ?_
  rintro e w2 ⟨rfl, hk2⟩
  have HK2 := hid (HK1.out.trans hk2)
  have HC2 := hid (HC1.out.kept hk2)
  have HB2 := hid (HB1.out.kept hk2)
  clear hk2 HK1 HC1 HB1 HP b0 b1 b2 b3 b4 d0 d1 d2 d3 d4 d5
  obtain ⟨b0, b1, b2, b3, b4⟩ := HC2.out.cells
  obtain ⟨d0, d1, d2, d3, d4, d5⟩ := HB2.out.cells
  go_wp2_with fail
  refine (HG.out _ HK2.out).mono ?_
  rintro e w3 ⟨v3, rfl, ho3, hk3⟩
  obtain ⟨p3, c3, rfl⟩ := slice_of ho3
  have K3 := (Kept.refl (fun _ => False) w3).alloc (.cells #[.int .i64 ct, .int .i64 cs, .int .i64 cn, .int .i64 cr, .slice p3 ca.length c3] 24)
  have HD3 := hid (CtAt.new w3 ct cs cn cr (.slice p3 ca.length c3))
  have HO3 := hid (RowsAt.kept0 (OwnAv.at ho3) K3)
  have HK3 := hid ((HK2.out.trans hk3).trans K3)
  have HC3 := hid ((HC2.out.kept hk3).kept K3)
  have HB3 := hid ((HB2.out.kept hk3).kept K3)
  clear ho3 hk3 K3 HG HK2 HC2 HB2 b0 b1 b2 b3 b4 d0 d1 d2 d3 d4 d5
  go_upto_region 6 with fail
  generalize w3.alloc (.cells #[.int .i64 ct, .int .i64 cs, .int .i64 cn, .int .i64 cr, .slice p3 ca.length c3] 24) = W3 at *
  generalize w3.heap.size = g3 at *
  go_wp2_with fail
  refine (HGL.out _).mono ?_
  rintro e w4 ⟨rfl, hk4⟩
  have K4 := hk4.trans ((Kept.refl (fun _ => False) w4).alloc (.cells #[.int .i64 jt, .int .i64 js, .bool jq, .int .i64 jn, .int .i64 jr, .string jx] 26))
  have HD4 := hid (HD3.out.kept K4)
  have HO4 := hid (RowsAt.kept0 HO3.out K4)
  have HK4 := hid (HK3.out.trans K4)
  have HC4 := hid (HC3.out.kept K4)
  have HB4 := hid (HB3.out.kept K4)
  clear hk4 K4 HGL HD3 HO3 HK3 HC3 HB3
  go_upto_region 7 with fail
  generalize w4.alloc (.cells #[.int .i64 jt, .int .i64 js, .bool jq, .int .i64 jn, .int .i64 jr, .string jx] 26) = W4 at *
  generalize w4.heap.size = g4 at *
  obtain ⟨b0, b1, b2, b3, b4⟩ := HC4.out.cells
  obtain ⟨a0, a1, a2, a3, a4⟩ := HD4.out.cells
  go_wp2_with fail
  refine (HSame.out _ _ HO4.out HK4.out).mono ?_
  rintro e w5 ⟨rfl, hk5⟩
  have HK5 := hid (HK4.out.trans hk5)
  have HB5 := hid (HB4.out.kept hk5)
  clear hk5 HSame HD4 HO4 HK4 HC4 HB4 b0 b1 b2 b3 b4 a0 a1 a2 a3 a4
  go_wp2_with fail
  refine (HIc.out _).mono ?_
  rintro e w6 ⟨rfl, hk6⟩
  have HK6 := hid (HK5.out.trans hk6)
  have HB6 := hid (HB5.out.kept hk6)
  clear hk6 HIc HK5 HB5
  obtain ⟨d0, d1, d2, d3, d4, d5⟩ := HB6.out.cells
  go_wp2_with fail
  refine (HQ.out _).mono ?_
  rintro e w7 ⟨rfl, hk7⟩
  have HK7 := hid (HK6.out.trans hk7)
  have HB7 := hid (HB6.out.kept hk7)
  clear hk7 HQ HK6 HB6 d0 d1 d2 d3 d4 d5
  go_wp2_with fail
  refine (HGL2.out _).mono ?_
  rintro e w8 ⟨rfl, hk8⟩
  have K8 := (Kept.refl (fun _ => False) w8).alloc (.cells #[.int .i64 lt, .int .i64 ls, .bool lq, .int .i64 ln, .int .i64 lr, .string lx] 26)
  have HD8 := hid (LdAt.new w8 lt ls lq ln lr lx)
  have HK8 := hid ((HK7.out.trans hk8).trans K8)
  have HB8 := hid ((HB7.out.kept hk8).kept K8)
  clear hk8 K8 HGL2 HK7 HB7
  go_upto_region 12 with fail
  generalize w8.alloc (.cells #[.int .i64 lt, .int .i64 ls, .bool lq, .int .i64 ln, .int .i64 lr, .string lx] 26) = W8 at *
  generalize w8.heap.size = g8 at *
  go_wp2_with fail
  refine (HG2.out _ HK8.out).mono ?_
  rintro e w9 ⟨v9, rfl, ho9, hk9⟩
  obtain ⟨p9, c9, rfl⟩ := slice_of ho9
  have K9 := hk9.trans ((Kept.refl (fun _ => False) w9).alloc (.cells #[.int .i64 kt, .int .i64 ks, .int .i64 kn, .int .i64 kr, .slice p9 ka.length c9] 24))
  have HD9 := hid (HD8.out.kept K9)
  have HK9 := hid (HK8.out.trans K9)
  have HB9 := hid (HB8.out.kept K9)
  clear ho9 hk9 K9 HG2 HK8 HB8 HD8
  go_upto_region 13 with fail
  generalize w9.alloc (.cells #[.int .i64 kt, .int .i64 ks, .int .i64 kn, .int .i64 kr, .slice p9 ka.length c9] 24) = W9 at *
  obtain ⟨d0, d1, d2, d3, d4, d5⟩ := HB9.out.cells
  obtain ⟨a0, a1, a2, a3, a4, a5⟩ := HD9.out.cells
  go_wp2_with fail
  refine (HIl.out _).mono ?_
  rintro e w10 ⟨rfl, hk10⟩
  have HK10 := hid (HK9.out.trans hk10)
  clear hk10 HIl HK9 HB9 HD9 d0 d1 d2 d3 d4 d5 a0 a1 a2 a3 a4 a5
  go_wp2_with fail
  refine (HA.out _).mono ?_
  rintro e w11 ⟨rfl, hk11⟩
  have HK11 := hid (HK10.out.trans hk11)
  clear hk11
  go_wp2
  go_ret
  exact ⟨rfl, HK11.out⟩

set_option maxHeartbeats 4000000 in
set_option maxRecDepth 100000 in
theorem msgBack_ctl (ct cs cn cr : Int) (ca : List Av) (u : Value) (lt ls : Int) (lq : Bool) (ln lr : Int) (lx s m : ByteArray) (w : World) (hI : AvsIn w u ca) (hl : lightA ca = true) (hsum : lx.size + m.size + s.size ≤ 3000) (_hn : LdNum ⟨lt, ls, lq, ln, lr, lx⟩) (hT : Tables w) (he : (putCF ⟨ct, cs, cn, cr, ca⟩ s).2 = 0) (hh : (putLF ⟨lt, ls, lq, ln, lr, lx⟩).2 ≠ 0) :
    Calls Tryd.prog 3 #[.agg #[.int .i64 ct, .int .i64 cs, .int .i64 cn, .int .i64 cr, u], .agg #[.int .i64 lt, .int .i64 ls, .bool lq, .int .i64 ln, .int .i64 lr, .string lx], .string s, .string m] w fun e w' => e = .returned (.bool true) ∧ Kept (fun _ => False) w w' := by
  have HA := hid aliveM_any
  have HL := hid (fun W (hk : Kept (fun _ => False) w W) => lightA_any u ca W (hI.kept hk).at_ hI.len hI.size)
  rw [hl] at HL
  have hlen := (lightA_true hl).1
  have HP := hid (fun W (hk : Kept (fun _ => False) w W) => putM_any ⟨ct, cs, cn, cr, ca⟩ u s W (hI.kept hk) (by omega) ((maskAt_of hT).kept hk))
  have HQ := hid (fun W => mPutLoad_any ⟨lt, ls, lq, ln, lr, lx⟩ (show lx.size ≤ _ by omega) W)
  have hbk := getCF_put he m
  obtain ⟨hi1, hg1, hS1, hS2⟩ := raw_load he
  rw [he] at HP
  generalize (putCF ⟨ct, cs, cn, cr, ca⟩ s).1 = S at *
  have HG := hid (fun W (hk : Kept (fun _ => False) w W) => mGet_any (S ++ m) s (by rw [ByteArray.size_append]; omega) (by omega) W (fun _ => (unmAt_of hT).kept hk))
  rw [hbk] at HG
  have HGL := hid (fun W => mGetLoad_any S (by omega) W)
  rw [hg1] at HGL
  have HIc := hid (fun W => mIsCtl_any S (by omega) W)
  rw [hi1] at HIc
  have HSame := hid (fun W v (hv : AvsAt W v ca) (hk : Kept (fun _ => False) w W) => rSameCtl_self ct cs cn cr u v ca W (hI.kept hk).at_ hv (by omega) hI.good)
  generalize (getLF S).1 = L1 at *
  obtain ⟨jt, js, jq, jn, jr, jx⟩ := L1
  unfold ldV at HGL
  have o1 : ¬ (9223372036854775807 < S.size + m.size) := by omega
  clear hbk hi1 hg1 he
  generalize (putLF ⟨lt, ls, lq, ln, lr, lx⟩).2 = H at *
  generalize (putLF ⟨lt, ls, lq, ln, lr, lx⟩).1 = T at *
  have hhz : (H == 0) = false := by rw [beq_eq_false_iff_ne]; exact hh
  clear hh
  obtain ⟨p, cap, rfl⟩ := RowsAt.slice hI.at_
  have HC0 := hid ((CtAt.new w ct cs cn cr (.slice p ca.length cap)).kept ((Kept.refl (fun _ => False) (w.alloc (.cells #[.int .i64 ct, .int .i64 cs, .int .i64 cn, .int .i64 cr, .slice p ca.length cap] 24))).alloc (.cells #[.int .i64 lt, .int .i64 ls, .bool lq, .int .i64 ln, .int .i64 lr, .string lx] 26)))
  have HB0 : Hid (LdAt ((w.alloc (.cells #[.int .i64 ct, .int .i64 cs, .int .i64 cn, .int .i64 cr, .slice p ca.length cap] 24)).alloc (.cells #[.int .i64 lt, .int .i64 ls, .bool lq, .int .i64 ln, .int .i64 lr, .string lx] 26)) (w.heap.size + 1) lt ls lq ln lr lx) := by
    have h := LdAt.new (w.alloc (.cells #[.int .i64 ct, .int .i64 cs, .int .i64 cn, .int .i64 cr, .slice p ca.length cap] 24)) lt ls lq ln lr lx
    rw [show (w.alloc (.cells #[.int .i64 ct, .int .i64 cs, .int .i64 cn, .int .i64 cr, .slice p ca.length cap] 24)).heap.size = w.heap.size + 1 from by simp] at h
    exact h
  have HK0 := hid (((Kept.refl (fun _ => False) w).alloc (.cells #[.int .i64 ct, .int .i64 cs, .int .i64 cn, .int .i64 cr, .slice p ca.length cap] 24)).alloc (.cells #[.int .i64 lt, .int .i64 ls, .bool lq, .int .i64 ln, .int .i64 lr, .string lx] 26))
  obtain ⟨A, hA⟩ : ∃ A, A = lx.size + m.size := ⟨_, rfl⟩
  obtain ⟨B, hB⟩ : ∃ B, B = A + s.size := ⟨_, rfl⟩
  have q1 : IntKind.i64.wrap ((lx.size : Int) + (m.size : Int)) = (A : Int) := by rw [IntKind.wrap_i64]; omega
  have q2 : IntKind.i64.wrap ((A : Int) + (s.size : Int)) = (B : Int) := by rw [IntKind.wrap_i64]; omega
  have q3 : ¬ (3000 : Int) < (B : Int) := by omega
  unfold ctV at HP HG
  unfold ldV at HQ
  dsimp only at HP HQ HG HGL
  clear hA hB hsum hT _hn hlen hS1 hS2 
  clear hI hl
  go_enter Tryd.func3, Tryd.ntmps3
  go_upto_region 1 with fail
  generalize (w.alloc (.cells #[.int .i64 ct, .int .i64 cs, .int .i64 cn, .int .i64 cr, .slice p ca.length cap] 24)).alloc (.cells #[.int .i64 lt, .int .i64 ls, .bool lq, .int .i64 ln, .int .i64 lr, .string lx] 26) = W0 at *
  obtain ⟨b0, b1, b2, b3, b4⟩ := HC0.out.cells
  go_wp2_with fail
  refine (HL.out _ HK0.out).mono ?_
  rintro e w1 ⟨rfl, hk1⟩
  have HK1 := hid (HK0.out.trans hk1)
  have HC1 := hid (HC0.out.kept hk1)
  have HB1 := hid (HB0.out.kept hk1)
  clear hk1 HK0 HC0 HB0 HL b0 b1 b2 b3 b4
  obtain ⟨b0, b1, b2, b3, b4⟩ := HC1.out.cells
  obtain ⟨d0, d1, d2, d3, d4, d5⟩ := HB1.out.cells
  go_wp2_with fail
  refine (HP.out _ HK1.out).mono ?_
  rintro e w2 ⟨rfl, hk2⟩
  have HK2 := hid (HK1.out.trans hk2)
  have HC2 := hid (HC1.out.kept hk2)
  have HB2 := hid (HB1.out.kept hk2)
  clear hk2 HK1 HC1 HB1 HP b0 b1 b2 b3 b4 d0 d1 d2 d3 d4 d5
  obtain ⟨b0, b1, b2, b3, b4⟩ := HC2.out.cells
  obtain ⟨d0, d1, d2, d3, d4, d5⟩ := HB2.out.cells
  go_wp2_with fail
  refine (HG.out _ HK2.out).mono ?_
  rintro e w3 ⟨v3, rfl, ho3, hk3⟩
  obtain ⟨p3, c3, rfl⟩ := slice_of ho3
  have K3 := (Kept.refl (fun _ => False) w3).alloc (.cells #[.int .i64 ct, .int .i64 cs, .int .i64 cn, .int .i64 cr, .slice p3 ca.length c3] 24)
  have HD3 := hid (CtAt.new w3 ct cs cn cr (.slice p3 ca.length c3))
  have HO3 := hid (RowsAt.kept0 (OwnAv.at ho3) K3)
  have HK3 := hid ((HK2.out.trans hk3).trans K3)
  have HC3 := hid ((HC2.out.kept hk3).kept K3)
  have HB3 := hid ((HB2.out.kept hk3).kept K3)
  clear ho3 hk3 K3 HG HK2 HC2 HB2 b0 b1 b2 b3 b4 d0 d1 d2 d3 d4 d5
  go_upto_region 6 with fail
  generalize w3.alloc (.cells #[.int .i64 ct, .int .i64 cs, .int .i64 cn, .int .i64 cr, .slice p3 ca.length c3] 24) = W3 at *
  generalize w3.heap.size = g3 at *
  go_wp2_with fail
  refine (HGL.out _).mono ?_
  rintro e w4 ⟨rfl, hk4⟩
  have K4 := hk4.trans ((Kept.refl (fun _ => False) w4).alloc (.cells #[.int .i64 jt, .int .i64 js, .bool jq, .int .i64 jn, .int .i64 jr, .string jx] 26))
  have HD4 := hid (HD3.out.kept K4)
  have HO4 := hid (RowsAt.kept0 HO3.out K4)
  have HK4 := hid (HK3.out.trans K4)
  have HC4 := hid (HC3.out.kept K4)
  have HB4 := hid (HB3.out.kept K4)
  clear hk4 K4 HGL HD3 HO3 HK3 HC3 HB3
  go_upto_region 7 with fail
  generalize w4.alloc (.cells #[.int .i64 jt, .int .i64 js, .bool jq, .int .i64 jn, .int .i64 jr, .string jx] 26) = W4 at *
  generalize w4.heap.size = g4 at *
  obtain ⟨b0, b1, b2, b3, b4⟩ := HC4.out.cells
  obtain ⟨a0, a1, a2, a3, a4⟩ := HD4.out.cells
  go_wp2_with fail
  refine (HSame.out _ _ HO4.out HK4.out).mono ?_
  rintro e w5 ⟨rfl, hk5⟩
  have HK5 := hid (HK4.out.trans hk5)
  have HB5 := hid (HB4.out.kept hk5)
  clear hk5 HSame HD4 HO4 HK4 HC4 HB4 b0 b1 b2 b3 b4 a0 a1 a2 a3 a4
  go_wp2_with fail
  refine (HIc.out _).mono ?_
  rintro e w6 ⟨rfl, hk6⟩
  have HK6 := hid (HK5.out.trans hk6)
  have HB6 := hid (HB5.out.kept hk6)
  clear hk6 HIc HK5 HB5
  obtain ⟨d0, d1, d2, d3, d4, d5⟩ := HB6.out.cells
  go_wp2_with fail
  refine (HQ.out _).mono ?_
  rintro e w7 ⟨rfl, hk7⟩
  have HK7 := hid (HK6.out.trans hk7)
  have HB7 := hid (HB6.out.kept hk7)
  clear hk7 HQ HK6 HB6 d0 d1 d2 d3 d4 d5
  go_wp2_with fail
  refine (HA.out _).mono ?_
  rintro e w11 ⟨rfl, hk11⟩
  have HK11 := hid (HK7.out.trans hk11)
  clear hk11
  go_wp2
  go_ret
  exact ⟨rfl, HK11.out⟩

set_option maxHeartbeats 4000000 in
set_option maxRecDepth 100000 in
theorem msgBack_load (ct cs cn cr : Int) (ca : List Av) (u : Value) (lt ls : Int) (lq : Bool) (ln lr : Int) (lx s m : ByteArray) (w : World) (hI : AvsIn w u ca) (hl : lightA ca = true) (hsum : lx.size + m.size + s.size ≤ 3000) (hn : LdNum ⟨lt, ls, lq, ln, lr, lx⟩) (hT : Tables w) (he : (putCF ⟨ct, cs, cn, cr, ca⟩ s).2 ≠ 0) (hh : (putLF ⟨lt, ls, lq, ln, lr, lx⟩).2 = 0) :
    Calls Tryd.prog 3 #[.agg #[.int .i64 ct, .int .i64 cs, .int .i64 cn, .int .i64 cr, u], .agg #[.int .i64 lt, .int .i64 ls, .bool lq, .int .i64 ln, .int .i64 lr, .string lx], .string s, .string m] w fun e w' => e = .returned (.bool true) ∧ Kept (fun _ => False) w w' := by
  have HA := hid aliveM_any
  have HL := hid (fun W (hk : Kept (fun _ => False) w W) => lightA_any u ca W (hI.kept hk).at_ hI.len hI.size)
  rw [hl] at HL
  have hlen := (lightA_true hl).1
  have HP := hid (fun W (hk : Kept (fun _ => False) w W) => putM_any ⟨ct, cs, cn, cr, ca⟩ u s W (hI.kept hk) (by omega) ((maskAt_of hT).kept hk))
  have HQ := hid (fun W => mPutLoad_any ⟨lt, ls, lq, ln, lr, lx⟩ (show lx.size ≤ _ by omega) W)
  generalize (putCF ⟨ct, cs, cn, cr, ca⟩ s).2 = E at *
  generalize (putCF ⟨ct, cs, cn, cr, ca⟩ s).1 = S at *
  have hez : (E == 0) = false := by rw [beq_eq_false_iff_ne]; exact he
  clear he
  have hbk2 := getLF_put hh m
  obtain ⟨hi2, hT2, hg2⟩ := load_raw hh
  have hg2 := hg2 ⟨#[49, 50, 51, 52, 53, 54, 55, 56, 57, 48, 49, 50]⟩ s (by decide)
  have heq := fun W => ld_eqIn hn (show lx.size ≤ _ by unfold maxLen; omega) W
  rw [hh] at HQ
  generalize (putLF ⟨lt, ls, lq, ln, lr, lx⟩).1 = T at *
  have HGL2 := hid (fun W => mGetLoad_any (T ++ m) (by rw [ByteArray.size_append]; omega) W)
  rw [hbk2] at HGL2
  have HG2 := hid (fun W (hk : Kept (fun _ => False) w W) => mGet_any (T ++ ⟨#[49, 50, 51, 52, 53, 54, 55, 56, 57, 48, 49, 50]⟩) s (by rw [ByteArray.size_append, show (⟨#[49, 50, 51, 52, 53, 54, 55, 56, 57, 48, 49, 50]⟩ : ByteArray).size = 12 from rfl]; omega) (by omega) W (fun _ => (unmAt_of hT).kept hk))
  rw [hg2] at HG2
  generalize (getCF (T ++ ⟨#[49, 50, 51, 52, 53, 54, 55, 56, 57, 48, 49, 50]⟩) s).1 = C2 at *
  obtain ⟨kt, ks, kn, kr, ka⟩ := C2
  have HIl := hid (fun W => mIsCtl_any T (by omega) W)
  rw [hi2] at HIl
  unfold ldV at heq HGL2
  unfold ctV at HG2
  dsimp only at heq HGL2 HG2
  have o2 : ¬ (9223372036854775807 < T.size + m.size) := by omega
  have o3 : ¬ (9223372036854775807 < T.size + 12) := by omega
  clear hbk2 hi2 hg2 hh
  obtain ⟨p, cap, rfl⟩ := RowsAt.slice hI.at_
  have HC0 := hid ((CtAt.new w ct cs cn cr (.slice p ca.length cap)).kept ((Kept.refl (fun _ => False) (w.alloc (.cells #[.int .i64 ct, .int .i64 cs, .int .i64 cn, .int .i64 cr, .slice p ca.length cap] 24))).alloc (.cells #[.int .i64 lt, .int .i64 ls, .bool lq, .int .i64 ln, .int .i64 lr, .string lx] 26)))
  have HB0 : Hid (LdAt ((w.alloc (.cells #[.int .i64 ct, .int .i64 cs, .int .i64 cn, .int .i64 cr, .slice p ca.length cap] 24)).alloc (.cells #[.int .i64 lt, .int .i64 ls, .bool lq, .int .i64 ln, .int .i64 lr, .string lx] 26)) (w.heap.size + 1) lt ls lq ln lr lx) := by
    have h := LdAt.new (w.alloc (.cells #[.int .i64 ct, .int .i64 cs, .int .i64 cn, .int .i64 cr, .slice p ca.length cap] 24)) lt ls lq ln lr lx
    rw [show (w.alloc (.cells #[.int .i64 ct, .int .i64 cs, .int .i64 cn, .int .i64 cr, .slice p ca.length cap] 24)).heap.size = w.heap.size + 1 from by simp] at h
    exact h
  have HK0 := hid (((Kept.refl (fun _ => False) w).alloc (.cells #[.int .i64 ct, .int .i64 cs, .int .i64 cn, .int .i64 cr, .slice p ca.length cap] 24)).alloc (.cells #[.int .i64 lt, .int .i64 ls, .bool lq, .int .i64 ln, .int .i64 lr, .string lx] 26))
  obtain ⟨A, hA⟩ : ∃ A, A = lx.size + m.size := ⟨_, rfl⟩
  obtain ⟨B, hB⟩ : ∃ B, B = A + s.size := ⟨_, rfl⟩
  have q1 : IntKind.i64.wrap ((lx.size : Int) + (m.size : Int)) = (A : Int) := by rw [IntKind.wrap_i64]; omega
  have q2 : IntKind.i64.wrap ((A : Int) + (s.size : Int)) = (B : Int) := by rw [IntKind.wrap_i64]; omega
  have q3 : ¬ (3000 : Int) < (B : Int) := by omega
  unfold ctV at HP 
  unfold ldV at HQ
  dsimp only at HP HQ 
  clear hA hB hsum hT hn hlen  hT2
  clear hI hl
  go_enter Tryd.func3, Tryd.ntmps3
  go_upto_region 1 with fail
  generalize (w.alloc (.cells #[.int .i64 ct, .int .i64 cs, .int .i64 cn, .int .i64 cr, .slice p ca.length cap] 24)).alloc (.cells #[.int .i64 lt, .int .i64 ls, .bool lq, .int .i64 ln, .int .i64 lr, .string lx] 26) = W0 at *
  obtain ⟨b0, b1, b2, b3, b4⟩ := HC0.out.cells
  go_wp2_with fail
  refine (HL.out _ HK0.out).mono ?_
  rintro e w1 ⟨rfl, hk1⟩
  have HK1 := hid (HK0.out.trans hk1)
  have HC1 := hid (HC0.out.kept hk1)
  have HB1 := hid (HB0.out.kept hk1)
  clear hk1 HK0 HC0 HB0 HL b0 b1 b2 b3 b4
  obtain ⟨b0, b1, b2, b3, b4⟩ := HC1.out.cells
  obtain ⟨d0, d1, d2, d3, d4, d5⟩ := HB1.out.cells
  go_wp2_with fail
  refine (HP.out _ HK1.out).mono ?_
  rintro e w2 ⟨rfl, hk2⟩
  have HK2 := hid (HK1.out.trans hk2)
  have HC2 := hid (HC1.out.kept hk2)
  have HB2 := hid (HB1.out.kept hk2)
  clear hk2 HK1 HC1 HB1 HP b0 b1 b2 b3 b4 d0 d1 d2 d3 d4 d5
  obtain ⟨b0, b1, b2, b3, b4⟩ := HC2.out.cells
  obtain ⟨d0, d1, d2, d3, d4, d5⟩ := HB2.out.cells
  go_wp2_with fail
  refine (HQ.out _).mono ?_
  rintro e w7 ⟨rfl, hk7⟩
  have HK7 := hid (HK2.out.trans hk7)
  have HB7 := hid (HB2.out.kept hk7)
  clear hk7 HQ HK2 HB2 d0 d1 d2 d3 d4 d5
  go_wp2_with fail
  refine (HGL2.out _).mono ?_
  rintro e w8 ⟨rfl, hk8⟩
  have K8 := (Kept.refl (fun _ => False) w8).alloc (.cells #[.int .i64 lt, .int .i64 ls, .bool lq, .int .i64 ln, .int .i64 lr, .string lx] 26)
  have HD8 := hid (LdAt.new w8 lt ls lq ln lr lx)
  have HK8 := hid ((HK7.out.trans hk8).trans K8)
  have HB8 := hid ((HB7.out.kept hk8).kept K8)
  clear hk8 K8 HGL2 HK7 HB7
  go_upto_region 12 with fail
  generalize w8.alloc (.cells #[.int .i64 lt, .int .i64 ls, .bool lq, .int .i64 ln, .int .i64 lr, .string lx] 26) = W8 at *
  generalize w8.heap.size = g8 at *
  go_wp2_with fail
  refine (HG2.out _ HK8.out).mono ?_
  rintro e w9 ⟨v9, rfl, ho9, hk9⟩
  obtain ⟨p9, c9, rfl⟩ := slice_of ho9
  have K9 := hk9.trans ((Kept.refl (fun _ => False) w9).alloc (.cells #[.int .i64 kt, .int .i64 ks, .int .i64 kn, .int .i64 kr, .slice p9 ka.length c9] 24))
  have HD9 := hid (HD8.out.kept K9)
  have HK9 := hid (HK8.out.trans K9)
  have HB9 := hid (HB8.out.kept K9)
  clear ho9 hk9 K9 HG2 HK8 HB8 HD8
  go_upto_region 13 with fail
  generalize w9.alloc (.cells #[.int .i64 kt, .int .i64 ks, .int .i64 kn, .int .i64 kr, .slice p9 ka.length c9] 24) = W9 at *
  obtain ⟨d0, d1, d2, d3, d4, d5⟩ := HB9.out.cells
  obtain ⟨a0, a1, a2, a3, a4, a5⟩ := HD9.out.cells
  go_wp2_with fail
  refine (HIl.out _).mono ?_
  rintro e w10 ⟨rfl, hk10⟩
  have HK10 := hid (HK9.out.trans hk10)
  clear hk10 HIl HK9 HB9 HD9 d0 d1 d2 d3 d4 d5 a0 a1 a2 a3 a4 a5
  go_wp2_with fail
  refine (HA.out _).mono ?_
  rintro e w11 ⟨rfl, hk11⟩
  have HK11 := hid (HK10.out.trans hk11)
  clear hk11
  go_wp2
  go_ret
  exact ⟨rfl, HK11.out⟩

set_option maxHeartbeats 4000000 in
set_option maxRecDepth 100000 in
theorem msgBack_none (ct cs cn cr : Int) (ca : List Av) (u : Value) (lt ls : Int) (lq : Bool) (ln lr : Int) (lx s m : ByteArray) (w : World) (hI : AvsIn w u ca) (hl : lightA ca = true) (hsum : lx.size + m.size + s.size ≤ 3000) (_hn : LdNum ⟨lt, ls, lq, ln, lr, lx⟩) (hT : Tables w) (he : (putCF ⟨ct, cs, cn, cr, ca⟩ s).2 ≠ 0) (hh : (putLF ⟨lt, ls, lq, ln, lr, lx⟩).2 ≠ 0) :
    Calls Tryd.prog 3 #[.agg #[.int .i64 ct, .int .i64 cs, .int .i64 cn, .int .i64 cr, u], .agg #[.int .i64 lt, .int .i64 ls, .bool lq, .int .i64 ln, .int .i64 lr, .string lx], .string s, .string m] w fun e w' => e = .returned (.bool true) ∧ Kept (fun _ => False) w w' := by
  have HA := hid aliveM_any
  have HL := hid (fun W (hk : Kept (fun _ => False) w W) => lightA_any u ca W (hI.kept hk).at_ hI.len hI.size)
  rw [hl] at HL
  have hlen := (lightA_true hl).1
  have HP := hid (fun W (hk : Kept (fun _ => False) w W) => putM_any ⟨ct, cs, cn, cr, ca⟩ u s W (hI.kept hk) (by omega) ((maskAt_of hT).kept hk))
  have HQ := hid (fun W => mPutLoad_any ⟨lt, ls, lq, ln, lr, lx⟩ (show lx.size ≤ _ by omega) W)
  generalize (putCF ⟨ct, cs, cn, cr, ca⟩ s).2 = E at *
  generalize (putCF ⟨ct, cs, cn, cr, ca⟩ s).1 = S at *
  have hez : (E == 0) = false := by rw [beq_eq_false_iff_ne]; exact he
  clear he
  generalize (putLF ⟨lt, ls, lq, ln, lr, lx⟩).2 = H at *
  generalize (putLF ⟨lt, ls, lq, ln, lr, lx⟩).1 = T at *
  have hhz : (H == 0) = false := by rw [beq_eq_false_iff_ne]; exact hh
  clear hh
  obtain ⟨p, cap, rfl⟩ := RowsAt.slice hI.at_
  have HC0 := hid ((CtAt.new w ct cs cn cr (.slice p ca.length cap)).kept ((Kept.refl (fun _ => False) (w.alloc (.cells #[.int .i64 ct, .int .i64 cs, .int .i64 cn, .int .i64 cr, .slice p ca.length cap] 24))).alloc (.cells #[.int .i64 lt, .int .i64 ls, .bool lq, .int .i64 ln, .int .i64 lr, .string lx] 26)))
  have HB0 : Hid (LdAt ((w.alloc (.cells #[.int .i64 ct, .int .i64 cs, .int .i64 cn, .int .i64 cr, .slice p ca.length cap] 24)).alloc (.cells #[.int .i64 lt, .int .i64 ls, .bool lq, .int .i64 ln, .int .i64 lr, .string lx] 26)) (w.heap.size + 1) lt ls lq ln lr lx) := by
    have h := LdAt.new (w.alloc (.cells #[.int .i64 ct, .int .i64 cs, .int .i64 cn, .int .i64 cr, .slice p ca.length cap] 24)) lt ls lq ln lr lx
    rw [show (w.alloc (.cells #[.int .i64 ct, .int .i64 cs, .int .i64 cn, .int .i64 cr, .slice p ca.length cap] 24)).heap.size = w.heap.size + 1 from by simp] at h
    exact h
  have HK0 := hid (((Kept.refl (fun _ => False) w).alloc (.cells #[.int .i64 ct, .int .i64 cs, .int .i64 cn, .int .i64 cr, .slice p ca.length cap] 24)).alloc (.cells #[.int .i64 lt, .int .i64 ls, .bool lq, .int .i64 ln, .int .i64 lr, .string lx] 26))
  obtain ⟨A, hA⟩ : ∃ A, A = lx.size + m.size := ⟨_, rfl⟩
  obtain ⟨B, hB⟩ : ∃ B, B = A + s.size := ⟨_, rfl⟩
  have q1 : IntKind.i64.wrap ((lx.size : Int) + (m.size : Int)) = (A : Int) := by rw [IntKind.wrap_i64]; omega
  have q2 : IntKind.i64.wrap ((A : Int) + (s.size : Int)) = (B : Int) := by rw [IntKind.wrap_i64]; omega
  have q3 : ¬ (3000 : Int) < (B : Int) := by omega
  unfold ctV at HP 
  unfold ldV at HQ
  dsimp only at HP HQ 
  clear hA hB hsum hT _hn hlen  
  clear hI hl
  go_enter Tryd.func3, Tryd.ntmps3
  go_upto_region 1 with fail
  generalize (w.alloc (.cells #[.int .i64 ct, .int .i64 cs, .int .i64 cn, .int .i64 cr, .slice p ca.length cap] 24)).alloc (.cells #[.int .i64 lt, .int .i64 ls, .bool lq, .int .i64 ln, .int .i64 lr, .string lx] 26) = W0 at *
  obtain ⟨b0, b1, b2, b3, b4⟩ := HC0.out.cells
  go_wp2_with fail
  refine (HL.out _ HK0.out).mono ?_
  rintro e w1 ⟨rfl, hk1⟩
  have HK1 := hid (HK0.out.trans hk1)
  have HC1 := hid (HC0.out.kept hk1)
  have HB1 := hid (HB0.out.kept hk1)
  clear hk1 HK0 HC0 HB0 HL b0 b1 b2 b3 b4
  obtain ⟨b0, b1, b2, b3, b4⟩ := HC1.out.cells
  obtain ⟨d0, d1, d2, d3, d4, d5⟩ := HB1.out.cells
  go_wp2_with fail
  refine (HP.out _ HK1.out).mono ?_
  rintro e w2 ⟨rfl, hk2⟩
  have HK2 := hid (HK1.out.trans hk2)
  have HC2 := hid (HC1.out.kept hk2)
  have HB2 := hid (HB1.out.kept hk2)
  clear hk2 HK1 HC1 HB1 HP b0 b1 b2 b3 b4 d0 d1 d2 d3 d4 d5
  obtain ⟨b0, b1, b2, b3, b4⟩ := HC2.out.cells
  obtain ⟨d0, d1, d2, d3, d4, d5⟩ := HB2.out.cells
  go_wp2_with fail
  refine (HQ.out _).mono ?_
  rintro e w7 ⟨rfl, hk7⟩
  have HK7 := hid (HK2.out.trans hk7)
  have HB7 := hid (HB2.out.kept hk7)
  clear hk7 HQ HK2 HB2 d0 d1 d2 d3 d4 d5
  go_wp2_with fail
  refine (HA.out _).mono ?_
  rintro e w11 ⟨rfl, hk11⟩
  have HK11 := hid (HK7.out.trans hk11)
  clear hk11
  go_wp2
  go_ret
  exact ⟨rfl, HK11.out⟩

theorem msgBack_walk (c : Ct) (u : Value) (l : Ld) (s m : ByteArray) (w : World) (_hc : CtNum c) (hI : AvsIn w u c.avps) (hn : LdNum l) (hx : l.data.size ≤ 140737488351232) (hs : s.size ≤ 140737488351232) (hm : m.size ≤ 140737488351232) (hT : Tables w) :
    Calls Tryd.prog 3 #[ctV c u, ldV l, .string s, .string m] w fun e w' => e = .returned (.bool true) ∧ Below w.heap.size w w' := by
  refine (?_ : Calls Tryd.prog 3 #[ctV c u, ldV l, .string s, .string m] w fun e w' => e = .returned (.bool true) ∧ Kept (fun _ => False) w w').mono fun _ _ ⟨h1, h2⟩ => ⟨h1, below_of h2⟩
  obtain ⟨ct, cs, cn, cr, ca⟩ := c
  obtain ⟨lt, ls, lq, ln, lr, lx⟩ := l
  cases hl : lightA ca with
  | false => exact msgBack_heavy ct cs cn cr ca u lt ls lq ln lr lx s m w hI hl
  | true =>
    by_cases hsum : 3000 < lx.size + m.size + s.size
    · exact msgBack_long ct cs cn cr ca u lt ls lq ln lr lx s m w hI hl hx hs hm hsum
    have hsum : lx.size + m.size + s.size ≤ 3000 := by omega
    by_cases he : (putCF ⟨ct, cs, cn, cr, ca⟩ s).2 = 0
    · by_cases hh : (putLF ⟨lt, ls, lq, ln, lr, lx⟩).2 = 0
      · exact msgBack_both ct cs cn cr ca u lt ls lq ln lr lx s m w hI hl hsum hn hT he hh
      · exact msgBack_ctl ct cs cn cr ca u lt ls lq ln lr lx s m w hI hl hsum hn hT he hh
    · by_cases hh : (putLF ⟨lt, ls, lq, ln, lr, lx⟩).2 = 0
      · exact msgBack_load ct cs cn cr ca u lt ls lq ln lr lx s m w hI hl hsum hn hT he hh
      · exact msgBack_none ct cs cn cr ca u lt ls lq ln lr lx s m w hI hl hsum hn hT he hh
end Go.Proofs.YtkneogfeokckjaaDoor
