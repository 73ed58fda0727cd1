/- The document's own addresses (tollgateref13): AddrNum, NumAddr, Add. -/
import Derived.Test.YtblcojggjplndaaDoorPlAd
import Derived.Test.YtblcojggjplndaaDoorTagKit
import Derived.Test.YtblcojggjplndaaDoorKept
import Derived.Lib.SmallJoins
import Derived.Deep.RegionHeld3
import Derived.Deep.DeepCutAuto
import Derived.DeepKeys
import Derived.BigQuiet
namespace Go.Proofs.YtblcojggjplndaaDoor
open Go.RowKit

set_option maxHeartbeats 1000000 in
set_option maxRecDepth 100000 in
theorem rAddrNum_any (x : Ad) (w : World) : Calls Tryd.prog 26 #[adV x] w fun e w' => e = .returned (.int .i64 (numAd x)) ∧ Kept (fun _ => False) w w' := by
  have h1 := x.a.toNat_lt; have h2 := x.b.toNat_lt; have h3 := x.c.toNat_lt; have h4 := x.d.toNat_lt
  unfold adV numAd
  generalize x.a.toNat = a at *
  generalize x.b.toNat = b at *
  generalize x.c.toNat = c at *
  generalize x.d.toNat = d at *
  obtain ⟨⟨c0, c1, c2, c3⟩, _⟩ := four4_new w 23 (.int .u8 (a : Int)) (.int .u8 (b : Int)) (.int .u8 (c : Int)) (.int .u8 (d : Int))
  have K1 := hid ((Kept.refl (fun _ => False) w).alloc (.cells #[.int .u8 (a : Int), .int .u8 (b : Int), .int .u8 (c : Int), .int .u8 (d : Int)] 23))
  have wa : IntKind.i64.wrap (a : Int) = a := by rw [IntKind.wrap_i64]; omega
  have wb : IntKind.i64.wrap (b : Int) = b := by rw [IntKind.wrap_i64]; omega
  have wc : IntKind.i64.wrap (c : Int) = c := by rw [IntKind.wrap_i64]; omega
  have wd : IntKind.i64.wrap (d : Int) = d := by rw [IntKind.wrap_i64]; omega
  have m1 : IntKind.i64.wrap ((a : Int) * 16777216) = (a : Int) * 16777216 := by rw [IntKind.wrap_i64]; omega
  have m2 : IntKind.i64.wrap ((b : Int) * 65536) = (b : Int) * 65536 := by rw [IntKind.wrap_i64]; omega
  have m3 : IntKind.i64.wrap ((c : Int) * 256) = (c : Int) * 256 := by rw [IntKind.wrap_i64]; omega
  have s1 : IntKind.i64.wrap ((a : Int) * 16777216 + (b : Int) * 65536) = (a : Int) * 16777216 + (b : Int) * 65536 := by rw [IntKind.wrap_i64]; omega
  have s2 : IntKind.i64.wrap ((a : Int) * 16777216 + (b : Int) * 65536 + (c : Int) * 256) = (a : Int) * 16777216 + (b : Int) * 65536 + (c : Int) * 256 := by rw [IntKind.wrap_i64]; omega
  have s3 : IntKind.i64.wrap ((a : Int) * 16777216 + (b : Int) * 65536 + (c : Int) * 256 + (d : Int)) = (a : Int) * 16777216 + (b : Int) * 65536 + (c : Int) * 256 + (d : Int) := by rw [IntKind.wrap_i64]; omega
  go_enter Tryd.func26, Tryd.ntmps26
  go_wp2
  go_ret
  exact ⟨rfl, K1.out⟩

set_option maxHeartbeats 1000000 in
set_option maxRecDepth 100000 in
theorem rNumAddr_any (v : Int) (w : World) : Calls Tryd.prog 28 #[.int .i64 v] w fun e w' => e = .returned (adV (addrOf v)) ∧ Kept (fun _ => False) w w' := by
  have H0 := hid (four4_new w 23 (.int .u8 0) (.int .u8 0) (.int .u8 0) (.int .u8 0))
  have K0 := hid ((Kept.refl (fun _ => False) w).alloc (.cells #[.int .u8 0, .int .u8 0, .int .u8 0, .int .u8 0] 23))
  unfold adV addrOf
  simp only
  rw [byteI_nat, byteI_nat, byteI_nat, byteI_nat]
  go_enter Tryd.func28, Tryd.ntmps28
  go_upto_region 1 with fail
  generalize w.alloc (.cells #[.int .u8 0, .int .u8 0, .int .u8 0, .int .u8 0] 23) = W at *
  obtain ⟨⟨c0, c1, c2, c3⟩, f⟩ := H0.out
  have f0 := f 0
  have f1 := f 1
  have f2 := f 2
  have f3 := f 3
  go_wp2
  refine bodyPost_ret (v := .agg #[.int .u8 (v / 16777216 % 256), .int .u8 (v / 65536 % 256), .int .u8 (v / 256 % 256), .int .u8 (v % 256)]) (by simp [results, Tryd.results28, go_sem, c0, c1, c2, c3]) rfl ⟨rfl, ?_⟩
  exact (((K0.out.setCell (Or.inl (Nat.le_refl _)) _).setCell (Or.inl (Nat.le_refl _)) _).setCell (Or.inl (Nat.le_refl _)) _).setCell (Or.inl (Nat.le_refl _)) _

set_option maxHeartbeats 1000000 in
set_option maxRecDepth 100000 in
theorem rAdd_any (x : Ad) (n : Int) (w : World) : Calls Tryd.prog 22 #[adV x, .int .i64 n] w fun e w' => e = .returned (adV (addAd x n)) ∧ Kept (fun _ => False) w w' := by
  have HN := hid (rAddrNum_any x)
  have HA := hid (rNumAddr_any (wrap64 (numAd x + n)))
  have e : addrOf (wrap64 (numAd x + n)) = addAd x n := addrOf_mod (by unfold wrap64; omega)
  rw [e] at HA
  clear e
  generalize numAd x = nx at *
  unfold adV at *
  have hk0 := (Kept.refl (fun _ => False) w).alloc (.cells #[.int .u8 (x.a.toNat : Int), .int .u8 (x.b.toNat : Int), .int .u8 (x.c.toNat : Int), .int .u8 (x.d.toNat : Int)] 23)
  have hk1 := (Kept.refl (fun _ => False) (w.alloc (.cells #[.int .u8 (x.a.toNat : Int), .int .u8 (x.b.toNat : Int), .int .u8 (x.c.toNat : Int), .int .u8 (x.d.toNat : Int)] 23))).alloc (.cells #[.int .u8 0, .int .u8 0, .int .u8 0, .int .u8 0] 23)
  have X1 := hid ((four4_new w 23 (.int .u8 (x.a.toNat : Int)) (.int .u8 (x.b.toNat : Int)) (.int .u8 (x.c.toNat : Int)) (.int .u8 (x.d.toNat : Int))).kept hk1 (fun h => h))
  have O1 := hid (four4_new (w.alloc (.cells #[.int .u8 (x.a.toNat : Int), .int .u8 (x.b.toNat : Int), .int .u8 (x.c.toNat : Int), .int .u8 (x.d.toNat : Int)] 23)) 23 (.int .u8 0) (.int .u8 0) (.int .u8 0) (.int .u8 0))
  have hsz : (w.alloc (.cells #[.int .u8 (x.a.toNat : Int), .int .u8 (x.b.toNat : Int), .int .u8 (x.c.toNat : Int), .int .u8 (x.d.toNat : Int)] 23)).heap.size = w.heap.size + 1 := by simp
  rw [hsz] at O1
  have K1 := hid (hk0.trans hk1)
  generalize (x.a.toNat : Int) = xa at *
  generalize (x.b.toNat : Int) = xb at *
  generalize (x.c.toNat : Int) = xc at *
  generalize (x.d.toNat : Int) = xd at *
  generalize hy : addAd x n = y at *
  clear hk0 hk1 hsz hy
  go_enter Tryd.func22, Tryd.ntmps22
  go_upto_region 1 with fail
  generalize (w.alloc (.cells #[.int .u8 xa, .int .u8 xb, .int .u8 xc, .int .u8 xd] 23)).alloc (.cells #[.int .u8 0, .int .u8 0, .int .u8 0, .int .u8 0] 23) = W at *
  obtain ⟨⟨c0, c1, c2, c3⟩, _⟩ := X1.out
  go_wp2_with fail
  refine (HN.out _).mono ?_
  rintro e w2 ⟨rfl, hk2⟩
  have HK2 := hid hk2
  clear hk2 c0 c1 c2 c3
  go_wp2_with fail
  refine (HA.out _).mono ?_
  rintro e w3 ⟨rfl, hk3⟩
  have HK3 := hid (HK2.out.trans hk3)
  obtain ⟨⟨o0, o1, o2, o3⟩, f⟩ := O1.out.kept HK3.out (fun h => h)
  have f0 := f 0
  have f1 := f 1
  have f2 := f 2
  have f3 := f 3
  clear hk3
  go_wp2
  refine bodyPost_ret (v := .agg #[.int .u8 (y.a.toNat : Int), .int .u8 (y.b.toNat : Int), .int .u8 (y.c.toNat : Int), .int .u8 (y.d.toNat : Int)]) (by simp [results, Tryd.results22, go_sem, o0, o1, o2, o3]) rfl ⟨rfl, ?_⟩
  exact ((((K1.out.trans HK3.out).setCell (Or.inl (Nat.le_succ _)) _).setCell (Or.inl (Nat.le_succ _)) _).setCell (Or.inl (Nat.le_succ _)) _).setCell (Or.inl (Nat.le_succ _)) _
end Go.Proofs.YtblcojggjplndaaDoor
