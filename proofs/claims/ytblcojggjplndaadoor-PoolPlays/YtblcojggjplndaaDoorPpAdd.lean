/- The contracts of pool.number, pool.address and pool.Add: an address as a number of 32 bits, and so much further. -/
import Derived.Test.YtblcojggjplndaaDoorPlPlain
import Derived.Test.YtblcojggjplndaaDoorPlAd
namespace Go.Proofs.YtblcojggjplndaaDoor
open Go.RowKit

theorem or_add {a b k : Nat} (hb : b < 2 ^ k) : (a * 2 ^ k) ||| b = a * 2 ^ k + b := by
  rw [Nat.mul_comm, Nat.two_pow_add_eq_or_of_lt hb]
theorem num_or (a b c d : Nat) (ha : a < 256) (hb : b < 256) (hc : c < 256) (hd : d < 256) :
    bits .or .u32 (bits .or .u32 (bits .or .u32 ((a : Int) * 16777216) ((b : Int) * 65536)) ((c : Int) * 256)) (d : Int) = (a : Int) * 16777216 + (b : Int) * 65536 + (c : Int) * 256 + (d : Int) := by
  have h1 : (a * 16777216) ||| (b * 65536) = a * 16777216 + b * 65536 := or_add (k := 24) (by omega)
  have h2 : (a * 16777216 + b * 65536) ||| (c * 256) = a * 16777216 + b * 65536 + c * 256 := by
    have := or_add (a := a * 256 + b) (b := c * 256) (k := 16) (by omega)
    rw [show (a * 256 + b) * 2 ^ 16 = a * 16777216 + b * 65536 by omega] at this
    exact this
  have h3 : (a * 16777216 + b * 65536 + c * 256) ||| d = a * 16777216 + b * 65536 + c * 256 + d := by
    have := or_add (a := a * 65536 + b * 256 + c) (b := d) (k := 8) (by omega)
    rw [show (a * 65536 + b * 256 + c) * 2 ^ 8 = a * 16777216 + b * 65536 + c * 256 by omega] at this
    exact this
  have e1 : (a : Int) * 16777216 = ((a * 16777216 : Nat) : Int) := by omega
  have e2 : (b : Int) * 65536 = ((b * 65536 : Nat) : Int) := by omega
  have e3 : (c : Int) * 256 = ((c * 256 : Nat) : Int) := by omega
  rw [e1, e2, e3, u32_or_nat _ _ (by omega) (by omega), h1, u32_or_nat _ _ (by omega) (by omega), h2, u32_or_nat _ _ (by omega) (by omega), h3]
  omega

set_option maxHeartbeats 1000000 in
set_option maxRecDepth 100000 in
theorem number_any (x : Ad) (w : World) : Calls Tryd.prog 25 #[adV x] w fun e w' => e = .returned (.int .u32 (numAd x)) ∧ Kept (fun _ => False) w w' := by
  have h1 := x.a.toNat_lt; have h2 := x.b.toNat_lt; have h3 := x.c.toNat_lt; have h4 := x.d.toNat_lt
  unfold adV numAd
  generalize x.a.toNat = a at *
  generalize x.b.toNat = b at *
  generalize x.c.toNat = c at *
  generalize x.d.toNat = d at *
  obtain ⟨⟨c0, c1, c2, c3⟩, _⟩ := four4_new w 23 (.int .u8 (a : Int)) (.int .u8 (b : Int)) (.int .u8 (c : Int)) (.int .u8 (d : Int))
  have K1 := hid ((Kept.refl (fun _ => False) w).alloc (.cells #[.int .u8 (a : Int), .int .u8 (b : Int), .int .u8 (c : Int), .int .u8 (d : Int)] 23))
  have HN := hid (num_or a b c d (by omega) (by omega) (by omega) (by omega))
  go_enter Tryd.func25, Tryd.ntmps25
  go_wp2
  go_ret
  exact ⟨by rw [← HN.out]; rfl, K1.out⟩

set_option maxHeartbeats 1000000 in
set_option maxRecDepth 100000 in
theorem address_any (v : Int) (hv : 0 ≤ v ∧ v < 4294967296) (w : World) : Calls Tryd.prog 27 #[.int .u32 v] w fun e w' => e = .returned (adV (addrOf v)) ∧ Kept (fun _ => False) w w' := by
  have H0 := hid (four4_new w 23 (.int .u8 0) (.int .u8 0) (.int .u8 0) (.int .u8 0))
  have K0 := hid ((Kept.refl (fun _ => False) w).alloc (.cells #[.int .u8 0, .int .u8 0, .int .u8 0, .int .u8 0] 23))
  unfold adV addrOf
  simp only
  rw [byteI_nat, byteI_nat, byteI_nat, byteI_nat, show v / 16777216 % 256 = v / 16777216 by omega]
  go_enter Tryd.func27, Tryd.ntmps27
  go_upto_region 1 with fail
  generalize w.alloc (.cells #[.int .u8 0, .int .u8 0, .int .u8 0, .int .u8 0] 23) = W at *
  obtain ⟨⟨c0, c1, c2, c3⟩, f⟩ := H0.out
  have f0 := f 0
  have f1 := f 1
  have f2 := f 2
  have f3 := f 3
  go_wp2
  refine bodyPost_ret (v := .agg #[.int .u8 (v / 16777216), .int .u8 (v / 65536 % 256), .int .u8 (v / 256 % 256), .int .u8 (v % 256)]) (by simp [results, Tryd.results27, go_sem, c0, c1, c2, c3]) rfl ⟨rfl, ?_⟩
  exact (((K0.out.setCell (Or.inl (Nat.le_refl _)) _).setCell (Or.inl (Nat.le_refl _)) _).setCell (Or.inl (Nat.le_refl _)) _).setCell (Or.inl (Nat.le_refl _)) _

set_option maxHeartbeats 1000000 in
set_option maxRecDepth 100000 in
theorem add_any (x : Ad) (n : Int) (w : World) : Calls Tryd.prog 21 #[adV x, .int .i64 n] w fun e w' => e = .returned (adV (addAd x n)) ∧ Kept (fun _ => False) w w' := by
  have HN := hid (number_any x)
  obtain ⟨V, hV⟩ : ∃ V, IntKind.u32.wrap (numAd x + IntKind.u32.wrap n) = V := ⟨_, rfl⟩
  have hr := numAd_range x
  have hVr : 0 ≤ V ∧ V < 4294967296 := by rw [← hV]; simp only [IntKind.wrap_u32]; omega
  have HA := hid (address_any V hVr)
  have e : addrOf V = addAd x n := addrOf_mod (by rw [← hV]; simp only [IntKind.wrap_u32]; omega)
  rw [e] at HA
  clear e hr hVr
  obtain ⟨U, hU⟩ : ∃ U, IntKind.u32.wrap n = U := ⟨_, rfl⟩
  rw [hU] at hV
  generalize numAd x = nx at *
  unfold adV at *
  have hk0 := (Kept.refl (fun _ => False) w).alloc (.cells #[.int .u8 (x.a.toNat : Int), .int .u8 (x.b.toNat : Int), .int .u8 (x.c.toNat : Int), .int .u8 (x.d.toNat : Int)] 23)
  have hk1 := (Kept.refl (fun _ => False) (w.alloc (.cells #[.int .u8 (x.a.toNat : Int), .int .u8 (x.b.toNat : Int), .int .u8 (x.c.toNat : Int), .int .u8 (x.d.toNat : Int)] 23))).alloc (.cells #[.int .u8 0, .int .u8 0, .int .u8 0, .int .u8 0] 23)
  have X1 := hid ((four4_new w 23 (.int .u8 (x.a.toNat : Int)) (.int .u8 (x.b.toNat : Int)) (.int .u8 (x.c.toNat : Int)) (.int .u8 (x.d.toNat : Int))).kept hk1 (fun h => h))
  have O1 := hid (four4_new (w.alloc (.cells #[.int .u8 (x.a.toNat : Int), .int .u8 (x.b.toNat : Int), .int .u8 (x.c.toNat : Int), .int .u8 (x.d.toNat : Int)] 23)) 23 (.int .u8 0) (.int .u8 0) (.int .u8 0) (.int .u8 0))
  have hsz : (w.alloc (.cells #[.int .u8 (x.a.toNat : Int), .int .u8 (x.b.toNat : Int), .int .u8 (x.c.toNat : Int), .int .u8 (x.d.toNat : Int)] 23)).heap.size = w.heap.size + 1 := by simp
  rw [hsz] at O1
  have K1 := hid (hk0.trans hk1)
  generalize (x.a.toNat : Int) = xa at *
  generalize (x.b.toNat : Int) = xb at *
  generalize (x.c.toNat : Int) = xc at *
  generalize (x.d.toNat : Int) = xd at *
  generalize hy : addAd x n = y at *
  clear hk0 hk1 hsz hy
  go_enter Tryd.func21, Tryd.ntmps21
  go_upto_region 1 with fail
  generalize (w.alloc (.cells #[.int .u8 xa, .int .u8 xb, .int .u8 xc, .int .u8 xd] 23)).alloc (.cells #[.int .u8 0, .int .u8 0, .int .u8 0, .int .u8 0] 23) = W at *
  obtain ⟨⟨c0, c1, c2, c3⟩, _⟩ := X1.out
  go_wp2_with fail
  refine (HN.out _).mono ?_
  rintro e w2 ⟨rfl, hk2⟩
  have HK2 := hid hk2
  clear hk2 c0 c1 c2 c3
  go_wp2_with fail
  refine (HA.out _).mono ?_
  rintro e w3 ⟨rfl, hk3⟩
  have HK3 := hid (HK2.out.trans hk3)
  obtain ⟨⟨o0, o1, o2, o3⟩, f⟩ := O1.out.kept HK3.out (fun h => h)
  have f0 := f 0
  have f1 := f 1
  have f2 := f 2
  have f3 := f 3
  clear hk3
  go_wp2
  refine bodyPost_ret (v := .agg #[.int .u8 (y.a.toNat : Int), .int .u8 (y.b.toNat : Int), .int .u8 (y.c.toNat : Int), .int .u8 (y.d.toNat : Int)]) (by simp [results, Tryd.results21, go_sem, o0, o1, o2, o3]) rfl ⟨rfl, ?_⟩
  exact ((((K1.out.trans HK3.out).setCell (Or.inl (Nat.le_succ _)) _).setCell (Or.inl (Nat.le_succ _)) _).setCell (Or.inl (Nat.le_succ _)) _).setCell (Or.inl (Nat.le_succ _)) _
end Go.Proofs.YtblcojggjplndaaDoor
