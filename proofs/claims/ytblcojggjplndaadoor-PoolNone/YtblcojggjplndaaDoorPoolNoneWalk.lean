/- The walk of the law PoolNone: for every key and address it returns true, where the library's table of powers holds what its text lays. -/
import Derived.Test.YtblcojggjplndaaDoorPpNil
namespace Go.Proofs.YtblcojggjplndaaDoor
open Go.RowKit

set_option maxHeartbeats 4000000 in
set_option maxRecDepth 100000 in
theorem poolNone_walk (t s : Int) (y : Ad) (w : World) (ht : I64 t) (hs : I64 s) (hT : PowTab w) :
    Calls Tryd.prog 6 #[.agg #[.int .i64 t, .int .i64 s], adV y] w fun e w' => e = .returned (.bool true) ∧ Below w.heap.size w w' := by
  have hk0 := (Kept.refl (fun _ => False) w).alloc (.cells #[.int .i64 t, .int .i64 s] 34)
  have hk1 := (Kept.refl (fun _ => False) (w.alloc (.cells #[.int .i64 t, .int .i64 s] 34))).alloc (.cells #[.int .u8 (y.a.toNat : Int), .int .u8 (y.b.toNat : Int), .int .u8 (y.c.toNat : Int), .int .u8 (y.d.toNat : Int)] 23)
  have H2 := hid ((box2_new w 34 (.int .i64 t) (.int .i64 s)).kept hk1 (fun h => h))
  have H4 := hid (four4_new (w.alloc (.cells #[.int .i64 t, .int .i64 s] 34)) 23 (.int .u8 (y.a.toNat : Int)) (.int .u8 (y.b.toNat : Int)) (.int .u8 (y.c.toNat : Int)) (.int .u8 (y.d.toNat : Int)))
  have hsz : (w.alloc (.cells #[.int .i64 t, .int .i64 s] 34)).heap.size = w.heap.size + 1 := by simp
  rw [hsz] at H4
  have K0 := hid (hk0.trans hk1)
  have HA : Hid (∀ W, Kept (fun _ => False) w W → _) := hid (fun W hk => alive16_any W (hT.kept hk))
  have N1 := hid (take_nil t s)
  have N2 := hid (has_nil t s)
  have N3 := hid (give_nil t s)
  have N4 := hid (free_nil)
  have e1 : takeL ad0 [] t s = (ad0, 10, []) := rfl
  have e2 : giveL [] t s = (3, []) := rfl
  have e3 : whoL ad0 [] y = (0, 0, false) := rfl
  have Z1 : Hid (∀ b W, PMine w W b ad0 [] → Calls Tryd.prog 11 #[.pointer (some ⟨b, 0, none⟩), .agg #[.int .i64 t, .int .i64 s]] W fun e w' => e = .returned (.tuple #[.agg #[.int .u8 0, .int .u8 0, .int .u8 0, .int .u8 0], .int .i64 10]) ∧ PMine w w' b ad0 [] ∧ PpK w.heap.size W w') := fun b W h => h.take ht hs _ e1
  have Z2 : Hid (∀ b W, PMine w W b ad0 [] → Calls Tryd.prog 13 #[.pointer (some ⟨b, 0, none⟩), .agg #[.int .i64 t, .int .i64 s]] W fun e w' => e = .returned (.int .i64 3) ∧ PMine w w' b ad0 [] ∧ PpK w.heap.size W w') := fun b W h => h.give ht hs _ e2
  have Z3 : Hid (∀ b W, PMine w W b ad0 [] → Calls Tryd.prog 17 #[.pointer (some ⟨b, 0, none⟩), .agg #[.int .u8 (y.a.toNat : Int), .int .u8 (y.b.toNat : Int), .int .u8 (y.c.toNat : Int), .int .u8 (y.d.toNat : Int)]] W fun e w' => e = .returned (.tuple #[.agg #[.int .i64 0, .int .i64 0], .bool false]) ∧ PMine w w' b ad0 [] ∧ Kept (fun _ => False) W w') := fun b W h => h.who y _ e3
  have Z4 : Hid (∀ b W, PMine w W b ad0 [] → Calls Tryd.prog 19 #[.pointer (some ⟨b, 0, none⟩)] W fun e w' => e = .returned (.int .i64 0) ∧ PMine w w' b ad0 [] ∧ Kept (fun _ => False) W w') := fun b W h => h.free
  unfold adV
  clear hk0 hk1 hsz hT e1 e2 e3
  generalize (y.a.toNat : Int) = xa at *
  generalize (y.b.toNat : Int) = xb at *
  generalize (y.c.toNat : Int) = xc at *
  generalize (y.d.toNat : Int) = xd at *
  go_enter Tryd.func6, Tryd.ntmps6
  go_upto_region 2 with fail
  generalize (w.alloc (.cells #[.int .i64 t, .int .i64 s] 34)).alloc (.cells #[.int .u8 xa, .int .u8 xb, .int .u8 xc, .int .u8 xd] 23) = W at *
  have hkz := (Kept.refl (fun _ => False) W).alloc (.cells #[.int .u8 0, .int .u8 0, .int .u8 0, .int .u8 0, .int .i64 0, .map none, .map none] 59)
  have M0 : Hid (PMine w (W.alloc (.cells #[.int .u8 0, .int .u8 0, .int .u8 0, .int .u8 0, .int .i64 0, .map none, .map none] 59)) W.heap.size ad0 []) := ⟨⟨none, none, zero_in W _⟩, K0.out.size, K0.out.trans hkz⟩
  have B2 := hid (H2.out.kept hkz (fun h => h))
  have B4 := hid (H4.out.kept hkz (fun h => h))
  clear hkz H2 H4 K0
  go_upto_region 3 with fail
  generalize W.alloc (.cells #[.int .u8 0, .int .u8 0, .int .u8 0, .int .u8 0, .int .i64 0, .map none, .map none] 59) = V at *
  generalize W.heap.size = b at *
  obtain ⟨⟨c0, c1⟩, _⟩ := B2.out
  go_wp2_with fail
  refine (N1.out _).mono ?_
  rintro e w1 ⟨rfl, k1⟩
  have K1 := hid (k1.alloc (.cells #[.int .u8 0, .int .u8 0, .int .u8 0, .int .u8 0] 23))
  have M1 := hid (M0.out.still K1.out)
  have B2b := hid (B2.out.kept K1.out (fun h => h))
  have B4b := hid (B4.out.kept K1.out (fun h => h))
  clear c0 c1 k1 K1 M0 B2 B4 N1
  go_upto_region 4 with fail
  generalize w1.alloc (.cells #[.int .u8 0, .int .u8 0, .int .u8 0, .int .u8 0] 23) = V1 at *
  obtain ⟨⟨c0, c1⟩, _⟩ := B2b.out
  go_wp2_with fail
  refine (Z1.out _ _ M1.out).mono ?_
  rintro e w2 ⟨rfl, m2, k2⟩
  have K2 := hid ((Kept.refl (fun _ => False) w2).alloc (.cells #[.int .u8 0, .int .u8 0, .int .u8 0, .int .u8 0] 23))
  have M2 := hid (m2.still K2.out)
  have B2c := hid ((B2b.out.ppk k2).kept K2.out (fun h => h))
  have B4c := hid ((B4b.out.ppk k2).kept K2.out (fun h => h))
  clear c0 c1 k2 m2 K2 M1 B2b B4b Z1
  go_upto_region 5 with fail
  generalize w2.alloc (.cells #[.int .u8 0, .int .u8 0, .int .u8 0, .int .u8 0] 23) = V2 at *
  obtain ⟨⟨c0, c1⟩, _⟩ := B2c.out
  go_wp2_with fail
  refine (N2.out _).mono ?_
  rintro e w3 ⟨rfl, k3⟩
  have K3 := hid (k3.alloc (.cells #[.int .u8 0, .int .u8 0, .int .u8 0, .int .u8 0] 23))
  have M3 := hid (M2.out.still K3.out)
  have B2d := hid (B2c.out.kept K3.out (fun h => h))
  have B4d := hid (B4c.out.kept K3.out (fun h => h))
  clear c0 c1 k3 K3 M2 B2c B4c N2
  go_upto_region 6 with fail
  generalize w3.alloc (.cells #[.int .u8 0, .int .u8 0, .int .u8 0, .int .u8 0] 23) = V3 at *
  obtain ⟨⟨d0, d1, d2, d3⟩, _⟩ := B4d.out
  go_wp2_with fail
  refine (Z3.out _ _ M3.out).mono ?_
  rintro e w4 ⟨rfl, m4, k4⟩
  have K4 := hid (k4.alloc (.cells #[.int .i64 0, .int .i64 0] 34))
  have M4 := hid (M3.out.still K4.out)
  have B2e := hid (B2d.out.kept K4.out (fun h => h))
  clear d0 d1 d2 d3 m4 k4 K4 M3 B2d B4d Z3
  go_upto_region 7 with fail
  generalize w4.alloc (.cells #[.int .i64 0, .int .i64 0] 34) = V4 at *
  go_wp2_with fail
  refine (HA.out _ M4.out.kept).mono ?_
  rintro e w5 ⟨rfl, k5⟩
  have M5 := hid (M4.out.still k5)
  obtain ⟨⟨c0, c1⟩, _⟩ := B2e.out.kept k5 (fun h => h)
  have B2f := hid (B2e.out.kept k5 (fun h => h))
  clear k5 HA B2e M4
  go_wp2_with fail
  refine (N3.out _).mono ?_
  rintro e w6 ⟨rfl, k6⟩
  have M6 := hid (M5.out.still k6)
  obtain ⟨⟨e0, e1⟩, _⟩ := B2f.out.kept k6 (fun h => h)
  clear k6 c0 c1 B2f M5 N3
  go_wp2_with fail
  refine (Z2.out _ _ M6.out).mono ?_
  rintro e w7 ⟨rfl, m7, _⟩
  have M7 := hid m7
  clear m7 e0 e1 Z2 M6
  go_wp2_with fail
  refine (N4.out _).mono ?_
  rintro e w8 ⟨rfl, hw⟩
  rw [hw]
  clear hw N4
  go_wp2_with fail
  refine (Z4.out _ _ M7.out).mono ?_
  rintro e w9 ⟨rfl, m9, _⟩
  have M9 := hid m9
  clear m9 Z4 M7
  go_wp2
  go_ret
  exact ⟨rfl, M9.out.kept.below (Nat.le_refl _) (fun _ h => h.elim)⟩
end Go.Proofs.YtblcojggjplndaaDoor
