/- The law PapNone: it returns true for every packet, and leaves what was there; the calls of a nil and of a zero client. -/
import Derived.Test.YtifkiiplknkgnaaPaAlive
namespace Go.Proofs.Ytifkiiplknkgnaa
open Go.RowKit

set_option maxRecDepth 100000 in
theorem asks_nil (w : World) : Calls Try.prog 31 #[.pointer none] w fun e w' => e = .returned (.bool false) ∧ w' = w := by
  go_enter Try.func31, Try.ntmps31
  go_wp2
  go_ret
  exact ⟨rfl, rfl⟩
set_option maxRecDepth 100000 in
theorem start_nil (w : World) : Calls Try.prog 18 #[.pointer none] w fun e w' => e = .returned (.slice none 0 0) ∧ w' = w := by
  go_enter Try.func18, Try.ntmps18
  go_wp2
  go_ret
  exact ⟨rfl, rfl⟩
set_option maxRecDepth 100000 in
theorem start_zero (b : Nat) (c : Pc) (w : World) (h : ClIn w b c) (hz : c.wait = 0) : Calls Try.prog 18 #[.pointer (some ⟨b, 0, none⟩)] w fun e w' => e = .returned (.slice none 0 0) ∧ w' = w := by
  have c2 := h.c2
  rw [hz] at c2
  clear h hz
  go_enter Try.func18, Try.ntmps18
  go_wp2
  go_ret
  exact ⟨rfl, rfl⟩
set_option maxRecDepth 100000 in
theorem tick_nil (w : World) : Calls Try.prog 22 #[.pointer none] w fun e w' => e = .returned (.slice none 0 0) ∧ w' = w := by
  have HA := hid (asks_nil w)
  go_enter Try.func22, Try.ntmps22
  go_wp2_with (go_at_call 31; refine HA.out.mono ?_; rintro e w' ⟨rfl, hw⟩; rw [hw]; clear hw w')
  go_ret
  exact ⟨rfl, rfl⟩
set_option maxRecDepth 100000 in
theorem tick_idle (b : Nat) (c : Pc) (w : World) (h : ClIn w b c) (hz : c.st = 0) : Calls Try.prog 22 #[.pointer (some ⟨b, 0, none⟩)] w fun e w' => e = .returned (.slice none 0 0) ∧ w' = w := by
  have HA := hid (asks_any b c w h)
  rw [hz] at HA
  go_enter Try.func22, Try.ntmps22
  go_wp2_with (go_at_call 31; refine HA.out.mono ?_; rintro e w' ⟨rfl, hw⟩; rw [hw]; clear hw w')
  go_ret
  exact ⟨rfl, rfl⟩
set_option maxRecDepth 100000 in
theorem done_nil (w : World) : Calls Try.prog 21 #[.pointer none] w fun e w' => e = .returned (.tuple #[.bool false, .bool false]) ∧ w' = w := by
  go_enter Try.func21, Try.ntmps21
  go_wp2
  go_ret2
  exact ⟨rfl, rfl⟩
set_option maxHeartbeats 1000000 in
set_option maxRecDepth 100000 in
theorem take_nil (code id : Int) (p : Option Addr) (n cap : Nat) (s : ByteArray) (w : World) :
    Calls Try.prog 20 #[.pointer none, pkV code id (.slice p n cap) s] w fun e w' => e = .returned undef ∧ Kept (fun _ => False) w w' := by
  unfold pkV
  have K1 := hid ((Kept.refl (fun _ => False) w).alloc (.cells #[.int .i64 code, .int .i64 id, .slice p n cap, .string s] 37))
  have HA := hid asks_nil
  obtain ⟨d0, d1, d2, d3⟩ := (PkAt.new w code id (.slice p n cap) s).cells
  go_enter Try.func20, Try.ntmps20
  go_upto_region 1 with fail
  generalize hW : w.alloc (.cells #[.int .i64 code, .int .i64 id, .slice p n cap, .string s] 37) = W at *
  clear hW
  go_quiet ((go_at_call 31; refine Calls.quiet_of_same (HA.out _)))
  go_wp2
  (try simp only [Exit.inBlock, Exit.then]); refine bodyPost_ret (results_none rfl _ _ _) rfl ?_
  exact ⟨rfl, K1.out.drewN _⟩

def zeroC : Pc := ⟨⟨#[]⟩, 0, 0, 0, 0, 0, 0⟩

set_option maxHeartbeats 1000000 in
set_option maxRecDepth 100000 in
theorem papNone_walk (c i : Int) (u : Value) (o : List Tg) (x : ByteArray) (w : World) (hu : TagsAt w u o) (_hon : o.length ≤ maxLen) (_hso : ∀ z ∈ o, z.value.size ≤ 140737488351232) (_hx : x.size ≤ 140737488351232) :
    Calls Try.prog 6 #[pkV c i u x] w fun e w' => e = .returned (.bool true) ∧ Below w.heap.size w w' := by
  obtain ⟨p, cap, rfl⟩ := hu.slice
  have Ha := hid aliveP_any
  have T1 := hid (take_nil c i p o.length cap x)
  have T2 := hid (fun b W (h : ClIn W b zeroC) => takeC_any b zeroC c i p o.length cap x W h)
  have ht : takeC zeroC c i = zeroC := by unfold takeC; rw [if_neg (fun h => by cases h.1)]
  rw [ht] at T2
  have D1 := hid done_nil
  have D2 := hid (fun b W (h : ClIn W b zeroC) => done_any b zeroC W h)
  have S1 := hid start_nil
  have S2 := hid (fun b W (h : ClIn W b zeroC) => start_zero b zeroC W h rfl)
  have U1 := hid tick_nil
  have U2 := hid (fun b W (h : ClIn W b zeroC) => tick_idle b zeroC W h rfl)
  rw [show doneC zeroC = false from rfl] at D2
  unfold pkV at *
  generalize o.length = m at *
  have P0 := hid (PkAt.new w c i (.slice p m cap) x)
  have K0 := hid ((Kept.refl (fun _ => False) w).alloc (.cells #[.int .i64 c, .int .i64 i, .slice p m cap, .string x] 37))
  have hsz : (w.alloc (.cells #[.int .i64 c, .int .i64 i, .slice p m cap, .string x] 37)).heap.size = w.heap.size + 1 := by simp
  have Z0 : Hid (ClIn ((w.alloc (.cells #[.int .i64 c, .int .i64 i, .slice p m cap, .string x] 37)).alloc (.cells #[.string ⟨#[]⟩, .int .i64 0, .int .i64 0, .int .i64 0, .int .i64 0, .int .i64 0, .int .i64 0] 44)) (w.heap.size + 1) zeroC) := by
    have := heap_alloc_new (w.alloc (.cells #[.int .i64 c, .int .i64 i, .slice p m cap, .string x] 37)) (.cells #[.string ⟨#[]⟩, .int .i64 0, .int .i64 0, .int .i64 0, .int .i64 0, .int .i64 0, .int .i64 0] 44)
    rw [hsz] at this
    exact this
  have k1 := (Kept.refl (fun _ => False) (w.alloc (.cells #[.int .i64 c, .int .i64 i, .slice p m cap, .string x] 37))).alloc (.cells #[.string ⟨#[]⟩, .int .i64 0, .int .i64 0, .int .i64 0, .int .i64 0, .int .i64 0, .int .i64 0] 44)
  have P1 := hid (P0.out.kept k1 (fun h => h))
  have K1 := hid (K0.out.trans k1)
  clear k1 K0 P0 hsz hu
  go_enter Try.func6, Try.ntmps6
  go_upto_region 3 with fail
  generalize (w.alloc (.cells #[.int .i64 c, .int .i64 i, .slice p m cap, .string x] 37)).alloc (.cells #[.string ⟨#[]⟩, .int .i64 0, .int .i64 0, .int .i64 0, .int .i64 0, .int .i64 0, .int .i64 0] 44) = W1 at *
  generalize hbb : w.heap.size + 1 = b at *
  have hb : w.heap.size ≤ b := by omega
  obtain ⟨d0, d1, d2, d3⟩ := P1.out.cells
  go_wp2_with fail
  refine (T1.out _).mono ?_
  rintro e w2 ⟨rfl, hk2⟩
  have P2 := hid (P1.out.kept hk2 (fun h => h))
  have K2 := hid (K1.out.trans hk2)
  have Z2 := hid (Z0.out.kept0 hk2)
  clear hk2 d0 d1 d2 d3 P1 K1 Z0 T1
  obtain ⟨d0, d1, d2, d3⟩ := P2.out.cells
  go_wp2_with fail
  refine (T2.out _ _ Z2.out).mono ?_
  rintro e w3 ⟨rfl, hz3, hk3⟩
  have K3 : Hid (Kept (fun _ => False) w w3) := K2.out.andThen hk3 (fun i hi e => by omega)
  have Z3 := hid hz3
  clear hz3 hk3 Z2 K2 P2 T2 d0 d1 d2 d3
  go_wp2_with fail
  refine (D1.out _).mono ?_
  rintro e w4 ⟨rfl, hw⟩
  rw [hw]
  clear hw w4
  go_wp2_with fail
  refine (D2.out _ _ Z3.out).mono ?_
  rintro e w4 ⟨rfl, hk4⟩
  have K4 := hid (K3.out.trans hk4)
  have Z4 := hid (Z3.out.kept0 hk4)
  clear hk4 K3 Z3
  go_wp2_with fail
  refine (Ha.out _).mono ?_
  rintro e w5 ⟨rfl, hk5⟩
  have K5 := hid (K4.out.trans hk5)
  have Z5 := hid (Z4.out.kept0 hk5)
  clear hk5 K4 Z4
  go_wp2_with fail
  refine (S1.out _).mono ?_
  rintro e w6 ⟨rfl, hw⟩
  rw [hw]
  clear hw w6
  go_wp2_with fail
  refine (S2.out _ _ Z5.out).mono ?_
  rintro e w6 ⟨rfl, hw⟩
  rw [hw]
  clear hw w6
  go_wp2_with fail
  refine (U1.out _).mono ?_
  rintro e w6 ⟨rfl, hw⟩
  rw [hw]
  clear hw w6
  go_wp2_with fail
  refine (U2.out _ _ Z5.out).mono ?_
  rintro e w6 ⟨rfl, hw⟩
  rw [hw]
  clear hw w6
  go_wp2
  go_ret
  exact ⟨rfl, below_of K5.out⟩
end Go.Proofs.Ytifkiiplknkgnaa
