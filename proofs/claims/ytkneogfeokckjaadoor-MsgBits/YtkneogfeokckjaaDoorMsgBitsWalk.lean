/- The walk of the law MsgBits. (Written by gen_msgbits.py.) -/
import Derived.Test.YtkneogfeokckjaaDoorMsIn
import Derived.Test.YtkneogfeokckjaaDoorAvArgs
namespace Go.Proofs.YtkneogfeokckjaaDoor
open Go.RowKit

set_option maxRecDepth 100000 in
theorem and_128 : ∀ A : Fin 256, (((A.val &&& 128 : Nat) : Int) != 0) = decide (128 ≤ A.val) := by decide
theorem bit_128 (A : Nat) (h : A < 256) : (bits .and .u8 (A : Int) 128 != 0) = decide (128 ≤ A) := by
  have e := u8_and_nat A 128 h (by omega)
  rw [show ((128 : Nat) : Int) = 128 from rfl] at e
  rw [e]
  exact and_128 ⟨A, h⟩
theorem getCF_ok {b s : ByteArray} (h : (getCF b s).2 = 0) : 12 ≤ b.size ∧ byteN b 0 = 200 ∧ byteN b 1 = 2 := by
  unfold getCF at h
  by_cases h1 : b.size < 12
  · rw [if_pos h1] at h
    cases h
  rw [if_neg h1] at h
  by_cases h2 : byteN b 0 ≠ 200 ∨ byteN b 1 ≠ 2
  · rw [if_pos h2] at h
    cases h
  exact ⟨by omega, by omega, by omega⟩
theorem getLF_ok {b : ByteArray} (h : (getLF b).2 = 0) : 8 ≤ b.size ∧ (byteN b 0 = 64 ∨ byteN b 0 = 72) := by
  unfold getLF at h
  by_cases h1 : b.size < 8
  · rw [if_pos h1] at h
    cases h
  rw [if_neg h1] at h
  by_cases h2 : (byteN b 0 ≠ 64 ∧ byteN b 0 ≠ 72) ∨ byteN b 1 ≠ 2
  · rw [if_pos h2] at h
    cases h
  exact ⟨by omega, by omega⟩
theorem isCF_full {b : ByteArray} (h : 0 < b.size) : isCF b = decide (128 ≤ byteN b 0) := by unfold isCF; rw [decide_eq_true h, Bool.true_and]
theorem isCF_none {b : ByteArray} (h : b.size = 0) : isCF b = false := by unfold isCF; rw [h]; rfl

set_option maxHeartbeats 4000000 in
set_option maxRecDepth 100000 in
theorem msgBits_ctl (b s : ByteArray) (hb : b.size ≤ 3000) (hs : s.size ≤ 100) (w : World) (hT : Tables w) (h1 : (getCF b s).2 = 0) (h2 : (getLF b).2 ≠ 0) (hB : isCF b = true) (hn : 0 < b.size) :
    Calls Tryd.prog 6 #[.string b, .string s] w fun e w' => e = .returned (.bool true) ∧ Kept (fun _ => False) w w' := by
  have HA := hid aliveM_any
  have HG := hid (fun W (hk : Kept (fun _ => False) w W) => mGet_any b s (by omega) (by omega) W (fun _ => (unmAt_of hT).kept hk))
  have HL := hid (fun W => mGetLoad_any b (by omega) W)
  have HI := hid (fun W => mIsCtl_any b (by omega) W)
  rw [hB] at HI
  have hbz : ¬ (3000 : Int) < (b.size : Int) := by omega
  have hsz : ¬ (100 : Int) < (s.size : Int) := by omega
  have x0 := index_at b 0 (by omega) 0 rfl
  have b0 := byteN_lt b 0
  rw [isCF_full hn] at hB
  have hbit := bit_128 (byteN b 0) b0
  rw [hB] at hbit
  have hnz : (0 : Int) < (b.size : Int) := by omega
  unfold byteN at hbit b0
  generalize (b.data.toList.getD 0 0).toNat = A at *
  clear hB hn b0
  rw [h1] at HG
  clear h1
  have h2z : ((getLF b).2 == 0) = false := by rw [beq_eq_false_iff_ne]; exact h2
  generalize (getLF b).2 = E2 at *
  clear h2
  generalize (getCF b s).1 = C at *
  generalize (getLF b).1 = L at *
  obtain ⟨ct, cs, cn, cr, ca⟩ := C
  obtain ⟨lt, ls, lq, ln, lr, lx⟩ := L
  unfold ctV at HG
  unfold ldV at HL
  dsimp only at HG HL
  have HK0 := hid (Kept.refl (fun _ => False) w)
  clear hT hb hs
  go_enter Tryd.func6, Tryd.ntmps6
  go_wp2_with fail
  refine (HG.out _ HK0.out).mono ?_
  rintro e w1 ⟨v1, rfl, ho1, hk1⟩
  obtain ⟨p1, c1, rfl⟩ := slice_of ho1
  have HK1 := hid ((HK0.out.trans hk1).alloc (.cells #[.int .i64 ct, .int .i64 cs, .int .i64 cn, .int .i64 cr, .slice p1 ca.length c1] 24))
  clear hk1 ho1 HG HK0
  go_wp2_with fail
  refine (HL.out _).mono ?_
  rintro e w2 ⟨rfl, hk2⟩
  have HK2 := hid ((HK1.out.trans hk2).alloc (.cells #[.int .i64 lt, .int .i64 ls, .bool lq, .int .i64 ln, .int .i64 lr, .string lx] 26))
  clear hk2 HL HK1
  go_wp2_with fail
  refine (HI.out _).mono ?_
  rintro e w3 ⟨rfl, hk3⟩
  have HK3 := hid (HK2.out.trans hk3)
  clear hk3
  go_wp2_with fail
  refine (HA.out _).mono ?_
  rintro e w4 ⟨rfl, hk4⟩
  have HK4 := hid (HK3.out.trans hk4)
  clear hk4
  go_wp2_with fail
  refine (HI.out _).mono ?_
  rintro e w5 ⟨rfl, hk5⟩
  have HK5 := hid (HK4.out.trans hk5)
  clear hk5
  go_wp2
  go_ret
  exact ⟨rfl, HK5.out⟩

set_option maxHeartbeats 4000000 in
set_option maxRecDepth 100000 in
theorem msgBits_load (b s : ByteArray) (hb : b.size ≤ 3000) (hs : s.size ≤ 100) (w : World) (hT : Tables w) (h1 : (getCF b s).2 ≠ 0) (h2 : (getLF b).2 = 0) (hB : isCF b = false) (hn : 0 < b.size) :
    Calls Tryd.prog 6 #[.string b, .string s] w fun e w' => e = .returned (.bool true) ∧ Kept (fun _ => False) w w' := by
  have HA := hid aliveM_any
  have HG := hid (fun W (hk : Kept (fun _ => False) w W) => mGet_any b s (by omega) (by omega) W (fun _ => (unmAt_of hT).kept hk))
  have HL := hid (fun W => mGetLoad_any b (by omega) W)
  have HI := hid (fun W => mIsCtl_any b (by omega) W)
  rw [hB] at HI
  have hbz : ¬ (3000 : Int) < (b.size : Int) := by omega
  have hsz : ¬ (100 : Int) < (s.size : Int) := by omega
  have x0 := index_at b 0 (by omega) 0 rfl
  have b0 := byteN_lt b 0
  rw [isCF_full hn] at hB
  have hbit := bit_128 (byteN b 0) b0
  rw [hB] at hbit
  have hnz : (0 : Int) < (b.size : Int) := by omega
  unfold byteN at hbit b0
  generalize (b.data.toList.getD 0 0).toNat = A at *
  clear hB hn b0
  have h1z : ((getCF b s).2 == 0) = false := by rw [beq_eq_false_iff_ne]; exact h1
  generalize (getCF b s).2 = E1 at *
  clear h1
  rw [h2] at HL
  clear h2
  generalize (getCF b s).1 = C at *
  generalize (getLF b).1 = L at *
  obtain ⟨ct, cs, cn, cr, ca⟩ := C
  obtain ⟨lt, ls, lq, ln, lr, lx⟩ := L
  unfold ctV at HG
  unfold ldV at HL
  dsimp only at HG HL
  have HK0 := hid (Kept.refl (fun _ => False) w)
  clear hT hb hs
  go_enter Tryd.func6, Tryd.ntmps6
  go_wp2_with fail
  refine (HG.out _ HK0.out).mono ?_
  rintro e w1 ⟨v1, rfl, ho1, hk1⟩
  obtain ⟨p1, c1, rfl⟩ := slice_of ho1
  have HK1 := hid ((HK0.out.trans hk1).alloc (.cells #[.int .i64 ct, .int .i64 cs, .int .i64 cn, .int .i64 cr, .slice p1 ca.length c1] 24))
  clear hk1 ho1 HG HK0
  go_wp2_with fail
  refine (HL.out _).mono ?_
  rintro e w2 ⟨rfl, hk2⟩
  have HK2 := hid ((HK1.out.trans hk2).alloc (.cells #[.int .i64 lt, .int .i64 ls, .bool lq, .int .i64 ln, .int .i64 lr, .string lx] 26))
  clear hk2 HL HK1
  go_wp2_with fail
  refine (HI.out _).mono ?_
  rintro e w3 ⟨rfl, hk3⟩
  have HK3 := hid (HK2.out.trans hk3)
  clear hk3
  go_wp2_with fail
  refine (HA.out _).mono ?_
  rintro e w4 ⟨rfl, hk4⟩
  have HK4 := hid (HK3.out.trans hk4)
  clear hk4
  go_wp2_with fail
  refine (HI.out _).mono ?_
  rintro e w5 ⟨rfl, hk5⟩
  have HK5 := hid (HK4.out.trans hk5)
  clear hk5
  go_wp2
  go_ret
  exact ⟨rfl, HK5.out⟩

set_option maxHeartbeats 4000000 in
set_option maxRecDepth 100000 in
theorem msgBits_none (b s : ByteArray) (_hb : b.size ≤ 3000) (hs : s.size ≤ 100) (w : World) (hT : Tables w) (h1 : (getCF b s).2 ≠ 0) (h2 : (getLF b).2 ≠ 0) (hB : isCF b = false) (hn : b.size = 0) :
    Calls Tryd.prog 6 #[.string b, .string s] w fun e w' => e = .returned (.bool true) ∧ Kept (fun _ => False) w w' := by
  have HA := hid aliveM_any
  have HG := hid (fun W (hk : Kept (fun _ => False) w W) => mGet_any b s (by omega) (by omega) W (fun _ => (unmAt_of hT).kept hk))
  have HL := hid (fun W => mGetLoad_any b (by omega) W)
  have HI := hid (fun W => mIsCtl_any b (by omega) W)
  rw [hB] at HI
  have hbz : ¬ (3000 : Int) < (b.size : Int) := by omega
  have hsz : ¬ (100 : Int) < (s.size : Int) := by omega
  have hnz : ¬ (0 : Int) < (b.size : Int) := by omega
  clear hB hn
  have h1z : ((getCF b s).2 == 0) = false := by rw [beq_eq_false_iff_ne]; exact h1
  generalize (getCF b s).2 = E1 at *
  clear h1
  have h2z : ((getLF b).2 == 0) = false := by rw [beq_eq_false_iff_ne]; exact h2
  generalize (getLF b).2 = E2 at *
  clear h2
  generalize (getCF b s).1 = C at *
  generalize (getLF b).1 = L at *
  obtain ⟨ct, cs, cn, cr, ca⟩ := C
  obtain ⟨lt, ls, lq, ln, lr, lx⟩ := L
  unfold ctV at HG
  unfold ldV at HL
  dsimp only at HG HL
  have HK0 := hid (Kept.refl (fun _ => False) w)
  clear hT _hb hs
  go_enter Tryd.func6, Tryd.ntmps6
  go_wp2_with fail
  refine (HG.out _ HK0.out).mono ?_
  rintro e w1 ⟨v1, rfl, ho1, hk1⟩
  obtain ⟨p1, c1, rfl⟩ := slice_of ho1
  have HK1 := hid ((HK0.out.trans hk1).alloc (.cells #[.int .i64 ct, .int .i64 cs, .int .i64 cn, .int .i64 cr, .slice p1 ca.length c1] 24))
  clear hk1 ho1 HG HK0
  go_wp2_with fail
  refine (HL.out _).mono ?_
  rintro e w2 ⟨rfl, hk2⟩
  have HK2 := hid ((HK1.out.trans hk2).alloc (.cells #[.int .i64 lt, .int .i64 ls, .bool lq, .int .i64 ln, .int .i64 lr, .string lx] 26))
  clear hk2 HL HK1
  go_wp2_with fail
  refine (HA.out _).mono ?_
  rintro e w3 ⟨rfl, hk3⟩
  have HK3 := hid (HK2.out.trans hk3)
  clear hk3
  go_wp2_with fail
  refine (HI.out _).mono ?_
  rintro e w4 ⟨rfl, hk4⟩
  have HK4 := hid (HK3.out.trans hk4)
  clear hk4
  go_wp2
  go_ret
  exact ⟨rfl, HK4.out⟩

set_option maxHeartbeats 4000000 in
set_option maxRecDepth 100000 in
theorem msgBits_high (b s : ByteArray) (hb : b.size ≤ 3000) (hs : s.size ≤ 100) (w : World) (hT : Tables w) (h1 : (getCF b s).2 ≠ 0) (h2 : (getLF b).2 ≠ 0) (hB : isCF b = true) (hn : 0 < b.size) :
    Calls Tryd.prog 6 #[.string b, .string s] w fun e w' => e = .returned (.bool true) ∧ Kept (fun _ => False) w w' := by
  have HA := hid aliveM_any
  have HG := hid (fun W (hk : Kept (fun _ => False) w W) => mGet_any b s (by omega) (by omega) W (fun _ => (unmAt_of hT).kept hk))
  have HL := hid (fun W => mGetLoad_any b (by omega) W)
  have HI := hid (fun W => mIsCtl_any b (by omega) W)
  rw [hB] at HI
  have hbz : ¬ (3000 : Int) < (b.size : Int) := by omega
  have hsz : ¬ (100 : Int) < (s.size : Int) := by omega
  have x0 := index_at b 0 (by omega) 0 rfl
  have b0 := byteN_lt b 0
  rw [isCF_full hn] at hB
  have hbit := bit_128 (byteN b 0) b0
  rw [hB] at hbit
  have hnz : (0 : Int) < (b.size : Int) := by omega
  unfold byteN at hbit b0
  generalize (b.data.toList.getD 0 0).toNat = A at *
  clear hB hn b0
  have h1z : ((getCF b s).2 == 0) = false := by rw [beq_eq_false_iff_ne]; exact h1
  generalize (getCF b s).2 = E1 at *
  clear h1
  have h2z : ((getLF b).2 == 0) = false := by rw [beq_eq_false_iff_ne]; exact h2
  generalize (getLF b).2 = E2 at *
  clear h2
  generalize (getCF b s).1 = C at *
  generalize (getLF b).1 = L at *
  obtain ⟨ct, cs, cn, cr, ca⟩ := C
  obtain ⟨lt, ls, lq, ln, lr, lx⟩ := L
  unfold ctV at HG
  unfold ldV at HL
  dsimp only at HG HL
  have HK0 := hid (Kept.refl (fun _ => False) w)
  clear hT hb hs
  go_enter Tryd.func6, Tryd.ntmps6
  go_wp2_with fail
  refine (HG.out _ HK0.out).mono ?_
  rintro e w1 ⟨v1, rfl, ho1, hk1⟩
  obtain ⟨p1, c1, rfl⟩ := slice_of ho1
  have HK1 := hid ((HK0.out.trans hk1).alloc (.cells #[.int .i64 ct, .int .i64 cs, .int .i64 cn, .int .i64 cr, .slice p1 ca.length c1] 24))
  clear hk1 ho1 HG HK0
  go_wp2_with fail
  refine (HL.out _).mono ?_
  rintro e w2 ⟨rfl, hk2⟩
  have HK2 := hid ((HK1.out.trans hk2).alloc (.cells #[.int .i64 lt, .int .i64 ls, .bool lq, .int .i64 ln, .int .i64 lr, .string lx] 26))
  clear hk2 HL HK1
  go_wp2_with fail
  refine (HA.out _).mono ?_
  rintro e w3 ⟨rfl, hk3⟩
  have HK3 := hid (HK2.out.trans hk3)
  clear hk3
  go_wp2_with fail
  refine (HI.out _).mono ?_
  rintro e w4 ⟨rfl, hk4⟩
  have HK4 := hid (HK3.out.trans hk4)
  clear hk4
  go_wp2
  go_ret
  exact ⟨rfl, HK4.out⟩

set_option maxHeartbeats 4000000 in
set_option maxRecDepth 100000 in
theorem msgBits_low (b s : ByteArray) (hb : b.size ≤ 3000) (hs : s.size ≤ 100) (w : World) (hT : Tables w) (h1 : (getCF b s).2 ≠ 0) (h2 : (getLF b).2 ≠ 0) (hB : isCF b = false) (hn : 0 < b.size) :
    Calls Tryd.prog 6 #[.string b, .string s] w fun e w' => e = .returned (.bool true) ∧ Kept (fun _ => False) w w' := by
  have HA := hid aliveM_any
  have HG := hid (fun W (hk : Kept (fun _ => False) w W) => mGet_any b s (by omega) (by omega) W (fun _ => (unmAt_of hT).kept hk))
  have HL := hid (fun W => mGetLoad_any b (by omega) W)
  have HI := hid (fun W => mIsCtl_any b (by omega) W)
  rw [hB] at HI
  have hbz : ¬ (3000 : Int) < (b.size : Int) := by omega
  have hsz : ¬ (100 : Int) < (s.size : Int) := by omega
  have x0 := index_at b 0 (by omega) 0 rfl
  have b0 := byteN_lt b 0
  rw [isCF_full hn] at hB
  have hbit := bit_128 (byteN b 0) b0
  rw [hB] at hbit
  have hnz : (0 : Int) < (b.size : Int) := by omega
  unfold byteN at hbit b0
  generalize (b.data.toList.getD 0 0).toNat = A at *
  clear hB hn b0
  have h1z : ((getCF b s).2 == 0) = false := by rw [beq_eq_false_iff_ne]; exact h1
  generalize (getCF b s).2 = E1 at *
  clear h1
  have h2z : ((getLF b).2 == 0) = false := by rw [beq_eq_false_iff_ne]; exact h2
  generalize (getLF b).2 = E2 at *
  clear h2
  generalize (getCF b s).1 = C at *
  generalize (getLF b).1 = L at *
  obtain ⟨ct, cs, cn, cr, ca⟩ := C
  obtain ⟨lt, ls, lq, ln, lr, lx⟩ := L
  unfold ctV at HG
  unfold ldV at HL
  dsimp only at HG HL
  have HK0 := hid (Kept.refl (fun _ => False) w)
  clear hT hb hs
  go_enter Tryd.func6, Tryd.ntmps6
  go_wp2_with fail
  refine (HG.out _ HK0.out).mono ?_
  rintro e w1 ⟨v1, rfl, ho1, hk1⟩
  obtain ⟨p1, c1, rfl⟩ := slice_of ho1
  have HK1 := hid ((HK0.out.trans hk1).alloc (.cells #[.int .i64 ct, .int .i64 cs, .int .i64 cn, .int .i64 cr, .slice p1 ca.length c1] 24))
  clear hk1 ho1 HG HK0
  go_wp2_with fail
  refine (HL.out _).mono ?_
  rintro e w2 ⟨rfl, hk2⟩
  have HK2 := hid ((HK1.out.trans hk2).alloc (.cells #[.int .i64 lt, .int .i64 ls, .bool lq, .int .i64 ln, .int .i64 lr, .string lx] 26))
  clear hk2 HL HK1
  go_wp2_with fail
  refine (HA.out _).mono ?_
  rintro e w3 ⟨rfl, hk3⟩
  have HK3 := hid (HK2.out.trans hk3)
  clear hk3
  go_wp2_with fail
  refine (HI.out _).mono ?_
  rintro e w4 ⟨rfl, hk4⟩
  have HK4 := hid (HK3.out.trans hk4)
  clear hk4
  go_wp2
  go_ret
  exact ⟨rfl, HK4.out⟩

set_option maxHeartbeats 4000000 in
set_option maxRecDepth 100000 in
theorem msgBits_not (b s : ByteArray) (_hb : b.size ≤ 140737488351232) (_hs : s.size ≤ 140737488351232) (h : 3000 < b.size ∨ (¬ 3000 < b.size ∧ 100 < s.size)) (w : World) :
    Calls Tryd.prog 6 #[.string b, .string s] w fun e w' => e = .returned (.bool true) ∧ Kept (fun _ => False) w w' := by
  have HA := hid aliveM_any
  rcases h with h | ⟨h, h'⟩
  · have hz : (3000 : Int) < (b.size : Int) := by omega
    clear h
    go_enter Tryd.func6, Tryd.ntmps6
    go_wp2_with fail
    refine (HA.out _).mono ?_
    rintro e w1 ⟨rfl, hk1⟩
    have HK1 := hid hk1
    clear hk1
    go_wp2
    go_ret
    exact ⟨rfl, HK1.out⟩
  · have hz : ¬ (3000 : Int) < (b.size : Int) := by omega
    have hz' : (100 : Int) < (s.size : Int) := by omega
    clear h h'
    go_enter Tryd.func6, Tryd.ntmps6
    go_wp2_with fail
    refine (HA.out _).mono ?_
    rintro e w1 ⟨rfl, hk1⟩
    have HK1 := hid hk1
    clear hk1
    go_wp2
    go_ret
    exact ⟨rfl, HK1.out⟩

theorem msgBits_walk (b s : ByteArray) (w : World) (hb : b.size ≤ 140737488351232) (hs : s.size ≤ 140737488351232) (hT : Tables w) :
    Calls Tryd.prog 6 #[.string b, .string s] w fun e w' => e = .returned (.bool true) ∧ Below w.heap.size w w' := by
  refine (?_ : Calls Tryd.prog 6 #[.string b, .string s] w fun e w' => e = .returned (.bool true) ∧ Kept (fun _ => False) w w').mono fun _ _ ⟨h1, h2⟩ => ⟨h1, below_of h2⟩
  by_cases h : 3000 < b.size ∨ (¬ 3000 < b.size ∧ 100 < s.size)
  · exact msgBits_not b s hb hs h w
  have hb' : b.size ≤ 3000 := by omega
  have hs' : s.size ≤ 100 := by omega
  by_cases h1 : (getCF b s).2 = 0
  · have k := getCF_ok h1
    have hB : isCF b = true := by rw [isCF_full (by omega), k.2.1]; rfl
    have h2 : (getLF b).2 ≠ 0 := fun h2 => by have := getLF_ok h2; omega
    exact msgBits_ctl b s hb' hs' w hT h1 h2 hB (by omega)
  by_cases h2 : (getLF b).2 = 0
  · have k := getLF_ok h2
    have hB : isCF b = false := by rw [isCF_full (by omega)]; exact decide_eq_false (by omega)
    exact msgBits_load b s hb' hs' w hT h1 h2 hB (by omega)
  by_cases h0 : b.size = 0
  · exact msgBits_none b s hb' hs' w hT h1 h2 (isCF_none h0) h0
  cases hB : isCF b with
  | true => exact msgBits_high b s hb' hs' w hT h1 h2 hB (by omega)
  | false => exact msgBits_low b s hb' hs' w hT h1 h2 hB (by omega)
end Go.Proofs.YtkneogfeokckjaaDoor
