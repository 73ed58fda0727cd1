/- The walk of LcpAsks. -/
import Derived.Test.YtklapjfljffahaaGreatLpIn
import Derived.Test.YtklapjfljffahaaGreatLpUp
namespace Go.Proofs.YtklapjfljffahaaGreat
open Go.RowKit

theorem below_kept {w w' : World} (h : Kept (fun _ => False) w w') : Below w.heap.size w w' := h.below (Nat.le_refl _) (fun _ f => f.elim)
theorem num2 {v : Int} (h1 : 0 ≤ v) (h2 : v < 65536) : ((valueF (numF v 2).data.toList).1 : Int) = v := by
  have e : (numF v 2).data.toList = [UInt8.ofNat (v / 256 % 256).toNat, UInt8.ofNat (v % 256).toNat] := by simp [numF, putL, putB, List.range_succ]
  rw [e]
  have b0 : (UInt8.ofNat (v / 256 % 256).toNat).toNat = (v / 256 % 256).toNat := UInt8.toNat_ofNat_of_lt (show (v / 256 % 256).toNat < 256 by omega)
  have b1 : (UInt8.ofNat (v % 256).toNat).toNat = (v % 256).toNat := UInt8.toNat_ofNat_of_lt (show (v % 256).toNat < 256 by omega)
  simp [valueF, numOf, b0, b1]
  omega
theorem num4 {v : Int} (h1 : 0 ≤ v) (h2 : v ≤ 4294967295) : ((valueF (numF v 4).data.toList).1 : Int) = v := by
  have e : (numF v 4).data.toList = [UInt8.ofNat (v / 16777216 % 256).toNat, UInt8.ofNat (v / 65536 % 256).toNat, UInt8.ofNat (v / 256 % 256).toNat, UInt8.ofNat (v % 256).toNat] := by simp [numF, putL, putB, List.range_succ]
  rw [e]
  have b0 : (UInt8.ofNat (v / 16777216 % 256).toNat).toNat = (v / 16777216 % 256).toNat := UInt8.toNat_ofNat_of_lt (show (v / 16777216 % 256).toNat < 256 by omega)
  have b1 : (UInt8.ofNat (v / 65536 % 256).toNat).toNat = (v / 65536 % 256).toNat := UInt8.toNat_ofNat_of_lt (show (v / 65536 % 256).toNat < 256 by omega)
  have b2 : (UInt8.ofNat (v / 256 % 256).toNat).toNat = (v / 256 % 256).toNat := UInt8.toNat_ofNat_of_lt (show (v / 256 % 256).toNat < 256 by omega)
  have b3 : (UInt8.ofNat (v % 256).toNat).toNat = (v % 256).toNat := UInt8.toNat_ofNat_of_lt (show (v % 256).toNat < 256 by omega)
  simp [valueF, numOf, b0, b1, b2, b3]
  omega
theorem find1 (c : Cf) : findO (askF c) 1 = if c.mru != 1492 then some (numF c.mru 2) else none := by
  unfold askF findO
  generalize (c.mru != 1492) = b0
  generalize (c.auth != 0) = b1
  generalize (c.magic != 0) = b2
  cases b0 <;> cases b1 <;> cases b2 <;> simp
theorem find3 (c : Cf) : findO (askF c) 3 = if c.auth != 0 then some (authF c.auth) else none := by
  unfold askF findO
  generalize (c.mru != 1492) = b0
  generalize (c.auth != 0) = b1
  generalize (c.magic != 0) = b2
  cases b0 <;> cases b1 <;> cases b2 <;> simp
theorem find5 (c : Cf) : findO (askF c) 5 = if c.magic != 0 then some (numF c.magic 4) else none := by
  unfold askF findO
  generalize (c.mru != 1492) = b0
  generalize (c.auth != 0) = b1
  generalize (c.magic != 0) = b2
  cases b0 <;> cases b1 <;> cases b2 <;> simp

set_option linter.unusedSimpArgs false in
set_option maxHeartbeats 16000000 in
set_option maxRecDepth 100000 in
theorem lcpAsks_walk (c : Cf) (w : World) : Calls Tryz.prog 7 #[cfV c] w fun e w' => e = .returned (.bool true) ∧ Below w.heap.size w w' := by
  have Ha := hid lawAlive_any
  have HOp := hid (fun W => options_any c W)
  have hk0 := (Kept.refl (fun _ => False) w).alloc (.cells #[.int .i64 c.mru, .int .i64 c.auth, .int .i64 c.magic, .int .i64 c.echo, .int .i64 c.cf, .int .i64 c.tm, .int .i64 c.fails, .int .i64 c.wait] 43)
  have HC := hid (CfgAt.new w c)
  by_cases hg : GoodC c ∧ GoodS c.cf c.tm c.fails c.wait
  case neg =>
    have HN : Hid (∀ W, Calls Tryz.prog 19 #[cfV c, .pointer none] W fun e w' => e = .returned (.tuple #[.pointer none, .int .i64 1]) ∧ Kept (fun _ => False) W w') := fun W => by
      by_cases hc : GoodC c
      · exact lcpNew_bad2 c hc (fun hs => hg ⟨hc, hs⟩) W
      · exact lcpNew_bad1 c hc W
    unfold cfV at *
    generalize hA : w.alloc (.cells #[.int .i64 c.mru, .int .i64 c.auth, .int .i64 c.magic, .int .i64 c.echo, .int .i64 c.cf, .int .i64 c.tm, .int .i64 c.fails, .int .i64 c.wait] 43) = A at *
    have HA := hid hA
    have HK0 := hid hk0
    clear hA hk0 hg
    have x0 := HC.out 0 _ rfl
    have x1 := HC.out 1 _ rfl
    have x2 := HC.out 2 _ rfl
    have x3 := HC.out 3 _ rfl
    have x4 := HC.out 4 _ rfl
    have x5 := HC.out 5 _ rfl
    have x6 := HC.out 6 _ rfl
    have x7 := HC.out 7 _ rfl
    go_enter Tryz.func7, Tryz.ntmps7
    go_upto_region 1 with fail
    rw [HA.out]
    go_wp2_with fail
    refine (HN.out _).mono ?_
    rintro e w1 ⟨rfl, hk1⟩
    have K1 := hid (HK0.out.trans hk1)
    have C1 := HC.out.kept0 hk1
    clear x0 x1 x2 x3 x4 x5 x6 x7 hk1
    have x0 := C1 0 _ rfl
    have x1 := C1 1 _ rfl
    have x2 := C1 2 _ rfl
    have x3 := C1 3 _ rfl
    have x4 := C1 4 _ rfl
    have x5 := C1 5 _ rfl
    have x6 := C1 6 _ rfl
    have x7 := C1 7 _ rfl
    go_wp2_with fail
    refine (HOp.out _).mono ?_
    rintro e w2 ⟨u2, rfl, ho2, hk2⟩
    obtain ⟨p2, c2, rfl⟩ := slice_of ho2
    have K2 := hid (K1.out.trans hk2)
    clear hk2 ho2 C1 x0 x1 x2 x3 x4 x5 x6 x7
    go_wp2_with fail
    refine (Ha.out _).mono ?_
    rintro e w3 ⟨rfl, hk3⟩
    have K3 := hid (K2.out.trans hk3)
    clear hk3
    go_wp2
    go_ret
    exact ⟨rfl, below_kept K3.out⟩
  obtain ⟨gc, gs⟩ := hg
  have HN := hid (fun W => lcpNew_nil c gc gs.cf gs.tm gs.fails gs.wait 0 W (Nat.zero_le _))
  have HPu := hid (fun (W : World) (v : Value) (h : OptsAt W v (askF c)) => putOpts_any v (askF c) W h.1 (ask_fine c).2.2)
  have HF1 := hid (fun (W : World) (v : Value) (h : OptsAt W v (askF c)) => findOpt_any v (askF c) 1 W h.1 (by have := ask_len c; omega) (ask_fine c).2.2)
  have HF3 := hid (fun (W : World) (v : Value) (h : OptsAt W v (askF c)) => findOpt_any v (askF c) 3 W h.1 (by have := ask_len c; omega) (ask_fine c).2.2)
  have HF5 := hid (fun (W : World) (v : Value) (h : OptsAt W v (askF c)) => findOpt_any v (askF c) 5 W h.1 (by have := ask_len c; omega) (ask_fine c).2.2)
  rw [ask_put] at HPu
  simp only at HPu
  have HB1 : Hid ((findO (askF c) 1).isSome = (c.mru != 1492)) := by show _ = _; rw [find1]; cases (c.mru != 1492) <;> rfl
  have HB3 : Hid ((findO (askF c) 3).isSome = (c.auth != 0)) := by show _ = _; rw [find3]; cases (c.auth != 0) <;> rfl
  have HB5 : Hid ((findO (askF c) 5).isSome = (c.magic != 0)) := by show _ = _; rw [find5]; cases (c.magic != 0) <;> rfl
  have HS3 : Hid (findOB (askF c) 3 = if c.auth != 0 then authF c.auth else ⟨#[]⟩) := by show _ = _; unfold findOB; rw [find3]; cases (c.auth != 0) <;> rfl
  have hmru := hid (num2 (v := c.mru) (by have := gc.mru1; omega) (by have := gc.mru2; omega))
  have hmag := hid (num4 (v := c.magic) gc.mag1 gc.mag2)
  have HVm := hid (fun W => value_any (numF c.mru 2) (by rw [numF_size]; decide) W)
  have HVg := hid (fun W => value_any (numF c.magic 4) (by rw [numF_size]; decide) W)
  have HVe := hid (fun W => value_any ⟨#[]⟩ (by decide) W)
  rw [hmru.out] at HVm
  rw [hmag.out] at HVg
  have hau := hid gc.auth
  obtain ⟨N1, HN1⟩ : ∃ N1, N1 = (if c.mru != 1492 then c.mru else 0) := ⟨_, rfl⟩
  obtain ⟨N5, HN5⟩ : ∃ N5, N5 = (if c.magic != 0 then c.magic else 0) := ⟨_, rfl⟩
  have HV1 : Hid (∀ W, Calls Tryz.prog 29 #[.string (findOB (askF c) 1)] W fun e w' => ∃ ok, e = .returned (.tuple #[.int .i64 N1, .bool ok]) ∧ w' = W) := fun W => by
    unfold findOB
    rw [find1, HN1]
    cases h : (c.mru != 1492)
    · exact (HVe.out W).mono fun _ _ h => ⟨_, h⟩
    · exact (HVm.out W).mono fun _ _ h => ⟨_, h⟩
  have HV5 : Hid (∀ W, Calls Tryz.prog 29 #[.string (findOB (askF c) 5)] W fun e w' => ∃ ok, e = .returned (.tuple #[.int .i64 N5, .bool ok]) ∧ w' = W) := fun W => by
    unfold findOB
    rw [find5, HN5]
    cases h : (c.magic != 0)
    · exact (HVe.out W).mono fun _ _ h => ⟨_, h⟩
    · exact (HVg.out W).mono fun _ _ h => ⟨_, h⟩
  replace HN1 := hid HN1
  replace HN5 := hid HN5
  clear HVe HVm HVg
  generalize (⟨(bytesO (askF c)).toArray⟩ : ByteArray) = PB at *
  generalize findOB (askF c) 1 = S1 at *
  generalize findOB (askF c) 3 = S3 at *
  generalize findOB (askF c) 5 = S5 at *
  generalize (findO (askF c) 1).isSome = B1 at *
  generalize (findO (askF c) 3).isSome = B3 at *
  generalize (findO (askF c) 5).isSome = B5 at *
  unfold cfV at *
  generalize hA : w.alloc (.cells #[.int .i64 c.mru, .int .i64 c.auth, .int .i64 c.magic, .int .i64 c.echo, .int .i64 c.cf, .int .i64 c.tm, .int .i64 c.fails, .int .i64 c.wait] 43) = A at *
  have HA := hid hA
  have HK0 := hid hk0
  clear hA hk0 gc gs hmru hmag
  have x0 := HC.out 0 _ rfl
  have x1 := HC.out 1 _ rfl
  have x2 := HC.out 2 _ rfl
  have x3 := HC.out 3 _ rfl
  have x4 := HC.out 4 _ rfl
  have x5 := HC.out 5 _ rfl
  have x6 := HC.out 6 _ rfl
  have x7 := HC.out 7 _ rfl
  go_enter Tryz.func7, Tryz.ntmps7
  go_upto_region 1 with fail
  rw [HA.out]
  go_wp2_with fail
  refine (HN.out _).mono ?_
  rintro e w1 ⟨b, m, rfl, _, hk1, _⟩
  have K1 := hid (HK0.out.trans hk1)
  have C1 := HC.out.kept0 hk1
  clear x0 x1 x2 x3 x4 x5 x6 x7 hk1
  have HC1 := hid C1
  have x0 := C1 0 _ rfl
  have x1 := C1 1 _ rfl
  have x2 := C1 2 _ rfl
  have x3 := C1 3 _ rfl
  have x4 := C1 4 _ rfl
  have x5 := C1 5 _ rfl
  have x6 := C1 6 _ rfl
  have x7 := C1 7 _ rfl
  clear C1
  go_wp2_with fail
  refine (HOp.out _).mono ?_
  rintro e w2 ⟨u2, rfl, ho2, hk2⟩
  have O2 := hid ho2
  have K2 := hid (K1.out.trans hk2)
  have HC2 := hid (HC1.out.kept0 hk2)
  obtain ⟨p2, c2, rfl⟩ := slice_of ho2
  clear hk2 ho2 x0 x1 x2 x3 x4 x5 x6 x7 HC1 K1
  go_wp2_with fail
  refine (HPu.out _ _ O2.out.at).mono ?_
  rintro e w3 ⟨rfl, hk3⟩
  have O3 := hid (O2.out.kept hk3)
  have K3 := hid (K2.out.trans hk3)
  have HC3 := hid (HC2.out.kept0 hk3)
  clear hk3 O2 K2 HC2
  go_wp2_with fail
  refine (HF1.out _ _ O3.out.at).mono ?_
  rintro e w4 ⟨rfl, hk4⟩
  have O4 := hid (O3.out.kept hk4)
  have K4 := hid (K3.out.trans hk4)
  have HC4 := hid (HC3.out.kept0 hk4)
  clear hk4 O3 K3 HC3
  go_wp2_with fail
  refine (HF3.out _ _ O4.out.at).mono ?_
  rintro e w5 ⟨rfl, hk5⟩
  have O5 := hid (O4.out.kept hk5)
  have K5 := hid (K4.out.trans hk5)
  have HC5 := hid (HC4.out.kept0 hk5)
  clear hk5 O4 K4 HC4
  go_wp2_with fail
  refine (HF5.out _ _ O5.out.at).mono ?_
  rintro e w6 ⟨rfl, hk6⟩
  have K6 := hid (K5.out.trans hk6)
  have HC6 := hid (HC5.out.kept0 hk6)
  clear hk6 O5 K5 HC5 HF1 HF3 HF5 HPu HN HOp HA HK0 HC
  go_wp2_with fail
  refine (HV1.out _).mono ?_
  rintro e w7 ⟨ok7, rfl, hw7⟩
  rw [hw7]
  clear hw7 w7
  go_wp2_with fail
  refine (HV5.out _).mono ?_
  rintro e w8 ⟨ok8, rfl, hw8⟩
  rw [hw8]
  clear hw8 w8 HV1 HV5
  go_wp2_with fail
  refine (Ha.out _).mono ?_
  rintro e w9 ⟨rfl, hk9⟩
  have K9 := hid (K6.out.trans hk9)
  have C9 := HC6.out.kept0 hk9
  have x0 := C9 0 _ rfl
  have x1 := C9 1 _ rfl
  have x2 := C9 2 _ rfl
  clear hk9 C9 HC6 K6
  have HB1 := HB1.out
  have HB3 := HB3.out
  have HB5 := HB5.out
  have HS3 := HS3.out
  have HN1 := HN1.out
  have HN5 := HN5.out
  cases h0 : (c.mru != 1492) <;> cases h5 : (c.magic != 0) <;> rcases hau.out with h3 | h3 | h3
  all_goals
    rw [h0] at HB1 HN1
    rw [h5] at HB5 HN5
    rw [h3] at HB3 HS3 x1
    simp only [if_true, if_false, Bool.false_eq_true] at HN1 HN5
    have hz : ((0 : Int) != 0) = false := rfl
    have hy : ((49187 : Int) != 0) = true := rfl
    have hx : ((49699 : Int) != 0) = true := rfl
    simp only [hz, hy, hx, if_true, if_false, Bool.false_eq_true] at HB3 HS3
    subst HB1 HB3 HB5 HN1 HN5
    try rw [show authF 49187 = ⟨#[192, 35]⟩ from by kernel_rfl] at HS3
    try rw [show authF 49699 = ⟨#[194, 35, 5]⟩ from by kernel_rfl] at HS3
    subst HS3
    clear hz hy hx h3 hau
    go_wp2
    go_ret
    exact ⟨rfl, below_kept K9.out⟩
end Go.Proofs.YtklapjfljffahaaGreat
