/- The walk of the law DigestGroup: for every number of 32 bits and every two ints it returns true, where the two tables hold what the program's text lays. -/
import Derived.Test.YtmelphkajkgdjabDoorAlive2
import Derived.OpenShut
namespace Go.Proofs.YtmelphkajkgdjabDoor
open Go.RowKit

theorem low_bits (n : Int) : ∃ k : Nat, bits .and .i64 n 31 = (k : Int) ∧ k < 32 := by
  refine ⟨(BitVec.ofInt 64 n &&& 31#64).toNat, ?_, ?_⟩
  · show IntKind.i64.wrap ((BitVec.ofInt 64 n &&& BitVec.ofInt 64 31).toNat : Int) = _
    have h : (BitVec.ofInt 64 n &&& 31#64).toNat < 32 := by
      rw [BitVec.toNat_and]
      exact Nat.lt_of_le_of_lt Nat.and_le_right (by decide)
    have e : BitVec.ofInt 64 31 = 31#64 := by decide
    rw [e, IntKind.wrap_i64]
    omega
  · rw [BitVec.toNat_and]
    exact Nat.lt_of_le_of_lt Nat.and_le_right (by decide)
theorem bit_of (x i : Nat) (hx : x < 4294967296) : bits .and .u32 ((x : Int) / 2 ^ i) 1 = ((x / 2 ^ i % 2 : Nat) : Int) := by
  have h := u32_and_nat (x / 2 ^ i) 1 (Nat.lt_of_le_of_lt (Nat.div_le_self _ _) hx) (by decide)
  rw [Nat.and_one_is_mod, Int.natCast_ediv, Int.natCast_pow] at h
  exact h

theorem onesTo_le (x n : Nat) : onesTo x n ≤ n := by
  induction n with
  | zero => exact Nat.le_refl _
  | succ n ih =>
    have h : x / 2 ^ n % 2 < 2 := Nat.mod_lt _ (by decide)
    rw [onesTo]
    omega

set_option maxHeartbeats 1000000 in
theorem digestGroup_walk (x0 n m : Int) (wx : (Lit.int .u32 x0).wf = true) (_wn : (Lit.int .i64 n).wf = true) (_wm : (Lit.int .i64 m).wf = true) (w : World) (hT : Tables w) :
    Calls Tryd.prog 3 #[.int .u32 x0, .int .i64 n, .int .i64 m] w fun e w' => e = .returned (.bool true) ∧ Below w.heap.size w w' := by
  have bx := bounds_u32 wx
  clear wx _wn _wm
  obtain ⟨x, rfl⟩ := Int.eq_ofNat_of_zero_le bx.1
  have hx : x < 4294967296 := by omega
  clear bx
  obtain ⟨N, hN, lN⟩ := low_bits n
  obtain ⟨M, hM, lM⟩ := low_bits m
  have h1 := rotate_any x hx (N : Int)
  rw [show ((N : Int) % 32).toNat = N by omega] at h1
  have h2 := rotate_any (rotF x N) (rotF_lt x N hx lN) (M : Int)
  rw [show ((M : Int) % 32).toNat = M by omega, rotF_rotF x N M hx lN lM] at h2
  have h3 := rotate_any x hx ((N : Int) + (M : Int))
  rw [show (((N : Int) + (M : Int)) % 32).toNat = (N + M) % 32 by omega] at h3
  have h4 := rotate_any x hx 32
  rw [show ((32 : Int) % 32).toNat = 0 by decide, rotF_zero x hx] at h4
  have h5 := rotate_any x hx 0
  rw [show ((0 : Int) % 32).toNat = 0 by decide, rotF_zero x hx] at h5
  have hA : rotF x ((N + M) % 32) < 4294967296 := rotF_lt x _ hx (Nat.mod_lt _ (by decide))
  have hones : onesTo (rotF x ((N + M) % 32)) 32 = onesTo x 32 := by
    rw [rotF_turns x _ hx (Nat.mod_lt _ (by decide))]
    exact ones_turnN x _ hx
  generalize rotF x ((N + M) % 32) = A at h2 h3 hA hones
  generalize rotF x N = B at h1 h2
  have H1 := hide h1
  have H2 := hide h2
  have H3 := hide h3
  have H4 := hide h4
  have H5 := hide h5
  have HO := hide hones
  have HT := hide hT
  clear h1 h2 h3 h4 h5 hones hT
  go_enter Tryd.func3, Tryd.ntmps3
  go_wp2_with fail
  refine (H1.out _).mono ?_
  rintro e w1 ⟨rfl, hw1⟩
  rw [hw1]
  go_wp2_with fail
  refine (H2.out _).mono ?_
  rintro e w2 ⟨rfl, hw2⟩
  rw [hw2]
  clear hw1 hw2
  go_wp2
  go_loopw [8, 9] (fun o i wr => ∃ k : Nat, k ≤ 32 ∧ i = .int .i64 (k : Int) ∧ o = .int .i64 ((onesTo x k : Int) - (onesTo A k : Int)) ∧ Below w.heap.size w wr) (fun _ i _ => 32 - (intOf i).toNat)
  case atStart => exact ⟨0, Nat.zero_le _, rfl, rfl, Below.refl _ _⟩
  case round =>
    obtain ⟨k, hk, rfl, rfl, hb⟩ := hrel
    by_cases hlt : k < 32
    · have b1 := bit_of x k hx
      have b2 := bit_of A k hA
      have o1 := onesTo_le x k
      have o2 := onesTo_le A k
      have r1 : x / 2 ^ k % 2 < 2 := Nat.mod_lt _ (by decide)
      have r2 : A / 2 ^ k % 2 < 2 := Nat.mod_lt _ (by decide)
      have HX := hide (show onesTo x (k + 1) = onesTo x k + x / 2 ^ k % 2 from rfl)
      have HA := hide (show onesTo A (k + 1) = onesTo A k + A / 2 ^ k % 2 from rfl)
      generalize x / 2 ^ k % 2 = p at b1 r1 HX
      generalize A / 2 ^ k % 2 = q at b2 r2 HA
      go_wp2
      go_region
      go_wp2
      go_roundw
      case rel => exact ⟨k + 1, by omega, by go_num, by rw [HX.out, HA.out]; go_num, hb.drew⟩
      case measure => simp [intOf]; omega
    · obtain rfl : k = 32 := by omega
      have ho : (onesTo x 32 : Int) - (onesTo A 32 : Int) = 0 := by rw [HO.out]; omega
      have HT2 := hide (HT.out.next hb)
      go_wp2_with fail
      refine (alive_any _ HT2.out).mono ?_
      rintro e w5 ⟨rfl, hb5⟩
      go_wp2_with fail
      refine (H3.out _).mono ?_
      rintro e w6 ⟨rfl, rfl⟩
      go_wp2_with fail
      refine (H4.out _).mono ?_
      rintro e w7 ⟨rfl, rfl⟩
      go_wp2_with fail
      refine (H5.out _).mono ?_
      rintro e w8 ⟨rfl, rfl⟩
      go_wp2
      go_ret
      exact ⟨rfl, below_next hb hb5⟩
end Go.Proofs.YtmelphkajkgdjabDoor
