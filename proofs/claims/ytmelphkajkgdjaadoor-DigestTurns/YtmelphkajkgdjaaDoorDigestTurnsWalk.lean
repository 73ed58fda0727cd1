/- The walk of the law DigestTurns: for every number of 32 bits and every two ints it returns true, where the two tables hold what the program's text lays. -/
import Derived.Test.YtmelphkajkgdjaaDoorAlive2
import Derived.Test.YtmelphkajkgdjaaDoorRefRotate
import Derived.OpenShut
namespace Go.Proofs.YtmelphkajkgdjaaDoor
open Go.RowKit

set_option maxHeartbeats 1000000 in
theorem digestTurns_walk (x0 n m : Int) (wx : (Lit.int .u32 x0).wf = true) (wn : (Lit.int .i64 n).wf = true) (wm : (Lit.int .i64 m).wf = true) (w : World) (hT : Tables w) :
    Calls Tryd.prog 4 #[.int .u32 x0, .int .i64 n, .int .i64 m] w fun e w' => e = .returned (.bool true) ∧ Below w.heap.size w w' := by
  have bx := bounds_u32 wx
  have bn := bounds_i64 wn
  have bm := bounds_i64 wm
  clear wx wn wm
  obtain ⟨x, rfl⟩ := Int.eq_ofNat_of_zero_le bx.1
  have hx : x < 4294967296 := by omega
  have cn := rem_cases n
  have cm := rem_cases m
  obtain ⟨N, hN⟩ : ∃ N, N = n.tmod 32 := ⟨_, rfl⟩
  obtain ⟨M, hM⟩ : ∃ M, M = m.tmod 32 := ⟨_, rfl⟩
  rw [← hN] at cn
  rw [← hM] at cm
  have ha : (n % 32).toNat < 32 := by omega
  have ha2 : (m % 32).toNat < 32 := by omega
  have h1 := rotate_any x hx n
  have h2 := refRotate_any x hx n
  have h3 := rotate_any (rotF x (n % 32).toNat) (rotF_lt x _ hx ha) (-N)
  have e3 : rotF (rotF x (n % 32).toNat) ((-N) % 32).toNat = x := by
    rw [rotF_rotF x _ _ hx ha (by omega), show ((n % 32).toNat + ((-N) % 32).toNat) % 32 = 0 by omega, rotF_zero x hx]
  rw [e3] at h3
  have h4 := rotate_any x hx N
  rw [show (N % 32).toNat = (n % 32).toNat by omega] at h4
  have h5 := rotate_any (rotF x (n % 32).toNat) (rotF_lt x _ hx ha) M
  rw [show (M % 32).toNat = (m % 32).toNat by omega, rotF_rotF x _ _ hx ha ha2] at h5
  have h6 := rotate_any x hx (N + M)
  rw [show ((N + M) % 32).toNat = ((n % 32).toNat + (m % 32).toNat) % 32 by omega] at h6
  have hr1 := rotF_lt x _ hx ha
  generalize rotF x (n % 32).toNat = R at h1 h2 h3 h4 h5 hr1
  generalize rotF x (((n % 32).toNat + (m % 32).toNat) % 32) = R2 at h5 h6
  have H1 := hide h1
  have H2 := hide h2
  have H3 := hide h3
  have H4 := hide h4
  have H5 := hide h5
  have H6 := hide h6
  have HT := hide hT
  have bN : -32 < N ∧ N < 32 := by omega
  have bM : -32 < M ∧ M < 32 := by omega
  have hNe := hN.symm
  have hMe := hM.symm
  clear h1 h2 h3 h4 h5 h6 e3 hT cn cm ha ha2 hN hM
  go_enter Tryd.func4, Tryd.ntmps4
  go_wp2_with fail
  refine (H1.out _).mono ?_
  rintro e w1 ⟨rfl, rfl⟩
  go_wp2_with fail
  refine (H2.out _).mono ?_
  rintro e w2 ⟨rfl, rfl⟩
  go_wp2_with fail
  refine (H1.out _).mono ?_
  rintro e w3 ⟨rfl, rfl⟩
  go_wp2_with fail
  refine (H3.out _).mono ?_
  rintro e w4 ⟨rfl, rfl⟩
  go_wp2_with fail
  refine (alive_any _ HT.out).mono ?_
  rintro e w5 ⟨rfl, hb5⟩
  go_wp2_with fail
  refine (H4.out _).mono ?_
  rintro e w6 ⟨rfl, rfl⟩
  go_wp2_with fail
  refine (H5.out _).mono ?_
  rintro e w7 ⟨rfl, rfl⟩
  go_wp2_with fail
  refine (H6.out _).mono ?_
  rintro e w8 ⟨rfl, rfl⟩
  go_wp2
  go_ret
  exact ⟨rfl, hb5⟩
end Go.Proofs.YtmelphkajkgdjaaDoor
