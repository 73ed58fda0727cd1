/- The walk of the law DigestChap: for every id, secret, challenge and two texts it returns true (each string of at most 2^47 bytes), where the two tables hold what the program's text lays. -/
import Derived.Test.YtmelphkajkgdjaaDoorAlive2
import Derived.Test.YtmelphkajkgdjaaDoorChap
import Derived.OpenShut
namespace Go.Proofs.YtmelphkajkgdjaaDoor
open Go.RowKit

theorem bytes_toList (s : ByteArray) : s.toList = s.data.toList := by
  obtain ⟨⟨l⟩⟩ := s
  simp
theorem bytes_dec (a b : ByteArray) : decide (a.data.toList = b.data.toList) = (a.toList == b.toList) := by
  rw [Bool.eq_iff_iff, beq_iff_eq, decide_eq_true_iff, bytes_toList, bytes_toList]
theorem low_three (n : Int) : ∃ k : Nat, bits .and .i64 n 7 = (k : Int) ∧ k < 8 := by
  refine ⟨(BitVec.ofInt 64 n &&& 7#64).toNat, ?_, ?_⟩
  · show IntKind.i64.wrap ((BitVec.ofInt 64 n &&& BitVec.ofInt 64 7).toNat : Int) = _
    have h : (BitVec.ofInt 64 n &&& 7#64).toNat < 8 := by
      rw [BitVec.toNat_and]
      exact Nat.lt_of_le_of_lt Nat.and_le_right (by decide)
    have e : BitVec.ofInt 64 7 = 7#64 := by decide
    rw [e, IntKind.wrap_i64]
    omega
  · rw [BitVec.toNat_and]
    exact Nat.lt_of_le_of_lt Nat.and_le_right (by decide)

set_option maxHeartbeats 2000000 in
theorem digestChap_walk (k : Int) (s c a b : ByteArray) (wk : (Lit.int .i64 k).wf = true) (hs : s.size ≤ 140737488351232) (hc : c.size ≤ 140737488351232) (ha : a.size ≤ 140737488351232) (hb : b.size ≤ 140737488351232) (w : World) (hT : Tables w) :
    Calls Tryd.prog 5 #[.int .i64 k, .string s, .string c, .string a, .string b] w fun e w' => e = .returned (.bool true) ∧ Below w.heap.size w w' := by
  have HT := hide hT
  clear hT
  have bk := bounds_i64 wk
  clear wk
  by_cases hl : s.size + c.size + a.size + b.size ≤ 6000
  · have hmx : (6001 : Nat) ≤ maxLen := by decide
    have h1 := fun W hT => chap_any k s c (by omega) (by omega) W hT
    have h2 := refChap_any k s c (by omega) (by omega)
    obtain ⟨e7, he7, hl7⟩ := low_three k
    obtain ⟨k2, hk2⟩ : ∃ k2, k2 = IntKind.i64.wrap (k + 256 * (e7 : Int)) := ⟨_, rfl⟩
    have hmod : k2 % 256 = k % 256 := by rw [hk2, IntKind.wrap_i64]; omega
    have h3 := fun W hT => chap_any k2 s c (by omega) (by omega) W hT
    rw [chapF_same k2 k _ _ hmod] at h3
    have h4 := same_any a b (by omega)
    rw [bytes_dec] at h4
    have h5 := same_any a a (by omega)
    rw [show decide (a.data.toList = a.data.toList) = true from decide_eq_true rfl] at h5
    obtain ⟨R, hR⟩ : ∃ R : ByteArray, R = ⟨(chapF k s.data.toList c.data.toList).toArray⟩ := ⟨_, rfl⟩
    rw [← hR] at h1 h2 h3
    have hRs : R.size = 16 := by rw [hR, Lib.size_eq]; exact chapF_length _ _ _
    have hq : ∀ q : Bool, (q == q) = true := fun q => by cases q <;> rfl
    obtain ⟨Q, hQ⟩ : ∃ Q, (a.toList == b.toList) = Q := ⟨_, rfl⟩
    rw [hQ] at h4
    have hw2 := hk2.symm
    have H1 := hide h1
    have H2 := hide h2
    have H3 := hide h3
    have H4 := hide h4
    have H5 := hide h5
    clear h1 h2 h3 h4 h5 hR hmod hk2
    go_enter Tryd.func5, Tryd.ntmps5
    go_wp2_with fail
    refine (H1.out _ HT.out).mono ?_
    rintro e w1 ⟨rfl, hb1⟩
    go_wp2_with fail
    refine (alive_any _ (HT.out.next hb1)).mono ?_
    rintro e w2 ⟨rfl, hb2⟩
    have hb12 := below_next hb1 hb2
    go_wp2_with fail
    refine (H2.out _).mono ?_
    rintro e w3 ⟨rfl, hb3⟩
    have hb13 := below_next hb12 hb3
    go_wp2_with fail
    refine (H3.out _ (HT.out.next hb13)).mono ?_
    rintro e w4 ⟨rfl, hb4⟩
    have hb14 := below_next hb13 hb4
    go_wp2_with fail
    refine (H4.out _).mono ?_
    rintro e w5 ⟨rfl, hb5⟩
    have hb15 := below_next hb14 hb5
    go_wp2_with fail
    refine (H5.out _).mono ?_
    rintro e w6 ⟨rfl, hb6⟩
    have hb16 := below_next hb15 hb6
    go_wp2
    go_ret
    exact ⟨rfl, hb16⟩
  · go_enter Tryd.func5, Tryd.ntmps5
    go_wp2_with (go_at_call 9; refine (alive_any _ HT.out).mono ?_; rintro e w3 ⟨rfl, hb3⟩)
    go_ret
    exact ⟨rfl, by assumption⟩
end Go.Proofs.YtmelphkajkgdjaaDoor
