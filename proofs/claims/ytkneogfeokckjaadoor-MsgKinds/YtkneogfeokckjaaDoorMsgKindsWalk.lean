/- The walk of the law MsgKinds. -/
import Derived.Test.YtkneogfeokckjaaDoorMsIn
import Derived.Test.YtkneogfeokckjaaDoorAvArgs
namespace Go.Proofs.YtkneogfeokckjaaDoor
open Go.RowKit

theorem i64_and65535 (n : Int) : bits .and .i64 n 65535 = n % 65536 := by
  have h127 : (BitVec.ofInt 64 65535).toNat = 2 ^ 16 - 1 := by decide
  have key : (BitVec.ofInt 64 n &&& BitVec.ofInt 64 65535).toNat = (n % ((2 ^ 64 : Nat) : Int)).toNat % 2 ^ 16 := by
    rw [BitVec.toNat_and, BitVec.toNat_ofInt, h127, Nat.and_two_pow_sub_one_eq_mod]
  show IntKind.i64.wrap ((BitVec.ofInt 64 n &&& BitVec.ofInt 64 65535).toNat : Nat) = n % 65536
  rw [key, IntKind.wrap_i64]
  omega
theorem numV_two (k : Int) : numV k 2 = ⟨#[UInt8.ofNat (k / 256 % 256).toNat, UInt8.ofNat (k % 256).toNat]⟩ := by
  unfold numV
  rw [if_neg (by decide)]
  simp [lowI]
theorem numV_size (k : Int) : (numV k 2).size = 2 := by rw [numV_two]; rfl
theorem numAt_numV (k : Int) : (numAt (numV k 2) 0 : Int) = k % 65536 := by
  rw [numAt_two _ _ (by rw [numV_size]; omega), numV_two]
  unfold byteN
  simp
  omega
def headH (k : Int) : Av := ⟨true, true, 0, 0, numV k 2⟩
theorem kind_head (k : Int) (l : List Av) : kindF (headK k :: l) = k % 65536 := by
  show (if (0 : Int) = 0 ∧ (0 : Int) = 0 ∧ false = false ∧ (numV k 2).size = 2 then (numAt (numV k 2) 0 : Int) else -1) = _
  rw [if_pos ⟨rfl, rfl, rfl, numV_size k⟩, numAt_numV]
theorem kind_hid (k : Int) (l : List Av) : kindF (headH k :: l) = -1 := by
  show (if (0 : Int) = 0 ∧ (0 : Int) = 0 ∧ true = false ∧ (numV k 2).size = 2 then (numAt (numV k 2) 0 : Int) else -1) = _
  rw [if_neg (by simp)]
theorem OwnAv.tail {w : World} {base g M c : Nat} {x : Av} {l : List Av} (h : OwnAv w base (.slice (some ⟨g, 0, none⟩) M c) (x :: l)) (hM : M - 1 = l.length) : AvsAt w (.slice (some ⟨g, 5, none⟩) (M - 1) (c - 1)) l := by
  rw [hM]
  have ha := OwnAv.at h
  rcases ha with ⟨e, _⟩ | ⟨g', o', cap', e, h1, h2, hc⟩
  · cases e
  · simp only [Value.slice.injEq, Option.some.injEq, Addr.mk.injEq, and_true] at e
    obtain ⟨⟨rfl, rfl⟩, h3, rfl⟩ := e
    rw [List.length_cons] at h1 h3
    refine Or.inr ⟨g, 5, c - 1, rfl, by omega, by omega, fun j y hj i u hu => ?_⟩
    have := hc (j + 1) y (by rw [List.getElem?_cons_succ]; exact hj) i u hu
    rw [show 0 + (j + 1) * 5 + i = 5 + j * 5 + i by omega] at this
    exact this

set_option maxHeartbeats 4000000 in
set_option maxRecDepth 100000 in
theorem msgKinds_not (k : Int) (v : Value) (l : List Av) (w : World) (hI : AvsIn w v l) (h : lightA l = false) :
    Calls Tryd.prog 5 #[.int .i64 k, v] w fun e w' => e = .returned (.bool true) ∧ Kept (fun _ => False) w w' := by
  have HA := hid aliveM_any
  have HL := hid (lightA_any v l w hI.at_ hI.len hI.size)
  obtain ⟨p, cap, rfl⟩ := RowsAt.slice hI.at_
  rw [h] at HL
  clear h hI
  go_enter Tryd.func5, Tryd.ntmps5
  go_wp2_with fail
  refine HL.out.mono ?_
  rintro e w0 ⟨rfl, hk0⟩
  have HK0 := hid hk0
  clear hk0
  go_wp2_with fail
  refine (HA.out _).mono ?_
  rintro e w1 ⟨rfl, hk1⟩
  have HK1 := hid (HK0.out.trans hk1)
  clear hk1
  go_wp2
  go_ret
  exact ⟨rfl, HK1.out⟩

set_option maxHeartbeats 4000000 in
set_option maxRecDepth 100000 in
theorem msgKinds_yes (k : Int) (v : Value) (l : List Av) (w : World) (hI : AvsIn w v l) (h : lightA l = true) :
    Calls Tryd.prog 5 #[.int .i64 k, v] w fun e w' => e = .returned (.bool true) ∧ Kept (fun _ => False) w w' := by
  have HA := hid aliveM_any
  have HL := hid (lightA_any v l w hI.at_ hI.len hI.size)
  have hlen := (lightA_true h).1
  obtain ⟨p, cap, rfl⟩ := RowsAt.slice hI.at_
  rw [h] at HL
  have HM := hid (fun W (hk : Kept (fun _ => False) w W) => make_any k (.slice p l.length cap) l W (hI.kept hk).at_ (by omega))
  have HKi := hid (fun W u (L : List Av) (hu : AvsAt W u L) => mKind_any 0 0 0 0 u L W hu)
  have HKz := hid (fun W => mKind_none 0 0 0 0 none 0 W)
  have HCz := hid (fun W => check_any 0 0 0 0 (.slice none 0 0) [] W (avs_nil W) (by decide) (fun x hx => by cases hx) (fun x hx => by cases hx))
  rw [show checkF [] = 0 from rfl] at HCz
  have HS := hid (fun W q M cc (hM : M - 1 = l.length) (hq : AvsAt W (.slice q (M - 1) cc) l) (hk : Kept (fun _ => False) w W) => sameAv_any (.slice q (M - 1) cc) (.slice p l.length cap) l l W hq (hI.kept hk).at_ (by omega) hI.good hI.good)
  rw [sameL_self] at HS
  have hand := i64_and65535 k
  clear h hI
  go_enter Tryd.func5, Tryd.ntmps5
  go_wp2_with fail
  refine HL.out.mono ?_
  rintro e w0 ⟨rfl, hk0⟩
  have HK0 := hid hk0
  clear hk0 HL
  go_wp2_with fail
  refine (HM.out _ HK0.out).mono ?_
  rintro e w1 ⟨v1, rfl, ho1, hk1⟩
  obtain ⟨q, c, rfl⟩ := slice_of ho1
  have HK1 := hid (HK0.out.trans hk1)
  have HG := hid HK0.out.size
  obtain ⟨g, rfl, hz1, hgb, hgc, hgm, hcell, hfz⟩ := OwnG.at ho1 encAv (j := 0) (x := headK k) rfl
  obtain ⟨M, hM⟩ : ∃ M, M = (headK k :: l).length := ⟨_, rfl⟩
  rw [← hM] at ho1 hgc ⊢
  rw [List.length_cons] at hM
  have HO1 := hid ho1
  have HMl := hid (show M - 1 = l.length by omega)
  have hwr : IntKind.i64.wrap (1 + (l.length : Int)) = (M : Int) := by rw [IntKind.wrap_i64]; omega
  have hM0 : (0 : Int) < (M : Int) := by omega
  have hMl : (l.length : Int) + 1 = (M : Int) := by omega
  have hMl2 : 1 + (l.length : Int) = (M : Int) := by omega
  have hM1 : (1 : Int) ≤ (M : Int) := by omega
  have c1 := hcell 1 _ rfl
  have f1 := hfz 1
  have hgw : w.heap.size ≤ g := by have := HG.out; omega
  clear ho1 hk1 hcell hfz HM hM HK0 hz1
  go_upto_region 7 with fail
  have HO2 := hid (OwnG.setAt HO1.out encAv (j := 0) (x := headK k) (y := headH k) rfl 1 (by decide) (.bool true) rfl)
  have HK2 := hid (HK1.out.setCell (p := ⟨g, 0 * 5 + 1, none⟩) (Or.inl hgw) (.bool true))
  rw [Nat.zero_mul, Nat.zero_add] at HO2 HK2
  generalize w1.setCell ⟨g, 1, none⟩ (.bool true) = W2 at *
  clear c1 f1 HK1 HO1
  go_wp2_with fail
  refine (HKi.out _ _ _ (OwnAv.at HO2.out)).mono ?_
  rintro e w3 ⟨rfl, hk3⟩
  rw [show ((headK k :: l).set 0 (headH k)) = headH k :: l from rfl, kind_hid]
  rw [show ((headK k :: l).set 0 (headH k)) = headH k :: l from rfl] at HO2
  have HK3 := hid (HK2.out.trans hk3)
  have HO3 := hid (OwnG.kept0 HO2.out hk3)
  clear hk3 HK2 HO2
  obtain ⟨g', e', hz1, hz2, hz3, hz4, hcell, hfz⟩ := OwnG.at HO3.out encAv (j := 0) (x := headH k) rfl
  obtain rfl : g = g' := by simpa using e'
  have c1 := hcell 1 _ rfl
  have f1 := hfz 1
  clear hcell hfz e' hz1 hz2 hz3 hz4
  go_upto_region 9 with fail
  have HO4 := hid (OwnG.setAt HO3.out encAv (j := 0) (x := headH k) (y := headK k) rfl 1 (by decide) (.bool false) rfl)
  have HK4 := hid (HK3.out.setCell (p := ⟨g, 0 * 5 + 1, none⟩) (Or.inl hgw) (.bool false))
  rw [Nat.zero_mul, Nat.zero_add] at HO4 HK4
  rw [show ((headH k :: l).set 0 (headK k)) = headK k :: l from rfl] at HO4
  generalize w3.setCell ⟨g, 1, none⟩ (.bool false) = W4 at *
  clear c1 f1 HK3 HO3
  go_wp2_with fail
  refine (HA.out _).mono ?_
  rintro e w5 ⟨rfl, hk5⟩
  have HK5 := hid (HK4.out.trans hk5)
  have HO5 := hid (OwnG.kept0 HO4.out hk5)
  clear hk5 HK4 HO4
  go_wp2_with fail
  refine (HKi.out _ _ _ (OwnAv.at HO5.out)).mono ?_
  rintro e w6 ⟨rfl, hk6⟩
  rw [kind_head]
  have HK6 := hid (HK5.out.trans hk6)
  have HO6 := hid (OwnG.kept0 HO5.out hk6)
  clear hk6 HK5 HO5
  have HC := hid (show c = 1 ∨ c ≠ 1 by omega)
  have HgM := hid hgc
  rcases HC.out with hc | hc
  · subst hc
    have hn : l = [] := by
      have h1 := HMl.out
      have h2 := HgM.out
      exact List.length_eq_zero_iff.1 (by omega)
    have hM2 : M = 1 := by have h1 := HMl.out; rw [hn] at h1; simp at h1; omega
    subst hM2
    subst hn
    have HS0 : Hid (∀ W q cc, Kept (fun _ => False) w W → Calls Tryd.prog 20 #[.slice q 0 cc, .slice p 0 cap] W fun e w' => e = .returned (.bool true) ∧ Kept (fun _ => False) W w') := fun W q cc hk => HS.out W q 1 cc HMl.out (Or.inl ⟨rfl, q, cc, rfl⟩) hk
    clear hgc HgM HS hwr hMl hMl2 hlen
    simp only [List.length_nil] at *
    go_wp2_with fail
    refine (HS0.out _ _ _ HK6.out).mono ?_
    rintro e w7 ⟨rfl, hk7⟩
    have HK7 := hid (HK6.out.trans hk7)
    clear hk7
    go_wp2_with fail
    refine (HKz.out _).mono ?_
    rintro e w8 ⟨rfl, hk8⟩
    have HK8 := hid (HK7.out.trans hk8)
    clear hk8
    go_wp2_with fail
    refine (HCz.out _).mono ?_
    rintro e w9 ⟨rfl, hk9⟩
    have HK9 := hid (HK8.out.trans hk9)
    clear hk9
    go_wp2
    go_ret
    exact ⟨rfl, HK9.out⟩
  · have HT := hid (OwnAv.tail HO6.out HMl.out)
    have hcz : ¬ (c : Int) = 1 := by omega
    clear hgc HgM
    go_wp2_with fail
    refine (HS.out _ _ _ _ HMl.out HT.out HK6.out).mono ?_
    rintro e w7 ⟨rfl, hk7⟩
    have HK7 := hid (HK6.out.trans hk7)
    clear hk7
    go_wp2_with fail
    refine (HKz.out _).mono ?_
    rintro e w8 ⟨rfl, hk8⟩
    have HK8 := hid (HK7.out.trans hk8)
    clear hk8
    go_wp2_with fail
    refine (HCz.out _).mono ?_
    rintro e w9 ⟨rfl, hk9⟩
    have HK9 := hid (HK8.out.trans hk9)
    clear hk9
    go_wp2
    go_ret
    exact ⟨rfl, HK9.out⟩

theorem msgKinds_walk (k : Int) (v : Value) (l : List Av) (w : World) (_hk : -9223372036854775808 ≤ k ∧ k ≤ 9223372036854775807) (hI : AvsIn w v l) (_hT : Tables w) :
    Calls Tryd.prog 5 #[.int .i64 k, v] w fun e w' => e = .returned (.bool true) ∧ Below w.heap.size w w' := by
  refine (?_ : Calls Tryd.prog 5 #[.int .i64 k, v] w fun e w' => e = .returned (.bool true) ∧ Kept (fun _ => False) w w').mono fun _ _ ⟨h1, h2⟩ => ⟨h1, below_of h2⟩
  cases h : lightA l with
  | false => exact msgKinds_not k v l w hI h
  | true => exact msgKinds_yes k v l w hI h
end Go.Proofs.YtkneogfeokckjaaDoor
