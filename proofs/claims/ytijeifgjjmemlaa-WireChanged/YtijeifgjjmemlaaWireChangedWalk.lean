/- The walk of the law WireChanged: for every string of at most 2^47 bytes and every two ints it returns true, and of what was there nothing has turned. -/
import Derived.Test.YtijeifgjjmemlaaAlive
import Derived.Test.YtijeifgjjmemlaaRefSum
import Derived.Lib.ConvBytes
import Derived.Lib.SmallJoins
import Derived.OpenShut
namespace Go.Proofs.Ytijeifgjjmemlaa
open Go.RowKit

/-! A changed byte changes the check sum. -/
theorem crc1_inj {x y : Nat} (hx : x < 65536) (hy : y < 65536) (h : crc1 x = crc1 y) : x = y := by
  have top : ∀ a, a < 32768 → 32768 ≤ a ^^^ 33800 := fun a ha => by
    have hb : (a ^^^ 33800).testBit 15 = true := by
      rw [Nat.testBit_xor, Nat.testBit_lt_two_pow (show a < 2 ^ 15 by omega)]
      decide
    exact Nat.ge_two_pow_of_testBit hb
  have cancel : ∀ a b : Nat, a ^^^ 33800 = b ^^^ 33800 → a = b := fun a b he => by
    have h2 := congrArg (· ^^^ 33800) he
    simpa [Nat.xor_assoc] using h2
  unfold crc1 at h
  have t1 := top (x / 2) (by omega)
  have t2 := top (y / 2) (by omega)
  split at h
  · split at h
    · have := cancel _ _ h
      omega
    · omega
  · split at h
    · omega
    · omega
theorem crcN_inj {x y : Nat} (hx : x < 65536) (hy : y < 65536) (n : Nat) (h : crcN n x = crcN n y) : x = y := by
  induction n with
  | zero => exact h
  | succ n ih => exact ih (crc1_inj (crcN_lt hx n) (crcN_lt hy n) h)
theorem xor_right_inj {x y b : Nat} (h : x ^^^ b = y ^^^ b) : x = y := by
  have h2 := congrArg (· ^^^ b) h
  simpa [Nat.xor_assoc] using h2
theorem crcOn_inj (l : List UInt8) {x y : Nat} (hx : x < 65536) (hy : y < 65536) (h : crcOn x l = crcOn y l) : x = y := by
  induction l generalizing x y with
  | nil => exact h
  | cons b l ih =>
    have h1 := ih (crcN_lt (xor_byte_lt hx b) 8) (crcN_lt (xor_byte_lt hy b) 8) h
    exact xor_right_inj (crcN_inj (xor_byte_lt hx b) (xor_byte_lt hy b) 8 h1)
theorem crcOn_append (x : Nat) (l m : List UInt8) : crcOn x (l ++ m) = crcOn (crcOn x l) m := by simp [crcOn]
theorem fcs_set (m : List UInt8) (k : Nat) (hk : k < m.length) (b : UInt8) (h : fcs (m.set k b) = fcs m) : b = m[k] := by
  have e1 : m = m.take k ++ m[k] :: m.drop (k + 1) := by rw [← List.drop_eq_getElem_cons, List.take_append_drop]
  have e2 : m.set k b = m.take k ++ b :: m.drop (k + 1) := by
    rw [List.set_eq_take_append_cons_drop, if_pos hk]
  have hc : crcOn 65535 (m.set k b) = crcOn 65535 m := by
    have l1 := crcOn_lt (x := 65535) (by decide) (m.set k b)
    have l2 := crcOn_lt (x := 65535) (by decide) m
    unfold fcs at h
    omega
  rw [e2] at hc
  conv at hc => rhs; rw [e1]
  rw [crcOn_append, crcOn_append] at hc
  have hlt := crcOn_lt (x := 65535) (by decide) (m.take k)
  generalize crcOn 65535 (m.take k) = z at hc hlt
  have h1 := crcOn_inj (m.drop (k + 1)) (crcN_lt (xor_byte_lt hlt b) 8) (crcN_lt (xor_byte_lt hlt m[k]) 8) hc
  have h2 := crcN_inj (xor_byte_lt hlt b) (xor_byte_lt hlt m[k]) 8 h1
  rw [Nat.xor_comm z, Nat.xor_comm z] at h2
  exact UInt8.toNat_inj.1 (xor_right_inj h2)
theorem changed (m : List UInt8) (k : Nat) (hk : k < (sealF m).length) (b : UInt8) (hb : b ≠ (sealF m)[k]) : unsealF ((sealF m).set k b) = ([], 6) := by
  have hl : (sealF m).length = m.length + 2 := by simp [sealF]
  unfold unsealF
  rw [if_neg (by rw [List.length_set, hl]; omega)]
  refine if_neg ?_
  rw [List.length_set, hl, Nat.add_sub_cancel]
  intro h
  by_cases hkm : k < m.length
  · have e1 : (sealF m).set k b = m.set k b ++ [UInt8.ofNat (fcs m % 256), UInt8.ofNat (fcs m / 256)] := by
      unfold sealF
      rw [List.set_append_left _ _ hkm]
    have e2 : (m.set k b ++ [UInt8.ofNat (fcs m % 256), UInt8.ofNat (fcs m / 256)]).take m.length = m.set k b := by
      rw [List.take_append_of_le_length (by simp)]
      exact List.take_of_length_le (by simp)
    rw [e1, e2] at h
    unfold sealF at h
    have h3 := List.append_cancel_left h
    simp only [List.cons.injEq, and_true] at h3
    have f1 := fcs_lt m
    have f2 := fcs_lt (m.set k b)
    have g1 := congrArg UInt8.toNat h3.1
    have g2 := congrArg UInt8.toNat h3.2
    simp at g1 g2
    have h4 : fcs (m.set k b) = fcs m := by omega
    have h5 := fcs_set m k hkm b h4
    apply hb
    rw [h5]
    simp [sealF, hkm]
  · have e2 : ((sealF m).set k b).take m.length = m := by
      rw [List.take_set_of_le (by omega)]
      unfold sealF
      rw [List.take_append_of_le_length (Nat.le_refl _), List.take_length]
    rw [e2] at h
    apply hb
    have h6 : ((sealF m).set k b)[k]? = (sealF m)[k]? := by rw [← h]
    rw [List.getElem?_set_self hk, List.getElem?_eq_getElem hk] at h6
    exact Option.some.inj h6

/-! The bytes of a string in memory of the call's own, one of them changed. -/
theorem own_cell (w : World) (x : ByteArray) (j : Nat) (h : j < x.size) : (Lib.bytesWorld w 5 x).cell? ⟨w.heap.size, j, none⟩ = some (.int .u8 (x[j].toNat : Int)) := by
  rw [Lib.bytesWorld_cell w 5 x j h]
  have e : x.data.toList.getD j 0 = x[j] := by
    rw [List.getD_eq_getElem?_getD, List.getElem?_eq_getElem (by rw [← Lib.size_eq]; exact h)]
    rfl
  rw [e]
theorem own_frozen (w : World) (x : ByteArray) (j : Nat) (h : j < x.size) : (Lib.bytesWorld w 5 x).frozen? ⟨w.heap.size, j, none⟩ = false := by
  unfold World.frozen?
  rw [Lib.bytesWorld_at_new]
  have hc : x.size ≤ (Lib.bytesCells w 5 x).size := by simp [Lib.bytesCells]
  simp
  omega
theorem own_conv (w : World) (x : ByteArray) (j : Nat) (h : j < x.size) (b : UInt8) (cap : Nat) :
    (convert 50 9 (.slice (some ⟨w.heap.size, 0, none⟩) x.size cap)).run Try.prog ((Lib.bytesWorld w 5 x).setCell ⟨w.heap.size, j, none⟩ (.int .u8 (b.toNat : Int))) =
      .ok (.string ⟨(x.data.toList.set j b).toArray⟩) ((Lib.bytesWorld w 5 x).setCell ⟨w.heap.size, j, none⟩ (.int .u8 (b.toNat : Int))) := by
  have hl : (x.data.toList.set j b).length = x.size := by rw [List.length_set, ← Lib.size_eq]
  have hr := run_convert_bytes_back (P := Try.prog) ((Lib.bytesWorld w 5 x).setCell ⟨w.heap.size, j, none⟩ (.int .u8 (b.toNat : Int))) 50 9 5 ⟨w.heap.size, 0, none⟩ cap (x.data.toList.set j b) Try.underlying50 Try.underlying5 Try.underlying9 (fun i hi => by
    have hi' : i < x.size := by omega
    rw [addr_add]
    by_cases e : j = i
    · subst e
      rw [World.cell?_setCell_same _ _ _ (own_cell w x j h)]
      simp
    · rw [World.cell?_setCell_other _ _ _ _ (fun h => e (congrArg Addr.off h)), own_cell w x i hi']
      rw [List.getElem_set_ne e]
      rfl)
  rw [hl] at hr
  exact hr
theorem own_below (w : World) (x : ByteArray) (j : Nat) (v : Value) : Below w.heap.size w ((Lib.bytesWorld w 5 x).setCell ⟨w.heap.size, j, none⟩ v) :=
  (Joins.below_bytesWorld w.heap.size w 5 x (Nat.le_refl _)).setCell (Nat.le_refl _) v
theorem xor_ne (c : UInt8) (d : Nat) (hd : d < 256) (h0 : d ≠ 0) : UInt8.ofNat (c.toNat ^^^ d) ≠ c := by
  intro h
  have hc := c.toNat_lt
  have hx : c.toNat ^^^ d < 256 := Nat.xor_lt_two_pow (n := 8) (by omega) (by omega)
  have h1 : c.toNat ^^^ d = c.toNat := (UInt8.toNat_ofNat_of_lt hx).symm.trans (congrArg UInt8.toNat h)
  have h2 := congrArg (c.toNat ^^^ ·) h1
  simp [← Nat.xor_assoc] at h2
  omega

/-- Behind Seal: the place's number is K. -/
theorem changed_unseal (s x : ByteArray) (hx : x = ⟨(sealF s.data.toList).toArray⟩) (hs : s.size ≤ 3000) (K : Nat) (hK : K < x.size) (d : Nat) (hd : d < 256) (h0 : d ≠ 0) (w : World) :
    Calls Try.prog 13 #[.string ⟨(x.data.toList.set K (UInt8.ofNat (x[K].toNat ^^^ d))).toArray⟩] w fun e w' => e = .returned (.tuple #[.string ⟨#[]⟩, .int .i64 6]) ∧ Below w.heap.size w w' := by
  have hl : x.data.toList = sealF s.data.toList := by rw [hx]
  have hk : K < (sealF s.data.toList).length := by rw [← hl, ← Lib.size_eq]; exact hK
  have he : x[K] = (sealF s.data.toList)[K] := by subst hx; rfl
  have h := unseal_any ⟨(x.data.toList.set K (UInt8.ofNat (x[K].toNat ^^^ d))).toArray⟩ (by
    rw [Lib.size_eq]
    simp [hx, sealF]
    omega) w
  have e : unsealF (x.data.toList.set K (UInt8.ofNat (x[K].toNat ^^^ d))) = ([], 6) := by
    rw [hl]
    exact changed s.data.toList K hk _ (by rw [← he]; exact xor_ne _ d hd h0)
  simp only [e] at h
  exact h

set_option maxHeartbeats 400000 in
theorem wireChanged_walk (s : ByteArray) (a d : Int) (hs : s.size ≤ 140737488351232) (wa : (Lit.int .i64 a).wf = true) (wd : (Lit.int .i64 d).wf = true) (w : World) :
    Calls Try.prog 7 #[.string s, .int .i64 a, .int .i64 d] w fun e w' => e = .returned (.bool true) ∧ Below w.heap.size w w' := by
  have ba := bounds_i64 wa
  have bd := bounds_i64 wd
  clear wa wd
  by_cases hl : s.size ≤ 3000
  · by_cases hd : d % 256 = 0
    · have hd1 : (d % 256 == 0) = true := by rw [beq_iff_eq]; exact hd
      clear hd
      go_enter Try.func7, Try.ntmps7
      go_wp2_with (go_at_call 8; refine (alive_any _).mono ?_; rintro e w3 ⟨rfl, hb3⟩)
      go_ret
      exact ⟨rfl, by assumption⟩
    · have hd1 : (d % 256 == 0) = false := by rw [beq_eq_false_iff_ne]; exact hd
      obtain ⟨x, hx⟩ : ∃ x : ByteArray, x = ⟨(sealF s.data.toList).toArray⟩ := ⟨_, rfl⟩
      have HS : Hid (∀ w, Calls Try.prog 17 #[.string s] w fun e w' => e = .returned (.string x) ∧ Below w.heap.size w w') := fun w => by rw [hx]; exact seal_any s (by omega) w
      have hss : x.size = s.size + 2 := by rw [hx, Lib.size_eq, Lib.size_eq]; simp [sealF]
      have h1 : x.size ≤ s.size + 2 := by omega
      have h2 : s.size + 2 ≤ x.size := by omega
      have HX := hide hx
      clear hx hss
      obtain ⟨dn, hdn⟩ : ∃ dn : Nat, d % 256 = (dn : Int) := ⟨(d % 256).toNat, by omega⟩
      have hdl : dn < 256 := by omega
      have hd0 : dn ≠ 0 := by intro h; rw [h] at hdn; exact hd hdn
      rw [hdn] at hd1
      have hfl := fcs_lt s.data.toList
      have HF := hide (fcs_any s (by unfold maxLen; omega))
      generalize fcs s.data.toList = f at hfl HF
      obtain ⟨K, hKx, hKc⟩ : ∃ K : Nat, K < x.size ∧ ((0 ≤ a ∧ a % (x.size : Int) = (K : Int)) ∨ (a < 0 ∧ a.tmod (x.size : Int) = (K : Int)) ∨ (a < 0 ∧ a.tmod (x.size : Int) < 0 ∧ a.tmod (x.size : Int) + (x.size : Int) = (K : Int))) := by
        have hp : (0 : Int) < (x.size : Int) := by omega
        by_cases ha : 0 ≤ a
        · have m1 := Int.emod_nonneg a (show (x.size : Int) ≠ 0 by omega)
          have m2 := Int.emod_lt_of_pos a hp
          exact ⟨(a % (x.size : Int)).toNat, by omega, .inl ⟨ha, by omega⟩⟩
        · have m1 := Int.lt_tmod_of_pos a hp
          have m2 : a.tmod (x.size : Int) ≤ 0 := by
            have n1 : a.tmod (x.size : Int) = -((-a).tmod (x.size : Int)) := by rw [← Int.neg_tmod, Int.neg_neg]
            have n2 : 0 ≤ (-a).tmod (x.size : Int) := Int.tmod_nonneg _ (by omega)
            omega
          by_cases h0 : a.tmod (x.size : Int) = 0
          · exact ⟨0, by omega, .inr (.inl ⟨by omega, h0⟩)⟩
          · exact ⟨(a.tmod (x.size : Int) + (x.size : Int)).toNat, by omega, .inr (.inr ⟨by omega, by omega, by omega⟩)⟩
      have HU := hide (changed_unseal s x HX.out hl K hKx dn hdl hd0)
      have hcK := x[K].toNat_lt
      have hxl : x[K].toNat ^^^ dn < 256 := Nat.xor_lt_two_pow (n := 8) (by omega) (by omega)
      have ex : bits .xor .u8 (x[K].toNat : Int) (dn : Int) = ((x[K].toNat ^^^ dn : Nat) : Int) := u8_xor_nat _ _ (by omega) hdl
      have hbn : (UInt8.ofNat (x[K].toNat ^^^ dn)).toNat = x[K].toNat ^^^ dn := UInt8.toNat_ofNat_of_lt hxl
      obtain ⟨y, hy⟩ : ∃ y : ByteArray, y = ⟨(x.data.toList.set K (UInt8.ofNat (x[K].toNat ^^^ dn))).toArray⟩ := ⟨_, rfl⟩
      rw [← hy] at HU
      have HC : Hid (∀ W : World, (convert 50 9 (.slice (some ⟨W.heap.size, 0, none⟩) x.size (grownCap W x.size 0 5))).run Try.prog ((Lib.bytesWorld W 5 x).setCell ⟨W.heap.size, K, none⟩ (.int .u8 ((x[K].toNat ^^^ dn : Nat) : Int))) =
          .ok (.string y) ((Lib.bytesWorld W 5 x).setCell ⟨W.heap.size, K, none⟩ (.int .u8 ((x[K].toNat ^^^ dn : Nat) : Int)))) := fun W => by
        have h := own_conv W x K hKx (UInt8.ofNat (x[K].toNat ^^^ dn)) (grownCap W x.size 0 5)
        rw [hbn, ← hy] at h
        exact h
      clear HX hd hy hbn
      rcases hKc with ⟨ha, hm⟩ | ⟨ha, hm⟩ | ⟨ha, hm, hm2⟩
      · go_enter Try.func7, Try.ntmps7
        go_wp2_with fail
        refine (HS.out _).mono ?_
        rintro e w1 ⟨rfl, hb1⟩
        have hcv := Lib.run_convert_string_bytes (P := Try.prog) w1 9 50 5 x Try.underlying9 Try.underlying50 Try.underlying5
        have hce := own_cell w1 x K hKx
        have hfr := own_frozen w1 x K hKx
        have hco := HC.out w1
        go_wp2_with fail
        refine (HU.out _).mono ?_
        rintro e w2 ⟨rfl, hb2⟩
        go_wp2_with (first
          | (go_at_call 8; refine (alive_any _).mono ?_; rintro e w3 ⟨rfl, hb3⟩)
          | (go_at_call 15; refine (HF.out _).mono ?_; rintro e w4 ⟨rfl, rfl⟩))
        go_ret
        exact ⟨ret_bool (decide_eq_true (by omega)), below_next (below_next (below_next hb1 (own_below _ _ _ _)) hb2) hb3⟩
      · go_enter Try.func7, Try.ntmps7
        go_wp2_with fail
        refine (HS.out _).mono ?_
        rintro e w1 ⟨rfl, hb1⟩
        have hcv := Lib.run_convert_string_bytes (P := Try.prog) w1 9 50 5 x Try.underlying9 Try.underlying50 Try.underlying5
        have hce := own_cell w1 x K hKx
        have hfr := own_frozen w1 x K hKx
        have hco := HC.out w1
        go_wp2_with fail
        refine (HU.out _).mono ?_
        rintro e w2 ⟨rfl, hb2⟩
        go_wp2_with (first
          | (go_at_call 8; refine (alive_any _).mono ?_; rintro e w3 ⟨rfl, hb3⟩)
          | (go_at_call 15; refine (HF.out _).mono ?_; rintro e w4 ⟨rfl, rfl⟩))
        go_ret
        exact ⟨ret_bool (decide_eq_true (by omega)), below_next (below_next (below_next hb1 (own_below _ _ _ _)) hb2) hb3⟩
      · go_enter Try.func7, Try.ntmps7
        go_wp2_with fail
        refine (HS.out _).mono ?_
        rintro e w1 ⟨rfl, hb1⟩
        have hcv := Lib.run_convert_string_bytes (P := Try.prog) w1 9 50 5 x Try.underlying9 Try.underlying50 Try.underlying5
        have hce := own_cell w1 x K hKx
        have hfr := own_frozen w1 x K hKx
        have hco := HC.out w1
        go_wp2_with fail
        refine (HU.out _).mono ?_
        rintro e w2 ⟨rfl, hb2⟩
        go_wp2_with (first
          | (go_at_call 8; refine (alive_any _).mono ?_; rintro e w3 ⟨rfl, hb3⟩)
          | (go_at_call 15; refine (HF.out _).mono ?_; rintro e w4 ⟨rfl, rfl⟩))
        go_ret
        exact ⟨ret_bool (decide_eq_true (by omega)), below_next (below_next (below_next hb1 (own_below _ _ _ _)) hb2) hb3⟩
  · go_enter Try.func7, Try.ntmps7
    go_wp2_with (go_at_call 8; refine (alive_any _).mono ?_; rintro e w3 ⟨rfl, hb3⟩)
    go_ret
    exact ⟨rfl, by assumption⟩
end Go.Proofs.Ytijeifgjjmemlaa
