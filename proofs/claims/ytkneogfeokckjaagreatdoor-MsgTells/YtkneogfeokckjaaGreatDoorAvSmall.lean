/- The contracts of package avp's inner word, words, share and mostLaid. -/
import Derived.Test.YtkneogfeokckjaaGreatDoorAvPlain
import Derived.Test.YtkneogfeokckjaaGreatDoorTagKit
import Derived.Test.YtkneogfeokckjaaGreatDoorPut
import Derived.Test.YtkneogfeokckjaaGreatDoorArgKit
namespace Go.Proofs.YtkneogfeokckjaaGreatDoor
open Go.RowKit

theorem empty_app (x : ByteArray) : (⟨#[]⟩ : ByteArray) ++ x = x := by
  apply bytes_ext
  rw [ByteArray.data_append]
  simp
theorem app_assoc (a b c : ByteArray) : (a ++ b) ++ c = a ++ (b ++ c) := by
  apply bytes_ext
  simp only [ByteArray.data_append, Array.toList_append, List.append_assoc]

set_option maxRecDepth 100000 in
theorem wput_yes (n : Nat) (h : n < 65536) (w : World) : Calls Tryz.prog 182 #[.int .i64 (n : Int), .int .i64 2] w fun e w' => e = .returned (.tuple #[.string (two n), .int .i64 0]) ∧ Kept (fun _ => False) w w' := by
  refine (put_yes n 2 (by omega) (by omega) (by omega) w).mono ?_
  rintro e w1 ⟨rfl, hb⟩
  exact ⟨rfl, kept_of hb⟩
set_option maxRecDepth 100000 in
theorem wput_no (v : Int) (h : wordB v = false) (w : World) : Calls Tryz.prog 182 #[.int .i64 v, .int .i64 2] w fun e w' => e = .returned (.tuple #[.string ⟨#[]⟩, .int .i64 1]) ∧ Kept (fun _ => False) w w' := by
  have hv : v < 0 ∨ 65535 < v := by
    by_cases h0 : v < 0
    · exact Or.inl h0
    · by_cases h1 : 65535 < v
      · exact Or.inr h1
      · rw [show wordB v = true by simp [wordB]; omega] at h
        cases h
  refine (put_no v 2 (by omega) ?_ w).mono ?_
  · rcases hv with hv | hv
    · exact Or.inr (Or.inr (Or.inl hv))
    · exact Or.inr (Or.inr (Or.inr ⟨2, rfl, by omega⟩))
  · rintro e w1 ⟨rfl, rfl⟩
    exact ⟨rfl, Kept.refl _ _⟩

/-- A list of ints that is read. -/
def IntsV (W : World) (v : Value) (l : List Int) : Prop := RowsAt W 1 (fun z : Int => [Value.int .i64 z]) v l
def wordsOn : ByteArray → List Int → ByteArray × Int
  | acc, [] => (acc, 0)
  | acc, z :: r => if wordB z = true then wordsOn (acc ++ two z.toNat) r else (⟨#[]⟩, 1)
theorem words_two (a b : Int) : wordsOn ⟨#[]⟩ [a, b] = if (wordB a && wordB b) = true then (two a.toNat ++ two b.toNat, 0) else (⟨#[]⟩, 1) := by
  simp only [wordsOn]
  cases wordB a <;> cases wordB b <;> simp [empty_app]
theorem words_one (n : Nat) (h : n < 65536) : wordsOn ⟨#[]⟩ [(n : Int)] = (two n, 0) := by
  simp only [wordsOn]
  rw [if_pos (by simp [wordB]; omega), empty_app]
  rfl
theorem wordB_nat {z : Int} (h : wordB z = true) : ∃ n : Nat, z = (n : Int) ∧ n < 65536 := by
  have : 0 ≤ z ∧ z ≤ 65535 := by simpa [wordB] using h
  exact ⟨z.toNat, by omega, by omega⟩

set_option maxHeartbeats 2000000 in
set_option maxRecDepth 100000 in
theorem wordsA_any (v : Value) (l : List Int) (w : World) (hv : IntsV w v l) (hl : l.length ≤ 1000) :
    Calls Tryz.prog 170 #[v] w fun e w' => e = .returned (.tuple #[.string (wordsOn ⟨#[]⟩ l).1, .int .i64 (wordsOn ⟨#[]⟩ l).2]) ∧ Kept (fun _ => False) w w' := by
  obtain ⟨p, cap, rfl⟩ := RowsAt.slice hv
  obtain ⟨R, hR⟩ : ∃ R, R = wordsOn ⟨#[]⟩ l := ⟨_, rfl⟩
  rw [← hR]
  have Hat : Hid (∀ (j : Nat) (x : Int), l[j]? = some x → ∀ W, Kept (fun _ => False) w W → ∃ g o, p = some ⟨g, o, none⟩ ∧ l.length ≤ cap ∧ W.cell? ⟨g, o + j, none⟩ = some (.int .i64 x)) := fun j x hj W hW => by
    obtain ⟨g, o, e, hc, hq⟩ := (RowsAt.kept0 hv hW).at hj
    have := hq 0 (.int .i64 x) rfl
    rw [Nat.mul_one, Nat.add_zero] at this
    exact ⟨g, o, e, hc, this⟩
  have HR := hid hR.symm
  clear hv hR
  go_enter Tryz.func170, Tryz.ntmps170
  go_wp2
  go_loopw [4, 11] (fun va vi wr => ∃ (j : Nat) (acc : ByteArray), j ≤ l.length ∧ vi = .int .i64 (j : Int) ∧ va = .string acc ∧ acc.size ≤ 2 * j ∧ Hid (wordsOn acc (l.drop j) = R ∧ Kept (fun _ => False) w wr)) (fun _ vi _ => l.length - (intOf vi).toNat)
  case atStart => exact ⟨0, ⟨#[]⟩, Nat.zero_le _, rfl, rfl, Nat.le_refl _, HR.out, Kept.refl _ _⟩
  case round =>
    obtain ⟨j, acc, hj, rfl, rfl, hac, HI⟩ := hrel
    by_cases hlt : j < l.length
    · have hltz : (j : Int) < (l.length : Int) := by omega
      obtain ⟨x, hx⟩ : ∃ x, l[j]? = some x := ⟨l[j], by simp [hlt]⟩
      obtain ⟨g, o, rfl, hcap, c0⟩ := Hat.out j x hx wr HI.out.2
      have hd : l.drop j = x :: l.drop (j + 1) := by
        obtain ⟨hlt', hg⟩ := List.getElem?_eq_some_iff.1 hx
        rw [List.drop_eq_getElem_cons hlt', hg]
      have hT := HI.out.1
      rw [hd] at hT
      simp only [wordsOn] at hT
      have HK := hid HI.out.2
      cases hb : wordB x with
      | false =>
        rw [hb, if_neg (by simp)] at hT
        have HT := hid hT.symm
        have HP := hid (wput_no x hb)
        clear hT hx hd hb HI
        go_wp2_with fail
        refine (HP.out _).mono ?_
        rintro e w1 ⟨rfl, hk1⟩
        have HK1 := hid (HK.out.trans hk1)
        clear hk1
        go_wp2
        go_ret2
        exact ⟨by rw [HT.out]; rfl, HK1.out⟩
      | true =>
        rw [hb, if_pos rfl] at hT
        obtain ⟨n, rfl, hn⟩ := wordB_nat hb
        rw [Int.toNat_natCast] at hT
        have HT := hid hT
        have HP := hid (wput_yes n hn)
        have ht := two_size n
        have hno : ¬ (9223372036854775807 < acc.size + (two n).size) := by omega
        have hac2 : (acc ++ two n).size ≤ 2 * (j + 1) := by rw [ByteArray.size_append]; omega
        have HA := hid hac2
        clear hT hx hd hb HI ht hac2
        generalize two n = T at *
        go_wp2_with fail
        refine (HP.out _).mono ?_
        rintro e w1 ⟨rfl, hk1⟩
        have HK1 := hid (HK.out.trans hk1)
        clear hk1
        go_wp2
        exact ⟨⟨j + 1, _, hlt, by go_num, rfl, HA.out, HT.out, HK1.out⟩, by simp [intOf]; omega⟩
    · obtain rfl : j = l.length := by omega
      have hltz : ¬ (l.length : Int) < (l.length : Int) := by omega
      have hT := HI.out.1
      rw [List.drop_length] at hT
      simp only [wordsOn] at hT
      have HT := hid hT.symm
      have HK := hid HI.out.2
      clear hT HI hlt
      go_wp2
      go_ret2
      exact ⟨by rw [HT.out]; rfl, HK.out⟩

set_option maxRecDepth 100000 in
theorem word_any (b : ByteArray) (k : Nat) (hb : b.size ≤ 140737488351232) (hk : k + 2 ≤ b.size) (w : World) :
    Calls Tryz.prog 174 #[.string b, .int .i64 (k : Int)] w fun e w' => e = .returned (.int .i64 (numAt b k : Int)) ∧ w' = w := by
  have HG := hid (get_yes b (by unfold maxLen; omega) k 2 (by omega) (by omega) hk)
  unfold numAt
  generalize numOf ((b.data.toList.drop k).take 2) = N at *
  go_enter Tryz.func174, Tryz.ntmps174
  go_wp2_with fail
  refine (HG.out _).mono ?_
  rintro e w1 ⟨rfl, rfl⟩
  go_wp2
  go_ret
  exact ⟨rfl, rfl⟩

set_option maxRecDepth 100000 in
theorem share_any (must hidden : Bool) (n : Nat) (hn : n < 16384) (w : World) :
    Calls Tryz.prog 172 #[.bool must, .bool hidden, .int .i64 (n : Int)] w fun e w' => e = .returned (.int .i64 (shareN must hidden n : Int)) ∧ w' = w := by
  have e1 : bits .or .i64 (n : Int) 32768 = ((n + 32768 : Nat) : Int) := by
    have h := i64_or_nat n 32768 (by omega) (by omega)
    rw [show n ||| 32768 = n + 32768 by rw [Nat.or_comm]; exact (Nat.two_pow_add_eq_or_of_lt (i := 15) (b := n) (by omega) 1).symm.trans (by omega)] at h
    exact h
  have e2 : bits .or .i64 (n : Int) 16384 = ((n + 16384 : Nat) : Int) := by
    have h := i64_or_nat n 16384 (by omega) (by omega)
    rw [show n ||| 16384 = n + 16384 by rw [Nat.or_comm]; exact (Nat.two_pow_add_eq_or_of_lt (i := 14) (b := n) (by omega) 1).symm.trans (by omega)] at h
    exact h
  have e3 : bits .or .i64 ((n + 32768 : Nat) : Int) 16384 = ((n + 32768 + 16384 : Nat) : Int) := by
    have h := i64_or_nat (n + 32768) 16384 (by omega) (by omega)
    have e : (n + 32768) ||| 16384 = n + 32768 + 16384 := by
      have a1 := Nat.two_pow_add_eq_or_of_lt (i := 15) (b := n) (by omega) 1
      have a2 := Nat.two_pow_add_eq_or_of_lt (i := 14) (b := n) (by omega) 1
      have a3 := Nat.two_pow_add_eq_or_of_lt (i := 15) (b := n + 16384) (by omega) 1
      rw [show n + 32768 = 2 ^ 15 * 1 + n by omega, a1, Nat.or_assoc, show n ||| 16384 = n + 16384 by rw [Nat.or_comm]; exact a2.symm.trans (by omega), ← a3]
      omega
    rw [e] at h
    exact h
  generalize hR : (shareN must hidden n : Int) = R
  cases must <;> cases hidden
  · have hR' : R = (n : Int) := by rw [← hR]; rfl
    subst hR'
    clear hR e1 e2 e3
    go_enter Tryz.func172, Tryz.ntmps172
    go_wp2
    go_ret
    exact ⟨rfl, rfl⟩
  · have hR' : R = ((n + 16384 : Nat) : Int) := by rw [← hR]; rfl
    subst hR'
    clear hR e1 e3
    generalize ((n + 16384 : Nat) : Int) = M at *
    go_enter Tryz.func172, Tryz.ntmps172
    go_wp2
    go_ret
    exact ⟨rfl, rfl⟩
  · have hR' : R = ((n + 32768 : Nat) : Int) := by rw [← hR]; rfl
    subst hR'
    clear hR e2 e3
    generalize ((n + 32768 : Nat) : Int) = M at *
    go_enter Tryz.func172, Tryz.ntmps172
    go_wp2
    go_ret
    exact ⟨rfl, rfl⟩
  · have hR' : R = ((n + 32768 + 16384 : Nat) : Int) := by rw [← hR]; rfl
    subst hR'
    clear hR e2
    generalize ((n + 32768 + 16384 : Nat) : Int) = M at *
    generalize ((n + 32768 : Nat) : Int) = M1 at *
    go_enter Tryz.func172, Tryz.ntmps172
    go_wp2
    go_ret
    exact ⟨rfl, rfl⟩

set_option maxRecDepth 100000 in
theorem mostLaid_any (h : Bool) (w : World) : Calls Tryz.prog 175 #[.bool h] w fun e w' => e = .returned (.int .i64 (mostF h : Int)) ∧ w' = w := by
  cases h
  · go_enter Tryz.func175, Tryz.ntmps175
    go_wp2
    go_ret
    exact ⟨rfl, rfl⟩
  · go_enter Tryz.func175, Tryz.ntmps175
    go_wp2
    go_ret
    exact ⟨rfl, rfl⟩
end Go.Proofs.YtkneogfeokckjaaGreatDoor
