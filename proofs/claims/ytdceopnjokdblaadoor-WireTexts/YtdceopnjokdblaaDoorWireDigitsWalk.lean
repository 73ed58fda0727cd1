/- The walk of the law WireDigits: for every two ints it returns true, where the library's table of powers holds what its text lays. -/
import Derived.Test.YtdceopnjokdblaaDoorAlive
import Derived.Test.YtdceopnjokdblaaDoorWireNumber
import Derived.OpenShut
namespace Go.Proofs.YtdceopnjokdblaaDoor
open Go.RowKit

theorem gPow0 : Tryd.prog.globalNamed "internal/strconv.uint64pow10" = some 0 := by kernel_rfl
theorem PowTab.next {w w' : World} (h : PowTab w) (hb : Below w.heap.size w w') : PowTab w' := by
  unfold PowTab Lib.TabIs World.var? at *
  rw [gPow0] at h ⊢
  simp only [Option.bind_some] at h ⊢
  have hl : 0 < w.heap.size := by
    rcases Nat.lt_or_ge 0 w.heap.size with h1 | h1
    · exact h1
    · rw [Array.getElem?_eq_none h1] at h
      simp at h
  rw [hb.block _ hl]
  exact h

theorem itoa_same (a b : Int) : ((⟨(Lib.itoa a).toArray⟩ : ByteArray).toList == (⟨(Lib.itoa b).toArray⟩ : ByteArray).toList) = (a == b) := by
  rw [ByteArray.toList_mk, ByteArray.toList_mk, Bool.eq_iff_iff, beq_iff_eq, beq_iff_eq]
  exact ⟨itoa_inj, fun h => by rw [h]⟩

set_option maxHeartbeats 1000000 in
theorem wireDigits_in (a b x e : Int) (hx : (0 ≤ a ∧ a < 10000000000 ∧ x = a ∧ e = 0) ∨ (a < 0 ∧ x = 0 ∧ e = 1) ∨ (10000000000 ≤ a ∧ x = 0 ∧ e = 1)) (A B : ByteArray) (hs : (A.toList == B.toList) = (a == b))
    (HN : ∀ W, Calls Tryd.prog 6 #[.string A] W fun e' w' => e' = .returned (.tuple #[.int .i64 x, .int .i64 e]) ∧ w' = W)
    (HA : ∀ W, PowTab W → Calls Tryd.prog 10 #[.int .i64 a] W fun e w' => e = .returned (.string A) ∧ Below W.heap.size W w')
    (HB : ∀ W, PowTab W → Calls Tryd.prog 10 #[.int .i64 b] W fun e w' => e = .returned (.string B) ∧ Below W.heap.size W w')
    (w : World) (hT : PowTab w) :
    Calls Tryd.prog 4 #[.int .i64 a, .int .i64 b] w fun e w' => e = .returned (.bool true) ∧ Below w.heap.size w w' := by
  have HN := hide HN
  have HA := hide HA
  have HB := hide HB
  have HT := hide hT
  clear hT
  rcases hx with ⟨h1, h2, rfl, rfl⟩ | ⟨h1, rfl, rfl⟩ | ⟨h1, rfl, rfl⟩
  all_goals
    go_enter Tryd.func4, Tryd.ntmps4
    go_wp2_with fail
    refine (HA.out _ HT.out).mono ?_
    rintro e w1 ⟨rfl, hb1⟩
    go_wp2_with fail
    refine (HN.out _).mono ?_
    rintro e w2 ⟨rfl, rfl⟩
    have HT1 := hide (HT.out.next hb1)
    go_wp2_with fail
    refine (alive_any _).mono ?_
    rintro e w3 ⟨rfl, hb3⟩
    have HT3 := hide (HT1.out.next hb3)
    go_wp2_with fail
    refine (HA.out _ HT3.out).mono ?_
    rintro e w4 ⟨rfl, hb4⟩
    have HT4 := hide (HT3.out.next hb4)
    go_wp2_with fail
    refine (HB.out _ HT4.out).mono ?_
    rintro e w5 ⟨rfl, hb5⟩
    go_wp2
    go_ret
    exact ⟨by simp, below_next (below_next (below_next hb1 hb3) hb4) hb5⟩

theorem wireDigits_walk (a b : Int) (wa : (Lit.int .i64 a).wf = true) (wb : (Lit.int .i64 b).wf = true) (w : World) (hT : PowTab w) :
    Calls Tryd.prog 4 #[.int .i64 a, .int .i64 b] w fun e w' => e = .returned (.bool true) ∧ Below w.heap.size w w' := by
  obtain ⟨a1, a2⟩ := bounds_i64 wa
  obtain ⟨b1, b2⟩ := bounds_i64 wb
  have hn := number_any ⟨(Lib.itoa a).toArray⟩
  have e : numberF (⟨(Lib.itoa a).toArray⟩ : ByteArray).data.toList = itoaV a := number_itoa a
  rw [e] at hn
  refine wireDigits_in a b (itoaV a).1 (itoaV a).2 ?_ _ _ (itoa_same a b) hn (fun W h => digits_any a a1 a2 W h) (fun W h => digits_any b b1 b2 W h) w hT
  unfold itoaV
  by_cases h : a < 0
  · rw [if_pos (Or.inl h)]; exact Or.inr (Or.inl ⟨h, rfl, rfl⟩)
  · by_cases h2 : 10000000000 ≤ a
    · rw [if_pos (Or.inr h2)]; exact Or.inr (Or.inr ⟨h2, rfl, rfl⟩)
    · rw [if_neg (by omega)]; exact Or.inl ⟨by omega, by omega, rfl, rfl⟩
end Go.Proofs.YtdceopnjokdblaaDoor
