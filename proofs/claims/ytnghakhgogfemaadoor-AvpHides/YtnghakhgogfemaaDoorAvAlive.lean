/- The contract of alive, of the laws of chapter 18. -/
import Derived.Test.YtnghakhgogfemaaDoorAvGet
import Derived.Test.YtnghakhgogfemaaDoorAvLen
import Derived.Test.YtnghakhgogfemaaDoorAvNum
namespace Go.Proofs.YtnghakhgogfemaaDoor
open Go.RowKit

def xa1 : Av := ⟨true, false, 0, 0, ⟨#[0, 1]⟩⟩
def xa2 : Av := ⟨false, true, 0, 0, ⟨#[]⟩⟩
theorem al1 : putAF [xa1] ⟨#[]⟩ = (⟨#[128, 8, 0, 0, 0, 0, 0, 1]⟩, 0) := by rfl
theorem al2 : putAF [xa2] ⟨#[115]⟩ = (⟨#[]⟩, 40) := by rfl
theorem al3 : getAF ⟨#[128, 5, 0, 0, 0, 0]⟩ ⟨#[]⟩ = ([], 4) := by rfl
theorem al4 : lengthF 5 = 8 := by rfl
theorem al5 : numV 258 2 = ⟨#[1, 2]⟩ := by rfl
theorem avs_one (W : World) (x : Av) : AvsAt (W.alloc (.cells #[.bool x.must, .bool x.hidden, .int .i64 x.vendor, .int .i64 x.type, .string x.value] 33)) (.slice (some ⟨W.heap.size, 0, none⟩) 1 1) [x] := by
  refine Or.inr ⟨W.heap.size, 0, 1, rfl, Nat.le_refl _, by unfold maxLen; omega, fun j y hj i u hu => ?_⟩
  obtain rfl : j = 0 := by have := (List.getElem?_eq_some_iff.1 hj).1; simp at this; omega
  simp at hj
  subst hj
  rw [Nat.zero_mul, Nat.add_zero, Nat.zero_add, cell_of_row _ _ _ _ _ _ (heap_alloc_new W _)]
  show (avCells x).toArray[i]? = some u
  rw [List.getElem?_toArray]
  exact hu

set_option maxHeartbeats 2000000 in
set_option maxRecDepth 100000 in
theorem aliveA_any (w : World) : Calls Tryd.prog 8 #[] w fun e w' => e = .returned (.bool true) ∧ Kept (fun _ => False) w w' := by
  have C1 := hid (fun W b (h : AvsAt W (.slice (some ⟨b, 0, none⟩) 1 1) [xa1]) => putA_few (.slice (some ⟨b, 0, none⟩) 1 1) [xa1] ⟨#[]⟩ W h (by decide) (by decide) (by intro x hx; simp at hx; subst hx; decide) (fun h => absurd rfl h))
  have C2 := hid (fun W b (h : AvsAt W (.slice (some ⟨b, 0, none⟩) 1 1) [xa2]) => putA_few (.slice (some ⟨b, 0, none⟩) 1 1) [xa2] ⟨#[115]⟩ W h (by decide) (by decide) (by intro x hx; simp at hx; subst hx; decide) (fun _ ⟨x, hx, hv⟩ => by simp at hx; subst hx; cases hv))
  have C3 := hid (fun W => getA_any ⟨#[128, 5, 0, 0, 0, 0]⟩ ⟨#[]⟩ (by decide) (by decide) W (fun h => absurd rfl h))
  have C4 := hid (length_any 5 ⟨by decide, by decide⟩)
  have C5 := hid (num_any 5 258 2 ⟨by decide, by decide⟩)
  rw [al1] at C1
  rw [al2] at C2
  rw [al3] at C3
  rw [al4] at C4
  rw [al5] at C5
  unfold avV at C5
  have A1 := hid (avs_one w xa1)
  have K1 := hid ((Kept.refl (fun _ => False) w).alloc (.cells #[.bool true, .bool false, .int .i64 0, .int .i64 0, .string ⟨#[0, 1]⟩] 33))
  have hfld : ∀ W, Sem.run Tryd.prog (Instr.field 33 (.agg #[.bool true, .bool false, .int .i64 0, .int .i64 5, .string ⟨#[1, 2]⟩]) 4) W = .ok (.string ⟨#[1, 2]⟩) W := fun W => by kernel_rfl
  go_enter Tryd.func8, Tryd.ntmps8
  go_wp2_with fail
  refine (C1.out _ _ A1.out).mono ?_
  rintro e w1 ⟨rfl, hk1⟩
  have HK1 := hid (K1.out.trans hk1)
  clear hk1 A1 K1 C1
  have A2 := hid (avs_one w1 xa2)
  have K2 := hid ((Kept.refl (fun _ => False) w1).alloc (.cells #[.bool false, .bool true, .int .i64 0, .int .i64 0, .string ⟨#[]⟩] 33))
  go_wp2_with fail
  refine (C2.out _ _ A2.out).mono ?_
  rintro e w2 ⟨rfl, hk2⟩
  have HK2 := hid (HK1.out.trans (K2.out.trans hk2))
  clear hk2 A2 K2 C2 HK1
  go_wp2_with fail
  refine (C3.out _).mono ?_
  rintro e w3 ⟨v3, rfl, hown3, hk3⟩
  have HK3 := hid (HK2.out.trans hk3)
  clear hk3 hown3 C3 HK2
  go_wp2_with fail
  refine (C4.out _).mono ?_
  rintro e w4 ⟨rfl, hk4⟩
  have HK4 := hid (HK3.out.trans hk4)
  clear hk4 C4 HK3
  go_wp2_with fail
  refine (C5.out _).mono ?_
  rintro e w5 ⟨rfl, hk5⟩
  have HK5 := hid (HK4.out.trans hk5)
  clear hk5 C5 HK4
  go_wp2
  go_ret
  exact ⟨rfl, HK5.out⟩
end Go.Proofs.YtnghakhgogfemaaDoor
