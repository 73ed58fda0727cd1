/- The contract of the laws' own first call, alive: it returns true, where the two tables hold what the program's text lays. -/
import Derived.Test.YtailkoophlgnbaaDoorCkMake
namespace Go.Proofs.YtailkoophlgnbaaDoor
open Go.RowKit

theorem first_good : checkF [115] [1, 0, 0, 0, 0, 0] [120] (makeF [115] [1, 0, 0, 0, 0, 0] [120] 100) 191 = true := by decide +kernel
theorem first_bad : checkF [115] [1, 0, 0, 0, 0, 0] [120] (makeF [115] [1, 0, 0, 0, 0, 0] [120] 100) 192 = false := by decide +kernel

set_option maxHeartbeats 1000000 in
theorem alive_any (w : World) (hT : Tables w) : Calls Tryd.prog 7 #[] w fun e w' => e = .returned (.bool true) ∧ Below w.heap.size w w' := by
  have hmk : ∀ W, Tables W → Calls Tryd.prog 8 #[.string ⟨#[115]⟩, .agg #[.int .u8 1, .int .u8 0, .int .u8 0, .int .u8 0, .int .u8 0, .int .u8 0], .string ⟨#[120]⟩, .int .i64 100] W fun r w' => r = .returned (.string ⟨(makeF [115] [1, 0, 0, 0, 0, 0] [120] 100).toArray⟩) ∧ Below W.heap.size W w' :=
    fun W h => make_any ⟨#[115]⟩ ⟨#[120]⟩ [1, 0, 0, 0, 0, 0] rfl 100 (by decide) (by decide) W h
  have hl : (makeF [115] [1, 0, 0, 0, 0, 0] [120] 100).length = 16 := bakeF_length _ _ _ _
  have hg : ∀ W, Tables W → Calls Tryd.prog 10 #[.string ⟨#[115]⟩, .agg #[.int .u8 1, .int .u8 0, .int .u8 0, .int .u8 0, .int .u8 0, .int .u8 0], .string ⟨#[120]⟩, .string ⟨(makeF [115] [1, 0, 0, 0, 0, 0] [120] 100).toArray⟩, .int .i64 191] W fun r w' => r = .returned (.bool true) ∧ Below W.heap.size W w' := fun W h => by
    have h2 := check_any ⟨#[115]⟩ ⟨#[120]⟩ ⟨(makeF [115] [1, 0, 0, 0, 0, 0] [120] 100).toArray⟩ [1, 0, 0, 0, 0, 0] rfl 191 (by decide) (by decide) (by decide) (by decide) (by rw [Lib.size_eq]; show (makeF [115] [1, 0, 0, 0, 0, 0] [120] 100).length ≤ _; rw [hl]; decide) W h
    have e : checkF [115] [1, 0, 0, 0, 0, 0] [120] (makeF [115] [1, 0, 0, 0, 0, 0] [120] 100) 191 = true := first_good
    exact h2.mono fun r w' ⟨hr, hb⟩ => ⟨hr.trans (congrArg (fun q => Ending.returned (Value.bool q)) e), hb⟩
  have hn : ∀ W, Tables W → Calls Tryd.prog 10 #[.string ⟨#[115]⟩, .agg #[.int .u8 1, .int .u8 0, .int .u8 0, .int .u8 0, .int .u8 0, .int .u8 0], .string ⟨#[120]⟩, .string ⟨(makeF [115] [1, 0, 0, 0, 0, 0] [120] 100).toArray⟩, .int .i64 192] W fun r w' => r = .returned (.bool false) ∧ Below W.heap.size W w' := fun W h => by
    have h2 := check_any ⟨#[115]⟩ ⟨#[120]⟩ ⟨(makeF [115] [1, 0, 0, 0, 0, 0] [120] 100).toArray⟩ [1, 0, 0, 0, 0, 0] rfl 192 (by decide) (by decide) (by decide) (by decide) (by rw [Lib.size_eq]; show (makeF [115] [1, 0, 0, 0, 0, 0] [120] 100).length ≤ _; rw [hl]; decide) W h
    have e : checkF [115] [1, 0, 0, 0, 0, 0] [120] (makeF [115] [1, 0, 0, 0, 0, 0] [120] 100) 192 = false := first_bad
    exact h2.mono fun r w' ⟨hr, hb⟩ => ⟨hr.trans (congrArg (fun q => Ending.returned (Value.bool q)) e), hb⟩
  obtain ⟨C, hC⟩ : ∃ C : ByteArray, C = ⟨(makeF [115] [1, 0, 0, 0, 0, 0] [120] 100).toArray⟩ := ⟨_, rfl⟩
  have hC1 : (C.size : Int) = 16 := by rw [hC, Lib.size_eq]; exact congrArg _ hl
  rw [← hC] at hmk hg hn
  have HM := hide hmk
  have HG := hide hg
  have HN := hide hn
  have HT := hide hT
  clear hmk hg hn hC hl hT
  go_enter Tryd.func7, Tryd.ntmps7
  go_wp2_with fail
  refine (HM.out _ HT.out).mono ?_
  rintro e w1 ⟨rfl, hb1⟩
  go_wp2_with fail
  refine (epoch_any (-1) _).mono ?_
  rintro e w2 ⟨rfl, hb2⟩
  have hb12 := below_next hb1 hb2
  go_wp2_with fail
  refine (epoch_any 64 _).mono ?_
  rintro e w3 ⟨rfl, hb3⟩
  have hb13 := below_next hb12 hb3
  go_wp2_with fail
  refine (HG.out _ (HT.out.next hb13)).mono ?_
  rintro e w4 ⟨rfl, hb4⟩
  have hb14 := below_next hb13 hb4
  go_wp2_with fail
  refine (HN.out _ (HT.out.next hb14)).mono ?_
  rintro e w5 ⟨rfl, hb5⟩
  have hb15 := below_next hb14 hb5
  go_wp2
  go_ret
  exact ⟨rfl, hb15⟩
end Go.Proofs.YtailkoophlgnbaaDoor
