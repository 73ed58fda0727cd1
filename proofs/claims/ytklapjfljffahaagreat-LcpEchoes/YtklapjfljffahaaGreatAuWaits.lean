/- The contract of Waits. -/
import Derived.Test.YtklapjfljffahaaGreatAuMem
namespace Go.Proofs.YtklapjfljffahaaGreat
open Go.RowKit

set_option maxRecDepth 100000 in
theorem waits_any (b : Nat) (c : Au) (hg : GoodA c) (w : World) (h : AutoIn w b c) : Calls Tryz.prog 67 #[.pointer (some ⟨b, 0, none⟩)] w fun e w' => e = .returned (.bool (waitsF c)) ∧ w' = w := by
  have HS := hid (state_any b c hg w h)
  unfold waitsF
  have h1 := hg.st1
  have h2 := hg.st2
  clear h hg
  obtain ⟨s, hs⟩ : ∃ s, s = c.st := ⟨_, rfl⟩
  rw [← hs] at HS h1 h2 ⊢
  clear hs
  have hc : s = 0 ∨ s = 1 ∨ s = 2 ∨ s = 3 ∨ s = 4 ∨ s = 5 ∨ s = 6 ∨ s = 7 ∨ s = 8 ∨ s = 9 := by omega
  rcases hc with rfl | rfl | rfl | rfl | rfl | rfl | rfl | rfl | rfl | rfl
  all_goals
    go_enter Tryz.func67, Tryz.ntmps67
    go_wp2_with (go_at_call 71; refine HS.out.mono ?_; rintro e w' ⟨rfl, rfl⟩)
    go_ret
    exact ⟨rfl, rfl⟩
end Go.Proofs.YtklapjfljffahaaGreat
