/- The contract of Tape.Left. -/
import Derived.Test.YtmclldidmpeahaaTape
namespace Go.Proofs.Ytmclldidmpeahaa
open Go.RowKit

theorem left_nil (w : World) : Calls Try.prog 16 #[.pointer none] w fun e w' => e = .returned (.int .i64 0) ∧ w' = w := by
  go_enter Try.func16, Try.ntmps16
  go_wp2
  go_ret
  exact ⟨rfl, rfl⟩

theorem left_any (b : Nat) (p : Option Addr) (cap : Nat) (rest : List Int) (asked : Nat) (w : World) (h : IsTape w b p cap rest asked) :
    Calls Try.prog 16 #[.pointer (some ⟨b, 0, none⟩)] w fun e w' => e = .returned (.int .i64 (rest.length : Nat)) ∧ w' = w := by
  have c0 := h.c0
  clear h
  go_enter Try.func16, Try.ntmps16
  go_wp2
  go_ret
  exact ⟨rfl, rfl⟩
end Go.Proofs.Ytmclldidmpeahaa
