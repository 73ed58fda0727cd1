/- The contracts of NewClock, Now and Len, for every clock, a nil one too. -/
import Derived.Test.YtmclldidmpeahaaSet
namespace Go.Proofs.Ytmclldidmpeahaa
open Go.RowKit

theorem newClock_any (w : World) :
    Calls Try.prog 23 #[] w fun e w' => e = .returned (.pointer (some ⟨w.heap.size, 0, none⟩)) ∧ IsClock w' w.heap.size none 0 0 [] ∧ Kept (fun _ => False) w w' ∧ w'.heap.size = w.heap.size + 1 := by
  go_enter Try.func23, Try.ntmps23
  go_wp2
  go_ret
  refine ⟨rfl, ⟨by simp, by simp, by simp, fun i => by simp, rfl, by simp⟩, (Kept.refl _ w).alloc _, by simp⟩

theorem now_nil (w : World) : Calls Try.prog 22 #[.pointer none] w fun e w' => e = .returned (.int .i64 0) ∧ w' = w := by
  go_enter Try.func22, Try.ntmps22
  go_wp2
  go_ret
  exact ⟨rfl, rfl⟩

theorem now_any (b : Nat) (m : Option Nat) (now turns : Int) (ts : List Tm) (w : World) (hc : IsClock w b m now turns ts) :
    Calls Try.prog 22 #[.pointer (some ⟨b, 0, none⟩)] w fun e w' => e = .returned (.int .i64 now) ∧ w' = w := by
  have c0 := hc.c0
  clear hc
  go_enter Try.func22, Try.ntmps22
  go_wp2
  go_ret
  exact ⟨rfl, rfl⟩

theorem len_nil (w : World) : Calls Try.prog 21 #[.pointer none] w fun e w' => e = .returned (.int .i64 0) ∧ w' = w := by
  go_enter Try.func21, Try.ntmps21
  go_wp2
  go_ret
  exact ⟨rfl, rfl⟩

theorem len_any (b : Nat) (m : Option Nat) (now turns : Int) (ts : List Tm) (w : World) (hc : IsClock w b m now turns ts) :
    Calls Try.prog 21 #[.pointer (some ⟨b, 0, none⟩)] w fun e w' => e = .returned (.int .i64 (ts.length : Nat)) ∧ w' = w := by
  have c2 := hc.c2
  have hn := fun ty => hc.ts.len ty
  clear hc
  go_enter Try.func21, Try.ntmps21
  go_wp2
  go_ret
  exact ⟨rfl, rfl⟩
end Go.Proofs.Ytmclldidmpeahaa
