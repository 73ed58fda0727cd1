/- The contract of Clock.When: a timer's time, for every clock, a nil one too. -/
import Derived.Test.YtmclldidmpeahaaClock
import Derived.RegionTactic
import Derived.ChangeAlike
import Derived.BigRegion
namespace Go.Proofs.Ytmclldidmpeahaa
open Go.RowKit

theorem when_nil (k i : Int) (w : World) :
    Calls Try.prog 17 #[.pointer none, keyV k i] w fun e w' => e = .returned (.tuple #[.int .i64 0, .bool false]) ∧ Kept (fun _ => False) w w' := by
  unfold keyV
  go_enter Try.func17, Try.ntmps17
  go_wp2
  go_ret2
  exact ⟨rfl, (Kept.refl _ w).alloc _⟩

set_option maxHeartbeats 400000 in
theorem when_any (b : Nat) (m : Option Nat) (now turns : Int) (ts : List Tm) (k i : Int) (hk : In64 k) (hi : In64 i) (w : World) (hc : IsClock w b m now turns ts) :
    Calls Try.prog 17 #[.pointer (some ⟨b, 0, none⟩), keyV k i] w fun e w' =>
      e = .returned (.tuple #[.int .i64 (timeOf (findT ts k i)), .bool (findT ts k i).isSome]) ∧ Kept (fun _ => False) w w' := by
  have hlt := hc.lt
  have hl1 : ∀ o, Sem.run Try.prog (Instr.lookup 60 (.map m) (.agg #[.int .i64 k, .int .i64 i]) true) (w.alloc o).drew = _ := fun o => (hc.kept (S := fun _ => False) ((Kept.refl _ w).alloc o).drew (fun _ _ => id)).ts.look true hk hi
  have hl2 : ∀ o o', Sem.run Try.prog (Instr.lookup 60 (.map m) (.agg #[.int .i64 k, .int .i64 i]) true) ((w.alloc o).alloc o').drew = _ := fun o o' => (hc.kept (S := fun _ => False) (((Kept.refl _ w).alloc o).alloc o').drew (fun _ _ => id)).ts.look true hk hi
  have c2 : ∀ o, (w.alloc o).cell? ⟨b, 2, none⟩ = some (.map m) := fun o => (((Kept.refl (fun _ => False) w).alloc o).cell (p := ⟨b, 2, none⟩) hlt id).trans hc.c2
  have c2' : ∀ o o', ((w.alloc o).alloc o').cell? ⟨b, 2, none⟩ = some (.map m) := fun o o' => ((((Kept.refl (fun _ => False) w).alloc o).alloc o').cell (p := ⟨b, 2, none⟩) hlt id).trans hc.c2
  simp only [if_true] at hl1 hl2
  generalize timeOf (findT ts k i) = a at *
  generalize turnOf (findT ts k i) = t at *
  generalize (findT ts k i).isSome = q at *
  clear hc
  unfold keyV
  go_enter Try.func17, Try.ntmps17
  go_wp2
  go_region
  all_goals go_wp2
  all_goals go_ret2
  all_goals exact ⟨rfl, (((Kept.refl _ w).alloc _).alloc _).drew⟩
end Go.Proofs.Ytmclldidmpeahaa
