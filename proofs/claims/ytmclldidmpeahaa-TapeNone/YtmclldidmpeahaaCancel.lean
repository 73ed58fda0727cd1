/- The contract of Clock.Cancel, for every clock, a nil one too. -/
import Derived.Test.YtmclldidmpeahaaSet
namespace Go.Proofs.Ytmclldidmpeahaa
open Go.RowKit

theorem cancel_nil (k i : Int) (w : World) :
    Calls Try.prog 19 #[.pointer none, keyV k i] w fun e w' => e = .returned (.bool false) ∧ Kept (fun _ => False) w w' := by
  unfold keyV
  go_enter Try.func19, Try.ntmps19
  go_wp2
  go_ret
  exact ⟨rfl, (Kept.refl _ w).alloc _⟩

set_option maxHeartbeats 1000000 in
set_option maxRecDepth 100000 in
theorem cancel_any (b : Nat) (m : Option Nat) (now turns : Int) (ts : List Tm) (k i : Int) (hk : In64 k) (hi : In64 i) (w : World) (hc : IsClock w b m now turns ts) :
    Calls Try.prog 19 #[.pointer (some ⟨b, 0, none⟩), keyV k i] w fun e w' => e = .returned (.bool (findT ts k i).isSome) ∧ IsClock w' b m now turns (dropT ts k i) ∧ Kept (ofClock b m) w w' := by
  have hlt := hc.lt
  have hl1 : ∀ o, Sem.run Try.prog (Instr.lookup 60 (.map m) (.agg #[.int .i64 k, .int .i64 i]) true) (w.alloc o).drew = _ := fun o => (hc.grew o).drawn.ts.look true hk hi
  have hl2 : ∀ o o', Sem.run Try.prog (Instr.lookup 60 (.map m) (.agg #[.int .i64 k, .int .i64 i]) true) ((w.alloc o).alloc o').drew = _ := fun o o' => ((hc.grew o).grew o').drawn.ts.look true hk hi
  have c2 := fun o => (hc.grew o).c2
  have c2' := fun o o' => ((hc.grew o).grew o').c2
  have hst := fun o o' => ((hc.grew o).grew o').drawn.drawn.ts.drop hk hi 0
  have hst2 : ∀ o o', ∃ w', (∀ ty, (Builtin.delete_ #[60, 38] ty #[.map m, keyV k i]).run Try.prog ((w.alloc o).alloc o').drew.drew = .ok (.tuple #[]) w') ∧ TsIn w' m (dropT ts k i) ∧ ((w.alloc o).alloc o').drew.drew.grownBy w' m := fun o o' => by
    obtain ⟨w', q1, q2, q3, _⟩ := hst o o'
    exact ⟨w', fun ty => q1, q2, q3⟩
  obtain ⟨F, hF⟩ := skolem2 hst2
  have s1 := fun o o' => (hF o o').1
  have Hfin : Hid (∀ o o', IsClock (F o o') b m now turns (dropT ts k i) ∧ Kept (ofClock b m) w (F o o')) := fun o o' =>
    ⟨((hc.grew o).grew o').drawn.drawn.turned (hF o o').2.2 (hF o o').2.1, ((((Kept.refl _ w).alloc o).alloc o').drew.drew).grown (hF o o').2.2 (fun j hj => Or.inr (Or.inr hj))⟩
  simp only [if_true] at hl1 hl2
  unfold keyV at s1
  generalize timeOf (findT ts k i) = a0 at *
  generalize turnOf (findT ts k i) = a1 at *
  generalize (findT ts k i).isSome = q at *
  clear hc hst hst2 hF
  unfold keyV
  go_enter Try.func19, Try.ntmps19
  go_wp2
  go_region
  all_goals go_wp2
  all_goals go_region
  all_goals go_wp2
  all_goals go_ret
  all_goals exact ⟨rfl, Hfin _ _⟩
end Go.Proofs.Ytmclldidmpeahaa
