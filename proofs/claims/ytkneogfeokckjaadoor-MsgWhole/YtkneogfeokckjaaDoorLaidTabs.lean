/- What the rows' lists give: the two tables' cells hold what the program's text lays; and a world for the witness. -/
import Derived.Test.YtkneogfeokckjaaDoorRows
import Derived.Test.YtkneogfeokckjaaDoorStir
import Derived.Lib.LaidTab
import Derived.Stop.LaidErr
import Derived.ProofKit
namespace Go.Proofs.YtkneogfeokckjaaDoor
open Go.RowKit

theorem gSines : Tryd.prog.globalNamed "tollgate/digest.sines" = some 0 := by kernel_rfl
theorem gSinesType : (Tryd.prog.globals[0]?).map (·.type) = some 107 := by kernel_rfl
theorem gTurns : Tryd.prog.globalNamed "tollgate/digest.turns" = some 1 := by kernel_rfl
theorem gTurnsType : (Tryd.prog.globals[1]?).map (·.type) = some 110 := by kernel_rfl
theorem cells27 : Tryd.prog.cellsOf 96 = 1 := by kernel_rfl
theorem cells3 : Tryd.prog.cellsOf 3 = 1 := by kernel_rfl
theorem cells64 : Tryd.prog.cellsOf 107 = 64 := by kernel_rfl
theorem cells4 : Tryd.prog.cellsOf 109 = 4 := by kernel_rfl
theorem cells44 : Tryd.prog.cellsOf 110 = 16 := by kernel_rfl

def turnsR : List (List Int) := [[7, 12, 17, 22], [5, 9, 14, 20], [4, 11, 16, 23], [6, 10, 15, 21]]
/-- An array of arrays of ints that reads as a list of lists holds it, row for row. -/
theorem rows_of_tab {w : World} {fuel : Nat} {cs : List Value} {p : List MemPlace}
    (h : DataW.trod (fun _ => ()) Tryd.prog w 0 (fun _ => true) false fuel 110 cs = some (.agg (turnsR.map (Lib.tabData .i64)), p)) (i : Nat) (hi : i < 4) :
    (cs.drop (i * 4)).take 4 = (turnsR.getD i []).map fun z => Value.int .i64 z := by
  cases fuel with
  | zero => simp [DataW.trod] at h
  | succ fuel =>
    simp only [DataW.trod, Tryd.underlying110, cells4, cells44] at h
    split at h
    · obtain ⟨xs, hm, hx⟩ := Option.map_eq_some_iff.1 h
      have hxs : xs.map (·.1) = turnsR.map (Lib.tabData .i64) := by
        have := congrArg Prod.fst hx
        simpa using this
      obtain ⟨b, hb, hf⟩ := Lib.mapM_at hm i i (by simp [hi])
      have h2 : (xs.map (·.1))[i]? = some b.1 := by simp [hb]
      rw [hxs] at h2
      have h3 : b.1 = Lib.tabData .i64 (turnsR.getD i []) := by
        rcases (show i = 0 ∨ i = 1 ∨ i = 2 ∨ i = 3 by omega) with rfl | rfl | rfl | rfl <;> exact (Option.some.inj h2).symm
      have h4 : DataW.trod (fun _ => ()) Tryd.prog w 0 (fun _ => true) false fuel 109 ((cs.drop (i * 4)).take 4) = some (Lib.tabData .i64 (turnsR.getD i []), b.2) := by rw [hf, ← h3]
      exact Lib.cells_of_tab Tryd.underlying109 Tryd.underlying3 cells3 cells4 h4
    · cases h

/-- From what a row lists to the two tables. -/
theorem tables_of {W : World} (h : laidMet Tryd.prog [("tollgate/digest.sines", Rows.laid_tollgate_digest_sines), ("tollgate/digest.turns", Rows.laid_tollgate_digest_turns)] W) : Tables W := by
  have h1 : Lib.TabIs Tryd.prog W "tollgate/digest.sines" .u32 (sinesL.map fun (n : Nat) => (n : Int)) := Lib.tabIs_of_head gSines gSinesType Tryd.underlying107 Tryd.underlying96 cells27 cells64 h
  obtain ⟨ps, ⟨g, t, cs, fuel, p, q, hg, ht, hvar, hd, _, _⟩, _⟩ := laidMet.tail h
  obtain rfl := Option.some.inj (gTurns.symm.trans hg)
  obtain rfl := Option.some.inj (gTurnsType.symm.trans ht)
  have hrow := rows_of_tab (cs := cs.toList) hd
  refine ⟨fun i hi => ?_, fun i hi => ?_⟩
  · have hc := h1.cell gSines i (by rw [List.length_map]; exact hi)
    rw [hc]
    congr 2
    unfold sineF
    rw [List.getD_eq_getElem?_getD, List.getD_eq_getElem?_getD, List.getElem?_map]
    have hl : i < sinesL.length := hi
    rw [List.getElem?_eq_getElem hl]
    rfl
  · rw [World.var?_cell gTurns hvar]
    have hq : i / 16 < 4 := by omega
    have hr : i % 4 < 4 := by omega
    have h2 := congrArg (fun l => l[i % 4]?) (hrow (i / 16) hq)
    simp only [List.getElem?_take, List.getElem?_drop, hr, if_true] at h2
    rw [← Array.getElem?_toList, h2]
    unfold turnF
    generalize i / 16 = a at hq
    generalize i % 4 = b at hr
    rcases (show a = 0 ∨ a = 1 ∨ a = 2 ∨ a = 3 by omega) with rfl | rfl | rfl | rfl <;> rcases (show b = 0 ∨ b = 1 ∨ b = 2 ∨ b = 3 by omega) with rfl | rfl | rfl | rfl <;> rfl

def laySines : Obj → Obj
  | .cells _ t frozen => .cells (sinesL.map fun (n : Nat) => Value.int .u32 (n : Int)).toArray t frozen
  | o => o
def layTurns : Obj → Obj
  | .cells _ t frozen => .cells (turnsL.map fun (n : Nat) => Value.int .i64 (n : Int)).toArray t frozen
  | o => o
/-- A world for the witness: the settled one, the two tables holding what their initialisers lay. -/
def laidOf (P : Program) (os : Os) : World :=
  { World.holding P os ⟨#[], #[], []⟩ with heap := ((World.holding P os ⟨#[], #[], []⟩).heap.modify 0 laySines).modify 1 layTurns }
end Go.Proofs.YtkneogfeokckjaaDoor
