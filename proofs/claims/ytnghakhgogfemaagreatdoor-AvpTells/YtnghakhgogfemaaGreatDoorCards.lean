/-
  DERIVED. GIVEN WITH THE SEED: THE CARDS: each row of YtnghakhgogfemaaGreatDoorRows.lean that lists a variable, with what it lists TIED to the program's text (the seventh form; the later family's looks); each row that meets fmt, with fmt's text TOLD by the authors' own Lean function (tested against real Go, not proved from fmt's source: count such statements apart). THE CARD IS WHAT COUNTS. Prove the row's statement (the work); the ties are given (YtnghakhgogfemaaGreatDoorTie.lean); close each card by the builder's one call (the guide's Derived/Test/ToyasCard.lean, 'card_holds'). Laid BY PROGRAM, IN A SANDBOX (cutbox-door.mjs). By AI agents, Wed Nov 11 2026. No macro, syntax, notation, axiom, sorry.
-/
import Derived.Test.YtnghakhgogfemaaGreatDoorRows
import GoSem.ClaimSeven
namespace Go.Proofs.YtnghakhgogfemaaGreatDoor
namespace Rows

/-- THE TIED CARD OF 'tollgatelaw18.AvpTells'. -/
def avpTellsCard : Claim7 := { stood := { row := avpTellsRow, standIns := [], harness := (true, "9bf9f2a94d03482b22dad68a624094de7add3b02c116570b46c2b0aecd9add2b"), looks := false }, kinds := [], alts := [], laidByText := true, laidKinds := [.data, .data], laidTests := true, laidLooks := .later }
def AvpTellsCardSaid : Prop := Claim7.holds Tryz.pinned (.plain (OpenSpec.ofChange avpTellsSpec)) avpTellsCard

/-- THE SECOND FORM's CARD OF 'tollgatelaw18.AvpTells'. -/
def avpTellsUptoCard : Claim7 := { stood := { row := avpTellsUptoRow, standIns := [], harness := (true, "9bf9f2a94d03482b22dad68a624094de7add3b02c116570b46c2b0aecd9add2b"), looks := false }, kinds := [], alts := [], laidByText := true, laidKinds := [.data, .data], laidTests := true, laidLooks := .later }
def AvpTellsUptoCardSaid : Prop := Claim7.holds Tryz.pinned (.plain (OpenSpec.upto avpTellsSpec)) avpTellsUptoCard
end Rows
end Go.Proofs.YtnghakhgogfemaaGreatDoor
