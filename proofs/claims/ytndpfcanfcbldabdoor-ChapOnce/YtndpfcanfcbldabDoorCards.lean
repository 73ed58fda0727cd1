/-
  DERIVED. GIVEN WITH THE SEED: THE CARDS: each row of YtndpfcanfcbldabDoorRows.lean that lists a variable, with what it lists TIED to the program's text (the seventh form; the later family's looks); each row that meets fmt, with fmt's text TOLD by the authors' own Lean function (tested against real Go, not proved from fmt's source: count such statements apart). THE CARD IS WHAT COUNTS. Prove the row's statement (the work); the ties are given (YtndpfcanfcbldabDoorTie.lean); close each card by the builder's one call (the guide's Derived/Test/ToyasCard.lean, 'card_holds'). Laid BY PROGRAM, IN A SANDBOX (cutbox-door.mjs). By AI agents, Wed Nov 11 2026. No macro, syntax, notation, axiom, sorry.
-/
import Derived.Test.YtndpfcanfcbldabDoorRows
import GoSem.ClaimSeven
namespace Go.Proofs.YtndpfcanfcbldabDoor
namespace Rows

/-- THE TIED CARD OF 'tollgatelaw14.ChapOnce'. -/
def chapOnceCard : Claim7 := { stood := { row := chapOnceRow, standIns := [], harness := (true, "c0b25926dc0b59845cf5f92106168f72388fed7118c6591df660c140320ddce6"), looks := false }, kinds := [], alts := [], laidByText := true, laidKinds := [.data, .data], laidTests := true, laidLooks := .later }
def ChapOnceCardSaid : Prop := Claim7.holds Tryd.pinned (.plain (OpenSpec.ofChange chapOnceSpec)) chapOnceCard

/-- THE SECOND FORM's CARD OF 'tollgatelaw14.ChapOnce'. -/
def chapOnceUptoCard : Claim7 := { stood := { row := chapOnceUptoRow, standIns := [], harness := (true, "c0b25926dc0b59845cf5f92106168f72388fed7118c6591df660c140320ddce6"), looks := false }, kinds := [], alts := [], laidByText := true, laidKinds := [.data, .data], laidTests := true, laidLooks := .later }
def ChapOnceUptoCardSaid : Prop := Claim7.holds Tryd.pinned (.plain (OpenSpec.upto chapOnceSpec)) chapOnceUptoCard
end Rows
end Go.Proofs.YtndpfcanfcbldabDoor
