/-
  DERIVED. GIVEN WITH THE SEED: THE CARDS: each row of YtndpfcanfcbldaaGreatDoorRows.lean that lists a variable, with what it lists TIED to the program's text (the seventh form; the later family's looks); each row that meets fmt, with fmt's text TOLD by the authors' own Lean function (tested against real Go, not proved from fmt's source: count such statements apart). THE CARD IS WHAT COUNTS. Prove the row's statement (the work); the ties are given (YtndpfcanfcbldaaGreatDoorTie.lean); close each card by the builder's one call (the guide's Derived/Test/ToyasCard.lean, 'card_holds'). Laid BY PROGRAM, IN A SANDBOX (cutbox-door.mjs). By AI agents, Wed Nov 11 2026. No macro, syntax, notation, axiom, sorry.
-/
import Derived.Test.YtndpfcanfcbldaaGreatDoorRows
import GoSem.ClaimSeven
namespace Go.Proofs.YtndpfcanfcbldaaGreatDoor
namespace Rows

/-- THE TIED CARD OF 'tollgatelaw14.ChapClient'. -/
def chapClientCard : Claim7 := { stood := { row := chapClientRow, standIns := [], harness := (true, "da3bcb35034089853606721095c541236b5305fd96b604390e696856a71da535"), looks := false }, kinds := [], alts := [], laidByText := true, laidKinds := [.data, .data], laidTests := true, laidLooks := .later }
def ChapClientCardSaid : Prop := Claim7.holds Tryz.pinned (.plain (OpenSpec.ofChange chapClientSpec)) chapClientCard

/-- THE TIED CARD OF 'tollgatelaw14.ChapServer'. -/
def chapServerCard : Claim7 := { stood := { row := chapServerRow, standIns := [], harness := (true, "da3bcb35034089853606721095c541236b5305fd96b604390e696856a71da535"), looks := false }, kinds := [], alts := [], laidByText := true, laidKinds := [.data, .data], laidTests := true, laidLooks := .later }
def ChapServerCardSaid : Prop := Claim7.holds Tryz.pinned (.plain (OpenSpec.ofChange chapServerSpec)) chapServerCard

/-- THE SECOND FORM's CARD OF 'tollgatelaw14.ChapClient'. -/
def chapClientUptoCard : Claim7 := { stood := { row := chapClientUptoRow, standIns := [], harness := (true, "da3bcb35034089853606721095c541236b5305fd96b604390e696856a71da535"), looks := false }, kinds := [], alts := [], laidByText := true, laidKinds := [.data, .data], laidTests := true, laidLooks := .later }
def ChapClientUptoCardSaid : Prop := Claim7.holds Tryz.pinned (.plain (OpenSpec.upto chapClientSpec)) chapClientUptoCard

/-- THE SECOND FORM's CARD OF 'tollgatelaw14.ChapServer'. -/
def chapServerUptoCard : Claim7 := { stood := { row := chapServerUptoRow, standIns := [], harness := (true, "da3bcb35034089853606721095c541236b5305fd96b604390e696856a71da535"), looks := false }, kinds := [], alts := [], laidByText := true, laidKinds := [.data, .data], laidTests := true, laidLooks := .later }
def ChapServerUptoCardSaid : Prop := Claim7.holds Tryz.pinned (.plain (OpenSpec.upto chapServerSpec)) chapServerUptoCard
end Rows
end Go.Proofs.YtndpfcanfcbldaaGreatDoor
