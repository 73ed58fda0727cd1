/-
  DERIVED. GIVEN WITH THE SEED: THE CARDS: each row of YtmelphkajkgdjabDoorRows.lean that lists a variable, with what it lists TIED to the program's text (the seventh form; the later family's looks); each row that meets fmt, with fmt's text TOLD by the authors' own Lean function (tested against real Go, not proved from fmt's source: count such statements apart). THE CARD IS WHAT COUNTS. Prove the row's statement (the work); the ties are given (YtmelphkajkgdjabDoorTie.lean); close each card by the builder's one call (the guide's Derived/Test/ToyasCard.lean, 'card_holds'). Laid BY PROGRAM, IN A SANDBOX (cutbox-door.mjs). By AI agents, Wed Nov 11 2026. No macro, syntax, notation, axiom, sorry.
-/
import Derived.Test.YtmelphkajkgdjabDoorRows
import GoSem.ClaimSeven
namespace Go.Proofs.YtmelphkajkgdjabDoor
namespace Rows

/-- THE TIED CARD OF 'tollgatelaw2.DigestGroup'. -/
def digestGroupCard : Claim7 := { stood := { row := digestGroupRow, standIns := [], harness := (true, "35a4417041be31a54cc2fd6b4c41457271ec065244c2c4a28d47b9248c95a3ce"), looks := false }, kinds := [], alts := [], laidByText := true, laidKinds := [.data, .data], laidTests := true, laidLooks := .later }
def DigestGroupCardSaid : Prop := Claim7.holds Tryd.pinned (.plain (OpenSpec.ofChange digestGroupSpec)) digestGroupCard

/-- THE TIED CARD OF 'tollgatelaw2.DigestLike'. -/
def digestLikeCard : Claim7 := { stood := { row := digestLikeRow, standIns := [], harness := (true, "35a4417041be31a54cc2fd6b4c41457271ec065244c2c4a28d47b9248c95a3ce"), looks := false }, kinds := [], alts := [], laidByText := true, laidKinds := [.data, .data], laidTests := true, laidLooks := .later }
def DigestLikeCardSaid : Prop := Claim7.holds Tryd.pinned (.plain (OpenSpec.ofChange digestLikeSpec)) digestLikeCard

/-- THE SECOND FORM's CARD OF 'tollgatelaw2.DigestGroup'. -/
def digestGroupUptoCard : Claim7 := { stood := { row := digestGroupUptoRow, standIns := [], harness := (true, "35a4417041be31a54cc2fd6b4c41457271ec065244c2c4a28d47b9248c95a3ce"), looks := false }, kinds := [], alts := [], laidByText := true, laidKinds := [.data, .data], laidTests := true, laidLooks := .later }
def DigestGroupUptoCardSaid : Prop := Claim7.holds Tryd.pinned (.plain (OpenSpec.upto digestGroupSpec)) digestGroupUptoCard

/-- THE SECOND FORM's CARD OF 'tollgatelaw2.DigestLike'. -/
def digestLikeUptoCard : Claim7 := { stood := { row := digestLikeUptoRow, standIns := [], harness := (true, "35a4417041be31a54cc2fd6b4c41457271ec065244c2c4a28d47b9248c95a3ce"), looks := false }, kinds := [], alts := [], laidByText := true, laidKinds := [.data, .data], laidTests := true, laidLooks := .later }
def DigestLikeUptoCardSaid : Prop := Claim7.holds Tryd.pinned (.plain (OpenSpec.upto digestLikeSpec)) digestLikeUptoCard
end Rows
end Go.Proofs.YtmelphkajkgdjabDoor
