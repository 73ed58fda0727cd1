/-
  DERIVED. GIVEN WITH THE SEED: THE CARDS: each row of YtmelphkajkgdjaaDoorRows.lean that lists a variable, with what it lists TIED to the program's text (the seventh form; the later family's looks); each row that meets fmt, with fmt's text TOLD by the authors' own Lean function (tested against real Go, not proved from fmt's source: count such statements apart). THE CARD IS WHAT COUNTS. Prove the row's statement (the work); the ties are given (YtmelphkajkgdjaaDoorTie.lean); close each card by the builder's one call (the guide's Derived/Test/ToyasCard.lean, 'card_holds'). Laid BY PROGRAM, IN A SANDBOX (cutbox-door.mjs). By AI agents, Wed Nov 11 2026. No macro, syntax, notation, axiom, sorry.
-/
import Derived.Test.YtmelphkajkgdjaaDoorRows
import GoSem.ClaimSeven
namespace Go.Proofs.YtmelphkajkgdjaaDoor
namespace Rows

/-- THE TIED CARD OF 'tollgatelaw2.DigestMd5'. -/
def digestMd5Card : Claim7 := { stood := { row := digestMd5Row, standIns := [], harness := (true, "3e7e1b675332b0cff3a4ec18fcd59f341d47e77516591c0743bc0748a22a6643"), looks := false }, kinds := [], alts := [], laidByText := true, laidKinds := [.data, .data], laidTests := true, laidLooks := .later }
def DigestMd5CardSaid : Prop := Claim7.holds Tryd.pinned (.plain (OpenSpec.ofChange digestMd5Spec)) digestMd5Card

/-- THE TIED CARD OF 'tollgatelaw2.DigestTurns'. -/
def digestTurnsCard : Claim7 := { stood := { row := digestTurnsRow, standIns := [], harness := (true, "3e7e1b675332b0cff3a4ec18fcd59f341d47e77516591c0743bc0748a22a6643"), looks := false }, kinds := [], alts := [], laidByText := true, laidKinds := [.data, .data], laidTests := true, laidLooks := .later }
def DigestTurnsCardSaid : Prop := Claim7.holds Tryd.pinned (.plain (OpenSpec.ofChange digestTurnsSpec)) digestTurnsCard

/-- THE TIED CARD OF 'tollgatelaw2.DigestChap'. -/
def digestChapCard : Claim7 := { stood := { row := digestChapRow, standIns := [], harness := (true, "3e7e1b675332b0cff3a4ec18fcd59f341d47e77516591c0743bc0748a22a6643"), looks := false }, kinds := [], alts := [], laidByText := true, laidKinds := [.data, .data], laidTests := true, laidLooks := .later }
def DigestChapCardSaid : Prop := Claim7.holds Tryd.pinned (.plain (OpenSpec.ofChange digestChapSpec)) digestChapCard

/-- THE TIED CARD OF 'tollgatelaw2.DigestMasks'. -/
def digestMasksCard : Claim7 := { stood := { row := digestMasksRow, standIns := [], harness := (true, "3e7e1b675332b0cff3a4ec18fcd59f341d47e77516591c0743bc0748a22a6643"), looks := false }, kinds := [], alts := [], laidByText := true, laidKinds := [.data, .data], laidTests := true, laidLooks := .later }
def DigestMasksCardSaid : Prop := Claim7.holds Tryd.pinned (.plain (OpenSpec.ofChange digestMasksSpec)) digestMasksCard

/-- THE TIED CARD OF 'tollgatelaw2.DigestShows'. -/
def digestShowsCard : Claim7 := { stood := { row := digestShowsRow, standIns := [], harness := (true, "3e7e1b675332b0cff3a4ec18fcd59f341d47e77516591c0743bc0748a22a6643"), looks := false }, kinds := [], alts := [], laidByText := true, laidKinds := [.data, .data], laidTests := true, laidLooks := .later }
def DigestShowsCardSaid : Prop := Claim7.holds Tryd.pinned (.plain (OpenSpec.ofChange digestShowsSpec)) digestShowsCard

/-- THE TIED CARD OF 'tollgatelaw2.DigestPieces'. -/
def digestPiecesCard : Claim7 := { stood := { row := digestPiecesRow, standIns := [], harness := (true, "3e7e1b675332b0cff3a4ec18fcd59f341d47e77516591c0743bc0748a22a6643"), looks := false }, kinds := [], alts := [], laidByText := true, laidKinds := [.data, .data], laidTests := true, laidLooks := .later }
def DigestPiecesCardSaid : Prop := Claim7.holds Tryd.pinned (.plain (OpenSpec.ofChange digestPiecesSpec)) digestPiecesCard

/-- THE SECOND FORM's CARD OF 'tollgatelaw2.DigestMd5'. -/
def digestMd5UptoCard : Claim7 := { stood := { row := digestMd5UptoRow, standIns := [], harness := (true, "3e7e1b675332b0cff3a4ec18fcd59f341d47e77516591c0743bc0748a22a6643"), looks := false }, kinds := [], alts := [], laidByText := true, laidKinds := [.data, .data], laidTests := true, laidLooks := .later }
def DigestMd5UptoCardSaid : Prop := Claim7.holds Tryd.pinned (.plain (OpenSpec.upto digestMd5Spec)) digestMd5UptoCard

/-- THE SECOND FORM's CARD OF 'tollgatelaw2.DigestTurns'. -/
def digestTurnsUptoCard : Claim7 := { stood := { row := digestTurnsUptoRow, standIns := [], harness := (true, "3e7e1b675332b0cff3a4ec18fcd59f341d47e77516591c0743bc0748a22a6643"), looks := false }, kinds := [], alts := [], laidByText := true, laidKinds := [.data, .data], laidTests := true, laidLooks := .later }
def DigestTurnsUptoCardSaid : Prop := Claim7.holds Tryd.pinned (.plain (OpenSpec.upto digestTurnsSpec)) digestTurnsUptoCard

/-- THE SECOND FORM's CARD OF 'tollgatelaw2.DigestChap'. -/
def digestChapUptoCard : Claim7 := { stood := { row := digestChapUptoRow, standIns := [], harness := (true, "3e7e1b675332b0cff3a4ec18fcd59f341d47e77516591c0743bc0748a22a6643"), looks := false }, kinds := [], alts := [], laidByText := true, laidKinds := [.data, .data], laidTests := true, laidLooks := .later }
def DigestChapUptoCardSaid : Prop := Claim7.holds Tryd.pinned (.plain (OpenSpec.upto digestChapSpec)) digestChapUptoCard

/-- THE SECOND FORM's CARD OF 'tollgatelaw2.DigestMasks'. -/
def digestMasksUptoCard : Claim7 := { stood := { row := digestMasksUptoRow, standIns := [], harness := (true, "3e7e1b675332b0cff3a4ec18fcd59f341d47e77516591c0743bc0748a22a6643"), looks := false }, kinds := [], alts := [], laidByText := true, laidKinds := [.data, .data], laidTests := true, laidLooks := .later }
def DigestMasksUptoCardSaid : Prop := Claim7.holds Tryd.pinned (.plain (OpenSpec.upto digestMasksSpec)) digestMasksUptoCard

/-- THE SECOND FORM's CARD OF 'tollgatelaw2.DigestShows'. -/
def digestShowsUptoCard : Claim7 := { stood := { row := digestShowsUptoRow, standIns := [], harness := (true, "3e7e1b675332b0cff3a4ec18fcd59f341d47e77516591c0743bc0748a22a6643"), looks := false }, kinds := [], alts := [], laidByText := true, laidKinds := [.data, .data], laidTests := true, laidLooks := .later }
def DigestShowsUptoCardSaid : Prop := Claim7.holds Tryd.pinned (.plain (OpenSpec.upto digestShowsSpec)) digestShowsUptoCard

/-- THE SECOND FORM's CARD OF 'tollgatelaw2.DigestPieces'. -/
def digestPiecesUptoCard : Claim7 := { stood := { row := digestPiecesUptoRow, standIns := [], harness := (true, "3e7e1b675332b0cff3a4ec18fcd59f341d47e77516591c0743bc0748a22a6643"), looks := false }, kinds := [], alts := [], laidByText := true, laidKinds := [.data, .data], laidTests := true, laidLooks := .later }
def DigestPiecesUptoCardSaid : Prop := Claim7.holds Tryd.pinned (.plain (OpenSpec.upto digestPiecesSpec)) digestPiecesUptoCard
end Rows
end Go.Proofs.YtmelphkajkgdjaaDoor
