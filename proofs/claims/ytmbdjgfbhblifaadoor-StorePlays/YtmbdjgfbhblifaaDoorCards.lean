/-
  DERIVED. GIVEN WITH THE SEED: THE CARDS: each row of YtmbdjgfbhblifaaDoorRows.lean that lists a variable, with what it lists TIED to the program's text (the seventh form; the later family's looks); each row that meets fmt, with fmt's text TOLD by the authors' own Lean function (tested against real Go, not proved from fmt's source: count such statements apart). THE CARD IS WHAT COUNTS. Prove the row's statement (the work); the ties are given (YtmbdjgfbhblifaaDoorTie.lean); close each card by the builder's one call (the guide's Derived/Test/ToyasCard.lean, 'card_holds'). Laid BY PROGRAM, IN A SANDBOX (cutbox-door.mjs). By AI agents, Wed Nov 11 2026. No macro, syntax, notation, axiom, sorry.
-/
import Derived.Test.YtmbdjgfbhblifaaDoorRows
import GoSem.ClaimSeven
namespace Go.Proofs.YtmbdjgfbhblifaaDoor
namespace Rows

/-- THE TIED CARD OF 'tollgatelaw15.StorePlays'. -/
def storePlaysCard : Claim7 := { stood := { row := storePlaysRow, standIns := [], harness := (true, "ae696107afb53a0fb34a91a347546247b9b44f62b46db37983c5de8c09b25c18"), looks := false }, kinds := [], alts := [], laidByText := true, laidKinds := [.data, .data], laidTests := true, laidLooks := .later }
def StorePlaysCardSaid : Prop := Claim7.holds Tryd.pinned (.plain (OpenSpec.ofChange storePlaysSpec)) storePlaysCard

/-- THE TIED CARD OF 'tollgatelaw15.StoreKnows'. -/
def storeKnowsCard : Claim7 := { stood := { row := storeKnowsRow, standIns := [], harness := (true, "ae696107afb53a0fb34a91a347546247b9b44f62b46db37983c5de8c09b25c18"), looks := false }, kinds := [], alts := [], laidByText := true, laidKinds := [.data, .data], laidTests := true, laidLooks := .later }
def StoreKnowsCardSaid : Prop := Claim7.holds Tryd.pinned (.plain (OpenSpec.ofChange storeKnowsSpec)) storeKnowsCard

/-- THE SECOND FORM's CARD OF 'tollgatelaw15.StorePlays'. -/
def storePlaysUptoCard : Claim7 := { stood := { row := storePlaysUptoRow, standIns := [], harness := (true, "ae696107afb53a0fb34a91a347546247b9b44f62b46db37983c5de8c09b25c18"), looks := false }, kinds := [], alts := [], laidByText := true, laidKinds := [.data, .data], laidTests := true, laidLooks := .later }
def StorePlaysUptoCardSaid : Prop := Claim7.holds Tryd.pinned (.plain (OpenSpec.upto storePlaysSpec)) storePlaysUptoCard

/-- THE SECOND FORM's CARD OF 'tollgatelaw15.StoreKnows'. -/
def storeKnowsUptoCard : Claim7 := { stood := { row := storeKnowsUptoRow, standIns := [], harness := (true, "ae696107afb53a0fb34a91a347546247b9b44f62b46db37983c5de8c09b25c18"), looks := false }, kinds := [], alts := [], laidByText := true, laidKinds := [.data, .data], laidTests := true, laidLooks := .later }
def StoreKnowsUptoCardSaid : Prop := Claim7.holds Tryd.pinned (.plain (OpenSpec.upto storeKnowsSpec)) storeKnowsUptoCard
end Rows
end Go.Proofs.YtmbdjgfbhblifaaDoor
