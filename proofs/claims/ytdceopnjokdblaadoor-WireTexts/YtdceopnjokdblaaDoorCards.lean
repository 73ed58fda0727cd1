/-
  DERIVED. GIVEN WITH THE SEED: THE CARDS: each row of YtdceopnjokdblaaDoorRows.lean that lists a variable, with what it lists TIED to the program's text (the seventh form; the later family's looks); each row that meets fmt, with fmt's text TOLD by the authors' own Lean function (tested against real Go, not proved from fmt's source: count such statements apart). THE CARD IS WHAT COUNTS. Prove the row's statement (the work); the ties are given (YtdceopnjokdblaaDoorTie.lean); close each card by the builder's one call (the guide's Derived/Test/ToyasCard.lean, 'card_holds'). Laid BY PROGRAM, IN A SANDBOX (cutbox-door.mjs). By AI agents, Wed Nov 11 2026. No macro, syntax, notation, axiom, sorry.
-/
import Derived.Test.YtdceopnjokdblaaDoorRows
import GoSem.ClaimSeven
namespace Go.Proofs.YtdceopnjokdblaaDoor
namespace Rows

/-- THE TIED CARD OF 'tollgatelaw1.WireTexts'. -/
def wireTextsCard : Claim7 := { stood := { row := wireTextsRow, standIns := [], harness := (true, "28046ce5ec8999b09d4e8a70713eed0a3d6f9b7aa7afb3fbf5223fb761b27f24"), looks := false }, kinds := [], alts := [], laidByText := true, laidKinds := [.data, .data, .data], laidTests := true, laidLooks := .later }
def WireTextsCardSaid : Prop := Claim7.holds Tryd.pinned (.plain (OpenSpec.ofChange wireTextsSpec)) wireTextsCard

/-- THE TIED CARD OF 'tollgatelaw1.WireDigits'. -/
def wireDigitsCard : Claim7 := { stood := { row := wireDigitsRow, standIns := [], harness := (true, "28046ce5ec8999b09d4e8a70713eed0a3d6f9b7aa7afb3fbf5223fb761b27f24"), looks := false }, kinds := [], alts := [], laidByText := true, laidKinds := [.data, .data, .data], laidTests := true, laidLooks := .later }
def WireDigitsCardSaid : Prop := Claim7.holds Tryd.pinned (.plain (OpenSpec.ofChange wireDigitsSpec)) wireDigitsCard

/-- THE SECOND FORM's CARD OF 'tollgatelaw1.WireTexts'. -/
def wireTextsUptoCard : Claim7 := { stood := { row := wireTextsUptoRow, standIns := [], harness := (true, "28046ce5ec8999b09d4e8a70713eed0a3d6f9b7aa7afb3fbf5223fb761b27f24"), looks := false }, kinds := [], alts := [], laidByText := true, laidKinds := [.data, .data, .data], laidTests := true, laidLooks := .later }
def WireTextsUptoCardSaid : Prop := Claim7.holds Tryd.pinned (.plain (OpenSpec.upto wireTextsSpec)) wireTextsUptoCard

/-- THE SECOND FORM's CARD OF 'tollgatelaw1.WireDigits'. -/
def wireDigitsUptoCard : Claim7 := { stood := { row := wireDigitsUptoRow, standIns := [], harness := (true, "28046ce5ec8999b09d4e8a70713eed0a3d6f9b7aa7afb3fbf5223fb761b27f24"), looks := false }, kinds := [], alts := [], laidByText := true, laidKinds := [.data, .data, .data], laidTests := true, laidLooks := .later }
def WireDigitsUptoCardSaid : Prop := Claim7.holds Tryd.pinned (.plain (OpenSpec.upto wireDigitsSpec)) wireDigitsUptoCard
end Rows
end Go.Proofs.YtdceopnjokdblaaDoor
