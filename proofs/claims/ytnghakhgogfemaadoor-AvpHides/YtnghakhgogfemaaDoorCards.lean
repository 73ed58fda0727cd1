/-
  DERIVED. GIVEN WITH THE SEED: THE CARDS: each row of YtnghakhgogfemaaDoorRows.lean that lists a variable, with what it lists TIED to the program's text (the seventh form; the later family's looks); each row that meets fmt, with fmt's text TOLD by the authors' own Lean function (tested against real Go, not proved from fmt's source: count such statements apart). THE CARD IS WHAT COUNTS. Prove the row's statement (the work); the ties are given (YtnghakhgogfemaaDoorTie.lean); close each card by the builder's one call (the guide's Derived/Test/ToyasCard.lean, 'card_holds'). Laid BY PROGRAM, IN A SANDBOX (cutbox-door.mjs). By AI agents, Wed Nov 11 2026. No macro, syntax, notation, axiom, sorry.
-/
import Derived.Test.YtnghakhgogfemaaDoorRows
import GoSem.ClaimSeven
namespace Go.Proofs.YtnghakhgogfemaaDoor
namespace Rows

/-- THE TIED CARD OF 'tollgatelaw18.AvpBack'. -/
def avpBackCard : Claim7 := { stood := { row := avpBackRow, standIns := [], harness := (true, "cc6bf45e894219932c23a0295bae3a0ce482e12028d1380411e62182e6562d89"), looks := false }, kinds := [], alts := [], laidByText := true, laidKinds := [.data, .data], laidTests := true, laidLooks := .later }
def AvpBackCardSaid : Prop := Claim7.holds Tryd.pinned (.plain (OpenSpec.ofChange avpBackSpec)) avpBackCard

/-- THE TIED CARD OF 'tollgatelaw18.AvpHides'. -/
def avpHidesCard : Claim7 := { stood := { row := avpHidesRow, standIns := [], harness := (true, "cc6bf45e894219932c23a0295bae3a0ce482e12028d1380411e62182e6562d89"), looks := false }, kinds := [], alts := [], laidByText := true, laidKinds := [.data, .data], laidTests := true, laidLooks := .later }
def AvpHidesCardSaid : Prop := Claim7.holds Tryd.pinned (.plain (OpenSpec.ofChange avpHidesSpec)) avpHidesCard

/-- THE TIED CARD OF 'tollgatelaw18.AvpNums'. -/
def avpNumsCard : Claim7 := { stood := { row := avpNumsRow, standIns := [], harness := (true, "cc6bf45e894219932c23a0295bae3a0ce482e12028d1380411e62182e6562d89"), looks := false }, kinds := [], alts := [], laidByText := true, laidKinds := [.data, .data], laidTests := true, laidLooks := .later }
def AvpNumsCardSaid : Prop := Claim7.holds Tryd.pinned (.plain (OpenSpec.ofChange avpNumsSpec)) avpNumsCard

/-- THE TIED CARD OF 'tollgatelaw18.AvpFinds'. -/
def avpFindsCard : Claim7 := { stood := { row := avpFindsRow, standIns := [], harness := (true, "cc6bf45e894219932c23a0295bae3a0ce482e12028d1380411e62182e6562d89"), looks := false }, kinds := [], alts := [], laidByText := true, laidKinds := [.data, .data], laidTests := true, laidLooks := .later }
def AvpFindsCardSaid : Prop := Claim7.holds Tryd.pinned (.plain (OpenSpec.ofChange avpFindsSpec)) avpFindsCard

/-- THE SECOND FORM's CARD OF 'tollgatelaw18.AvpBack'. -/
def avpBackUptoCard : Claim7 := { stood := { row := avpBackUptoRow, standIns := [], harness := (true, "cc6bf45e894219932c23a0295bae3a0ce482e12028d1380411e62182e6562d89"), looks := false }, kinds := [], alts := [], laidByText := true, laidKinds := [.data, .data], laidTests := true, laidLooks := .later }
def AvpBackUptoCardSaid : Prop := Claim7.holds Tryd.pinned (.plain (OpenSpec.upto avpBackSpec)) avpBackUptoCard

/-- THE SECOND FORM's CARD OF 'tollgatelaw18.AvpHides'. -/
def avpHidesUptoCard : Claim7 := { stood := { row := avpHidesUptoRow, standIns := [], harness := (true, "cc6bf45e894219932c23a0295bae3a0ce482e12028d1380411e62182e6562d89"), looks := false }, kinds := [], alts := [], laidByText := true, laidKinds := [.data, .data], laidTests := true, laidLooks := .later }
def AvpHidesUptoCardSaid : Prop := Claim7.holds Tryd.pinned (.plain (OpenSpec.upto avpHidesSpec)) avpHidesUptoCard

/-- THE SECOND FORM's CARD OF 'tollgatelaw18.AvpNums'. -/
def avpNumsUptoCard : Claim7 := { stood := { row := avpNumsUptoRow, standIns := [], harness := (true, "cc6bf45e894219932c23a0295bae3a0ce482e12028d1380411e62182e6562d89"), looks := false }, kinds := [], alts := [], laidByText := true, laidKinds := [.data, .data], laidTests := true, laidLooks := .later }
def AvpNumsUptoCardSaid : Prop := Claim7.holds Tryd.pinned (.plain (OpenSpec.upto avpNumsSpec)) avpNumsUptoCard

/-- THE SECOND FORM's CARD OF 'tollgatelaw18.AvpFinds'. -/
def avpFindsUptoCard : Claim7 := { stood := { row := avpFindsUptoRow, standIns := [], harness := (true, "cc6bf45e894219932c23a0295bae3a0ce482e12028d1380411e62182e6562d89"), looks := false }, kinds := [], alts := [], laidByText := true, laidKinds := [.data, .data], laidTests := true, laidLooks := .later }
def AvpFindsUptoCardSaid : Prop := Claim7.holds Tryd.pinned (.plain (OpenSpec.upto avpFindsSpec)) avpFindsUptoCard
end Rows
end Go.Proofs.YtnghakhgogfemaaDoor
