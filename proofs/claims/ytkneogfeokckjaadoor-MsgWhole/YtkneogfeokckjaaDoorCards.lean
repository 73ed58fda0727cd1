/-
  DERIVED. GIVEN WITH THE SEED: THE CARDS: each row of YtkneogfeokckjaaDoorRows.lean that lists a variable, with what it lists TIED to the program's text (the seventh form; the later family's looks); each row that meets fmt, with fmt's text TOLD by the authors' own Lean function (tested against real Go, not proved from fmt's source: count such statements apart). THE CARD IS WHAT COUNTS. Prove the row's statement (the work); the ties are given (YtkneogfeokckjaaDoorTie.lean); close each card by the builder's one call (the guide's Derived/Test/ToyasCard.lean, 'card_holds'). Laid BY PROGRAM, IN A SANDBOX (cutbox-door.mjs). By AI agents, Wed Nov 11 2026. No macro, syntax, notation, axiom, sorry.
-/
import Derived.Test.YtkneogfeokckjaaDoorRows
import GoSem.ClaimSeven
namespace Go.Proofs.YtkneogfeokckjaaDoor
namespace Rows

/-- THE TIED CARD OF 'tollgatelaw19.MsgBack'. -/
def msgBackCard : Claim7 := { stood := { row := msgBackRow, standIns := [], harness := (true, "ee4fcbf3696302647243944ed76411175ebb8dc5317754b0fff5cf4334a18191"), looks := false }, kinds := [], alts := [], laidByText := true, laidKinds := [.data, .data], laidTests := true, laidLooks := .later }
def MsgBackCardSaid : Prop := Claim7.holds Tryd.pinned (.plain (OpenSpec.ofChange msgBackSpec)) msgBackCard

/-- THE TIED CARD OF 'tollgatelaw19.MsgWhole'. -/
def msgWholeCard : Claim7 := { stood := { row := msgWholeRow, standIns := [], harness := (true, "ee4fcbf3696302647243944ed76411175ebb8dc5317754b0fff5cf4334a18191"), looks := false }, kinds := [], alts := [], laidByText := true, laidKinds := [.data, .data], laidTests := true, laidLooks := .later }
def MsgWholeCardSaid : Prop := Claim7.holds Tryd.pinned (.plain (OpenSpec.ofChange msgWholeSpec)) msgWholeCard

/-- THE TIED CARD OF 'tollgatelaw19.MsgKinds'. -/
def msgKindsCard : Claim7 := { stood := { row := msgKindsRow, standIns := [], harness := (true, "ee4fcbf3696302647243944ed76411175ebb8dc5317754b0fff5cf4334a18191"), looks := false }, kinds := [], alts := [], laidByText := true, laidKinds := [.data, .data], laidTests := true, laidLooks := .later }
def MsgKindsCardSaid : Prop := Claim7.holds Tryd.pinned (.plain (OpenSpec.ofChange msgKindsSpec)) msgKindsCard

/-- THE TIED CARD OF 'tollgatelaw19.MsgBits'. -/
def msgBitsCard : Claim7 := { stood := { row := msgBitsRow, standIns := [], harness := (true, "ee4fcbf3696302647243944ed76411175ebb8dc5317754b0fff5cf4334a18191"), looks := false }, kinds := [], alts := [], laidByText := true, laidKinds := [.data, .data], laidTests := true, laidLooks := .later }
def MsgBitsCardSaid : Prop := Claim7.holds Tryd.pinned (.plain (OpenSpec.ofChange msgBitsSpec)) msgBitsCard

/-- THE SECOND FORM's CARD OF 'tollgatelaw19.MsgBack'. -/
def msgBackUptoCard : Claim7 := { stood := { row := msgBackUptoRow, standIns := [], harness := (true, "ee4fcbf3696302647243944ed76411175ebb8dc5317754b0fff5cf4334a18191"), looks := false }, kinds := [], alts := [], laidByText := true, laidKinds := [.data, .data], laidTests := true, laidLooks := .later }
def MsgBackUptoCardSaid : Prop := Claim7.holds Tryd.pinned (.plain (OpenSpec.upto msgBackSpec)) msgBackUptoCard

/-- THE SECOND FORM's CARD OF 'tollgatelaw19.MsgWhole'. -/
def msgWholeUptoCard : Claim7 := { stood := { row := msgWholeUptoRow, standIns := [], harness := (true, "ee4fcbf3696302647243944ed76411175ebb8dc5317754b0fff5cf4334a18191"), looks := false }, kinds := [], alts := [], laidByText := true, laidKinds := [.data, .data], laidTests := true, laidLooks := .later }
def MsgWholeUptoCardSaid : Prop := Claim7.holds Tryd.pinned (.plain (OpenSpec.upto msgWholeSpec)) msgWholeUptoCard

/-- THE SECOND FORM's CARD OF 'tollgatelaw19.MsgKinds'. -/
def msgKindsUptoCard : Claim7 := { stood := { row := msgKindsUptoRow, standIns := [], harness := (true, "ee4fcbf3696302647243944ed76411175ebb8dc5317754b0fff5cf4334a18191"), looks := false }, kinds := [], alts := [], laidByText := true, laidKinds := [.data, .data], laidTests := true, laidLooks := .later }
def MsgKindsUptoCardSaid : Prop := Claim7.holds Tryd.pinned (.plain (OpenSpec.upto msgKindsSpec)) msgKindsUptoCard

/-- THE SECOND FORM's CARD OF 'tollgatelaw19.MsgBits'. -/
def msgBitsUptoCard : Claim7 := { stood := { row := msgBitsUptoRow, standIns := [], harness := (true, "ee4fcbf3696302647243944ed76411175ebb8dc5317754b0fff5cf4334a18191"), looks := false }, kinds := [], alts := [], laidByText := true, laidKinds := [.data, .data], laidTests := true, laidLooks := .later }
def MsgBitsUptoCardSaid : Prop := Claim7.holds Tryd.pinned (.plain (OpenSpec.upto msgBitsSpec)) msgBitsUptoCard
end Rows
end Go.Proofs.YtkneogfeokckjaaDoor
