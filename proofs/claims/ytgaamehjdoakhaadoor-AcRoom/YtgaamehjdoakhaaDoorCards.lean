/-
  DERIVED. GIVEN WITH THE SEED: THE CARDS: each row of YtgaamehjdoakhaaDoorRows.lean that lists a variable, with what it lists TIED to the program's text (the seventh form; the later family's looks); each row that meets fmt, with fmt's text TOLD by the authors' own Lean function (tested against real Go, not proved from fmt's source: count such statements apart). THE CARD IS WHAT COUNTS. Prove the row's statement (the work); the ties are given (YtgaamehjdoakhaaDoorTie.lean); close each card by the builder's one call (the guide's Derived/Test/ToyasCard.lean, 'card_holds'). Laid BY PROGRAM, IN A SANDBOX (cutbox-door.mjs). By AI agents, Wed Nov 11 2026. No macro, syntax, notation, axiom, sorry.
-/
import Derived.Test.YtgaamehjdoakhaaDoorRows
import GoSem.ClaimSeven
namespace Go.Proofs.YtgaamehjdoakhaaDoor
namespace Rows

/-- THE TIED CARD OF 'tollgatelaw7.AcNone'. -/
def acNoneCard : Claim7 := { stood := { row := acNoneRow, standIns := [], harness := (true, "9d48f2a465d95803869d2cb9d35e1515c6bbdf1a121211e4d84106e0984abd28"), looks := false }, kinds := [], alts := [], laidByText := true, laidKinds := [.data, .data, .data], laidTests := true, laidLooks := .later }
def AcNoneCardSaid : Prop := Claim7.holds Tryd.pinned (.plain (OpenSpec.ofChange acNoneSpec)) acNoneCard

/-- THE TIED CARD OF 'tollgatelaw7.AcRoom'. -/
def acRoomCard : Claim7 := { stood := { row := acRoomRow, standIns := [], harness := (true, "9d48f2a465d95803869d2cb9d35e1515c6bbdf1a121211e4d84106e0984abd28"), looks := false }, kinds := [], alts := [], laidByText := true, laidKinds := [.data, .data, .data], laidTests := true, laidLooks := .later }
def AcRoomCardSaid : Prop := Claim7.holds Tryd.pinned (.plain (OpenSpec.ofChange acRoomSpec)) acRoomCard

/-- THE TIED CARD OF 'tollgatelaw7.AcStrange'. -/
def acStrangeCard : Claim7 := { stood := { row := acStrangeRow, standIns := [], harness := (true, "9d48f2a465d95803869d2cb9d35e1515c6bbdf1a121211e4d84106e0984abd28"), looks := false }, kinds := [], alts := [], laidByText := true, laidKinds := [.data, .data, .data], laidTests := true, laidLooks := .later }
def AcStrangeCardSaid : Prop := Claim7.holds Tryd.pinned (.plain (OpenSpec.ofChange acStrangeSpec)) acStrangeCard

/-- THE TIED CARD OF 'tollgatelaw7.AcSame'. -/
def acSameCard : Claim7 := { stood := { row := acSameRow, standIns := [], harness := (true, "9d48f2a465d95803869d2cb9d35e1515c6bbdf1a121211e4d84106e0984abd28"), looks := false }, kinds := [], alts := [], laidByText := true, laidKinds := [.data, .data, .data], laidTests := true, laidLooks := .later }
def AcSameCardSaid : Prop := Claim7.holds Tryd.pinned (.plain (OpenSpec.ofChange acSameSpec)) acSameCard

/-- THE TIED CARD OF 'tollgatelaw7.AcUsed'. -/
def acUsedCard : Claim7 := { stood := { row := acUsedRow, standIns := [], harness := (true, "9d48f2a465d95803869d2cb9d35e1515c6bbdf1a121211e4d84106e0984abd28"), looks := false }, kinds := [], alts := [], laidByText := true, laidKinds := [.data, .data, .data], laidTests := true, laidLooks := .later }
def AcUsedCardSaid : Prop := Claim7.holds Tryd.pinned (.plain (OpenSpec.ofChange acUsedSpec)) acUsedCard

/-- THE SECOND FORM's CARD OF 'tollgatelaw7.AcNone'. -/
def acNoneUptoCard : Claim7 := { stood := { row := acNoneUptoRow, standIns := [], harness := (true, "9d48f2a465d95803869d2cb9d35e1515c6bbdf1a121211e4d84106e0984abd28"), looks := false }, kinds := [], alts := [], laidByText := true, laidKinds := [.data, .data, .data], laidTests := true, laidLooks := .later }
def AcNoneUptoCardSaid : Prop := Claim7.holds Tryd.pinned (.plain (OpenSpec.upto acNoneSpec)) acNoneUptoCard

/-- THE SECOND FORM's CARD OF 'tollgatelaw7.AcRoom'. -/
def acRoomUptoCard : Claim7 := { stood := { row := acRoomUptoRow, standIns := [], harness := (true, "9d48f2a465d95803869d2cb9d35e1515c6bbdf1a121211e4d84106e0984abd28"), looks := false }, kinds := [], alts := [], laidByText := true, laidKinds := [.data, .data, .data], laidTests := true, laidLooks := .later }
def AcRoomUptoCardSaid : Prop := Claim7.holds Tryd.pinned (.plain (OpenSpec.upto acRoomSpec)) acRoomUptoCard

/-- THE SECOND FORM's CARD OF 'tollgatelaw7.AcStrange'. -/
def acStrangeUptoCard : Claim7 := { stood := { row := acStrangeUptoRow, standIns := [], harness := (true, "9d48f2a465d95803869d2cb9d35e1515c6bbdf1a121211e4d84106e0984abd28"), looks := false }, kinds := [], alts := [], laidByText := true, laidKinds := [.data, .data, .data], laidTests := true, laidLooks := .later }
def AcStrangeUptoCardSaid : Prop := Claim7.holds Tryd.pinned (.plain (OpenSpec.upto acStrangeSpec)) acStrangeUptoCard

/-- THE SECOND FORM's CARD OF 'tollgatelaw7.AcSame'. -/
def acSameUptoCard : Claim7 := { stood := { row := acSameUptoRow, standIns := [], harness := (true, "9d48f2a465d95803869d2cb9d35e1515c6bbdf1a121211e4d84106e0984abd28"), looks := false }, kinds := [], alts := [], laidByText := true, laidKinds := [.data, .data, .data], laidTests := true, laidLooks := .later }
def AcSameUptoCardSaid : Prop := Claim7.holds Tryd.pinned (.plain (OpenSpec.upto acSameSpec)) acSameUptoCard

/-- THE SECOND FORM's CARD OF 'tollgatelaw7.AcUsed'. -/
def acUsedUptoCard : Claim7 := { stood := { row := acUsedUptoRow, standIns := [], harness := (true, "9d48f2a465d95803869d2cb9d35e1515c6bbdf1a121211e4d84106e0984abd28"), looks := false }, kinds := [], alts := [], laidByText := true, laidKinds := [.data, .data, .data], laidTests := true, laidLooks := .later }
def AcUsedUptoCardSaid : Prop := Claim7.holds Tryd.pinned (.plain (OpenSpec.upto acUsedSpec)) acUsedUptoCard
end Rows
end Go.Proofs.YtgaamehjdoakhaaDoor
