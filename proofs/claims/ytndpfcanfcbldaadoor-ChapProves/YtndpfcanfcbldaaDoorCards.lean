/-
  DERIVED. GIVEN WITH THE SEED: THE CARDS: each row of YtndpfcanfcbldaaDoorRows.lean that lists a variable, with what it lists TIED to the program's text (the seventh form; the later family's looks); each row that meets fmt, with fmt's text TOLD by the authors' own Lean function (tested against real Go, not proved from fmt's source: count such statements apart). THE CARD IS WHAT COUNTS. Prove the row's statement (the work); the ties are given (YtndpfcanfcbldaaDoorTie.lean); close each card by the builder's one call (the guide's Derived/Test/ToyasCard.lean, 'card_holds'). Laid BY PROGRAM, IN A SANDBOX (cutbox-door.mjs). By AI agents, Wed Nov 11 2026. No macro, syntax, notation, axiom, sorry.
-/
import Derived.Test.YtndpfcanfcbldaaDoorRows
import GoSem.ClaimSeven
namespace Go.Proofs.YtndpfcanfcbldaaDoor
namespace Rows

/-- THE TIED CARD OF 'tollgatelaw14.ChapBytes'. -/
def chapBytesCard : Claim7 := { stood := { row := chapBytesRow, standIns := [], harness := (true, "6f6898d826c244e33e6faa48bf69db1f04bed9c3ea1eb93d7ef970c4b4f705a8"), looks := false }, kinds := [], alts := [], laidByText := true, laidKinds := [.data, .data], laidTests := true, laidLooks := .later }
def ChapBytesCardSaid : Prop := Claim7.holds Tryd.pinned (.plain (OpenSpec.ofChange chapBytesSpec)) chapBytesCard

/-- THE TIED CARD OF 'tollgatelaw14.ChapProves'. -/
def chapProvesCard : Claim7 := { stood := { row := chapProvesRow, standIns := [], harness := (true, "6f6898d826c244e33e6faa48bf69db1f04bed9c3ea1eb93d7ef970c4b4f705a8"), looks := false }, kinds := [], alts := [], laidByText := true, laidKinds := [.data, .data], laidTests := true, laidLooks := .later }
def ChapProvesCardSaid : Prop := Claim7.holds Tryd.pinned (.plain (OpenSpec.ofChange chapProvesSpec)) chapProvesCard

/-- THE TIED CARD OF 'tollgatelaw14.ChapNone'. -/
def chapNoneCard : Claim7 := { stood := { row := chapNoneRow, standIns := [], harness := (true, "6f6898d826c244e33e6faa48bf69db1f04bed9c3ea1eb93d7ef970c4b4f705a8"), looks := false }, kinds := [], alts := [], laidByText := true, laidKinds := [.data, .data], laidTests := true, laidLooks := .later }
def ChapNoneCardSaid : Prop := Claim7.holds Tryd.pinned (.plain (OpenSpec.ofChange chapNoneSpec)) chapNoneCard

/-- THE TIED CARD OF 'tollgatelaw14.ChapAsks'. -/
def chapAsksCard : Claim7 := { stood := { row := chapAsksRow, standIns := [], harness := (true, "6f6898d826c244e33e6faa48bf69db1f04bed9c3ea1eb93d7ef970c4b4f705a8"), looks := false }, kinds := [], alts := [], laidByText := true, laidKinds := [.data, .data], laidTests := true, laidLooks := .later }
def ChapAsksCardSaid : Prop := Claim7.holds Tryd.pinned (.plain (OpenSpec.ofChange chapAsksSpec)) chapAsksCard

/-- THE SECOND FORM's CARD OF 'tollgatelaw14.ChapBytes'. -/
def chapBytesUptoCard : Claim7 := { stood := { row := chapBytesUptoRow, standIns := [], harness := (true, "6f6898d826c244e33e6faa48bf69db1f04bed9c3ea1eb93d7ef970c4b4f705a8"), looks := false }, kinds := [], alts := [], laidByText := true, laidKinds := [.data, .data], laidTests := true, laidLooks := .later }
def ChapBytesUptoCardSaid : Prop := Claim7.holds Tryd.pinned (.plain (OpenSpec.upto chapBytesSpec)) chapBytesUptoCard

/-- THE SECOND FORM's CARD OF 'tollgatelaw14.ChapProves'. -/
def chapProvesUptoCard : Claim7 := { stood := { row := chapProvesUptoRow, standIns := [], harness := (true, "6f6898d826c244e33e6faa48bf69db1f04bed9c3ea1eb93d7ef970c4b4f705a8"), looks := false }, kinds := [], alts := [], laidByText := true, laidKinds := [.data, .data], laidTests := true, laidLooks := .later }
def ChapProvesUptoCardSaid : Prop := Claim7.holds Tryd.pinned (.plain (OpenSpec.upto chapProvesSpec)) chapProvesUptoCard

/-- THE SECOND FORM's CARD OF 'tollgatelaw14.ChapNone'. -/
def chapNoneUptoCard : Claim7 := { stood := { row := chapNoneUptoRow, standIns := [], harness := (true, "6f6898d826c244e33e6faa48bf69db1f04bed9c3ea1eb93d7ef970c4b4f705a8"), looks := false }, kinds := [], alts := [], laidByText := true, laidKinds := [.data, .data], laidTests := true, laidLooks := .later }
def ChapNoneUptoCardSaid : Prop := Claim7.holds Tryd.pinned (.plain (OpenSpec.upto chapNoneSpec)) chapNoneUptoCard

/-- THE SECOND FORM's CARD OF 'tollgatelaw14.ChapAsks'. -/
def chapAsksUptoCard : Claim7 := { stood := { row := chapAsksUptoRow, standIns := [], harness := (true, "6f6898d826c244e33e6faa48bf69db1f04bed9c3ea1eb93d7ef970c4b4f705a8"), looks := false }, kinds := [], alts := [], laidByText := true, laidKinds := [.data, .data], laidTests := true, laidLooks := .later }
def ChapAsksUptoCardSaid : Prop := Claim7.holds Tryd.pinned (.plain (OpenSpec.upto chapAsksSpec)) chapAsksUptoCard
end Rows
end Go.Proofs.YtndpfcanfcbldaaDoor
