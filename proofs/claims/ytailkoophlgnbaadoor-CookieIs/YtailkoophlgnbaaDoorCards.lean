/-
  DERIVED. GIVEN WITH THE SEED: THE CARDS: each row of YtailkoophlgnbaaDoorRows.lean that lists a variable, with what it lists TIED to the program's text (the seventh form; the later family's looks); each row that meets fmt, with fmt's text TOLD by the authors' own Lean function (tested against real Go, not proved from fmt's source: count such statements apart). THE CARD IS WHAT COUNTS. Prove the row's statement (the work); the ties are given (YtailkoophlgnbaaDoorTie.lean); close each card by the builder's one call (the guide's Derived/Test/ToyasCard.lean, 'card_holds'). Laid BY PROGRAM, IN A SANDBOX (cutbox-door.mjs). By AI agents, Wed Nov 11 2026. No macro, syntax, notation, axiom, sorry.
-/
import Derived.Test.YtailkoophlgnbaaDoorRows
import GoSem.ClaimSeven
namespace Go.Proofs.YtailkoophlgnbaaDoor
namespace Rows

/-- THE TIED CARD OF 'tollgatelaw6.CookieTells'. -/
def cookieTellsCard : Claim7 := { stood := { row := cookieTellsRow, standIns := [], harness := (true, "7935caef1e9acb5e7dff7bedb2c8aca34d716d1094f1cd5a4bd66ce5bf42695b"), looks := false }, kinds := [], alts := [], laidByText := true, laidKinds := [.data, .data], laidTests := true, laidLooks := .later }
def CookieTellsCardSaid : Prop := Claim7.holds Tryd.pinned (.plain (OpenSpec.ofChange cookieTellsSpec)) cookieTellsCard

/-- THE TIED CARD OF 'tollgatelaw6.CookieLasts'. -/
def cookieLastsCard : Claim7 := { stood := { row := cookieLastsRow, standIns := [], harness := (true, "7935caef1e9acb5e7dff7bedb2c8aca34d716d1094f1cd5a4bd66ce5bf42695b"), looks := false }, kinds := [], alts := [], laidByText := true, laidKinds := [.data, .data], laidTests := true, laidLooks := .later }
def CookieLastsCardSaid : Prop := Claim7.holds Tryd.pinned (.plain (OpenSpec.ofChange cookieLastsSpec)) cookieLastsCard

/-- THE TIED CARD OF 'tollgatelaw6.CookieEpochs'. -/
def cookieEpochsCard : Claim7 := { stood := { row := cookieEpochsRow, standIns := [], harness := (true, "7935caef1e9acb5e7dff7bedb2c8aca34d716d1094f1cd5a4bd66ce5bf42695b"), looks := false }, kinds := [], alts := [], laidByText := true, laidKinds := [.data, .data], laidTests := true, laidLooks := .later }
def CookieEpochsCardSaid : Prop := Claim7.holds Tryd.pinned (.plain (OpenSpec.ofChange cookieEpochsSpec)) cookieEpochsCard

/-- THE TIED CARD OF 'tollgatelaw6.CookieIs'. -/
def cookieIsCard : Claim7 := { stood := { row := cookieIsRow, standIns := [], harness := (true, "7935caef1e9acb5e7dff7bedb2c8aca34d716d1094f1cd5a4bd66ce5bf42695b"), looks := false }, kinds := [], alts := [], laidByText := true, laidKinds := [.data, .data], laidTests := true, laidLooks := .later }
def CookieIsCardSaid : Prop := Claim7.holds Tryd.pinned (.plain (OpenSpec.ofChange cookieIsSpec)) cookieIsCard

/-- THE SECOND FORM's CARD OF 'tollgatelaw6.CookieTells'. -/
def cookieTellsUptoCard : Claim7 := { stood := { row := cookieTellsUptoRow, standIns := [], harness := (true, "7935caef1e9acb5e7dff7bedb2c8aca34d716d1094f1cd5a4bd66ce5bf42695b"), looks := false }, kinds := [], alts := [], laidByText := true, laidKinds := [.data, .data], laidTests := true, laidLooks := .later }
def CookieTellsUptoCardSaid : Prop := Claim7.holds Tryd.pinned (.plain (OpenSpec.upto cookieTellsSpec)) cookieTellsUptoCard

/-- THE SECOND FORM's CARD OF 'tollgatelaw6.CookieLasts'. -/
def cookieLastsUptoCard : Claim7 := { stood := { row := cookieLastsUptoRow, standIns := [], harness := (true, "7935caef1e9acb5e7dff7bedb2c8aca34d716d1094f1cd5a4bd66ce5bf42695b"), looks := false }, kinds := [], alts := [], laidByText := true, laidKinds := [.data, .data], laidTests := true, laidLooks := .later }
def CookieLastsUptoCardSaid : Prop := Claim7.holds Tryd.pinned (.plain (OpenSpec.upto cookieLastsSpec)) cookieLastsUptoCard

/-- THE SECOND FORM's CARD OF 'tollgatelaw6.CookieEpochs'. -/
def cookieEpochsUptoCard : Claim7 := { stood := { row := cookieEpochsUptoRow, standIns := [], harness := (true, "7935caef1e9acb5e7dff7bedb2c8aca34d716d1094f1cd5a4bd66ce5bf42695b"), looks := false }, kinds := [], alts := [], laidByText := true, laidKinds := [.data, .data], laidTests := true, laidLooks := .later }
def CookieEpochsUptoCardSaid : Prop := Claim7.holds Tryd.pinned (.plain (OpenSpec.upto cookieEpochsSpec)) cookieEpochsUptoCard

/-- THE SECOND FORM's CARD OF 'tollgatelaw6.CookieIs'. -/
def cookieIsUptoCard : Claim7 := { stood := { row := cookieIsUptoRow, standIns := [], harness := (true, "7935caef1e9acb5e7dff7bedb2c8aca34d716d1094f1cd5a4bd66ce5bf42695b"), looks := false }, kinds := [], alts := [], laidByText := true, laidKinds := [.data, .data], laidTests := true, laidLooks := .later }
def CookieIsUptoCardSaid : Prop := Claim7.holds Tryd.pinned (.plain (OpenSpec.upto cookieIsSpec)) cookieIsUptoCard
end Rows
end Go.Proofs.YtailkoophlgnbaaDoor
