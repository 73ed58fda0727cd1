/-
  No cell of these rows narrows 'for every input' (looked for: loops, veiled, ifaces, maps, wideKeys, modest, calm, conditions, laid).
  DERIVED. THE GIVEN ROWS OF THIS SEAT. 3 by the template 'for every input the law returns true; each argument reads behind the call as it read before'; 0 by the template 'total and deterministic' (their statements: YtmbdjgfbhblifaaTotals.lean).
  GIVEN WITH THE SEED: the statements are not yours to turn. If you find one false, say at which input.
  Laid BY PROGRAM, IN A SANDBOX (cutbox-rows.mjs): the forced cells as the released guide's own fill.sh prints them over the translation 1f8e789c526cfe32… (all of the seat's roots in one cut). By AI agents, Wed Nov 11 2026. No macro, syntax, notation, axiom, sorry.
-/
import Derived.Test.YtmbdjgfbhblifaaChecked
import GoSem.Claim
import GoSem.ClaimJoined
import GoSem.ClaimMapViews
import Derived.JoinedTies
import Derived.KernelRfl
namespace Go.Proofs.Ytmbdjgfbhblifaa
/- THE CELL 'sum', in the pinned program and in every row, IS THE sha256 OF THE DUMP (.gsa) THAT YtmbdjgfbhblifaaProg.lean LOADS. Nothing in Lean hashes anything: it is a label: what it is worth is what the hold of that sum in a sandbox is worth. -/
noncomputable def Try.pinned : Pinned := { name := "ytmbdjgfbhblifaa", sum := "1f8e789c526cfe32e5f912473553929a710106da846c1d2152da3bd10746b9e0", checked := Try.checked }
namespace Rows
def none {H : Type} : Left H := { results := [], args := [] }

/-- 'tollgatelaw15.StoreShuts': WHATEVER THE INPUT: true; the input reads as it did. -/
def storeShutsSpec : ChangeSpec := { name := "storeShuts", fn := fun _ => fun
  | [d1, d2, d3, d4] => { results := [.lit (.bool true)], args := [d1, d2, d3, d4] }
  | _ => none }
def storeShutsRow : OpenClaim := { program := "ytmbdjgfbhblifaa", sum := "1f8e789c526cfe32e5f912473553929a710106da846c1d2152da3bd10746b9e0", func := "tollgate/tollgatelaw15.StoreShuts", spec := "storeShuts", unfollowed := true, recurses := true, plainKeys := false, apart := false }
def StoreShutsSaid : Prop := storeShutsRow.holds Try.pinned (OpenSpec.ofChange storeShutsSpec)

/-- ITS FALSE NEIGHBOUR: 'it returns false'. Refute it at one input. -/
def storeShutsWrong : ChangeSpec := { name := "storeShuts", fn := fun _ => fun
  | [d1, d2, d3, d4] => { results := [.lit (.bool false)], args := [d1, d2, d3, d4] }
  | _ => none }
def StoreShutsWrongFalsely : Prop := storeShutsRow.holds Try.pinned (OpenSpec.ofChange storeShutsWrong)

/-- 'tollgatelaw15.StoreSplits': WHATEVER THE INPUT: true; the input reads as it did. -/
def storeSplitsSpec : ChangeSpec := { name := "storeSplits", fn := fun _ => fun
  | [d] => { results := [.lit (.bool true)], args := [d] }
  | _ => none }
def storeSplitsRow : OpenClaim := { program := "ytmbdjgfbhblifaa", sum := "1f8e789c526cfe32e5f912473553929a710106da846c1d2152da3bd10746b9e0", func := "tollgate/tollgatelaw15.StoreSplits", spec := "storeSplits", unfollowed := true, recurses := true, plainKeys := false, apart := false }
def StoreSplitsSaid : Prop := storeSplitsRow.holds Try.pinned (OpenSpec.ofChange storeSplitsSpec)

/-- ITS FALSE NEIGHBOUR: 'it returns false'. Refute it at one input. -/
def storeSplitsWrong : ChangeSpec := { name := "storeSplits", fn := fun _ => fun
  | [d] => { results := [.lit (.bool false)], args := [d] }
  | _ => none }
def StoreSplitsWrongFalsely : Prop := storeSplitsRow.holds Try.pinned (OpenSpec.ofChange storeSplitsWrong)

/-- 'tollgatelaw15.StoreForgets': WHATEVER THE INPUT: true; the input reads as it did. -/
def storeForgetsSpec : ChangeSpec := { name := "storeForgets", fn := fun _ => fun
  | [d1, d2, d3] => { results := [.lit (.bool true)], args := [d1, d2, d3] }
  | _ => none }
def storeForgetsRow : OpenClaim := { program := "ytmbdjgfbhblifaa", sum := "1f8e789c526cfe32e5f912473553929a710106da846c1d2152da3bd10746b9e0", func := "tollgate/tollgatelaw15.StoreForgets", spec := "storeForgets", unfollowed := true, recurses := true, plainKeys := false, apart := false }
def StoreForgetsSaid : Prop := storeForgetsRow.holds Try.pinned (OpenSpec.ofChange storeForgetsSpec)

/-- ITS FALSE NEIGHBOUR: 'it returns false'. Refute it at one input. -/
def storeForgetsWrong : ChangeSpec := { name := "storeForgets", fn := fun _ => fun
  | [d1, d2, d3] => { results := [.lit (.bool false)], args := [d1, d2, d3] }
  | _ => none }
def StoreForgetsWrongFalsely : Prop := storeForgetsRow.holds Try.pinned (OpenSpec.ofChange storeForgetsWrong)

/- THE SECOND FORM. 'bulk': how many values and letters a reading holds, each counted each time it is reached (what is shared counts as often as it is met; a slice's spare places count too). A statement '..UptoSaid' is the law's where the arguments, and the package variables that the reading takes, are together of bulk at most 1048576: NARROWER than '..Said'. Prove '..Said' where nothing that the law and all that it calls make is longer than what came in: it says more and counts as full. Else prove '..UptoSaid'. A law counts once. -/
mutual
def uptoBulk {H : Type} : DataW H → Nat
  | .lit (.string bytes) => bytes.length + 1
  | .lit _ => 1
  | .nil => 1
  | .ptr d => uptoBulk d + 1
  | .slice elems spare => uptoBulkAll elems + uptoBulkAll spare + 1
  | .agg parts => uptoBulkAll parts + 1
  | .iface _ d => uptoBulk d + 1
  | .map entries => uptoBulkEntries entries + 1
  | .held _ => 1
def uptoBulkAll {H : Type} : List (DataW H) → Nat
  | [] => 0
  | d :: r => uptoBulk d + uptoBulkAll r
def uptoBulkEntries {H : Type} : List (Lit × DataW H) → Nat
  | [] => 0
  | x :: r => uptoBulkEntry x + uptoBulkEntries r
def uptoBulkEntry {H : Type} : Lit × DataW H → Nat
  | (.string bytes, d) => bytes.length + uptoBulk d + 1
  | (_, d) => uptoBulk d + 1
 end
def uptoSmall : (H : Type) → List (DataW H) → Bool := fun _ ds => decide (uptoBulkAll ds ≤ 1048576)
def OpenSpec.upto (s : _root_.Go.ChangeSpec) : _root_.Go.OpenSpec := { _root_.Go.OpenSpec.ofChange s with cond := some uptoSmall }

/-- 'tollgatelaw15.StoreShuts', WHERE WHAT IT READS IS OF BULK AT MOST 1048576: true; the input reads as it did. -/
def storeShutsUptoRow : OpenClaim := { program := "ytmbdjgfbhblifaa", sum := "1f8e789c526cfe32e5f912473553929a710106da846c1d2152da3bd10746b9e0", func := "tollgate/tollgatelaw15.StoreShuts", spec := "storeShuts", unfollowed := true, recurses := true, plainKeys := false, apart := false, narrowed := true }
def StoreShutsUptoSaid : Prop := storeShutsUptoRow.holds Try.pinned (OpenSpec.upto storeShutsSpec)

/-- 'tollgatelaw15.StoreSplits', WHERE WHAT IT READS IS OF BULK AT MOST 1048576: true; the input reads as it did. -/
def storeSplitsUptoRow : OpenClaim := { program := "ytmbdjgfbhblifaa", sum := "1f8e789c526cfe32e5f912473553929a710106da846c1d2152da3bd10746b9e0", func := "tollgate/tollgatelaw15.StoreSplits", spec := "storeSplits", unfollowed := true, recurses := true, plainKeys := false, apart := false, narrowed := true }
def StoreSplitsUptoSaid : Prop := storeSplitsUptoRow.holds Try.pinned (OpenSpec.upto storeSplitsSpec)

/-- 'tollgatelaw15.StoreForgets', WHERE WHAT IT READS IS OF BULK AT MOST 1048576: true; the input reads as it did. -/
def storeForgetsUptoRow : OpenClaim := { program := "ytmbdjgfbhblifaa", sum := "1f8e789c526cfe32e5f912473553929a710106da846c1d2152da3bd10746b9e0", func := "tollgate/tollgatelaw15.StoreForgets", spec := "storeForgets", unfollowed := true, recurses := true, plainKeys := false, apart := false, narrowed := true }
def StoreForgetsUptoSaid : Prop := storeForgetsUptoRow.holds Try.pinned (OpenSpec.upto storeForgetsSpec)

end Rows
end Go.Proofs.Ytmbdjgfbhblifaa
