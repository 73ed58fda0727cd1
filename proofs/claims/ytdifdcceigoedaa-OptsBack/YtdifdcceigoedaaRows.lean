/-
  No cell of these rows narrows 'for every input' (looked for: loops, veiled, ifaces, maps, wideKeys, modest, calm, conditions, laid).
  DERIVED. THE GIVEN ROWS OF THIS SEAT. 4 by the template 'for every input the law returns true; each argument reads behind the call as it read before'; 0 by the template 'total and deterministic' (their statements: YtdifdcceigoedaaTotals.lean).
  GIVEN WITH THE SEED: the statements are not yours to turn. If you find one false, say at which input.
  Laid BY PROGRAM, IN A SANDBOX (cutbox-rows.mjs): the forced cells as the released guide's own fill.sh prints them over the translation a8bb3a6dd14af82e… (all of the seat's roots in one cut). By AI agents, Wed Nov 11 2026. No macro, syntax, notation, axiom, sorry.
-/
import Derived.Test.YtdifdcceigoedaaChecked
import GoSem.Claim
import GoSem.ClaimJoined
import GoSem.ClaimMapViews
import Derived.JoinedTies
import Derived.KernelRfl
namespace Go.Proofs.Ytdifdcceigoedaa
/- THE CELL 'sum', in the pinned program and in every row, IS THE sha256 OF THE DUMP (.gsa) THAT YtdifdcceigoedaaProg.lean LOADS. Nothing in Lean hashes anything: it is a label: what it is worth is what the hold of that sum in a sandbox is worth. -/
noncomputable def Try.pinned : Pinned := { name := "ytdifdcceigoedaa", sum := "a8bb3a6dd14af82e67e689163dbd5c31e465468313c1a872d26d6dee367ea05a", checked := Try.checked }
namespace Rows
def none {H : Type} : Left H := { results := [], args := [] }

/-- 'tollgatelaw10.OptsBack': WHATEVER THE INPUT: true; the input reads as it did. -/
def optsBackSpec : ChangeSpec := { name := "optsBack", fn := fun _ => fun
  | [d1, d2, d3] => { results := [.lit (.bool true)], args := [d1, d2, d3] }
  | _ => none }
def optsBackRow : OpenClaim := { program := "ytdifdcceigoedaa", sum := "a8bb3a6dd14af82e67e689163dbd5c31e465468313c1a872d26d6dee367ea05a", func := "tollgate/tollgatelaw10.OptsBack", spec := "optsBack", apart := false }
def OptsBackSaid : Prop := optsBackRow.holds Try.pinned (OpenSpec.ofChange optsBackSpec)

/-- ITS FALSE NEIGHBOUR: 'it returns false'. Refute it at one input. -/
def optsBackWrong : ChangeSpec := { name := "optsBack", fn := fun _ => fun
  | [d1, d2, d3] => { results := [.lit (.bool false)], args := [d1, d2, d3] }
  | _ => none }
def OptsBackWrongFalsely : Prop := optsBackRow.holds Try.pinned (OpenSpec.ofChange optsBackWrong)

/-- 'tollgatelaw10.OptsLists': WHATEVER THE INPUT: true; the input reads as it did. -/
def optsListsSpec : ChangeSpec := { name := "optsLists", fn := fun _ => fun
  | [d1, d2] => { results := [.lit (.bool true)], args := [d1, d2] }
  | _ => none }
def optsListsRow : OpenClaim := { program := "ytdifdcceigoedaa", sum := "a8bb3a6dd14af82e67e689163dbd5c31e465468313c1a872d26d6dee367ea05a", func := "tollgate/tollgatelaw10.OptsLists", spec := "optsLists", apart := false }
def OptsListsSaid : Prop := optsListsRow.holds Try.pinned (OpenSpec.ofChange optsListsSpec)

/-- ITS FALSE NEIGHBOUR: 'it returns false'. Refute it at one input. -/
def optsListsWrong : ChangeSpec := { name := "optsLists", fn := fun _ => fun
  | [d1, d2] => { results := [.lit (.bool false)], args := [d1, d2] }
  | _ => none }
def OptsListsWrongFalsely : Prop := optsListsRow.holds Try.pinned (OpenSpec.ofChange optsListsWrong)

/-- 'tollgatelaw10.OptsFinds': WHATEVER THE INPUT: true; the input reads as it did. -/
def optsFindsSpec : ChangeSpec := { name := "optsFinds", fn := fun _ => fun
  | [d1, d2, d3] => { results := [.lit (.bool true)], args := [d1, d2, d3] }
  | _ => none }
def optsFindsRow : OpenClaim := { program := "ytdifdcceigoedaa", sum := "a8bb3a6dd14af82e67e689163dbd5c31e465468313c1a872d26d6dee367ea05a", func := "tollgate/tollgatelaw10.OptsFinds", spec := "optsFinds", apart := false }
def OptsFindsSaid : Prop := optsFindsRow.holds Try.pinned (OpenSpec.ofChange optsFindsSpec)

/-- ITS FALSE NEIGHBOUR: 'it returns false'. Refute it at one input. -/
def optsFindsWrong : ChangeSpec := { name := "optsFinds", fn := fun _ => fun
  | [d1, d2, d3] => { results := [.lit (.bool false)], args := [d1, d2, d3] }
  | _ => none }
def OptsFindsWrongFalsely : Prop := optsFindsRow.holds Try.pinned (OpenSpec.ofChange optsFindsWrong)

/-- 'tollgatelaw10.OptsValues': WHATEVER THE INPUT: true; the input reads as it did. -/
def optsValuesSpec : ChangeSpec := { name := "optsValues", fn := fun _ => fun
  | [d1, d2] => { results := [.lit (.bool true)], args := [d1, d2] }
  | _ => none }
def optsValuesRow : OpenClaim := { program := "ytdifdcceigoedaa", sum := "a8bb3a6dd14af82e67e689163dbd5c31e465468313c1a872d26d6dee367ea05a", func := "tollgate/tollgatelaw10.OptsValues", spec := "optsValues", apart := false }
def OptsValuesSaid : Prop := optsValuesRow.holds Try.pinned (OpenSpec.ofChange optsValuesSpec)

/-- ITS FALSE NEIGHBOUR: 'it returns false'. Refute it at one input. -/
def optsValuesWrong : ChangeSpec := { name := "optsValues", fn := fun _ => fun
  | [d1, d2] => { results := [.lit (.bool false)], args := [d1, d2] }
  | _ => none }
def OptsValuesWrongFalsely : Prop := optsValuesRow.holds Try.pinned (OpenSpec.ofChange optsValuesWrong)

/- THE SECOND FORM. 'bulk': how many values and letters a reading holds, each counted each time it is reached (what is shared counts as often as it is met; a slice's spare places count too). A statement '..UptoSaid' is the law's where the arguments, and the package variables that the reading takes, are together of bulk at most 1048576: NARROWER than '..Said'. Prove '..Said' where nothing that the law and all that it calls make is longer than what came in: it says more and counts as full. Else prove '..UptoSaid'. A law counts once. -/
mutual
def uptoBulk {H : Type} : DataW H → Nat
  | .lit (.string bytes) => bytes.length + 1
  | .lit _ => 1
  | .nil => 1
  | .ptr d => uptoBulk d + 1
  | .slice elems spare => uptoBulkAll elems + uptoBulkAll spare + 1
  | .agg parts => uptoBulkAll parts + 1
  | .iface _ d => uptoBulk d + 1
  | .map entries => uptoBulkEntries entries + 1
  | .held _ => 1
def uptoBulkAll {H : Type} : List (DataW H) → Nat
  | [] => 0
  | d :: r => uptoBulk d + uptoBulkAll r
def uptoBulkEntries {H : Type} : List (Lit × DataW H) → Nat
  | [] => 0
  | x :: r => uptoBulkEntry x + uptoBulkEntries r
def uptoBulkEntry {H : Type} : Lit × DataW H → Nat
  | (.string bytes, d) => bytes.length + uptoBulk d + 1
  | (_, d) => uptoBulk d + 1
 end
def uptoSmall : (H : Type) → List (DataW H) → Bool := fun _ ds => decide (uptoBulkAll ds ≤ 1048576)
def OpenSpec.upto (s : _root_.Go.ChangeSpec) : _root_.Go.OpenSpec := { _root_.Go.OpenSpec.ofChange s with cond := some uptoSmall }

/-- 'tollgatelaw10.OptsBack', WHERE WHAT IT READS IS OF BULK AT MOST 1048576: true; the input reads as it did. -/
def optsBackUptoRow : OpenClaim := { program := "ytdifdcceigoedaa", sum := "a8bb3a6dd14af82e67e689163dbd5c31e465468313c1a872d26d6dee367ea05a", func := "tollgate/tollgatelaw10.OptsBack", spec := "optsBack", apart := false, narrowed := true }
def OptsBackUptoSaid : Prop := optsBackUptoRow.holds Try.pinned (OpenSpec.upto optsBackSpec)

/-- 'tollgatelaw10.OptsLists', WHERE WHAT IT READS IS OF BULK AT MOST 1048576: true; the input reads as it did. -/
def optsListsUptoRow : OpenClaim := { program := "ytdifdcceigoedaa", sum := "a8bb3a6dd14af82e67e689163dbd5c31e465468313c1a872d26d6dee367ea05a", func := "tollgate/tollgatelaw10.OptsLists", spec := "optsLists", apart := false, narrowed := true }
def OptsListsUptoSaid : Prop := optsListsUptoRow.holds Try.pinned (OpenSpec.upto optsListsSpec)

/-- 'tollgatelaw10.OptsFinds', WHERE WHAT IT READS IS OF BULK AT MOST 1048576: true; the input reads as it did. -/
def optsFindsUptoRow : OpenClaim := { program := "ytdifdcceigoedaa", sum := "a8bb3a6dd14af82e67e689163dbd5c31e465468313c1a872d26d6dee367ea05a", func := "tollgate/tollgatelaw10.OptsFinds", spec := "optsFinds", apart := false, narrowed := true }
def OptsFindsUptoSaid : Prop := optsFindsUptoRow.holds Try.pinned (OpenSpec.upto optsFindsSpec)

/-- 'tollgatelaw10.OptsValues', WHERE WHAT IT READS IS OF BULK AT MOST 1048576: true; the input reads as it did. -/
def optsValuesUptoRow : OpenClaim := { program := "ytdifdcceigoedaa", sum := "a8bb3a6dd14af82e67e689163dbd5c31e465468313c1a872d26d6dee367ea05a", func := "tollgate/tollgatelaw10.OptsValues", spec := "optsValues", apart := false, narrowed := true }
def OptsValuesUptoSaid : Prop := optsValuesUptoRow.holds Try.pinned (OpenSpec.upto optsValuesSpec)

end Rows
end Go.Proofs.Ytdifdcceigoedaa
