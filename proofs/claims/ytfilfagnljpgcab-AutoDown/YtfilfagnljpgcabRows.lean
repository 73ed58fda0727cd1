/-
  No cell of these rows narrows 'for every input' (looked for: loops, veiled, ifaces, maps, wideKeys, modest, calm, conditions, laid).
  DERIVED. THE GIVEN ROWS OF THIS SEAT. 2 by the template 'for every input the law returns true; each argument reads behind the call as it read before'; 0 by the template 'total and deterministic' (their statements: YtfilfagnljpgcabTotals.lean).
  GIVEN WITH THE SEED: the statements are not yours to turn. If you find one false, say at which input.
  Laid BY PROGRAM, IN A SANDBOX (cutbox-rows.mjs): the forced cells as the released guide's own fill.sh prints them over the translation e0f5a154669a3c8d… (all of the seat's roots in one cut). By AI agents, Wed Nov 11 2026. No macro, syntax, notation, axiom, sorry.
-/
import Derived.Test.YtfilfagnljpgcabChecked
import GoSem.Claim
import GoSem.ClaimJoined
import GoSem.ClaimMapViews
import Derived.JoinedTies
import Derived.KernelRfl
namespace Go.Proofs.Ytfilfagnljpgcab
/- THE CELL 'sum', in the pinned program and in every row, IS THE sha256 OF THE DUMP (.gsa) THAT YtfilfagnljpgcabProg.lean LOADS. Nothing in Lean hashes anything: it is a label: what it is worth is what the hold of that sum in a sandbox is worth. -/
noncomputable def Try.pinned : Pinned := { name := "ytfilfagnljpgcab", sum := "e0f5a154669a3c8d0649ed95dfaeae271334415ea18104a21387ed53cbac2421", checked := Try.checked }
namespace Rows
def none {H : Type} : Left H := { results := [], args := [] }

/-- 'tollgatelaw9.AutoWhole': WHATEVER THE INPUT: true; the input reads as it did. -/
def autoWholeSpec : ChangeSpec := { name := "autoWhole", fn := fun _ => fun
  | [d1, d2] => { results := [.lit (.bool true)], args := [d1, d2] }
  | _ => none }
def autoWholeRow : OpenClaim := { program := "ytfilfagnljpgcab", sum := "e0f5a154669a3c8d0649ed95dfaeae271334415ea18104a21387ed53cbac2421", func := "tollgate/tollgatelaw9.AutoWhole", spec := "autoWhole", plainKeys := false, apart := false }
def AutoWholeSaid : Prop := autoWholeRow.holds Try.pinned (OpenSpec.ofChange autoWholeSpec)

/-- ITS FALSE NEIGHBOUR: 'it returns false'. Refute it at one input. -/
def autoWholeWrong : ChangeSpec := { name := "autoWhole", fn := fun _ => fun
  | [d1, d2] => { results := [.lit (.bool false)], args := [d1, d2] }
  | _ => none }
def AutoWholeWrongFalsely : Prop := autoWholeRow.holds Try.pinned (OpenSpec.ofChange autoWholeWrong)

/-- 'tollgatelaw9.AutoDown': WHATEVER THE INPUT: true; the input reads as it did. -/
def autoDownSpec : ChangeSpec := { name := "autoDown", fn := fun _ => fun
  | [d1, d2] => { results := [.lit (.bool true)], args := [d1, d2] }
  | _ => none }
def autoDownRow : OpenClaim := { program := "ytfilfagnljpgcab", sum := "e0f5a154669a3c8d0649ed95dfaeae271334415ea18104a21387ed53cbac2421", func := "tollgate/tollgatelaw9.AutoDown", spec := "autoDown", plainKeys := false, apart := false }
def AutoDownSaid : Prop := autoDownRow.holds Try.pinned (OpenSpec.ofChange autoDownSpec)

/-- ITS FALSE NEIGHBOUR: 'it returns false'. Refute it at one input. -/
def autoDownWrong : ChangeSpec := { name := "autoDown", fn := fun _ => fun
  | [d1, d2] => { results := [.lit (.bool false)], args := [d1, d2] }
  | _ => none }
def AutoDownWrongFalsely : Prop := autoDownRow.holds Try.pinned (OpenSpec.ofChange autoDownWrong)

/- THE SECOND FORM. 'bulk': how many values and letters a reading holds, each counted each time it is reached (what is shared counts as often as it is met; a slice's spare places count too). A statement '..UptoSaid' is the law's where the arguments, and the package variables that the reading takes, are together of bulk at most 1048576: NARROWER than '..Said'. Prove '..Said' where nothing that the law and all that it calls make is longer than what came in: it says more and counts as full. Else prove '..UptoSaid'. A law counts once. -/
mutual
def uptoBulk {H : Type} : DataW H → Nat
  | .lit (.string bytes) => bytes.length + 1
  | .lit _ => 1
  | .nil => 1
  | .ptr d => uptoBulk d + 1
  | .slice elems spare => uptoBulkAll elems + uptoBulkAll spare + 1
  | .agg parts => uptoBulkAll parts + 1
  | .iface _ d => uptoBulk d + 1
  | .map entries => uptoBulkEntries entries + 1
  | .held _ => 1
def uptoBulkAll {H : Type} : List (DataW H) → Nat
  | [] => 0
  | d :: r => uptoBulk d + uptoBulkAll r
def uptoBulkEntries {H : Type} : List (Lit × DataW H) → Nat
  | [] => 0
  | x :: r => uptoBulkEntry x + uptoBulkEntries r
def uptoBulkEntry {H : Type} : Lit × DataW H → Nat
  | (.string bytes, d) => bytes.length + uptoBulk d + 1
  | (_, d) => uptoBulk d + 1
 end
def uptoSmall : (H : Type) → List (DataW H) → Bool := fun _ ds => decide (uptoBulkAll ds ≤ 1048576)
def OpenSpec.upto (s : _root_.Go.ChangeSpec) : _root_.Go.OpenSpec := { _root_.Go.OpenSpec.ofChange s with cond := some uptoSmall }

/-- 'tollgatelaw9.AutoWhole', WHERE WHAT IT READS IS OF BULK AT MOST 1048576: true; the input reads as it did. -/
def autoWholeUptoRow : OpenClaim := { program := "ytfilfagnljpgcab", sum := "e0f5a154669a3c8d0649ed95dfaeae271334415ea18104a21387ed53cbac2421", func := "tollgate/tollgatelaw9.AutoWhole", spec := "autoWhole", plainKeys := false, apart := false, narrowed := true }
def AutoWholeUptoSaid : Prop := autoWholeUptoRow.holds Try.pinned (OpenSpec.upto autoWholeSpec)

/-- 'tollgatelaw9.AutoDown', WHERE WHAT IT READS IS OF BULK AT MOST 1048576: true; the input reads as it did. -/
def autoDownUptoRow : OpenClaim := { program := "ytfilfagnljpgcab", sum := "e0f5a154669a3c8d0649ed95dfaeae271334415ea18104a21387ed53cbac2421", func := "tollgate/tollgatelaw9.AutoDown", spec := "autoDown", plainKeys := false, apart := false, narrowed := true }
def AutoDownUptoSaid : Prop := autoDownUptoRow.holds Try.pinned (OpenSpec.upto autoDownSpec)

end Rows
end Go.Proofs.Ytfilfagnljpgcab
