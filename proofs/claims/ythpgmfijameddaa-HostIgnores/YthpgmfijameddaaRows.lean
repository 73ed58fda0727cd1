/-
  No cell of these rows narrows 'for every input' (looked for: loops, veiled, ifaces, maps, wideKeys, modest, calm, conditions, laid).
  DERIVED. THE GIVEN ROWS OF THIS SEAT. 4 by the template 'for every input the law returns true; each argument reads behind the call as it read before'; 0 by the template 'total and deterministic' (their statements: YthpgmfijameddaaTotals.lean).
  GIVEN WITH THE SEED: the statements are not yours to turn. If you find one false, say at which input.
  Laid BY PROGRAM, IN A SANDBOX (cutbox-rows.mjs): the forced cells as the released guide's own fill.sh prints them over the translation 83f96a59e64b2e75… (all of the seat's roots in one cut). By AI agents, Wed Nov 11 2026. No macro, syntax, notation, axiom, sorry.
-/
import Derived.Test.YthpgmfijameddaaChecked
import GoSem.Claim
import GoSem.ClaimJoined
import GoSem.ClaimMapViews
import Derived.JoinedTies
import Derived.KernelRfl
namespace Go.Proofs.Ythpgmfijameddaa
/- THE CELL 'sum', in the pinned program and in every row, IS THE sha256 OF THE DUMP (.gsa) THAT YthpgmfijameddaaProg.lean LOADS. Nothing in Lean hashes anything: it is a label: what it is worth is what the hold of that sum in a sandbox is worth. -/
noncomputable def Try.pinned : Pinned := { name := "ythpgmfijameddaa", sum := "83f96a59e64b2e75385fb5740fd8b5e981865eb2bc59d8023793f2a8bdbab45b", checked := Try.checked }
namespace Rows
def none {H : Type} : Left H := { results := [], args := [] }

/-- 'tollgatelaw8.HostNone': WHATEVER THE INPUT: true; the input reads as it did. -/
def hostNoneSpec : ChangeSpec := { name := "hostNone", fn := fun _ => fun
  | [d] => { results := [.lit (.bool true)], args := [d] }
  | _ => none }
def hostNoneRow : OpenClaim := { program := "ythpgmfijameddaa", sum := "83f96a59e64b2e75385fb5740fd8b5e981865eb2bc59d8023793f2a8bdbab45b", func := "tollgate/tollgatelaw8.HostNone", spec := "hostNone", apart := false }
def HostNoneSaid : Prop := hostNoneRow.holds Try.pinned (OpenSpec.ofChange hostNoneSpec)

/-- ITS FALSE NEIGHBOUR: 'it returns false'. Refute it at one input. -/
def hostNoneWrong : ChangeSpec := { name := "hostNone", fn := fun _ => fun
  | [d] => { results := [.lit (.bool false)], args := [d] }
  | _ => none }
def HostNoneWrongFalsely : Prop := hostNoneRow.holds Try.pinned (OpenSpec.ofChange hostNoneWrong)

/-- 'tollgatelaw8.HostWaits': WHATEVER THE INPUT: true; the input reads as it did. -/
def hostWaitsSpec : ChangeSpec := { name := "hostWaits", fn := fun _ => fun
  | [d1, d2] => { results := [.lit (.bool true)], args := [d1, d2] }
  | _ => none }
def hostWaitsRow : OpenClaim := { program := "ythpgmfijameddaa", sum := "83f96a59e64b2e75385fb5740fd8b5e981865eb2bc59d8023793f2a8bdbab45b", func := "tollgate/tollgatelaw8.HostWaits", spec := "hostWaits", apart := false }
def HostWaitsSaid : Prop := hostWaitsRow.holds Try.pinned (OpenSpec.ofChange hostWaitsSpec)

/-- ITS FALSE NEIGHBOUR: 'it returns false'. Refute it at one input. -/
def hostWaitsWrong : ChangeSpec := { name := "hostWaits", fn := fun _ => fun
  | [d1, d2] => { results := [.lit (.bool false)], args := [d1, d2] }
  | _ => none }
def HostWaitsWrongFalsely : Prop := hostWaitsRow.holds Try.pinned (OpenSpec.ofChange hostWaitsWrong)

/-- 'tollgatelaw8.HostIgnores': WHATEVER THE INPUT: true; the input reads as it did. -/
def hostIgnoresSpec : ChangeSpec := { name := "hostIgnores", fn := fun _ => fun
  | [d] => { results := [.lit (.bool true)], args := [d] }
  | _ => none }
def hostIgnoresRow : OpenClaim := { program := "ythpgmfijameddaa", sum := "83f96a59e64b2e75385fb5740fd8b5e981865eb2bc59d8023793f2a8bdbab45b", func := "tollgate/tollgatelaw8.HostIgnores", spec := "hostIgnores", apart := false }
def HostIgnoresSaid : Prop := hostIgnoresRow.holds Try.pinned (OpenSpec.ofChange hostIgnoresSpec)

/-- ITS FALSE NEIGHBOUR: 'it returns false'. Refute it at one input. -/
def hostIgnoresWrong : ChangeSpec := { name := "hostIgnores", fn := fun _ => fun
  | [d] => { results := [.lit (.bool false)], args := [d] }
  | _ => none }
def HostIgnoresWrongFalsely : Prop := hostIgnoresRow.holds Try.pinned (OpenSpec.ofChange hostIgnoresWrong)

/-- 'tollgatelaw8.HostAgain': WHATEVER THE INPUT: true; the input reads as it did. -/
def hostAgainSpec : ChangeSpec := { name := "hostAgain", fn := fun _ => fun
  | [d1, d2, d3] => { results := [.lit (.bool true)], args := [d1, d2, d3] }
  | _ => none }
def hostAgainRow : OpenClaim := { program := "ythpgmfijameddaa", sum := "83f96a59e64b2e75385fb5740fd8b5e981865eb2bc59d8023793f2a8bdbab45b", func := "tollgate/tollgatelaw8.HostAgain", spec := "hostAgain", apart := false }
def HostAgainSaid : Prop := hostAgainRow.holds Try.pinned (OpenSpec.ofChange hostAgainSpec)

/-- ITS FALSE NEIGHBOUR: 'it returns false'. Refute it at one input. -/
def hostAgainWrong : ChangeSpec := { name := "hostAgain", fn := fun _ => fun
  | [d1, d2, d3] => { results := [.lit (.bool false)], args := [d1, d2, d3] }
  | _ => none }
def HostAgainWrongFalsely : Prop := hostAgainRow.holds Try.pinned (OpenSpec.ofChange hostAgainWrong)

/- THE SECOND FORM. 'bulk': how many values and letters a reading holds, each counted each time it is reached (what is shared counts as often as it is met; a slice's spare places count too). A statement '..UptoSaid' is the law's where the arguments, and the package variables that the reading takes, are together of bulk at most 1048576: NARROWER than '..Said'. Prove '..Said' where nothing that the law and all that it calls make is longer than what came in: it says more and counts as full. Else prove '..UptoSaid'. A law counts once. -/
mutual
def uptoBulk {H : Type} : DataW H → Nat
  | .lit (.string bytes) => bytes.length + 1
  | .lit _ => 1
  | .nil => 1
  | .ptr d => uptoBulk d + 1
  | .slice elems spare => uptoBulkAll elems + uptoBulkAll spare + 1
  | .agg parts => uptoBulkAll parts + 1
  | .iface _ d => uptoBulk d + 1
  | .map entries => uptoBulkEntries entries + 1
  | .held _ => 1
def uptoBulkAll {H : Type} : List (DataW H) → Nat
  | [] => 0
  | d :: r => uptoBulk d + uptoBulkAll r
def uptoBulkEntries {H : Type} : List (Lit × DataW H) → Nat
  | [] => 0
  | x :: r => uptoBulkEntry x + uptoBulkEntries r
def uptoBulkEntry {H : Type} : Lit × DataW H → Nat
  | (.string bytes, d) => bytes.length + uptoBulk d + 1
  | (_, d) => uptoBulk d + 1
 end
def uptoSmall : (H : Type) → List (DataW H) → Bool := fun _ ds => decide (uptoBulkAll ds ≤ 1048576)
def OpenSpec.upto (s : _root_.Go.ChangeSpec) : _root_.Go.OpenSpec := { _root_.Go.OpenSpec.ofChange s with cond := some uptoSmall }

/-- 'tollgatelaw8.HostNone', WHERE WHAT IT READS IS OF BULK AT MOST 1048576: true; the input reads as it did. -/
def hostNoneUptoRow : OpenClaim := { program := "ythpgmfijameddaa", sum := "83f96a59e64b2e75385fb5740fd8b5e981865eb2bc59d8023793f2a8bdbab45b", func := "tollgate/tollgatelaw8.HostNone", spec := "hostNone", apart := false, narrowed := true }
def HostNoneUptoSaid : Prop := hostNoneUptoRow.holds Try.pinned (OpenSpec.upto hostNoneSpec)

/-- 'tollgatelaw8.HostWaits', WHERE WHAT IT READS IS OF BULK AT MOST 1048576: true; the input reads as it did. -/
def hostWaitsUptoRow : OpenClaim := { program := "ythpgmfijameddaa", sum := "83f96a59e64b2e75385fb5740fd8b5e981865eb2bc59d8023793f2a8bdbab45b", func := "tollgate/tollgatelaw8.HostWaits", spec := "hostWaits", apart := false, narrowed := true }
def HostWaitsUptoSaid : Prop := hostWaitsUptoRow.holds Try.pinned (OpenSpec.upto hostWaitsSpec)

/-- 'tollgatelaw8.HostIgnores', WHERE WHAT IT READS IS OF BULK AT MOST 1048576: true; the input reads as it did. -/
def hostIgnoresUptoRow : OpenClaim := { program := "ythpgmfijameddaa", sum := "83f96a59e64b2e75385fb5740fd8b5e981865eb2bc59d8023793f2a8bdbab45b", func := "tollgate/tollgatelaw8.HostIgnores", spec := "hostIgnores", apart := false, narrowed := true }
def HostIgnoresUptoSaid : Prop := hostIgnoresUptoRow.holds Try.pinned (OpenSpec.upto hostIgnoresSpec)

/-- 'tollgatelaw8.HostAgain', WHERE WHAT IT READS IS OF BULK AT MOST 1048576: true; the input reads as it did. -/
def hostAgainUptoRow : OpenClaim := { program := "ythpgmfijameddaa", sum := "83f96a59e64b2e75385fb5740fd8b5e981865eb2bc59d8023793f2a8bdbab45b", func := "tollgate/tollgatelaw8.HostAgain", spec := "hostAgain", apart := false, narrowed := true }
def HostAgainUptoSaid : Prop := hostAgainUptoRow.holds Try.pinned (OpenSpec.upto hostAgainSpec)

end Rows
end Go.Proofs.Ythpgmfijameddaa
