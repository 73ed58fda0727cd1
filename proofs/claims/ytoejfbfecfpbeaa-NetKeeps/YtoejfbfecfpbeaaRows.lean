/-
  No cell of these rows narrows 'for every input' (looked for: loops, veiled, ifaces, maps, wideKeys, modest, calm, conditions, laid).
  DERIVED. THE GIVEN ROWS OF THIS SEAT. 6 by the template 'for every input the law returns true; each argument reads behind the call as it read before'; 0 by the template 'total and deterministic' (their statements: YtoejfbfecfpbeaaTotals.lean).
  GIVEN WITH THE SEED: the statements are not yours to turn. If you find one false, say at which input.
  Laid BY PROGRAM, IN A SANDBOX (cutbox-rows.mjs): the forced cells as the released guide's own fill.sh prints them over the translation 47643801003620ab… (all of the seat's roots in one cut). By AI agents, Wed Nov 11 2026. No macro, syntax, notation, axiom, sorry.
-/
import Derived.Test.YtoejfbfecfpbeaaChecked
import GoSem.Claim
import GoSem.ClaimJoined
import GoSem.ClaimMapViews
import Derived.JoinedTies
import Derived.KernelRfl
namespace Go.Proofs.Ytoejfbfecfpbeaa
/- THE CELL 'sum', in the pinned program and in every row, IS THE sha256 OF THE DUMP (.gsa) THAT YtoejfbfecfpbeaaProg.lean LOADS. Nothing in Lean hashes anything: it is a label: what it is worth is what the hold of that sum in a sandbox is worth. -/
noncomputable def Try.pinned : Pinned := { name := "ytoejfbfecfpbeaa", sum := "47643801003620ab3c3200b2e09c4d0150c9cd2d0708c265e966a036fd6b8197", checked := Try.checked }
namespace Rows
def none {H : Type} : Left H := { results := [], args := [] }

/-- 'tollgatelaw4.NetPlays': WHATEVER THE INPUT: true; the input reads as it did. -/
def netPlaysSpec : ChangeSpec := { name := "netPlays", fn := fun _ => fun
  | [d1, d2] => { results := [.lit (.bool true)], args := [d1, d2] }
  | _ => none }
def netPlaysRow : OpenClaim := { program := "ytoejfbfecfpbeaa", sum := "47643801003620ab3c3200b2e09c4d0150c9cd2d0708c265e966a036fd6b8197", func := "tollgate/tollgatelaw4.NetPlays", spec := "netPlays", inPlace := ["slices.overlaps[tollgate/net.gram]"], unfollowed := true, recurses := true, plainKeys := false, apart := false }
def NetPlaysSaid : Prop := netPlaysRow.holds Try.pinned (OpenSpec.ofChange netPlaysSpec)

/-- ITS FALSE NEIGHBOUR: 'it returns false'. Refute it at one input. -/
def netPlaysWrong : ChangeSpec := { name := "netPlays", fn := fun _ => fun
  | [d1, d2] => { results := [.lit (.bool false)], args := [d1, d2] }
  | _ => none }
def NetPlaysWrongFalsely : Prop := netPlaysRow.holds Try.pinned (OpenSpec.ofChange netPlaysWrong)

/-- 'tollgatelaw4.NetNone': WHATEVER THE INPUT: true; the input reads as it did. -/
def netNoneSpec : ChangeSpec := { name := "netNone", fn := fun _ => fun
  | [d1, d2] => { results := [.lit (.bool true)], args := [d1, d2] }
  | _ => none }
def netNoneRow : OpenClaim := { program := "ytoejfbfecfpbeaa", sum := "47643801003620ab3c3200b2e09c4d0150c9cd2d0708c265e966a036fd6b8197", func := "tollgate/tollgatelaw4.NetNone", spec := "netNone", inPlace := ["slices.overlaps[tollgate/net.gram]"], unfollowed := true, recurses := true, plainKeys := false, apart := false }
def NetNoneSaid : Prop := netNoneRow.holds Try.pinned (OpenSpec.ofChange netNoneSpec)

/-- ITS FALSE NEIGHBOUR: 'it returns false'. Refute it at one input. -/
def netNoneWrong : ChangeSpec := { name := "netNone", fn := fun _ => fun
  | [d1, d2] => { results := [.lit (.bool false)], args := [d1, d2] }
  | _ => none }
def NetNoneWrongFalsely : Prop := netNoneRow.holds Try.pinned (OpenSpec.ofChange netNoneWrong)

/-- 'tollgatelaw4.NetAges': WHATEVER THE INPUT: true; the input reads as it did. -/
def netAgesSpec : ChangeSpec := { name := "netAges", fn := fun _ => fun
  | [d1, d2] => { results := [.lit (.bool true)], args := [d1, d2] }
  | _ => none }
def netAgesRow : OpenClaim := { program := "ytoejfbfecfpbeaa", sum := "47643801003620ab3c3200b2e09c4d0150c9cd2d0708c265e966a036fd6b8197", func := "tollgate/tollgatelaw4.NetAges", spec := "netAges", inPlace := ["slices.overlaps[tollgate/net.gram]"], unfollowed := true, recurses := true, plainKeys := false, apart := false }
def NetAgesSaid : Prop := netAgesRow.holds Try.pinned (OpenSpec.ofChange netAgesSpec)

/-- ITS FALSE NEIGHBOUR: 'it returns false'. Refute it at one input. -/
def netAgesWrong : ChangeSpec := { name := "netAges", fn := fun _ => fun
  | [d1, d2] => { results := [.lit (.bool false)], args := [d1, d2] }
  | _ => none }
def NetAgesWrongFalsely : Prop := netAgesRow.holds Try.pinned (OpenSpec.ofChange netAgesWrong)

/-- 'tollgatelaw4.NetKeeps': WHATEVER THE INPUT: true; the input reads as it did. -/
def netKeepsSpec : ChangeSpec := { name := "netKeeps", fn := fun _ => fun
  | [d] => { results := [.lit (.bool true)], args := [d] }
  | _ => none }
def netKeepsRow : OpenClaim := { program := "ytoejfbfecfpbeaa", sum := "47643801003620ab3c3200b2e09c4d0150c9cd2d0708c265e966a036fd6b8197", func := "tollgate/tollgatelaw4.NetKeeps", spec := "netKeeps", inPlace := ["slices.overlaps[tollgate/net.gram]"], unfollowed := true, recurses := true, plainKeys := false, apart := false }
def NetKeepsSaid : Prop := netKeepsRow.holds Try.pinned (OpenSpec.ofChange netKeepsSpec)

/-- ITS FALSE NEIGHBOUR: 'it returns false'. Refute it at one input. -/
def netKeepsWrong : ChangeSpec := { name := "netKeeps", fn := fun _ => fun
  | [d] => { results := [.lit (.bool false)], args := [d] }
  | _ => none }
def NetKeepsWrongFalsely : Prop := netKeepsRow.holds Try.pinned (OpenSpec.ofChange netKeepsWrong)

/-- 'tollgatelaw4.NetOrder': WHATEVER THE INPUT: true; the input reads as it did. -/
def netOrderSpec : ChangeSpec := { name := "netOrder", fn := fun _ => fun
  | [d] => { results := [.lit (.bool true)], args := [d] }
  | _ => none }
def netOrderRow : OpenClaim := { program := "ytoejfbfecfpbeaa", sum := "47643801003620ab3c3200b2e09c4d0150c9cd2d0708c265e966a036fd6b8197", func := "tollgate/tollgatelaw4.NetOrder", spec := "netOrder", inPlace := ["slices.overlaps[tollgate/net.gram]"], unfollowed := true, recurses := true, plainKeys := false, apart := false }
def NetOrderSaid : Prop := netOrderRow.holds Try.pinned (OpenSpec.ofChange netOrderSpec)

/-- ITS FALSE NEIGHBOUR: 'it returns false'. Refute it at one input. -/
def netOrderWrong : ChangeSpec := { name := "netOrder", fn := fun _ => fun
  | [d] => { results := [.lit (.bool false)], args := [d] }
  | _ => none }
def NetOrderWrongFalsely : Prop := netOrderRow.holds Try.pinned (OpenSpec.ofChange netOrderWrong)

/-- 'tollgatelaw4.NetSpoils': WHATEVER THE INPUT: true; the input reads as it did. -/
def netSpoilsSpec : ChangeSpec := { name := "netSpoils", fn := fun _ => fun
  | [d1, d2, d3] => { results := [.lit (.bool true)], args := [d1, d2, d3] }
  | _ => none }
def netSpoilsRow : OpenClaim := { program := "ytoejfbfecfpbeaa", sum := "47643801003620ab3c3200b2e09c4d0150c9cd2d0708c265e966a036fd6b8197", func := "tollgate/tollgatelaw4.NetSpoils", spec := "netSpoils", inPlace := ["slices.overlaps[tollgate/net.gram]"], unfollowed := true, recurses := true, plainKeys := false, apart := false }
def NetSpoilsSaid : Prop := netSpoilsRow.holds Try.pinned (OpenSpec.ofChange netSpoilsSpec)

/-- ITS FALSE NEIGHBOUR: 'it returns false'. Refute it at one input. -/
def netSpoilsWrong : ChangeSpec := { name := "netSpoils", fn := fun _ => fun
  | [d1, d2, d3] => { results := [.lit (.bool false)], args := [d1, d2, d3] }
  | _ => none }
def NetSpoilsWrongFalsely : Prop := netSpoilsRow.holds Try.pinned (OpenSpec.ofChange netSpoilsWrong)

/- THE SECOND FORM. 'bulk': how many values and letters a reading holds, each counted each time it is reached (what is shared counts as often as it is met; a slice's spare places count too). A statement '..UptoSaid' is the law's where the arguments, and the package variables that the reading takes, are together of bulk at most 1048576: NARROWER than '..Said'. Prove '..Said' where nothing that the law and all that it calls make is longer than what came in: it says more and counts as full. Else prove '..UptoSaid'. A law counts once. -/
mutual
def uptoBulk {H : Type} : DataW H → Nat
  | .lit (.string bytes) => bytes.length + 1
  | .lit _ => 1
  | .nil => 1
  | .ptr d => uptoBulk d + 1
  | .slice elems spare => uptoBulkAll elems + uptoBulkAll spare + 1
  | .agg parts => uptoBulkAll parts + 1
  | .iface _ d => uptoBulk d + 1
  | .map entries => uptoBulkEntries entries + 1
  | .held _ => 1
def uptoBulkAll {H : Type} : List (DataW H) → Nat
  | [] => 0
  | d :: r => uptoBulk d + uptoBulkAll r
def uptoBulkEntries {H : Type} : List (Lit × DataW H) → Nat
  | [] => 0
  | x :: r => uptoBulkEntry x + uptoBulkEntries r
def uptoBulkEntry {H : Type} : Lit × DataW H → Nat
  | (.string bytes, d) => bytes.length + uptoBulk d + 1
  | (_, d) => uptoBulk d + 1
 end
def uptoSmall : (H : Type) → List (DataW H) → Bool := fun _ ds => decide (uptoBulkAll ds ≤ 1048576)
def OpenSpec.upto (s : _root_.Go.ChangeSpec) : _root_.Go.OpenSpec := { _root_.Go.OpenSpec.ofChange s with cond := some uptoSmall }

/-- 'tollgatelaw4.NetPlays', WHERE WHAT IT READS IS OF BULK AT MOST 1048576: true; the input reads as it did. -/
def netPlaysUptoRow : OpenClaim := { program := "ytoejfbfecfpbeaa", sum := "47643801003620ab3c3200b2e09c4d0150c9cd2d0708c265e966a036fd6b8197", func := "tollgate/tollgatelaw4.NetPlays", spec := "netPlays", inPlace := ["slices.overlaps[tollgate/net.gram]"], unfollowed := true, recurses := true, plainKeys := false, apart := false, narrowed := true }
def NetPlaysUptoSaid : Prop := netPlaysUptoRow.holds Try.pinned (OpenSpec.upto netPlaysSpec)

/-- 'tollgatelaw4.NetNone', WHERE WHAT IT READS IS OF BULK AT MOST 1048576: true; the input reads as it did. -/
def netNoneUptoRow : OpenClaim := { program := "ytoejfbfecfpbeaa", sum := "47643801003620ab3c3200b2e09c4d0150c9cd2d0708c265e966a036fd6b8197", func := "tollgate/tollgatelaw4.NetNone", spec := "netNone", inPlace := ["slices.overlaps[tollgate/net.gram]"], unfollowed := true, recurses := true, plainKeys := false, apart := false, narrowed := true }
def NetNoneUptoSaid : Prop := netNoneUptoRow.holds Try.pinned (OpenSpec.upto netNoneSpec)

/-- 'tollgatelaw4.NetAges', WHERE WHAT IT READS IS OF BULK AT MOST 1048576: true; the input reads as it did. -/
def netAgesUptoRow : OpenClaim := { program := "ytoejfbfecfpbeaa", sum := "47643801003620ab3c3200b2e09c4d0150c9cd2d0708c265e966a036fd6b8197", func := "tollgate/tollgatelaw4.NetAges", spec := "netAges", inPlace := ["slices.overlaps[tollgate/net.gram]"], unfollowed := true, recurses := true, plainKeys := false, apart := false, narrowed := true }
def NetAgesUptoSaid : Prop := netAgesUptoRow.holds Try.pinned (OpenSpec.upto netAgesSpec)

/-- 'tollgatelaw4.NetKeeps', WHERE WHAT IT READS IS OF BULK AT MOST 1048576: true; the input reads as it did. -/
def netKeepsUptoRow : OpenClaim := { program := "ytoejfbfecfpbeaa", sum := "47643801003620ab3c3200b2e09c4d0150c9cd2d0708c265e966a036fd6b8197", func := "tollgate/tollgatelaw4.NetKeeps", spec := "netKeeps", inPlace := ["slices.overlaps[tollgate/net.gram]"], unfollowed := true, recurses := true, plainKeys := false, apart := false, narrowed := true }
def NetKeepsUptoSaid : Prop := netKeepsUptoRow.holds Try.pinned (OpenSpec.upto netKeepsSpec)

/-- 'tollgatelaw4.NetOrder', WHERE WHAT IT READS IS OF BULK AT MOST 1048576: true; the input reads as it did. -/
def netOrderUptoRow : OpenClaim := { program := "ytoejfbfecfpbeaa", sum := "47643801003620ab3c3200b2e09c4d0150c9cd2d0708c265e966a036fd6b8197", func := "tollgate/tollgatelaw4.NetOrder", spec := "netOrder", inPlace := ["slices.overlaps[tollgate/net.gram]"], unfollowed := true, recurses := true, plainKeys := false, apart := false, narrowed := true }
def NetOrderUptoSaid : Prop := netOrderUptoRow.holds Try.pinned (OpenSpec.upto netOrderSpec)

/-- 'tollgatelaw4.NetSpoils', WHERE WHAT IT READS IS OF BULK AT MOST 1048576: true; the input reads as it did. -/
def netSpoilsUptoRow : OpenClaim := { program := "ytoejfbfecfpbeaa", sum := "47643801003620ab3c3200b2e09c4d0150c9cd2d0708c265e966a036fd6b8197", func := "tollgate/tollgatelaw4.NetSpoils", spec := "netSpoils", inPlace := ["slices.overlaps[tollgate/net.gram]"], unfollowed := true, recurses := true, plainKeys := false, apart := false, narrowed := true }
def NetSpoilsUptoSaid : Prop := netSpoilsUptoRow.holds Try.pinned (OpenSpec.upto netSpoilsSpec)

end Rows
end Go.Proofs.Ytoejfbfecfpbeaa
