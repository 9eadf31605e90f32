/-
  NARROWER THAN 'FOR EVERY INPUT', by the rows' own cells (each row's printed sentence says how): NodeIs: loops · NodeCounts: loops · NodeRaises: loops.
  DERIVED. THE GIVEN ROWS OF THIS SEAT. 3 by the template 'for every input the law returns true; each argument reads behind the call as it read before'; 0 by the template 'total and deterministic' (their statements: YtelladgeehlkpaaTotals.lean).
  GIVEN WITH THE SEED: the statements are not yours to turn. If you find one false, say at which input.
  Laid BY PROGRAM, IN A SANDBOX (cutbox-rows.mjs): the forced cells as the released guide's own fill.sh prints them over the translation f29632da1c774b5c… (all of the seat's roots in one cut). By AI agents, Wed Nov 11 2026. No macro, syntax, notation, axiom, sorry.
-/
import Derived.Test.YtelladgeehlkpaaChecked
import GoSem.Claim
import GoSem.ClaimJoined
import GoSem.ClaimMapViews
import Derived.JoinedTies
import Derived.KernelRfl
namespace Go.Proofs.Ytelladgeehlkpaa
/- THE CELL 'sum', in the pinned program and in every row, IS THE sha256 OF THE DUMP (.gsa) THAT YtelladgeehlkpaaProg.lean LOADS. Nothing in Lean hashes anything: it is a label: what it is worth is what the hold of that sum in a sandbox is worth. -/
noncomputable def Try.pinned : Pinned := { name := "ytelladgeehlkpaa", sum := "f29632da1c774b5c8ea6dabffd3adb238c2c6e89479e504f4c0ae445b96bd177", checked := Try.checked }
namespace Rows
def none {H : Type} : Left H := { results := [], args := [] }

/-- 'keyholelaw09.NodeIs': WHATEVER THE INPUT: true; the input reads as it did. -/
def nodeIsSpec : ChangeSpec := { name := "nodeIs", fn := fun _ => fun
  | [d1, d2, d3] => { results := [.lit (.bool true)], args := [d1, d2, d3] }
  | _ => none }
def nodeIsRow : OpenClaim := { program := "ytelladgeehlkpaa", sum := "f29632da1c774b5c8ea6dabffd3adb238c2c6e89479e504f4c0ae445b96bd177", func := "keyhole/keyholelaw09.NodeIs", spec := "nodeIs", unfollowed := true, recurses := true, loops := true, plainKeys := false, apart := false }
def NodeIsSaid : Prop := nodeIsRow.holds Try.pinned (OpenSpec.ofChange nodeIsSpec)

/-- ITS FALSE NEIGHBOUR: 'it returns false'. Refute it at one input. -/
def nodeIsWrong : ChangeSpec := { name := "nodeIs", fn := fun _ => fun
  | [d1, d2, d3] => { results := [.lit (.bool false)], args := [d1, d2, d3] }
  | _ => none }
def NodeIsWrongFalsely : Prop := nodeIsRow.holds Try.pinned (OpenSpec.ofChange nodeIsWrong)

/-- 'keyholelaw09.NodeCounts': WHATEVER THE INPUT: true; the input reads as it did. -/
def nodeCountsSpec : ChangeSpec := { name := "nodeCounts", fn := fun _ => fun
  | [d1, d2, d3] => { results := [.lit (.bool true)], args := [d1, d2, d3] }
  | _ => none }
def nodeCountsRow : OpenClaim := { program := "ytelladgeehlkpaa", sum := "f29632da1c774b5c8ea6dabffd3adb238c2c6e89479e504f4c0ae445b96bd177", func := "keyhole/keyholelaw09.NodeCounts", spec := "nodeCounts", unfollowed := true, recurses := true, loops := true, plainKeys := false, apart := false }
def NodeCountsSaid : Prop := nodeCountsRow.holds Try.pinned (OpenSpec.ofChange nodeCountsSpec)

/-- ITS FALSE NEIGHBOUR: 'it returns false'. Refute it at one input. -/
def nodeCountsWrong : ChangeSpec := { name := "nodeCounts", fn := fun _ => fun
  | [d1, d2, d3] => { results := [.lit (.bool false)], args := [d1, d2, d3] }
  | _ => none }
def NodeCountsWrongFalsely : Prop := nodeCountsRow.holds Try.pinned (OpenSpec.ofChange nodeCountsWrong)

/-- 'keyholelaw09.NodeRaises': WHATEVER THE INPUT: true; the input reads as it did. -/
def nodeRaisesSpec : ChangeSpec := { name := "nodeRaises", fn := fun _ => fun
  | [d1, d2, d3] => { results := [.lit (.bool true)], args := [d1, d2, d3] }
  | _ => none }
def nodeRaisesRow : OpenClaim := { program := "ytelladgeehlkpaa", sum := "f29632da1c774b5c8ea6dabffd3adb238c2c6e89479e504f4c0ae445b96bd177", func := "keyhole/keyholelaw09.NodeRaises", spec := "nodeRaises", unfollowed := true, recurses := true, loops := true, plainKeys := false, apart := false }
def NodeRaisesSaid : Prop := nodeRaisesRow.holds Try.pinned (OpenSpec.ofChange nodeRaisesSpec)

/-- ITS FALSE NEIGHBOUR: 'it returns false'. Refute it at one input. -/
def nodeRaisesWrong : ChangeSpec := { name := "nodeRaises", fn := fun _ => fun
  | [d1, d2, d3] => { results := [.lit (.bool false)], args := [d1, d2, d3] }
  | _ => none }
def NodeRaisesWrongFalsely : Prop := nodeRaisesRow.holds Try.pinned (OpenSpec.ofChange nodeRaisesWrong)

/- THE SECOND FORM. 'bulk': how many values and letters a reading holds, each counted each time it is reached (what is shared counts as often as it is met; a slice's spare places count too). A statement '..UptoSaid' is the law's where the arguments, and the package variables that the reading takes, are together of bulk at most 1048576: NARROWER than '..Said'. Prove '..Said' where nothing that the law and all that it calls make is longer than what came in: it says more and counts as full. Else prove '..UptoSaid'. A law counts once. -/
mutual
def uptoBulk {H : Type} : DataW H → Nat
  | .lit (.string bytes) => bytes.length + 1
  | .lit _ => 1
  | .nil => 1
  | .ptr d => uptoBulk d + 1
  | .slice elems spare => uptoBulkAll elems + uptoBulkAll spare + 1
  | .agg parts => uptoBulkAll parts + 1
  | .iface _ d => uptoBulk d + 1
  | .map entries => uptoBulkEntries entries + 1
  | .held _ => 1
def uptoBulkAll {H : Type} : List (DataW H) → Nat
  | [] => 0
  | d :: r => uptoBulk d + uptoBulkAll r
def uptoBulkEntries {H : Type} : List (Lit × DataW H) → Nat
  | [] => 0
  | x :: r => uptoBulkEntry x + uptoBulkEntries r
def uptoBulkEntry {H : Type} : Lit × DataW H → Nat
  | (.string bytes, d) => bytes.length + uptoBulk d + 1
  | (_, d) => uptoBulk d + 1
 end
def uptoSmall : (H : Type) → List (DataW H) → Bool := fun _ ds => decide (uptoBulkAll ds ≤ 1048576)
def OpenSpec.upto (s : _root_.Go.ChangeSpec) : _root_.Go.OpenSpec := { _root_.Go.OpenSpec.ofChange s with cond := some uptoSmall }

/-- 'keyholelaw09.NodeIs', WHERE WHAT IT READS IS OF BULK AT MOST 1048576: true; the input reads as it did. -/
def nodeIsUptoRow : OpenClaim := { program := "ytelladgeehlkpaa", sum := "f29632da1c774b5c8ea6dabffd3adb238c2c6e89479e504f4c0ae445b96bd177", func := "keyhole/keyholelaw09.NodeIs", spec := "nodeIs", unfollowed := true, recurses := true, loops := true, plainKeys := false, apart := false, narrowed := true }
def NodeIsUptoSaid : Prop := nodeIsUptoRow.holds Try.pinned (OpenSpec.upto nodeIsSpec)

/-- 'keyholelaw09.NodeCounts', WHERE WHAT IT READS IS OF BULK AT MOST 1048576: true; the input reads as it did. -/
def nodeCountsUptoRow : OpenClaim := { program := "ytelladgeehlkpaa", sum := "f29632da1c774b5c8ea6dabffd3adb238c2c6e89479e504f4c0ae445b96bd177", func := "keyhole/keyholelaw09.NodeCounts", spec := "nodeCounts", unfollowed := true, recurses := true, loops := true, plainKeys := false, apart := false, narrowed := true }
def NodeCountsUptoSaid : Prop := nodeCountsUptoRow.holds Try.pinned (OpenSpec.upto nodeCountsSpec)

/-- 'keyholelaw09.NodeRaises', WHERE WHAT IT READS IS OF BULK AT MOST 1048576: true; the input reads as it did. -/
def nodeRaisesUptoRow : OpenClaim := { program := "ytelladgeehlkpaa", sum := "f29632da1c774b5c8ea6dabffd3adb238c2c6e89479e504f4c0ae445b96bd177", func := "keyhole/keyholelaw09.NodeRaises", spec := "nodeRaises", unfollowed := true, recurses := true, loops := true, plainKeys := false, apart := false, narrowed := true }
def NodeRaisesUptoSaid : Prop := nodeRaisesUptoRow.holds Try.pinned (OpenSpec.upto nodeRaisesSpec)

end Rows
end Go.Proofs.Ytelladgeehlkpaa
