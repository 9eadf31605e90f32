/-
  No cell of these rows narrows 'for every input' (looked for: loops, veiled, ifaces, maps, wideKeys, modest, calm, conditions, laid).
  DERIVED. THE GIVEN ROWS OF THIS SEAT. 4 by the template 'for every input the law returns true; each argument reads behind the call as it read before'; 0 by the template 'total and deterministic' (their statements: YtmfdclnepmgmlaaTotals.lean).
  GIVEN WITH THE SEED: the statements are not yours to turn. If you find one false, say at which input.
  Laid BY PROGRAM, IN A SANDBOX (cutbox-rows.mjs): the forced cells as the released guide's own fill.sh prints them over the translation 57e189afcba146bc… (all of the seat's roots in one cut). By AI agents, Wed Nov 11 2026. No macro, syntax, notation, axiom, sorry.
-/
import Derived.Test.YtmfdclnepmgmlaaChecked
import GoSem.Claim
import GoSem.ClaimJoined
import GoSem.ClaimMapViews
import Derived.JoinedTies
import Derived.KernelRfl
namespace Go.Proofs.Ytmfdclnepmgmlaa
/- THE CELL 'sum', in the pinned program and in every row, IS THE sha256 OF THE DUMP (.gsa) THAT YtmfdclnepmgmlaaProg.lean LOADS. Nothing in Lean hashes anything: it is a label: what it is worth is what the hold of that sum in a sandbox is worth. -/
noncomputable def Try.pinned : Pinned := { name := "ytmfdclnepmgmlaa", sum := "57e189afcba146bc9fb85a46d33fb95dcf5af24d0d01b17946782652cba31bcf", checked := Try.checked }
namespace Rows
def none {H : Type} : Left H := { results := [], args := [] }

/-- 'keyholelaw02.AuthChecks': WHATEVER THE INPUT: true; the input reads as it did. -/
def authChecksSpec : ChangeSpec := { name := "authChecks", fn := fun _ => fun
  | [d1, d2] => { results := [.lit (.bool true)], args := [d1, d2] }
  | _ => none }
def authChecksRow : OpenClaim := { program := "ytmfdclnepmgmlaa", sum := "57e189afcba146bc9fb85a46d33fb95dcf5af24d0d01b17946782652cba31bcf", func := "keyhole/keyholelaw02.AuthChecks", spec := "authChecks", apart := false }
def AuthChecksSaid : Prop := authChecksRow.holds Try.pinned (OpenSpec.ofChange authChecksSpec)

/-- ITS FALSE NEIGHBOUR: 'it returns false'. Refute it at one input. -/
def authChecksWrong : ChangeSpec := { name := "authChecks", fn := fun _ => fun
  | [d1, d2] => { results := [.lit (.bool false)], args := [d1, d2] }
  | _ => none }
def AuthChecksWrongFalsely : Prop := authChecksRow.holds Try.pinned (OpenSpec.ofChange authChecksWrong)

/-- 'keyholelaw02.AuthOver': WHATEVER THE INPUT: true; the input reads as it did. -/
def authOverSpec : ChangeSpec := { name := "authOver", fn := fun _ => fun
  | [d1, d2, d3] => { results := [.lit (.bool true)], args := [d1, d2, d3] }
  | _ => none }
def authOverRow : OpenClaim := { program := "ytmfdclnepmgmlaa", sum := "57e189afcba146bc9fb85a46d33fb95dcf5af24d0d01b17946782652cba31bcf", func := "keyhole/keyholelaw02.AuthOver", spec := "authOver", apart := false }
def AuthOverSaid : Prop := authOverRow.holds Try.pinned (OpenSpec.ofChange authOverSpec)

/-- ITS FALSE NEIGHBOUR: 'it returns false'. Refute it at one input. -/
def authOverWrong : ChangeSpec := { name := "authOver", fn := fun _ => fun
  | [d1, d2, d3] => { results := [.lit (.bool false)], args := [d1, d2, d3] }
  | _ => none }
def AuthOverWrongFalsely : Prop := authOverRow.holds Try.pinned (OpenSpec.ofChange authOverWrong)

/-- 'keyholelaw02.AuthDown': WHATEVER THE INPUT: true; the input reads as it did. -/
def authDownSpec : ChangeSpec := { name := "authDown", fn := fun _ => fun
  | [d1, d2, d3] => { results := [.lit (.bool true)], args := [d1, d2, d3] }
  | _ => none }
def authDownRow : OpenClaim := { program := "ytmfdclnepmgmlaa", sum := "57e189afcba146bc9fb85a46d33fb95dcf5af24d0d01b17946782652cba31bcf", func := "keyhole/keyholelaw02.AuthDown", spec := "authDown", apart := false }
def AuthDownSaid : Prop := authDownRow.holds Try.pinned (OpenSpec.ofChange authDownSpec)

/-- ITS FALSE NEIGHBOUR: 'it returns false'. Refute it at one input. -/
def authDownWrong : ChangeSpec := { name := "authDown", fn := fun _ => fun
  | [d1, d2, d3] => { results := [.lit (.bool false)], args := [d1, d2, d3] }
  | _ => none }
def AuthDownWrongFalsely : Prop := authDownRow.holds Try.pinned (OpenSpec.ofChange authDownWrong)

/-- 'keyholelaw02.AuthTogether': WHATEVER THE INPUT: true; the input reads as it did. -/
def authTogetherSpec : ChangeSpec := { name := "authTogether", fn := fun _ => fun
  | [d1, d2] => { results := [.lit (.bool true)], args := [d1, d2] }
  | _ => none }
def authTogetherRow : OpenClaim := { program := "ytmfdclnepmgmlaa", sum := "57e189afcba146bc9fb85a46d33fb95dcf5af24d0d01b17946782652cba31bcf", func := "keyhole/keyholelaw02.AuthTogether", spec := "authTogether", apart := false }
def AuthTogetherSaid : Prop := authTogetherRow.holds Try.pinned (OpenSpec.ofChange authTogetherSpec)

/-- ITS FALSE NEIGHBOUR: 'it returns false'. Refute it at one input. -/
def authTogetherWrong : ChangeSpec := { name := "authTogether", fn := fun _ => fun
  | [d1, d2] => { results := [.lit (.bool false)], args := [d1, d2] }
  | _ => none }
def AuthTogetherWrongFalsely : Prop := authTogetherRow.holds Try.pinned (OpenSpec.ofChange authTogetherWrong)

/- THE SECOND FORM. 'bulk': how many values and letters a reading holds, each counted each time it is reached (what is shared counts as often as it is met; a slice's spare places count too). A statement '..UptoSaid' is the law's where the arguments, and the package variables that the reading takes, are together of bulk at most 1048576: NARROWER than '..Said'. Prove '..Said' where nothing that the law and all that it calls make is longer than what came in: it says more and counts as full. Else prove '..UptoSaid'. A law counts once. -/
mutual
def uptoBulk {H : Type} : DataW H → Nat
  | .lit (.string bytes) => bytes.length + 1
  | .lit _ => 1
  | .nil => 1
  | .ptr d => uptoBulk d + 1
  | .slice elems spare => uptoBulkAll elems + uptoBulkAll spare + 1
  | .agg parts => uptoBulkAll parts + 1
  | .iface _ d => uptoBulk d + 1
  | .map entries => uptoBulkEntries entries + 1
  | .held _ => 1
def uptoBulkAll {H : Type} : List (DataW H) → Nat
  | [] => 0
  | d :: r => uptoBulk d + uptoBulkAll r
def uptoBulkEntries {H : Type} : List (Lit × DataW H) → Nat
  | [] => 0
  | x :: r => uptoBulkEntry x + uptoBulkEntries r
def uptoBulkEntry {H : Type} : Lit × DataW H → Nat
  | (.string bytes, d) => bytes.length + uptoBulk d + 1
  | (_, d) => uptoBulk d + 1
 end
def uptoSmall : (H : Type) → List (DataW H) → Bool := fun _ ds => decide (uptoBulkAll ds ≤ 1048576)
def OpenSpec.upto (s : _root_.Go.ChangeSpec) : _root_.Go.OpenSpec := { _root_.Go.OpenSpec.ofChange s with cond := some uptoSmall }

/-- 'keyholelaw02.AuthChecks', WHERE WHAT IT READS IS OF BULK AT MOST 1048576: true; the input reads as it did. -/
def authChecksUptoRow : OpenClaim := { program := "ytmfdclnepmgmlaa", sum := "57e189afcba146bc9fb85a46d33fb95dcf5af24d0d01b17946782652cba31bcf", func := "keyhole/keyholelaw02.AuthChecks", spec := "authChecks", apart := false, narrowed := true }
def AuthChecksUptoSaid : Prop := authChecksUptoRow.holds Try.pinned (OpenSpec.upto authChecksSpec)

/-- 'keyholelaw02.AuthOver', WHERE WHAT IT READS IS OF BULK AT MOST 1048576: true; the input reads as it did. -/
def authOverUptoRow : OpenClaim := { program := "ytmfdclnepmgmlaa", sum := "57e189afcba146bc9fb85a46d33fb95dcf5af24d0d01b17946782652cba31bcf", func := "keyhole/keyholelaw02.AuthOver", spec := "authOver", apart := false, narrowed := true }
def AuthOverUptoSaid : Prop := authOverUptoRow.holds Try.pinned (OpenSpec.upto authOverSpec)

/-- 'keyholelaw02.AuthDown', WHERE WHAT IT READS IS OF BULK AT MOST 1048576: true; the input reads as it did. -/
def authDownUptoRow : OpenClaim := { program := "ytmfdclnepmgmlaa", sum := "57e189afcba146bc9fb85a46d33fb95dcf5af24d0d01b17946782652cba31bcf", func := "keyhole/keyholelaw02.AuthDown", spec := "authDown", apart := false, narrowed := true }
def AuthDownUptoSaid : Prop := authDownUptoRow.holds Try.pinned (OpenSpec.upto authDownSpec)

/-- 'keyholelaw02.AuthTogether', WHERE WHAT IT READS IS OF BULK AT MOST 1048576: true; the input reads as it did. -/
def authTogetherUptoRow : OpenClaim := { program := "ytmfdclnepmgmlaa", sum := "57e189afcba146bc9fb85a46d33fb95dcf5af24d0d01b17946782652cba31bcf", func := "keyhole/keyholelaw02.AuthTogether", spec := "authTogether", apart := false, narrowed := true }
def AuthTogetherUptoSaid : Prop := authTogetherUptoRow.holds Try.pinned (OpenSpec.upto authTogetherSpec)

end Rows
end Go.Proofs.Ytmfdclnepmgmlaa
