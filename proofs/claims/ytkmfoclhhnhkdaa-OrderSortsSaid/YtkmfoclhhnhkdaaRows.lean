/-
  NARROWER THAN 'FOR EVERY INPUT', by the rows' own cells (each row's printed sentence says how): JvalIs: loops · JvalSizes: loops · OrderSorts: loops · OrderTotal: loops.
  DERIVED. THE GIVEN ROWS OF THIS SEAT. 4 by the template 'for every input the law returns true; each argument reads behind the call as it read before'; 0 by the template 'total and deterministic' (their statements: YtkmfoclhhnhkdaaTotals.lean).
  GIVEN WITH THE SEED: the statements are not yours to turn. If you find one false, say at which input.
  Laid BY PROGRAM, IN A SANDBOX (cutbox-rows.mjs): the forced cells as the released guide's own fill.sh prints them over the translation 76023e981003ae2e… (all of the seat's roots in one cut). By AI agents, Wed Nov 11 2026. No macro, syntax, notation, axiom, sorry.
-/
import Derived.Test.YtkmfoclhhnhkdaaChecked
import GoSem.Claim
import GoSem.ClaimJoined
import GoSem.ClaimMapViews
import Derived.JoinedTies
import Derived.KernelRfl
namespace Go.Proofs.Ytkmfoclhhnhkdaa
/- THE CELL 'sum', in the pinned program and in every row, IS THE sha256 OF THE DUMP (.gsa) THAT YtkmfoclhhnhkdaaProg.lean LOADS. Nothing in Lean hashes anything: it is a label: what it is worth is what the hold of that sum in a sandbox is worth. -/
noncomputable def Try.pinned : Pinned := { name := "ytkmfoclhhnhkdaa", sum := "76023e981003ae2e3d2ff5368c03eec9ac6e84aeb766463f8ea69bb4f1e8981e", checked := Try.checked }
namespace Rows
def none {H : Type} : Left H := { results := [], args := [] }

/-- 'keyholelaw05.JvalIs': WHATEVER THE INPUT: true; the input reads as it did. -/
def jvalIsSpec : ChangeSpec := { name := "jvalIs", fn := fun _ => fun
  | [d1, d2] => { results := [.lit (.bool true)], args := [d1, d2] }
  | _ => none }
def jvalIsRow : OpenClaim := { program := "ytkmfoclhhnhkdaa", sum := "76023e981003ae2e3d2ff5368c03eec9ac6e84aeb766463f8ea69bb4f1e8981e", func := "keyhole/keyholelaw05.JvalIs", spec := "jvalIs", inPlace := ["math/bits.Add64"], recurses := true, named := ["math/bits.divideError", "math/bits.overflowError"], loops := true, plainKeys := false, apart := false }
def JvalIsSaid : Prop := jvalIsRow.holds Try.pinned (OpenSpec.ofChange jvalIsSpec)

/-- ITS FALSE NEIGHBOUR: 'it returns false'. Refute it at one input. -/
def jvalIsWrong : ChangeSpec := { name := "jvalIs", fn := fun _ => fun
  | [d1, d2] => { results := [.lit (.bool false)], args := [d1, d2] }
  | _ => none }
def JvalIsWrongFalsely : Prop := jvalIsRow.holds Try.pinned (OpenSpec.ofChange jvalIsWrong)

/-- 'keyholelaw05.JvalSizes': WHATEVER THE INPUT: true; the input reads as it did. -/
def jvalSizesSpec : ChangeSpec := { name := "jvalSizes", fn := fun _ => fun
  | [d1, d2] => { results := [.lit (.bool true)], args := [d1, d2] }
  | _ => none }
def jvalSizesRow : OpenClaim := { program := "ytkmfoclhhnhkdaa", sum := "76023e981003ae2e3d2ff5368c03eec9ac6e84aeb766463f8ea69bb4f1e8981e", func := "keyhole/keyholelaw05.JvalSizes", spec := "jvalSizes", inPlace := ["math/bits.Add64"], recurses := true, named := ["math/bits.divideError", "math/bits.overflowError"], loops := true, plainKeys := false, apart := false }
def JvalSizesSaid : Prop := jvalSizesRow.holds Try.pinned (OpenSpec.ofChange jvalSizesSpec)

/-- ITS FALSE NEIGHBOUR: 'it returns false'. Refute it at one input. -/
def jvalSizesWrong : ChangeSpec := { name := "jvalSizes", fn := fun _ => fun
  | [d1, d2] => { results := [.lit (.bool false)], args := [d1, d2] }
  | _ => none }
def JvalSizesWrongFalsely : Prop := jvalSizesRow.holds Try.pinned (OpenSpec.ofChange jvalSizesWrong)

/-- 'keyholelaw07.OrderSorts': WHATEVER THE INPUT: true; the input reads as it did. -/
def orderSortsSpec : ChangeSpec := { name := "orderSorts", fn := fun _ => fun
  | [d1, d2] => { results := [.lit (.bool true)], args := [d1, d2] }
  | _ => none }
def orderSortsRow : OpenClaim := { program := "ytkmfoclhhnhkdaa", sum := "76023e981003ae2e3d2ff5368c03eec9ac6e84aeb766463f8ea69bb4f1e8981e", func := "keyhole/keyholelaw07.OrderSorts", spec := "orderSorts", inPlace := ["math/bits.Add64", "internal/bytealg.abigen_runtime_cmpstring"], unfollowed := true, recurses := true, loops := true, plainKeys := false, apart := false }
def OrderSortsSaid : Prop := orderSortsRow.holds Try.pinned (OpenSpec.ofChange orderSortsSpec)

/-- ITS FALSE NEIGHBOUR: 'it returns false'. Refute it at one input. -/
def orderSortsWrong : ChangeSpec := { name := "orderSorts", fn := fun _ => fun
  | [d1, d2] => { results := [.lit (.bool false)], args := [d1, d2] }
  | _ => none }
def OrderSortsWrongFalsely : Prop := orderSortsRow.holds Try.pinned (OpenSpec.ofChange orderSortsWrong)

/-- 'keyholelaw07.OrderTotal': WHATEVER THE INPUT: true; the input reads as it did. -/
def orderTotalSpec : ChangeSpec := { name := "orderTotal", fn := fun _ => fun
  | [d1, d2] => { results := [.lit (.bool true)], args := [d1, d2] }
  | _ => none }
def orderTotalRow : OpenClaim := { program := "ytkmfoclhhnhkdaa", sum := "76023e981003ae2e3d2ff5368c03eec9ac6e84aeb766463f8ea69bb4f1e8981e", func := "keyhole/keyholelaw07.OrderTotal", spec := "orderTotal", inPlace := ["math/bits.Add64", "internal/bytealg.abigen_runtime_cmpstring"], unfollowed := true, recurses := true, loops := true, plainKeys := false, apart := false }
def OrderTotalSaid : Prop := orderTotalRow.holds Try.pinned (OpenSpec.ofChange orderTotalSpec)

/-- ITS FALSE NEIGHBOUR: 'it returns false'. Refute it at one input. -/
def orderTotalWrong : ChangeSpec := { name := "orderTotal", fn := fun _ => fun
  | [d1, d2] => { results := [.lit (.bool false)], args := [d1, d2] }
  | _ => none }
def OrderTotalWrongFalsely : Prop := orderTotalRow.holds Try.pinned (OpenSpec.ofChange orderTotalWrong)

/- THE SECOND FORM. 'bulk': how many values and letters a reading holds, each counted each time it is reached (what is shared counts as often as it is met; a slice's spare places count too). A statement '..UptoSaid' is the law's where the arguments, and the package variables that the reading takes, are together of bulk at most 1048576: NARROWER than '..Said'. Prove '..Said' where nothing that the law and all that it calls make is longer than what came in: it says more and counts as full. Else prove '..UptoSaid'. A law counts once. -/
mutual
def uptoBulk {H : Type} : DataW H → Nat
  | .lit (.string bytes) => bytes.length + 1
  | .lit _ => 1
  | .nil => 1
  | .ptr d => uptoBulk d + 1
  | .slice elems spare => uptoBulkAll elems + uptoBulkAll spare + 1
  | .agg parts => uptoBulkAll parts + 1
  | .iface _ d => uptoBulk d + 1
  | .map entries => uptoBulkEntries entries + 1
  | .held _ => 1
def uptoBulkAll {H : Type} : List (DataW H) → Nat
  | [] => 0
  | d :: r => uptoBulk d + uptoBulkAll r
def uptoBulkEntries {H : Type} : List (Lit × DataW H) → Nat
  | [] => 0
  | x :: r => uptoBulkEntry x + uptoBulkEntries r
def uptoBulkEntry {H : Type} : Lit × DataW H → Nat
  | (.string bytes, d) => bytes.length + uptoBulk d + 1
  | (_, d) => uptoBulk d + 1
 end
def uptoSmall : (H : Type) → List (DataW H) → Bool := fun _ ds => decide (uptoBulkAll ds ≤ 1048576)
def OpenSpec.upto (s : _root_.Go.ChangeSpec) : _root_.Go.OpenSpec := { _root_.Go.OpenSpec.ofChange s with cond := some uptoSmall }

/-- 'keyholelaw05.JvalIs', WHERE WHAT IT READS IS OF BULK AT MOST 1048576: true; the input reads as it did. -/
def jvalIsUptoRow : OpenClaim := { program := "ytkmfoclhhnhkdaa", sum := "76023e981003ae2e3d2ff5368c03eec9ac6e84aeb766463f8ea69bb4f1e8981e", func := "keyhole/keyholelaw05.JvalIs", spec := "jvalIs", inPlace := ["math/bits.Add64"], recurses := true, named := ["math/bits.divideError", "math/bits.overflowError"], loops := true, plainKeys := false, apart := false, narrowed := true }
def JvalIsUptoSaid : Prop := jvalIsUptoRow.holds Try.pinned (OpenSpec.upto jvalIsSpec)

/-- 'keyholelaw05.JvalSizes', WHERE WHAT IT READS IS OF BULK AT MOST 1048576: true; the input reads as it did. -/
def jvalSizesUptoRow : OpenClaim := { program := "ytkmfoclhhnhkdaa", sum := "76023e981003ae2e3d2ff5368c03eec9ac6e84aeb766463f8ea69bb4f1e8981e", func := "keyhole/keyholelaw05.JvalSizes", spec := "jvalSizes", inPlace := ["math/bits.Add64"], recurses := true, named := ["math/bits.divideError", "math/bits.overflowError"], loops := true, plainKeys := false, apart := false, narrowed := true }
def JvalSizesUptoSaid : Prop := jvalSizesUptoRow.holds Try.pinned (OpenSpec.upto jvalSizesSpec)

/-- 'keyholelaw07.OrderSorts', WHERE WHAT IT READS IS OF BULK AT MOST 1048576: true; the input reads as it did. -/
def orderSortsUptoRow : OpenClaim := { program := "ytkmfoclhhnhkdaa", sum := "76023e981003ae2e3d2ff5368c03eec9ac6e84aeb766463f8ea69bb4f1e8981e", func := "keyhole/keyholelaw07.OrderSorts", spec := "orderSorts", inPlace := ["math/bits.Add64", "internal/bytealg.abigen_runtime_cmpstring"], unfollowed := true, recurses := true, loops := true, plainKeys := false, apart := false, narrowed := true }
def OrderSortsUptoSaid : Prop := orderSortsUptoRow.holds Try.pinned (OpenSpec.upto orderSortsSpec)

/-- 'keyholelaw07.OrderTotal', WHERE WHAT IT READS IS OF BULK AT MOST 1048576: true; the input reads as it did. -/
def orderTotalUptoRow : OpenClaim := { program := "ytkmfoclhhnhkdaa", sum := "76023e981003ae2e3d2ff5368c03eec9ac6e84aeb766463f8ea69bb4f1e8981e", func := "keyhole/keyholelaw07.OrderTotal", spec := "orderTotal", inPlace := ["math/bits.Add64", "internal/bytealg.abigen_runtime_cmpstring"], unfollowed := true, recurses := true, loops := true, plainKeys := false, apart := false, narrowed := true }
def OrderTotalUptoSaid : Prop := orderTotalUptoRow.holds Try.pinned (OpenSpec.upto orderTotalSpec)

end Rows
end Go.Proofs.Ytkmfoclhhnhkdaa
