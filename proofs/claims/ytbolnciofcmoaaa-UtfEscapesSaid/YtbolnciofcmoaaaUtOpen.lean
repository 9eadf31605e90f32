/- What the lifted proofs of utf's laws need of the program. -/
import Derived.Test.YtbolnciofcmoaaaUtMem
import Derived.Test.YtbolnciofcmoaaaRows
import Derived.ProofKit
namespace Go.Proofs.Ytbolnciofcmoaaa
open Go.ChangeShapes Go.WideShapes Go.ChangeAt Go.RowKit
namespace Ut
theorem own : ownKnob Try.prog.godebug = none := by kernel_rfl
theorem laidOut : laidOutB Try.prog = true := by kernel_rfl
end Ut
end Go.Proofs.Ytbolnciofcmoaaa
