/- What the lifted proofs of jval's laws need of the program; arrays of two texts, of two values. -/
import Derived.Test.YtkmfoclhhnhkdaaJvOpen
import Derived.Test.YtkmfoclhhnhkdaaRows
import Derived.OpenShut
namespace Go.Proofs.Ytkmfoclhhnhkdaa
open Go.ChangeShapes Go.WideShapes Go.ChangeAt Go.RowKit
namespace Jv
open _root_.Go.Proofs.Ytkmfoclhhnhkdaa.Nm
theorem own : ownKnob Try.prog.godebug = none := by kernel_rfl
theorem laidOut : laidOutB Try.prog = true := by kernel_rfl
section
variable {H : Type} {enc : TypeId × Value → H} {w : World} {spare : Nat → Bool} {held : Bool}
end
end Jv
end Go.Proofs.Ytkmfoclhhnhkdaa
