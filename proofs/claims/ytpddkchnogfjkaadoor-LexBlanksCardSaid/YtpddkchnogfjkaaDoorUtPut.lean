/- What the document's Put answers, of every sign. -/
import Derived.Test.YtpddkchnogfjkaaDoorUtSigns
namespace Go.Proofs.YtpddkchnogfjkaaDoor
open Go.RowKit
namespace Ut
/-- bytes as cells -/
def cel (l : List Nat) : List Value := l.map fun x => Value.int .u8 (x : Nat)
end Ut
end Go.Proofs.YtpddkchnogfjkaaDoor
