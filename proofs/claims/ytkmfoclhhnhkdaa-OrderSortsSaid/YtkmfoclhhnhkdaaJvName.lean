/- jval.Name, of every int. -/
import Derived.Test.YtkmfoclhhnhkdaaJvInt
namespace Go.Proofs.Ytkmfoclhhnhkdaa
open Go.RowKit
namespace Jv
end Jv
end Go.Proofs.Ytkmfoclhhnhkdaa
