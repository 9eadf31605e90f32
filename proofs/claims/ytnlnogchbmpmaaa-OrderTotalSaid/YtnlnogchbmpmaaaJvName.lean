/- jval.Name, of every int. -/
import Derived.Test.YtnlnogchbmpmaaaJvInt
namespace Go.Proofs.Ytnlnogchbmpmaaa
open Go.RowKit
namespace Jv
end Jv
end Go.Proofs.Ytnlnogchbmpmaaa
