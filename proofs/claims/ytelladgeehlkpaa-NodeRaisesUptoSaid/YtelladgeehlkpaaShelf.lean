/- Contracts of the library, laid at this program by the kit's command. -/
import Derived.Shelf.Lay
import Derived.Shelf.LaySoft
import Derived.Test.YtelladgeehlkpaaProg
namespace Go.Proofs
open Go.Shelf
end Go.Proofs
