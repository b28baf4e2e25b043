/- What the statements ask of the program's blanks and columns; the known line. -/
import Derived.Test.YtbcmnldeienggaaDoorVRef
import Derived.Test.YtbcmnldeienggaaDoorVRef2
namespace Go.Proofs.YtbcmnldeienggaaDoor
open Go.RowKit

end Go.Proofs.YtbcmnldeienggaaDoor
