/- What the statements ask of the program's blanks and columns; the known line. -/
import Derived.Test.YtilpfngjiolmaaaDoorVRef
import Derived.Test.YtilpfngjiolmaaaDoorVRef2
namespace Go.Proofs.YtilpfngjiolmaaaDoor
open Go.RowKit

end Go.Proofs.YtilpfngjiolmaaaDoor
