/- What the laid variables hold, as the walks ask. -/
import Derived.Test.YtilpfngjiolmaaaDoorOA
import Derived.Test.YtilpfngjiolmaaaDoorOLawA
import Derived.LaidMore
import Derived.Stop.Joined
namespace Go.Proofs.YtilpfngjiolmaaaDoor
open Go.RowKit

theorem tabsP_of_H {w : World} (h : laidMetH Tryd.prog Rows.pylayoutKnownRow.laid w) : TabsP w := by
  rw [MakeChecks.laidMetH_plain _ _ _ (by kernel_rfl)] at h
  exact tabsP_of_laid h
end Go.Proofs.YtilpfngjiolmaaaDoor
