/- The program's Scan answers as the laws' walks ask; what the laid variables hold. -/
import Derived.Test.YtlpkflioikmgjaaDoorYPScan
import Derived.Test.YtlpkflioikmgjaaDoorYLawA
import Derived.LaidMore
import Derived.Stop.Joined
namespace Go.Proofs.YtlpkflioikmgjaaDoor
open Go.RowKit

theorem progC : ScanC := ⟨fun w hT line a m d hs _ hm _ => scan_core w hT line a m d (by omega) hm⟩
theorem tabsP_of_H {w : World} (h : laidMetH Tryd.prog Rows.pytokenScansRow.laid w) : TabsP w := by
  rw [MakeChecks.laidMetH_plain _ _ _ (by kernel_rfl)] at h
  exact tabsP_of_laid h
end Go.Proofs.YtlpkflioikmgjaaDoor
