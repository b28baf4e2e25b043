/- What the listed sentinels give: strconv's ErrSyntax holds an error. -/
import Derived.Test.YtopdbilkpkgccaaDoorMkP5I
import Derived.Test.YtopdbilkpkgccaaDoorRows
namespace Go.Proofs.YtopdbilkpkgccaaDoor
open Go.RowKit Go.ChangeShapes

theorem gES : Tryd.prog.globalNamed "strconv.ErrSyntax" = some 1 := by kernel_rfl
theorem gEST : (Tryd.prog.globals[1]?).map (·.type) = some 46 := by kernel_rfl
theorem eStar : "*" ++ "errors.errorString" = "*errors.errorString" := by decide
theorem eRow (u : TypeId) (h : Tryd.prog.typeName? 3 u = some "*errors.errorString") : u = 89 :=
  typeName_ptr_named (nm := "errors.errorString") (by rw [eStar]; kernel_rfl) (by kernel_rfl) (by decide) u (by rw [eStar]; exact h)
theorem eCell1 : Tryd.prog.cellsOf 91 = 1 := by kernel_rfl
theorem eCell2 : Tryd.prog.cellsOf 9 = 1 := by kernel_rfl
theorem errT_of {W : World} (h : laidMet Tryd.prog Rows.mdmarkKnownRow.laid W) : ErrT W := by
  obtain ⟨a, s, hv, _⟩ := laid_sentinel (show laidMet Tryd.prog (("strconv.ErrSyntax", Rows.laid_strconv_ErrSyntax) :: _) W from h.tail.tail.tail.tail.tail) gES gEST Tryd.underlying46 eRow Tryd.underlying89 Tryd.underlying91 rfl rfl Tryd.underlying9 eCell1 eCell2
  exact ⟨_, _, hv⟩
end Go.Proofs.YtopdbilkpkgccaaDoor
