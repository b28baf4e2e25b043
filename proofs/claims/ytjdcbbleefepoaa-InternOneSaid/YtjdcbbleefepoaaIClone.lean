/- strings.Clone: the text itself. -/
import Derived.Test.YtjdcbbleefepoaaBase
import Derived.Test.YtjdcbbleefepoaaShelf
namespace Go.Proofs.Ytjdcbbleefepoaa
open Go.RowKit
set_option maxRecDepth 100000 in
set_option maxHeartbeats 400000 in
theorem clone_any (s : ByteArray) (w : World) (h1 : s.size ≤ 140737488355328) :
    Calls Try.prog 16 #[.string s] w fun e w' => e = .returned (.string s) ∧ Up w w' := by
  have H := Lib.hid (fun w => Try.stringslite_Clone s w (by omega))
  go_enter Try.func16, Try.ntmps16
  go_wp2_with (go_at_call 17; refine (H.out _).mono ?_; rintro e w1 ⟨rfl, hu1⟩)
  go_ret
  exact ⟨rfl, hu1⟩
end Go.Proofs.Ytjdcbbleefepoaa
