/- BuildNil, walked. -/
import Derived.Test.YtkkefgbmdghklaaBWake
namespace Go.Proofs.Ytkkefgbmdghklaa
open Go.RowKit

set_option maxRecDepth 100000 in
set_option maxHeartbeats 2000000 in
theorem nil_walk (w : World) (A : Option Addr) (n c : Nat) (a : Int) : Calls Try.prog 3 #[.slice A n c, .int .i64 a] w fun e w' => e = .returned (.bool true) ∧ Below w.heap.size w w' := by
  have HD := Lib.hid (done_nil w a)
  have HP := Lib.hid (put_nil w A n c a)
  have HO := Lib.hid (open_nil w)
  have HF := Lib.hid (far_nil w)
  have HW := Lib.hid (wakes_any w)
  go_enter Try.func3, Try.ntmps3
  go_wp2_with (first
    | (go_at_call 7; ((with_reducible refine HD.out.mono ?_); rintro e w1 ⟨rfl, rfl⟩))
    | (go_at_call 8; ((with_reducible refine HP.out.mono ?_); rintro e w1 ⟨rfl, rfl⟩))
    | (go_at_call 9; ((with_reducible refine HO.out.mono ?_); rintro e w1 ⟨rfl, rfl⟩))
    | (go_at_call 10; ((with_reducible refine HF.out.mono ?_); rintro e w1 ⟨rfl, rfl⟩))
    | (go_at_call 11; ((with_reducible refine HW.out.mono ?_); rintro e w1 ⟨rfl, hu⟩; have HU := Lib.hid hu; clear hu)))
  go_ret
  exact ⟨rfl, HU.out⟩
end Go.Proofs.Ytkkefgbmdghklaa
