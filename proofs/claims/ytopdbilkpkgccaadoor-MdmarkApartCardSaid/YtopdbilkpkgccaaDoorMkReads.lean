/- The known heading. -/
import Derived.Test.YtopdbilkpkgccaaDoorMkP5H
import Derived.Test.YtopdbilkpkgccaaDoorMkSame
namespace Go.Proofs.YtopdbilkpkgccaaDoor
open Go.RowKit

def knownL : ByteArray := ⟨#[32, 35, 35, 32, 97, 32, 98, 32, 35, 35, 10]⟩
theorem known_head : headL (1 : Int).toNat (restL (bl knownL) 1) = (⟨0, 2, 3, 4, 7, 10⟩, true) := by kernel_rfl
set_option maxRecDepth 100000 in
set_option maxHeartbeats 4000000 in
theorem reads_any (w : World) : Calls Tryd.prog 14 #[] w fun e w' => e = .returned (.bool true) ∧ Up w w' := by
  have HH := Lib.hid (fun W => by
    have h := pHead_any knownL 1 W (by decide)
    rw [known_head] at h
    exact (show Calls Tryd.prog 8 #[.string ⟨#[32, 35, 35, 32, 97, 32, 98, 32, 35, 35, 10]⟩, .int .i64 1] W fun e w' => e = .returned (.tuple #[.agg #[.int .u8 0, .int .i64 2, .int .i64 3, .int .i64 4, .int .i64 7, .int .i64 10], .bool true]) ∧ Up W w' from h))
  go_enter Tryd.func14, Tryd.ntmps14
  go_wp2_with (go_at_call 8; ((with_reducible refine (HH.out _).mono ?_); rintro e w1 ⟨rfl, h1⟩; have HU := Lib.hid (h1.trans (Up.alloc w1 (.cells #[.int .u8 0, .int .i64 2, .int .i64 3, .int .i64 4, .int .i64 7, .int .i64 10] 23))); clear h1))
  go_ret
  exact ⟨rfl, HU.out⟩
end Go.Proofs.YtopdbilkpkgccaaDoor
