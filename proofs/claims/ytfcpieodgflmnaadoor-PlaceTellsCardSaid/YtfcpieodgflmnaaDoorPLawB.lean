/- PlaceTells, walked. -/
import Derived.Test.YtfcpieodgflmnaaDoorPWakes
import Derived.Test.YtfcpieodgflmnaaDoorPRefC
namespace Go.Proofs.YtfcpieodgflmnaaDoor
open Go.RowKit

set_option maxRecDepth 100000 in
set_option maxHeartbeats 2000000 in
theorem ptells_long (w : World) (ht : Tabs w) (s : ByteArray) (hs : (16384 : Int) < s.size) (i k c : Int) : Calls Tryd.prog 3 #[.string s, .int .i64 i, .int .i64 k, .int .i64 c] w fun e w' => e = .returned (.bool true) ∧ Up w w' := by
  have HT := Lib.hid ht
  clear ht
  go_enter Tryd.func3, Tryd.ntmps3
  go_wp2_with (go_at_call 7; ((with_reducible refine (pwakes_any _ HT.out).mono ?_); rintro e wb ⟨rfl, hub⟩))
  go_ret
  exact ⟨rfl, hub⟩
set_option maxRecDepth 100000 in
set_option maxHeartbeats 4000000 in
theorem ptells_in (w : World) (ht : Tabs w) (s : ByteArray) (hs : (s.size : Int) ≤ 16384) (i k c : Int) : Calls Tryd.prog 3 #[.string s, .int .i64 i, .int .i64 k, .int .i64 c] w fun e w' => e = .returned (.bool true) ∧ Up w w' := by
  have HT := Lib.hid ht
  have HO := Lib.hid (of_any s (by omega) w ht)
  have HM := Lib.hid (show (s.size : Int) ≤ 1048576 by omega)
  have f0 : decide (16384 < (s.size : Int)) = false := decide_eq_false (by omega)
  clear ht hs
  go_enter Tryd.func3, Tryd.ntmps3
  go_wp2_with (first
    | (go_at_call 8; ((with_reducible refine HO.out.mono ?_); rintro e w1 ⟨rb, rfl, r1, hu⟩; have HS := Lib.hid (St1.mk r1 hu (HT.out.up hu)); clear r1 hu))
    | (go_at_call 9; ((with_reducible refine (ofT HS.out.r i).mono ?_); rintro e w2 ⟨rfl, hu⟩; have HS := Lib.hid (HS.out.up hu); clear hu))
    | (go_at_call 10; ((with_reducible refine (refOfT s HM.out i _).mono ?_); rintro e w3 ⟨rfl, rfl⟩))
    | (go_at_call 11; ((with_reducible refine (osT HS.out.r k c).mono ?_); rintro e w4 ⟨rfl, hu⟩; have HS := Lib.hid (HS.out.up hu); clear hu))
    | (go_at_call 12; ((with_reducible refine (refOsT s HM.out k c _).mono ?_); rintro e w5 ⟨rfl, hu⟩; have HS := Lib.hid (HS.out.up hu); clear hu))
    | (go_at_call 13; ((with_reducible refine (chT HS.out.r HS.out.t i).mono ?_); rintro e w6 ⟨rfl, hu⟩; have HS := Lib.hid (HS.out.up hu); clear hu))
    | (go_at_call 14; ((with_reducible refine (refChT s HM.out i _).mono ?_); rintro e w7 ⟨rfl, hu⟩; have HS := Lib.hid (HS.out.up hu); clear hu))
    | (go_at_call 15; ((with_reducible refine (coT HS.out.r HS.out.t k c).mono ?_); rintro e w8 ⟨rfl, hu⟩; have HS := Lib.hid (HS.out.up hu); clear hu))
    | (go_at_call 16; ((with_reducible refine (refCoT s HM.out k c _).mono ?_); rintro e w9 ⟨rfl, hu⟩; have HS := Lib.hid (HS.out.up hu); clear hu))
    | (go_at_call 7; ((with_reducible refine (pwakes_any _ HS.out.t).mono ?_); rintro e wb ⟨rfl, hub⟩)))
  go_ret
  exact ⟨rfl, HS.out.u.trans hub⟩
theorem ptells_walk (w : World) (ht : Tabs w) (s : ByteArray) (i k c : Int) : Calls Tryd.prog 3 #[.string s, .int .i64 i, .int .i64 k, .int .i64 c] w fun e w' => e = .returned (.bool true) ∧ Up w w' := by
  by_cases h : (s.size : Int) ≤ 16384
  · exact ptells_in w ht s h i k c
  · exact ptells_long w ht s (by omega) i k c
end Go.Proofs.YtfcpieodgflmnaaDoor
