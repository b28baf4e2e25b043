/- RopeTells, walked. -/
import Derived.Test.YtcbmigkdmmmahaaDoorTells
namespace Go.Proofs.YtcbmigkdmmmahaaDoor
open Go.RowKit

set_option maxRecDepth 100000 in
set_option maxHeartbeats 2000000 in
theorem rtells_long (w : World) (ht : Tabs w) (s : ByteArray) (hs : (1048576 : Int) < s.size) (a k f u : Int) : Calls Tryd.prog 3 #[.string s, .int .i64 a, .int .i64 k, .int .i64 f, .int .i64 u] w fun e w' => e = .returned (.bool true) ∧ Up w w' := by
  have HT := Lib.hid ht
  have HO := Lib.hid (of_long s hs w)
  clear ht
  go_enter Tryd.func3, Tryd.ntmps3
  go_wp2_with (first
    | (go_at_call 9; ((with_reducible refine HO.out.mono ?_); rintro e w1 ⟨rfl, rfl⟩))
    | (go_at_call 10; ((with_reducible refine (rwakes_any _ HT.out).mono ?_); rintro e wb ⟨rfl, hub⟩)))
  go_ret
  exact ⟨rfl, hub⟩
set_option maxRecDepth 100000 in
set_option maxHeartbeats 2000000 in
theorem rtells_in (w : World) (ht : Tabs w) (s : ByteArray) (hs : (s.size : Int) ≤ 1048576) (a k f u : Int) : Calls Tryd.prog 3 #[.string s, .int .i64 a, .int .i64 k, .int .i64 f, .int .i64 u] w fun e w' => e = .returned (.bool true) ∧ Up w w' := by
  have HT := Lib.hid ht
  have HO := Lib.hid (of_any s hs w ht)
  have HM := Lib.hid (show s.size ≤ maxLen by unfold maxLen; omega)
  have f0 : decide (1048576 < (s.size : Int)) = false := decide_eq_false (by omega)
  clear ht hs
  go_enter Tryd.func3, Tryd.ntmps3
  go_wp2_with (first
    | (go_at_call 9; ((with_reducible refine HO.out.mono ?_); rintro e w1 ⟨rb, rfl, r1, hu⟩; have HS := Lib.hid (St1.mk r1 hu (HT.out.up hu)); clear r1 hu))
    | (go_at_call 11; ((with_reducible refine (tells_any HS.out.r a k f u).mono ?_); rintro e w2 ⟨rfl, hu⟩; have HS := Lib.hid (HS.out.up hu); clear hu))
    | (go_at_call 12; ((with_reducible refine (rope_steps_any HS.out.r).mono ?_); rintro e w3 ⟨rfl, hu⟩; have HS := Lib.hid (HS.out.up hu); clear hu))
    | (go_at_call 13; ((with_reducible refine (refSteps_any s HM.out _).mono ?_); rintro e w4 ⟨rfl, hu⟩; have HS := Lib.hid (HS.out.up hu); clear hu))
    | (go_at_call 10; ((with_reducible refine (rwakes_any _ HS.out.t).mono ?_); rintro e wb ⟨rfl, hub⟩)))
  go_ret
  exact ⟨rfl, HS.out.u.trans hub⟩
theorem rtells_walk (w : World) (ht : Tabs w) (s : ByteArray) (a k f u : Int) : Calls Tryd.prog 3 #[.string s, .int .i64 a, .int .i64 k, .int .i64 f, .int .i64 u] w fun e w' => e = .returned (.bool true) ∧ Up w w' := by
  by_cases h : (s.size : Int) ≤ 1048576
  · exact rtells_in w ht s h a k f u
  · exact rtells_long w ht s (by omega) a k f u
end Go.Proofs.YtcbmigkdmmmahaaDoor
