/- RopeNil, walked. -/
import Derived.Test.YtcbmigkdmmmahaaDoorRWakes
namespace Go.Proofs.YtcbmigkdmmmahaaDoor
open Go.RowKit

set_option maxRecDepth 100000 in
set_option maxHeartbeats 4000000 in
theorem nil_walk (w : World) (ht : Tabs w) (p d n : Int) (i : ByteArray) : Calls Tryd.prog 6 #[.agg #[.int .i64 p, .int .i64 d, .string i], .int .i64 n] w fun e w' => e = .returned (.bool true) ∧ Up w w' := by
  have HE := Lib.hid (Up.alloc w (.cells #[.int .i64 p, .int .i64 d, .string i] 31))
  obtain ⟨b0, b1, b2⟩ := edit_cells w p d i
  have HT := Lib.hid (ht.up HE.out)
  clear ht
  go_enter Tryd.func6, Tryd.ntmps6
  go_wp2_with (first
    | (go_at_call 18; ((with_reducible refine (byte_none _ _).mono ?_); rintro e w1 ⟨rfl, rfl⟩))
    | (go_at_call 19; ((with_reducible refine (slice_none _ _ _).mono ?_); rintro e w2 ⟨rfl, rfl⟩))
    | (go_at_call 14; ((with_reducible refine (splice_none _ _ _ _).mono ?_); rintro e w3 ⟨rfl, hu3⟩))
    | (go_at_call 20; ((with_reducible refine (line_none _ _).mono ?_); rintro e w4 ⟨rfl, hu4⟩; have u4 := hu4.trans (Up.alloc w4 (.cells #[.int .i64 0, .int .i64 0] 45)); have c4 := line_cells w4))
    | (go_at_call 21; ((with_reducible refine (find_none _ _).mono ?_); rintro e w5 ⟨rfl, rfl⟩))
    | (go_at_call 17; ((with_reducible refine (len_of _ (counted_none _)).mono ?_); rintro e w6 ⟨rfl, hu6⟩))
    | (go_at_call 16; ((with_reducible refine (text_none _).mono ?_); rintro e w7 ⟨rfl, hu7⟩; have d0 := cell_up (hu6.trans hu7) c4.1; have d1 := cell_up (hu6.trans hu7) c4.2))
    | (go_at_call 22; ((with_reducible refine (lines_none _).mono ?_); rintro e w8 ⟨rfl, rfl⟩))
    | (go_at_call 12; ((with_reducible refine (steps_of _ (counted_none _)).mono ?_); rintro e w9 ⟨rfl, hu9⟩))
    | (go_at_call 23; ((with_reducible refine (depth_none _).mono ?_); rintro e wa ⟨rfl, rfl⟩; have HU := Lib.hid (hu3.trans (u4.trans (hu6.trans (hu7.trans hu9))))))
    | (go_at_call 10; ((with_reducible refine (rwakes_any _ (HT.out.up HU.out)).mono ?_); rintro e wb ⟨rfl, hub⟩)))
  go_ret
  exact ⟨rfl, HE.out.trans (HU.out.trans hub)⟩
end Go.Proofs.YtcbmigkdmmmahaaDoor
