/- TabWhole: outside of its bounds, walked for any program that answers as the chapter asks. -/
import Derived.Test.YtjlkdpnpkdchgaaDoorVLaw
import Derived.Test.YtjlkdpnpkdchgaaDoorVMath2
namespace Go.Proofs.YtjlkdpnpkdchgaaDoor
open Go.RowKit

section
variable (hC : TabC)
include hC
set_option maxRecDepth 100000 in
set_option maxHeartbeats 4000000 in
theorem whole_small (w : World) (s : ByteArray) (a col want size Z : Int) (hZ : (s.size : Int) = Z) (h : 65536 < Z ∨ a < 0 ∨ Z < a ∨ col < 0 ∨ 1099511627776 < col ∨ size < 1 ∨ 64 < size ∨ want < 0 ∨ 1073741824 < want) : Calls Tryd.prog 6 #[.string s, .int .i64 a, .int .i64 col, .int .i64 want, .int .i64 size] w fun e w' => e = .returned (.bool true) ∧ Up w w' := by
  have HW := Lib.hid (fun W => vwakes_any hC W)
  have hU := Up.refl w
  clear hC
  by_cases h0 : 65536 < Z
  case pos =>
    clear h
    go_enter Tryd.func6, Tryd.ntmps6
    go_wp2_with (go_at_call 7; ((with_reducible refine (HW.out _).mono ?_); rintro e w9 ⟨rfl, hu⟩; have hU := hU.trans hu; clear hu))
    go_ret
    exact ⟨rfl, hU⟩
  have f0 : decide (65536 < Z) = false := decide_eq_false h0
  by_cases h1 : a < 0
  case pos =>
    clear h
    go_enter Tryd.func6, Tryd.ntmps6
    go_wp2_with (go_at_call 7; ((with_reducible refine (HW.out _).mono ?_); rintro e w9 ⟨rfl, hu⟩; have hU := hU.trans hu; clear hu))
    go_ret
    exact ⟨rfl, hU⟩
  have f1 : decide (a < 0) = false := decide_eq_false h1
  by_cases h2 : Z < a
  case pos =>
    clear h
    go_enter Tryd.func6, Tryd.ntmps6
    go_wp2_with (go_at_call 7; ((with_reducible refine (HW.out _).mono ?_); rintro e w9 ⟨rfl, hu⟩; have hU := hU.trans hu; clear hu))
    go_ret
    exact ⟨rfl, hU⟩
  have f2 : decide (Z < a) = false := decide_eq_false h2
  by_cases h3 : col < 0
  case pos =>
    clear h
    go_enter Tryd.func6, Tryd.ntmps6
    go_wp2_with (go_at_call 7; ((with_reducible refine (HW.out _).mono ?_); rintro e w9 ⟨rfl, hu⟩; have hU := hU.trans hu; clear hu))
    go_ret
    exact ⟨rfl, hU⟩
  have f3 : decide (col < 0) = false := decide_eq_false h3
  by_cases h4 : 1099511627776 < col
  case pos =>
    clear h
    go_enter Tryd.func6, Tryd.ntmps6
    go_wp2_with (go_at_call 7; ((with_reducible refine (HW.out _).mono ?_); rintro e w9 ⟨rfl, hu⟩; have hU := hU.trans hu; clear hu))
    go_ret
    exact ⟨rfl, hU⟩
  have f4 : decide (1099511627776 < col) = false := decide_eq_false h4
  by_cases h5 : size < 1
  case pos =>
    clear h
    go_enter Tryd.func6, Tryd.ntmps6
    go_wp2_with (go_at_call 7; ((with_reducible refine (HW.out _).mono ?_); rintro e w9 ⟨rfl, hu⟩; have hU := hU.trans hu; clear hu))
    go_ret
    exact ⟨rfl, hU⟩
  have f5 : decide (size < 1) = false := decide_eq_false h5
  by_cases h6 : 64 < size
  case pos =>
    clear h
    go_enter Tryd.func6, Tryd.ntmps6
    go_wp2_with (go_at_call 7; ((with_reducible refine (HW.out _).mono ?_); rintro e w9 ⟨rfl, hu⟩; have hU := hU.trans hu; clear hu))
    go_ret
    exact ⟨rfl, hU⟩
  have f6 : decide (64 < size) = false := decide_eq_false h6
  by_cases h7 : want < 0
  case pos =>
    clear h
    go_enter Tryd.func6, Tryd.ntmps6
    go_wp2_with (go_at_call 7; ((with_reducible refine (HW.out _).mono ?_); rintro e w9 ⟨rfl, hu⟩; have hU := hU.trans hu; clear hu))
    go_ret
    exact ⟨rfl, hU⟩
  have f7 : decide (want < 0) = false := decide_eq_false h7
  by_cases h8 : 1073741824 < want
  case pos =>
    clear h
    go_enter Tryd.func6, Tryd.ntmps6
    go_wp2_with (go_at_call 7; ((with_reducible refine (HW.out _).mono ?_); rintro e w9 ⟨rfl, hu⟩; have hU := hU.trans hu; clear hu))
    go_ret
    exact ⟨rfl, hU⟩
  have f8 : decide (1073741824 < want) = false := decide_eq_false h8
  exact absurd h (by omega)
end
end Go.Proofs.YtjlkdpnpkdchgaaDoor
