/- TabIndents, TabTakes, TabEnds: walked for any program that answers as the chapter asks. -/
import Derived.Test.YtjlkdpnpkdchgaaDoorVLaw
namespace Go.Proofs.YtjlkdpnpkdchgaaDoor
open Go.RowKit

section
variable (hC : TabC)
include hC
set_option maxRecDepth 100000 in
set_option maxHeartbeats 1000000 in
theorem indents_walk (w : World) (s : ByteArray) (a c size : Int) (ha : I64v a) (hc : I64v c) (hsize : I64v size) : Calls Tryd.prog 3 #[.string s, .int .i64 a, .int .i64 c, .int .i64 size] w fun e w' => e = .returned (.bool true) ∧ Up w w' := by
  have HW := Lib.hid (fun W => vwakes_any hC W)
  have hU := Up.refl w
  by_cases hs : (s.size : Int) ≤ 65536
  case neg =>
    obtain ⟨Z, hZ⟩ : ∃ Z : Int, (s.size : Int) = Z := ⟨_, rfl⟩
    have hz : 65536 < Z := by omega
    clear hC hs
    go_enter Tryd.func3, Tryd.ntmps3
    go_wp2_with (go_at_call 7; ((with_reducible refine (HW.out _).mono ?_); rintro e w9 ⟨rfl, hu⟩; have hU := hU.trans hu; clear hu))
    go_ret
    exact ⟨rfl, hU⟩
  have H1 := Lib.hid (fun W => hC.ind W s a c size hs ha hc hsize)
  have H2 := Lib.hid (fun W => refIndent_any s a c size W hs)
  obtain ⟨x, hx⟩ : ∃ x, (inE s a c size).1 = x := ⟨_, rfl⟩
  obtain ⟨y, hy⟩ : ∃ y, (inE s a c size).2 = y := ⟨_, rfl⟩
  rw [hx, hy] at H1 H2
  obtain ⟨Z, hZ⟩ : ∃ Z : Int, (s.size : Int) = Z := ⟨_, rfl⟩
  have hz : decide (65536 < Z) = false := decide_eq_false (by omega)
  clear hC hs hx hy ha hc hsize
  go_enter Tryd.func3, Tryd.ntmps3
  go_wp2_with (first
    | (go_at_call 8; ((with_reducible refine (H1.out _).mono ?_); rintro e w1 ⟨rfl, hu⟩; have hU := hU.trans hu; clear hu))
    | (go_at_call 9; ((with_reducible refine (H2.out _).mono ?_); rintro e w2 ⟨rfl, rfl⟩))
    | (go_at_call 7; ((with_reducible refine (HW.out _).mono ?_); rintro e w9 ⟨rfl, hu⟩; have hU := hU.trans hu; clear hu)))
  go_ret
  exact ⟨rfl, hU⟩
set_option maxRecDepth 100000 in
set_option maxHeartbeats 1000000 in
theorem takes_walk (w : World) (s : ByteArray) (a c want size : Int) (ha : I64v a) (hc : I64v c) (hwant : I64v want) (hsize : I64v size) : Calls Tryd.prog 4 #[.string s, .int .i64 a, .int .i64 c, .int .i64 want, .int .i64 size] w fun e w' => e = .returned (.bool true) ∧ Up w w' := by
  have HW := Lib.hid (fun W => vwakes_any hC W)
  have hU := Up.refl w
  by_cases hs : (s.size : Int) ≤ 65536
  case neg =>
    obtain ⟨Z, hZ⟩ : ∃ Z : Int, (s.size : Int) = Z := ⟨_, rfl⟩
    have hz : 65536 < Z := by omega
    clear hC hs
    go_enter Tryd.func4, Tryd.ntmps4
    go_wp2_with (go_at_call 7; ((with_reducible refine (HW.out _).mono ?_); rintro e w9 ⟨rfl, hu⟩; have hU := hU.trans hu; clear hu))
    go_ret
    exact ⟨rfl, hU⟩
  have H1 := Lib.hid (fun W => hC.take W s a c want size hs ha hc hwant hsize)
  have H2 := Lib.hid (fun W => refTake_any s a c want size W hs)
  obtain ⟨x, hx⟩ : ∃ x, (tkE s a c want size).1 = x := ⟨_, rfl⟩
  obtain ⟨y, hy⟩ : ∃ y, (tkE s a c want size).2 = y := ⟨_, rfl⟩
  rw [hx, hy] at H1 H2
  obtain ⟨Z, hZ⟩ : ∃ Z : Int, (s.size : Int) = Z := ⟨_, rfl⟩
  have hz : decide (65536 < Z) = false := decide_eq_false (by omega)
  clear hC hs hx hy ha hc hwant hsize
  go_enter Tryd.func4, Tryd.ntmps4
  go_wp2_with (first
    | (go_at_call 10; ((with_reducible refine (H1.out _).mono ?_); rintro e w1 ⟨rfl, hu⟩; have hU := hU.trans hu; clear hu))
    | (go_at_call 11; ((with_reducible refine (H2.out _).mono ?_); rintro e w2 ⟨rfl, rfl⟩))
    | (go_at_call 7; ((with_reducible refine (HW.out _).mono ?_); rintro e w9 ⟨rfl, hu⟩; have hU := hU.trans hu; clear hu)))
  go_ret
  exact ⟨rfl, hU⟩
set_option maxRecDepth 100000 in
set_option maxHeartbeats 1000000 in
theorem ends_walk (w : World) (s : ByteArray) (a : Int) (ha : I64v a) (hs : (s.size : Int) ≤ 140737488355328) : Calls Tryd.prog 5 #[.string s, .int .i64 a] w fun e w' => e = .returned (.bool true) ∧ Up w w' := by
  have HW := Lib.hid (fun W => vwakes_any hC W)
  have hU := Up.refl w
  have H1 := Lib.hid (fun W => hC.blank W s a hs ha)
  have H2 := Lib.hid (fun W => refBlank_any s a W hs)
  have H3 := Lib.hid (fun W => hC.end_ W s hs)
  have H4 := Lib.hid (fun W => refEnd_any s W hs)
  obtain ⟨x, hx⟩ : ∃ x, blankE s a = x := ⟨_, rfl⟩
  obtain ⟨y, hy⟩ : ∃ y, endE s = y := ⟨_, rfl⟩
  rw [hx] at H1 H2
  rw [hy] at H3 H4
  clear hC hs hx hy ha
  go_enter Tryd.func5, Tryd.ntmps5
  go_wp2_with (first
    | (go_at_call 12; ((with_reducible refine (H1.out _).mono ?_); rintro e w1 ⟨rfl, hu⟩; have hU := hU.trans hu; clear hu))
    | (go_at_call 13; ((with_reducible refine (H2.out _).mono ?_); rintro e w2 ⟨rfl, rfl⟩))
    | (go_at_call 14; ((with_reducible refine (H3.out _).mono ?_); rintro e w1 ⟨rfl, hu⟩; have hU := hU.trans hu; clear hu))
    | (go_at_call 15; ((with_reducible refine (H4.out _).mono ?_); rintro e w2 ⟨rfl, rfl⟩))
    | (go_at_call 7; ((with_reducible refine (HW.out _).mono ?_); rintro e w9 ⟨rfl, hu⟩; have hU := hU.trans hu; clear hu)))
  go_ret
  exact ⟨rfl, hU⟩
end
theorem wf64v {x : Int} (h : (Lit.int .i64 x).wf = true) : I64v x := by simpa [Lit.wf, IntKind.min, IntKind.max, IntKind.signed, IntKind.bits, I64v] using h
end Go.Proofs.YtjlkdpnpkdchgaaDoor
