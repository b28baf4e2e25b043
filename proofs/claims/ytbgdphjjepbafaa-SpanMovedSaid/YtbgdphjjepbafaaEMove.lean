/- Where a place goes: the program's Move and the document's. -/
import Derived.Test.YtbgdphjjepbafaaEMath
namespace Go.Proofs.Ytbgdphjjepbafaa
open Go.RowKit

def bnd (a : Int × Int × ByteArray) : Bool := decide (0 ≤ a.1 ∧ a.1 ≤ 1048576 ∧ 0 ≤ a.2.1 ∧ a.2.1 ≤ 1048576 ∧ (a.2.2.size : Int) ≤ 1048576)

set_option maxRecDepth 100000 in
set_option maxHeartbeats 1000000 in
theorem bounded_any (a : Int × Int × ByteArray) (w : World) : Calls Try.prog 38 #[edV a] w fun e w' => e = .returned (.bool (bnd a)) ∧ Up w w' := by
  obtain ⟨p, d, x⟩ := a
  obtain ⟨z, hz⟩ : ∃ z : Int, (x.size : Int) = z := ⟨_, rfl⟩
  have hx0 : 0 ≤ z := by omega
  have hu : Up w (edW w (p, d, x)) := Up.alloc w _
  have HU := Lib.hid hu
  clear hu
  unfold edW at HU
  have hE : bnd (p, d, x) = decide (0 ≤ p ∧ p ≤ 1048576 ∧ 0 ≤ d ∧ d ≤ 1048576 ∧ z ≤ 1048576) := by unfold bnd; rw [← hz]
  rw [hE]
  clear hE
  unfold edV
  by_cases h0 : 0 ≤ p
  case neg =>
    have g0 : decide (0 ≤ p) = false := decide_eq_false h0
    rw [decide_eq_false (show ¬ _ by omega)]
    clear hx0 h0 
    go_enter Try.func38, Try.ntmps38
    go_wp2
    go_ret
    exact ⟨rfl, HU.out⟩
  have f0 : decide (0 ≤ p) = true := decide_eq_true h0
  by_cases h1 : p ≤ 1048576
  case neg =>
    have g1 : decide (p ≤ 1048576) = false := decide_eq_false h1
    rw [decide_eq_false (show ¬ _ by omega)]
    clear hx0 h1 h0
    go_enter Try.func38, Try.ntmps38
    go_wp2
    go_ret
    exact ⟨rfl, HU.out⟩
  have f1 : decide (p ≤ 1048576) = true := decide_eq_true h1
  by_cases h2 : 0 ≤ d
  case neg =>
    have g2 : decide (0 ≤ d) = false := decide_eq_false h2
    rw [decide_eq_false (show ¬ _ by omega)]
    clear hx0 h2 h0 h1
    go_enter Try.func38, Try.ntmps38
    go_wp2
    go_ret
    exact ⟨rfl, HU.out⟩
  have f2 : decide (0 ≤ d) = true := decide_eq_true h2
  by_cases h3 : d ≤ 1048576
  case neg =>
    have g3 : decide (d ≤ 1048576) = false := decide_eq_false h3
    rw [decide_eq_false (show ¬ _ by omega)]
    clear hx0 h3 h0 h1 h2
    go_enter Try.func38, Try.ntmps38
    go_wp2
    go_ret
    exact ⟨rfl, HU.out⟩
  have f3 : decide (d ≤ 1048576) = true := decide_eq_true h3
  by_cases h4 : z ≤ 1048576
  case neg =>
    have g4 : decide (z ≤ 1048576) = false := decide_eq_false h4
    rw [decide_eq_false (show ¬ _ by omega)]
    clear hx0 h4 h0 h1 h2 h3
    go_enter Try.func38, Try.ntmps38
    go_wp2
    go_ret
    exact ⟨rfl, HU.out⟩
  have f4 : decide (z ≤ 1048576) = true := decide_eq_true h4
  rw [decide_eq_true (show _ by omega)]
  clear hx0 h0 h1 h2 h3 h4
  go_enter Try.func38, Try.ntmps38
  go_wp2
  go_ret
  exact ⟨rfl, HU.out⟩
set_option maxRecDepth 100000 in
theorem edW_cells (w : World) (a : Int × Int × ByteArray) : (edW w a).cell? ⟨w.heap.size, 0, none⟩ = some (.int .i64 a.1) ∧ (edW w a).cell? ⟨w.heap.size, 1, none⟩ = some (.int .i64 a.2.1) ∧ (edW w a).cell? ⟨w.heap.size, 2, none⟩ = some (.string a.2.2) := ⟨cellOf (Go.heap_alloc_new _ _) rfl, cellOf (Go.heap_alloc_new _ _) rfl, cellOf (Go.heap_alloc_new _ _) rfl⟩
set_option maxRecDepth 100000 in
set_option maxHeartbeats 1000000 in
theorem move_any (a : Int × Int × ByteArray) (i : Int) (hi : -9223372036854775808 ≤ i ∧ i ≤ 9223372036854775807) (w : World) : Calls Try.prog 24 #[edV a, .int .i64 i] w fun e w' => e = .returned (.int .i64 (mvP a i)) ∧ Up w w' := by
  have hB := bounded_any a (edW w a)
  have hC := edW_cells w a
  obtain ⟨B, hBb⟩ : ∃ B : Bool, bnd a = B := ⟨_, rfl⟩
  rw [hBb] at hB
  unfold edW at hB hC
  obtain ⟨p, d, x⟩ := a
  obtain ⟨z, hz⟩ : ∃ z : Int, (x.size : Int) = z := ⟨_, rfl⟩
  have hx0 : 0 ≤ z := by omega
  have hu : Up w (edW w (p, d, x)) := Up.alloc w _
  have HU := Lib.hid hu
  clear hu
  unfold edW at HU
  unfold edV at hB
  dsimp only at hB hC
  have HB := Lib.hid hB
  have C := Lib.hid hC
  clear hB hC
  have hE : mvP (p, d, x) i = if p < 0 ∨ 1048576 < p ∨ d < 0 ∨ 1048576 < d ∨ 1048576 < z ∨ i < 0 ∨ 1099511627776 < i ∨ i < p then i else if i < p + d then p + z else i - d + z := by unfold mvP; rw [← hz]
  rw [hE]
  clear hE
  have hBd : B = decide (0 ≤ p ∧ p ≤ 1048576 ∧ 0 ≤ d ∧ d ≤ 1048576 ∧ z ≤ 1048576) := by rw [← hBb]; unfold bnd; rw [← hz]
  clear hBb
  unfold edV
  cases B with
  | false =>
    have hb := of_decide_eq_false hBd.symm
    rw [if_pos (by omega)]
    clear hb hBd hx0 hi
    go_enter Try.func24, Try.ntmps24
    go_wp2_with (go_at_call 38; ((with_reducible refine HB.out.mono ?_); rintro e w1 ⟨rfl, hu1⟩; have HU := Lib.hid (HU.out.trans hu1); have c0 := cell_up hu1 C.out.1; have c1 := cell_up hu1 C.out.2.1; have c2 := cell_up hu1 C.out.2.2; clear hu1))
    go_ret
    exact ⟨rfl, HU.out⟩
  | true =>
    have hb := of_decide_eq_true hBd.symm
    clear hBd
    by_cases h0 : 1099511627776 < i
    · rw [if_pos (by omega)]
      clear hb hx0 hi
      go_enter Try.func24, Try.ntmps24
      go_wp2_with (go_at_call 38; ((with_reducible refine HB.out.mono ?_); rintro e w1 ⟨rfl, hu1⟩; have HU := Lib.hid (HU.out.trans hu1); have c0 := cell_up hu1 C.out.1; have c1 := cell_up hu1 C.out.2.1; have c2 := cell_up hu1 C.out.2.2; clear hu1))
      go_ret
      exact ⟨rfl, HU.out⟩
    have f0 : decide (1099511627776 < i) = false := decide_eq_false h0
    by_cases h1 : i < p
    · rw [if_pos (by omega)]
      clear hb hx0 hi h0
      go_enter Try.func24, Try.ntmps24
      go_wp2_with (go_at_call 38; ((with_reducible refine HB.out.mono ?_); rintro e w1 ⟨rfl, hu1⟩; have HU := Lib.hid (HU.out.trans hu1); have c0 := cell_up hu1 C.out.1; have c1 := cell_up hu1 C.out.2.1; have c2 := cell_up hu1 C.out.2.2; clear hu1))
      go_ret
      exact ⟨rfl, HU.out⟩
    have f1 : decide (i < p) = false := decide_eq_false h1
    rw [if_neg (by omega)]
    have e0 : IntKind.i64.wrap (p + d) = p + d := IntWalk.i64_in _ (by omega)
    have e1 : IntKind.i64.wrap (p + z) = p + z := IntWalk.i64_in _ (by omega)
    have e2 : IntKind.i64.wrap (i - d) = i - d := IntWalk.i64_in _ (by omega)
    have e3 : IntKind.i64.wrap (i - d + z) = i - d + z := IntWalk.i64_in _ (by omega)
    by_cases h2 : i < p + d
    · rw [if_pos h2]
      clear hb hx0 hi h0 h1
      go_enter Try.func24, Try.ntmps24
      go_wp2_with (go_at_call 38; ((with_reducible refine HB.out.mono ?_); rintro e w1 ⟨rfl, hu1⟩; have HU := Lib.hid (HU.out.trans hu1); have c0 := cell_up hu1 C.out.1; have c1 := cell_up hu1 C.out.2.1; have c2 := cell_up hu1 C.out.2.2; clear hu1))
      go_ret
      exact ⟨rfl, HU.out⟩
    · rw [if_neg h2]
      have f2 : decide (i < p + d) = false := decide_eq_false h2
      clear hb hx0 hi h0 h1 h2
      go_enter Try.func24, Try.ntmps24
      go_wp2_with (go_at_call 38; ((with_reducible refine HB.out.mono ?_); rintro e w1 ⟨rfl, hu1⟩; have HU := Lib.hid (HU.out.trans hu1); have c0 := cell_up hu1 C.out.1; have c1 := cell_up hu1 C.out.2.1; have c2 := cell_up hu1 C.out.2.2; clear hu1))
      go_ret
      exact ⟨rfl, HU.out⟩
set_option maxRecDepth 100000 in
set_option maxHeartbeats 1000000 in
theorem refMove_any (a : Int × Int × ByteArray) (i : Int) (hi : -9223372036854775808 ≤ i ∧ i ≤ 9223372036854775807) (w : World) : Calls Try.prog 37 #[edV a, .int .i64 i] w fun e w' => e = .returned (.int .i64 (mvP a i)) ∧ Up w w' := by
  obtain ⟨p, d, x⟩ := a
  obtain ⟨z, hz⟩ : ∃ z : Int, (x.size : Int) = z := ⟨_, rfl⟩
  have hx0 : 0 ≤ z := by omega
  have hu : Up w (edW w (p, d, x)) := Up.alloc w _
  have HU := Lib.hid hu
  clear hu
  unfold edW at HU
  have hE : mvP (p, d, x) i = if p < 0 ∨ 1048576 < p ∨ d < 0 ∨ 1048576 < d ∨ 1048576 < z ∨ i < 0 ∨ 1099511627776 < i ∨ i < p then i else if i < p + d then p + z else i - d + z := by unfold mvP; rw [← hz]
  rw [hE]
  clear hE
  unfold edV
  by_cases h0 : p < 0
  · rw [if_pos (by omega)]
    clear hx0 hi 
    go_enter Try.func37, Try.ntmps37
    go_wp2
    go_ret
    exact ⟨rfl, HU.out⟩
  have f0 : decide (p < 0) = false := decide_eq_false h0
  by_cases h1 : 1048576 < p
  · rw [if_pos (by omega)]
    clear hx0 hi h0
    go_enter Try.func37, Try.ntmps37
    go_wp2
    go_ret
    exact ⟨rfl, HU.out⟩
  have f1 : decide (1048576 < p) = false := decide_eq_false h1
  by_cases h2 : d < 0
  · rw [if_pos (by omega)]
    clear hx0 hi h0 h1
    go_enter Try.func37, Try.ntmps37
    go_wp2
    go_ret
    exact ⟨rfl, HU.out⟩
  have f2 : decide (d < 0) = false := decide_eq_false h2
  by_cases h3 : 1048576 < d
  · rw [if_pos (by omega)]
    clear hx0 hi h0 h1 h2
    go_enter Try.func37, Try.ntmps37
    go_wp2
    go_ret
    exact ⟨rfl, HU.out⟩
  have f3 : decide (1048576 < d) = false := decide_eq_false h3
  by_cases h4 : 1048576 < z
  · rw [if_pos (by omega)]
    clear hx0 hi h0 h1 h2 h3
    go_enter Try.func37, Try.ntmps37
    go_wp2
    go_ret
    exact ⟨rfl, HU.out⟩
  have f4 : decide (1048576 < z) = false := decide_eq_false h4
  by_cases h5 : i < 0
  · rw [if_pos (by omega)]
    clear hx0 hi h0 h1 h2 h3 h4
    go_enter Try.func37, Try.ntmps37
    go_wp2
    go_ret
    exact ⟨rfl, HU.out⟩
  have f5 : decide (i < 0) = false := decide_eq_false h5
  by_cases h6 : 1099511627776 < i
  · rw [if_pos (by omega)]
    clear hx0 hi h0 h1 h2 h3 h4 h5
    go_enter Try.func37, Try.ntmps37
    go_wp2
    go_ret
    exact ⟨rfl, HU.out⟩
  have f6 : decide (1099511627776 < i) = false := decide_eq_false h6
  by_cases h7 : i < p
  · rw [if_pos (by omega)]
    clear hx0 hi h0 h1 h2 h3 h4 h5 h6
    go_enter Try.func37, Try.ntmps37
    go_wp2
    go_ret
    exact ⟨rfl, HU.out⟩
  have f7 : decide (i < p) = false := decide_eq_false h7
  rw [if_neg (by omega)]
  have e0 : IntKind.i64.wrap (p + d) = p + d := IntWalk.i64_in _ (by omega)
  have e1 : IntKind.i64.wrap (p + z) = p + z := IntWalk.i64_in _ (by omega)
  have e2 : IntKind.i64.wrap (i - d) = i - d := IntWalk.i64_in _ (by omega)
  have e3 : IntKind.i64.wrap (i - d + z) = i - d + z := IntWalk.i64_in _ (by omega)
  by_cases h8 : i < p + d
  · rw [if_pos h8]
    clear hx0 hi h0 h1 h2 h3 h4 h5 h6 h7
    go_enter Try.func37, Try.ntmps37
    go_wp2
    go_ret
    exact ⟨rfl, HU.out⟩
  · rw [if_neg h8]
    have f8 : decide (i < p + d) = false := decide_eq_false h8
    clear hx0 hi h0 h1 h2 h3 h4 h5 h6 h7 h8
    go_enter Try.func37, Try.ntmps37
    go_wp2
    go_ret
    exact ⟨rfl, HU.out⟩
end Go.Proofs.Ytbgdphjjepbafaa
