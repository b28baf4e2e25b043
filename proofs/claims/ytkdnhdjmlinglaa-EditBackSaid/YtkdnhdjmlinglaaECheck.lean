/- Whether an edit may be: the program's Check and the document's. -/
import Derived.Test.YtkdnhdjmlinglaaEMath
namespace Go.Proofs.Ytkdnhdjmlinglaa
open Go.RowKit

/-- Where an edit that is handed to a call lies: in a block of the call's own. -/
def edW (w : World) (a : Int × Int × ByteArray) : World := w.alloc (.cells #[.int .i64 a.1, .int .i64 a.2.1, .string a.2.2] 23)

set_option maxRecDepth 100000 in
set_option maxHeartbeats 1000000 in
theorem check_any (n : Int) (a : Int × Int × ByteArray) (hn : -9223372036854775808 ≤ n ∧ n ≤ 9223372036854775807) (hx : a.2.2.size ≤ 9223372036854775807) (w : World) :
    Calls Try.prog 11 #[.int .i64 n, edV a] w fun e w' => e = .returned (.int .i64 (edErr n a)) ∧ Up w w' := by
  obtain ⟨p, d, x⟩ := a
  obtain ⟨z, hz⟩ : ∃ z : Int, (x.size : Int) = z := ⟨_, rfl⟩
  have hx0 : 0 ≤ z ∧ z ≤ 9223372036854775807 := ⟨by omega, by have : x.size ≤ 9223372036854775807 := hx; omega⟩
  have hu : Up w (edW w (p, d, x)) := Up.alloc w _
  have HU := Lib.hid hu
  clear hu hx
  unfold edW at HU
  have hE : edErr n (p, d, x) = if p < 0 ∨ d < 0 ∨ n < p ∨ n - p < d then 5 else if 1048576 < n - d + z then 2 else 0 := by unfold edErr; rw [hz]
  rw [hE]
  clear hE
  unfold edV
  by_cases h0 : p < 0
  · rw [if_pos (.inl h0)]
    · clear hx0 hn
      go_enter Try.func11, Try.ntmps11
      go_wp2
      go_ret
      exact ⟨rfl, HU.out⟩
  have f0 : decide (p < 0) = false := decide_eq_false h0
  by_cases h1 : d < 0
  · rw [if_pos (.inr (.inl h1))]
    · clear hx0 hn h0
      go_enter Try.func11, Try.ntmps11
      go_wp2
      go_ret
      exact ⟨rfl, HU.out⟩
  have f1 : decide (d < 0) = false := decide_eq_false h1
  by_cases h2 : n < p
  · rw [if_pos (.inr (.inr (.inl h2)))]
    · clear hx0 hn h0 h1
      go_enter Try.func11, Try.ntmps11
      go_wp2
      go_ret
      exact ⟨rfl, HU.out⟩
  have f2 : decide (n < p) = false := decide_eq_false h2
  have e0 : IntKind.i64.wrap (n - p) = n - p := IntWalk.i64_in _ (by omega)
  by_cases h3 : n - p < d
  · rw [if_pos (.inr (.inr (.inr h3)))]
    · clear hx0 hn h0 h1 h2
      go_enter Try.func11, Try.ntmps11
      go_wp2
      go_ret
      exact ⟨rfl, HU.out⟩
  have f3 : decide (n - p < d) = false := decide_eq_false h3
  have e1 : IntKind.i64.wrap (n - d) = n - d := IntWalk.i64_in _ (by omega)
  have e2 : IntKind.i64.wrap (1048576 - (n - d)) = 1048576 - (n - d) := IntWalk.i64_in _ (by omega)
  have e3 : IntKind.i64.wrap (1048576 - z) = 1048576 - z := IntWalk.i64_in _ (by omega)
  rw [if_neg (by omega)]

  by_cases h4 : 1048576 < n - d + z
  · rw [if_pos h4]
    have f4 : decide (1048576 - (n - d) < z) = true := decide_eq_true (by omega)
    · clear hx0 hn h0 h1 h2 h3 h4
      go_enter Try.func11, Try.ntmps11
      go_wp2
      go_ret
      exact ⟨rfl, HU.out⟩
  · rw [if_neg h4]
    have f4 : decide (1048576 - (n - d) < z) = false := decide_eq_false (by omega)
    · clear hx0 hn h0 h1 h2 h3 h4
      go_enter Try.func11, Try.ntmps11
      go_wp2
      go_ret
      exact ⟨rfl, HU.out⟩

set_option maxRecDepth 100000 in
set_option maxHeartbeats 1000000 in
theorem refCheck_any (n : Int) (a : Int × Int × ByteArray) (hn : -9223372036854775808 ≤ n ∧ n ≤ 9223372036854775807) (hx : a.2.2.size ≤ 9223372036854775807) (w : World) :
    Calls Try.prog 12 #[.int .i64 n, edV a] w fun e w' => e = .returned (.int .i64 (edErr n a)) ∧ Up w w' := by
  obtain ⟨p, d, x⟩ := a
  obtain ⟨z, hz⟩ : ∃ z : Int, (x.size : Int) = z := ⟨_, rfl⟩
  have hx0 : 0 ≤ z ∧ z ≤ 9223372036854775807 := ⟨by omega, by have : x.size ≤ 9223372036854775807 := hx; omega⟩
  have hu : Up w (edW w (p, d, x)) := Up.alloc w _
  have HU := Lib.hid hu
  clear hu hx
  unfold edW at HU
  have hE : edErr n (p, d, x) = if p < 0 ∨ d < 0 ∨ n < p ∨ n - p < d then 5 else if 1048576 < n - d + z then 2 else 0 := by unfold edErr; rw [hz]
  rw [hE]
  clear hE
  unfold edV
  by_cases h0 : p < 0
  · rw [if_pos (.inl h0)]
    · clear hx0 hn
      go_enter Try.func12, Try.ntmps12
      go_wp2
      go_ret
      exact ⟨rfl, HU.out⟩
  have f0 : decide (p < 0) = false := decide_eq_false h0
  by_cases h1 : d < 0
  · rw [if_pos (.inr (.inl h1))]
    · clear hx0 hn h0
      go_enter Try.func12, Try.ntmps12
      go_wp2
      go_ret
      exact ⟨rfl, HU.out⟩
  have f1 : decide (d < 0) = false := decide_eq_false h1
  by_cases h2 : n < p
  · rw [if_pos (.inr (.inr (.inl h2)))]
    · clear hx0 hn h0 h1
      go_enter Try.func12, Try.ntmps12
      go_wp2
      go_ret
      exact ⟨rfl, HU.out⟩
  have f2 : decide (n < p) = false := decide_eq_false h2
  have e0 : IntKind.i64.wrap (n - p) = n - p := IntWalk.i64_in _ (by omega)
  by_cases h3 : n - p < d
  · rw [if_pos (.inr (.inr (.inr h3)))]
    · clear hx0 hn h0 h1 h2
      go_enter Try.func12, Try.ntmps12
      go_wp2
      go_ret
      exact ⟨rfl, HU.out⟩
  have f3 : decide (n - p < d) = false := decide_eq_false h3
  have e1 : IntKind.i64.wrap (n - d) = n - d := IntWalk.i64_in _ (by omega)
  have e2 : IntKind.i64.wrap (1048576 - (n - d)) = 1048576 - (n - d) := IntWalk.i64_in _ (by omega)
  have e3 : IntKind.i64.wrap (1048576 - z) = 1048576 - z := IntWalk.i64_in _ (by omega)
  rw [if_neg (by omega)]

  by_cases h4 : 1048576 < z
  · rw [if_pos (by omega)]
    have f4 : decide (1048576 < z) = true := decide_eq_true h4
    · clear hx0 hn h0 h1 h2 h3 h4
      go_enter Try.func12, Try.ntmps12
      go_wp2
      go_ret
      exact ⟨rfl, HU.out⟩
  have f4 : decide (1048576 < z) = false := decide_eq_false h4
  by_cases h5 : 1048576 < n - d + z
  · rw [if_pos h5]
    have f5 : decide (1048576 - z < n - d) = true := decide_eq_true (by omega)
    · clear hx0 hn h0 h1 h2 h3 h4 h5
      go_enter Try.func12, Try.ntmps12
      go_wp2
      go_ret
      exact ⟨rfl, HU.out⟩
  · rw [if_neg h5]
    have f5 : decide (1048576 - z < n - d) = false := decide_eq_false (by omega)
    · clear hx0 hn h0 h1 h2 h3 h4 h5
      go_enter Try.func12, Try.ntmps12
      go_wp2
      go_ret
      exact ⟨rfl, HU.out⟩

end Go.Proofs.Ytkdnhdjmlinglaa
