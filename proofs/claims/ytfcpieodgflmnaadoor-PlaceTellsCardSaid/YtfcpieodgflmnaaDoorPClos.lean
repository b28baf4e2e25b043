/- The closures of Of and Offset. -/
import Derived.Test.YtfcpieodgflmnaaDoorPCount
namespace Go.Proofs.YtfcpieodgflmnaaDoor
open Go.RowKit

theorem ret_ib {k : IntKind} {a a' : Int} {b b' : Bool} (h : a = a') (g : b = b') : Ending.returned (.tuple #[.int k a, .bool b]) = .returned (.tuple #[.int k a', .bool b']) := by rw [h, g]
theorem ret_ii {k l : IntKind} {a a' b b' : Int} (h : a = a') (g : b = b') : Ending.returned (.tuple #[.int k a, .int l b]) = .returned (.tuple #[.int k a', .int l b']) := by rw [h, g]
set_option maxRecDepth 100000 in
set_option maxHeartbeats 1000000 in
theorem of1_any (w : World) (pb : Nat) (i x y : Int) (hc : w.cell? ⟨pb, 0, none⟩ = some (.int .i64 i)) (hi : 0 ≤ i ∧ i ≤ 1048576) (hx : 0 ≤ x ∧ x ≤ 1048576) :
    Calls Tryd.prog 21 #[.agg #[.int .i64 x, .int .i64 y], .pointer (some ⟨pb, 0, none⟩)] w fun e w' => e = .returned (.int .i64 (i - x)) ∧ Up w w' := by
  have hu := Up.alloc w (.cells #[.int .i64 x, .int .i64 y] 50)
  have c0 := cell_up hu hc
  obtain ⟨c1, c2, -⟩ := rg_cells w x y
  have HU := Lib.hid hu
  clear hc hu
  go_enter Tryd.func21, Tryd.ntmps21
  go_wp2
  go_ret
  exact ⟨rfl, HU.out⟩
set_option maxRecDepth 100000 in
set_option maxHeartbeats 1000000 in
theorem off1_any (w : World) (pb : Nat) (c x y : Int) (hc : w.cell? ⟨pb, 0, none⟩ = some (.int .i64 c)) (hx : 0 ≤ x ∧ x ≤ 1048576) (hy : 0 ≤ y ∧ y ≤ 1048576) :
    Calls Tryd.prog 23 #[.agg #[.int .i64 x, .int .i64 y], .pointer (some ⟨pb, 0, none⟩)] w fun e w' => e = .returned (.tuple #[.int .i64 c, .bool (decide (0 ≤ c) && decide (c ≤ y - x))]) ∧ Up w w' := by
  have hu := Up.alloc w (.cells #[.int .i64 x, .int .i64 y] 50)
  have c0 := cell_up hu hc
  obtain ⟨c1, c2, -⟩ := rg_cells w x y
  have HU := Lib.hid hu
  clear hc hu
  by_cases h : 0 ≤ c
  · have hd : decide (0 ≤ c) = true := decide_eq_true h
    clear h
    go_enter Tryd.func23, Tryd.ntmps23
    go_wp2
    go_quiet (fail)
    go_wp2
    go_ret2
    exact ⟨ret_ib rfl (by rw [hd, Bool.true_and]), HU.out.trans (Up.drewN _ _)⟩
  · have hd : decide (0 ≤ c) = false := decide_eq_false h
    clear h
    go_enter Tryd.func23, Tryd.ntmps23
    go_wp2
    go_quiet (fail)
    go_wp2
    go_ret2
    exact ⟨ret_ib rfl (by rw [hd, Bool.false_and]), HU.out.trans (Up.drewN _ _)⟩
end Go.Proofs.YtfcpieodgflmnaaDoor
