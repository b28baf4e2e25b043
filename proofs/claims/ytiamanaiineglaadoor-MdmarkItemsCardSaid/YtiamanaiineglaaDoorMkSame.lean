/- The statements' own same; what stays of a struct that lies in a block. -/
import Derived.Test.YtiamanaiineglaaDoorMkBox
import Derived.BigQuiet
namespace Go.Proofs.YtiamanaiineglaaDoor
open Go.RowKit

def Six (W : World) (N : Nat) (x0 x1 x2 x3 x4 x5 : Value) : Prop := W.cell? ⟨N, 0, none⟩ = some x0 ∧ W.cell? ⟨N, 1, none⟩ = some x1 ∧ W.cell? ⟨N, 2, none⟩ = some x2 ∧ W.cell? ⟨N, 3, none⟩ = some x3 ∧ W.cell? ⟨N, 4, none⟩ = some x4 ∧ W.cell? ⟨N, 5, none⟩ = some x5
theorem Six.up {W W' : World} {N : Nat} {x0 x1 x2 x3 x4 x5 : Value} (h : Six W N x0 x1 x2 x3 x4 x5) (hu : Up W W') : Six W' N x0 x1 x2 x3 x4 x5 :=
  ⟨cell_up hu h.1, cell_up hu h.2.1, cell_up hu h.2.2.1, cell_up hu h.2.2.2.1, cell_up hu h.2.2.2.2.1, cell_up hu h.2.2.2.2.2⟩
theorem six_new (W : World) (T : TypeId) (x0 x1 x2 x3 x4 x5 : Value) : Six (W.alloc (.cells #[x0, x1, x2, x3, x4, x5] T)) W.heap.size x0 x1 x2 x3 x4 x5 := mk_cells (Go.heap_alloc_new _ _)
set_option maxRecDepth 100000 in
set_option maxHeartbeats 4000000 in
theorem lsame_any (m0 m1 m2 m3 m4 m5 : Nat) (B : Bool) (w : World) :
    Calls Tryd.prog 14 #[.agg #[.int .u8 (m0 : Nat), .int .i64 (m1 : Nat), .int .i64 (m2 : Nat), .int .i64 (m3 : Nat), .int .i64 (m4 : Nat), .int .i64 (m5 : Nat)], .bool B, .agg #[.int .u8 (m0 : Nat), .int .i64 (m1 : Nat), .int .i64 (m2 : Nat), .int .i64 (m3 : Nat), .int .i64 (m4 : Nat), .int .i64 (m5 : Nat)], .bool B] w fun e w' => e = .returned (.bool true) ∧ Up w w' := by
  have HU := Lib.hid ((Up.alloc w (.cells #[.int .u8 (m0 : Nat), .int .i64 (m1 : Nat), .int .i64 (m2 : Nat), .int .i64 (m3 : Nat), .int .i64 (m4 : Nat), .int .i64 (m5 : Nat)] 23)).trans (Up.alloc _ (.cells #[.int .u8 (m0 : Nat), .int .i64 (m1 : Nat), .int .i64 (m2 : Nat), .int .i64 (m3 : Nat), .int .i64 (m4 : Nat), .int .i64 (m5 : Nat)] 26)))
  have hA := (six_new w 23 (.int .u8 (m0 : Nat)) (.int .i64 (m1 : Nat)) (.int .i64 (m2 : Nat)) (.int .i64 (m3 : Nat)) (.int .i64 (m4 : Nat)) (.int .i64 (m5 : Nat))).up (Up.alloc _ (.cells #[.int .u8 (m0 : Nat), .int .i64 (m1 : Nat), .int .i64 (m2 : Nat), .int .i64 (m3 : Nat), .int .i64 (m4 : Nat), .int .i64 (m5 : Nat)] 26))
  obtain ⟨a0, a1, a2, a3, a4, a5⟩ := hA
  cases B
  all_goals
    go_enter Tryd.func14, Tryd.ntmps14
    go_wp2
    go_ret
    exact ⟨rfl, HU.out⟩
end Go.Proofs.YtiamanaiineglaaDoor
