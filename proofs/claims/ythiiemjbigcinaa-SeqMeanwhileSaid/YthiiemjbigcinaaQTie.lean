/- What is counted of a tree, and two trees tied: the program's counted and tie. -/
import Derived.Test.YthiiemjbigcinaaQKeep
import Derived.Deep.QuietTactic
import Derived.Deep.RegionHeld3
import Derived.BigQuiet
import Derived.Lib.Hide
import Derived.Laws.Rows
namespace Go.Proofs.Ythiiemjbigcinaa
open Go.RowKit

set_option maxRecDepth 100000 in
set_option maxHeartbeats 400000 in
theorem counted_nil (w : World) : Calls Try.prog 30 #[.pointer none] w fun e w' => e = .returned (.agg #[.int .i64 0, .int .i64 0, .int .i64 0]) ∧ Up w w' := by
  go_enter Try.func30, Try.ntmps30
  go_wp2
  (try simp only [Exit.inBlock, Exit.then]); refine bodyPost_ret (results_cell_row (ty := 65) rfl _ _ w.heap.size _ _ _ _ rfl (Go.heap_alloc_new _ _) Try.underlying65 rfl (by kernel_rfl)) rfl ?_
  exact ⟨rfl, Up.alloc _ _⟩
set_option maxRecDepth 100000 in
set_option maxHeartbeats 400000 in
theorem counted_node (w : World) (b : Nat) (c s d : Int) (c2 : w.cell? ⟨b, 2, none⟩ = some (.int .i64 c)) (c3 : w.cell? ⟨b, 3, none⟩ = some (.int .i64 s)) (c4 : w.cell? ⟨b, 4, none⟩ = some (.int .i64 d)) :
    Calls Try.prog 30 #[ptr b] w fun e w' => e = .returned (.agg #[.int .i64 c, .int .i64 s, .int .i64 d]) ∧ Up w w' := by
  have k2 := cell_up (Up.alloc w (.cells #[.int .i64 0, .int .i64 0, .int .i64 0] 65)) c2
  have k3 := cell_up (Up.alloc w (.cells #[.int .i64 0, .int .i64 0, .int .i64 0] 65)) c3
  have k4 := cell_up (Up.alloc w (.cells #[.int .i64 0, .int .i64 0, .int .i64 0] 65)) c4
  clear c2 c3 c4
  go_enter Try.func30, Try.ntmps30
  go_wp2
  (try simp only [Exit.inBlock, Exit.then]); refine bodyPost_ret (results_cell_row (ty := 65) rfl _ _ w.heap.size _ _ _ _ rfl (Go.heap_alloc_new _ _) Try.underlying65 rfl (by kernel_rfl)) rfl ?_
  exact ⟨rfl, Up.alloc _ _⟩
theorem counted_any {G : Nat → Prop} {w : World} {t : QT} {v : Value} (h : Tr G w t v) : Calls Try.prog 30 #[v] w fun e w' => e = .returned (cnv t) ∧ Up w w' := by
  cases t with
  | nil =>
    obtain rfl : v = .pointer none := h
    exact counted_nil w
  | node l x r =>
    obtain ⟨b, vl, vr, rfl, -, hc, -, -⟩ := h
    exact counted_node w b _ _ _ (cellOf hc rfl) (cellOf hc rfl) (cellOf hc rfl)
end Go.Proofs.Ythiiemjbigcinaa
