/- The statements' own same; what stays of a struct that lies in a block. -/
import Derived.Test.YtopdbilkpkgccaaDoorMkBox
import Derived.BigQuiet
namespace Go.Proofs.YtopdbilkpkgccaaDoor
open Go.RowKit

def Six (W : World) (N : Nat) (x0 x1 x2 x3 x4 x5 : Value) : Prop := W.cell? ⟨N, 0, none⟩ = some x0 ∧ W.cell? ⟨N, 1, none⟩ = some x1 ∧ W.cell? ⟨N, 2, none⟩ = some x2 ∧ W.cell? ⟨N, 3, none⟩ = some x3 ∧ W.cell? ⟨N, 4, none⟩ = some x4 ∧ W.cell? ⟨N, 5, none⟩ = some x5
theorem Six.up {W W' : World} {N : Nat} {x0 x1 x2 x3 x4 x5 : Value} (h : Six W N x0 x1 x2 x3 x4 x5) (hu : Up W W') : Six W' N x0 x1 x2 x3 x4 x5 :=
  ⟨cell_up hu h.1, cell_up hu h.2.1, cell_up hu h.2.2.1, cell_up hu h.2.2.2.1, cell_up hu h.2.2.2.2.1, cell_up hu h.2.2.2.2.2⟩
theorem six_new (W : World) (T : TypeId) (x0 x1 x2 x3 x4 x5 : Value) : Six (W.alloc (.cells #[x0, x1, x2, x3, x4, x5] T)) W.heap.size x0 x1 x2 x3 x4 x5 := mk_cells (Go.heap_alloc_new _ _)
end Go.Proofs.YtopdbilkpkgccaaDoor
