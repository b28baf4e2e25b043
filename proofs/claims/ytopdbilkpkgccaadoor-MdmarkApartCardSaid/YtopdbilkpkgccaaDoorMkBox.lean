/- A struct of six cells that is told, in the block of a result. -/
import Derived.Test.YtopdbilkpkgccaaDoorMkRef
namespace Go.Proofs.YtopdbilkpkgccaaDoor
open Go.RowKit

def mkA (m : Mk) : Array Value := #[.int .u8 (m.ch : Nat), .int .i64 (m.ct : Nat), .int .i64 (m.tt : Nat), .int .i64 (m.fr : Nat), .int .i64 (m.en : Nat), .int .i64 (m.la : Nat)]
def mkV (r : Mk × Bool) : Value := .tuple #[.agg (mkA r.1), .bool r.2]
theorem rest_in (s : ByteArray) (p : Nat) : restL (bl s) (p : Int) = (bl (ownB s)).drop p := by
  unfold restL
  rw [if_neg (by omega), ownB_bl]
  rfl
theorem rest_out {s : ByteArray} {a : Int} (h : outE s a = true) : restL (bl s) a = [] := by
  unfold outE at h
  rcases of_decide_eq_true h with h | h
  · unfold restL
    rw [if_pos h]
  · obtain ⟨p, rfl⟩ : ∃ p : Nat, a = (p : Int) := ⟨a.toNat, by omega⟩
    rw [rest_in]
    exact bl_end (by omega)
theorem out_in {s : ByteArray} {a : Int} (h : outE s a = false) : ∃ p : Nat, a = (p : Int) ∧ p < (ownB s).size := by
  unfold outE at h
  have := of_decide_eq_false h
  exact ⟨a.toNat, by omega, by omega⟩
/-- A struct of six cells that is stored. -/
theorem mk_box {W : World} {N : Nat} {T : TypeId} {y0 y1 y2 y3 y4 y5 : Value} (h : W.heap[N]? = some (.cells #[y0, y1, y2, y3, y4, y5] T)) (x0 x1 x2 x3 x4 x5 : Value) :
    ((((((W.setCell ⟨N, 0, none⟩ x0).setCell ⟨N, 1, none⟩ x1).setCell ⟨N, 2, none⟩ x2).setCell ⟨N, 3, none⟩ x3).setCell ⟨N, 4, none⟩ x4).setCell ⟨N, 5, none⟩ x5).heap[N]? = some (.cells #[x0, x1, x2, x3, x4, x5] T) := by
  exact heap_setCell_same _ N 5 _ _ x5 (heap_setCell_same _ N 4 _ _ x4 (heap_setCell_same _ N 3 _ _ x3 (heap_setCell_same _ N 2 _ _ x2 (heap_setCell_same _ N 1 _ _ x1 (heap_setCell_same W N 0 _ _ x0 h)))))
theorem mk_up {w W : World} {N : Nat} (hu : Up w W) (hN : w.heap.size ≤ N) (x0 x1 x2 x3 x4 x5 : Value) :
    Up w ((((((W.setCell ⟨N, 0, none⟩ x0).setCell ⟨N, 1, none⟩ x1).setCell ⟨N, 2, none⟩ x2).setCell ⟨N, 3, none⟩ x3).setCell ⟨N, 4, none⟩ x4).setCell ⟨N, 5, none⟩ x5) :=
  (((((Below.setCell hu (p := ⟨N, 0, none⟩) hN x0).setCell (p := ⟨N, 1, none⟩) hN x1).setCell (p := ⟨N, 2, none⟩) hN x2).setCell (p := ⟨N, 3, none⟩) hN x3).setCell (p := ⟨N, 4, none⟩) hN x4).setCell (p := ⟨N, 5, none⟩) hN x5
theorem mk_cells {W : World} {N : Nat} {T : TypeId} {x0 x1 x2 x3 x4 x5 : Value} (h : W.heap[N]? = some (.cells #[x0, x1, x2, x3, x4, x5] T)) :
    W.cell? ⟨N, 0, none⟩ = some x0 ∧ W.cell? ⟨N, 1, none⟩ = some x1 ∧ W.cell? ⟨N, 2, none⟩ = some x2 ∧ W.cell? ⟨N, 3, none⟩ = some x3 ∧ W.cell? ⟨N, 4, none⟩ = some x4 ∧ W.cell? ⟨N, 5, none⟩ = some x5 :=
  ⟨cellOf h rfl, cellOf h rfl, cellOf h rfl, cellOf h rfl, cellOf h rfl, cellOf h rfl⟩
theorem mk_frz {W : World} {N : Nat} {T : TypeId} {cs : Array Value} (h : W.heap[N]? = some (.cells cs T)) :
    W.frozen? ⟨N, 0, none⟩ = false ∧ W.frozen? ⟨N, 1, none⟩ = false ∧ W.frozen? ⟨N, 2, none⟩ = false ∧ W.frozen? ⟨N, 3, none⟩ = false ∧ W.frozen? ⟨N, 4, none⟩ = false ∧ W.frozen? ⟨N, 5, none⟩ = false :=
  ⟨frozenOf h, frozenOf h, frozenOf h, frozenOf h, frozenOf h, frozenOf h⟩
/-- The new block of a result: zeros. -/
structure NewM (w W : World) (T : TypeId) : Prop where
  box : W.heap[w.heap.size]? = some (.cells #[.int .u8 0, .int .i64 0, .int .i64 0, .int .i64 0, .int .i64 0, .int .i64 0] T)
  up : Up w W
theorem NewM.new (w : World) (T : TypeId) : NewM w (w.alloc (.cells #[.int .u8 0, .int .i64 0, .int .i64 0, .int .i64 0, .int .i64 0, .int .i64 0] T)) T := ⟨Go.heap_alloc_new _ _, Up.alloc _ _⟩
theorem NewM.more {w W W' : World} {T : TypeId} (h : NewM w W T) (hu : Up W W') : NewM w W' T :=
  ⟨by rw [Below.block hu _ (Array.getElem?_eq_some_iff.1 h.box).1]; exact h.box, h.up.trans hu⟩
theorem NewM.same {w W W' : World} {T : TypeId} (h : NewM w W T) (e : W = W') : NewM w W' T := e ▸ h
end Go.Proofs.YtopdbilkpkgccaaDoor
