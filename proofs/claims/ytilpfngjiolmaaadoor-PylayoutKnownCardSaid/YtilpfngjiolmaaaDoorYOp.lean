/- The document's operator. -/
import Derived.Test.YtilpfngjiolmaaaDoorYLow
namespace Go.Proofs.YtilpfngjiolmaaaDoor
open Go.RowKit

def op3B : List ByteArray := [⟨#[42, 42, 61]⟩, ⟨#[47, 47, 61]⟩, ⟨#[62, 62, 61]⟩, ⟨#[60, 60, 61]⟩, ⟨#[46, 46, 46]⟩]
def op2B : List ByteArray := [⟨#[42, 42]⟩, ⟨#[47, 47]⟩, ⟨#[62, 62]⟩, ⟨#[60, 60]⟩, ⟨#[60, 61]⟩, ⟨#[62, 61]⟩, ⟨#[61, 61]⟩, ⟨#[33, 61]⟩, ⟨#[45, 62]⟩, ⟨#[43, 61]⟩, ⟨#[45, 61]⟩, ⟨#[42, 61]⟩, ⟨#[47, 61]⟩, ⟨#[37, 61]⟩, ⟨#[38, 61]⟩, ⟨#[124, 61]⟩, ⟨#[94, 61]⟩, ⟨#[64, 61]⟩, ⟨#[58, 61]⟩]
def op1B : ByteArray := ⟨#[43, 45, 42, 47, 37, 64, 38, 124, 94, 126, 60, 62, 40, 41, 91, 93, 123, 125, 44, 58, 46, 59, 61]⟩
theorem op3B_bl : op3B.map bl = op3 := rfl
theorem op2B_bl : op2B.map bl = op2 := rfl
theorem op1B_bl : bl op1B = op1 := rfl
theorem drop_map {L : List ByteArray} {j : Nat} (h : j < L.length) : (L.map bl).drop j = bl (L[j]) :: (L.map bl).drop (j + 1) := by
  rw [List.drop_eq_getElem_cons (by rw [List.length_map]; exact h), List.getElem_map]
theorem strs_cell (w : World) (T : TypeId) (L : List ByteArray) {j : Nat} (h : j < L.length) : (w.alloc (.cells (L.map Value.string).toArray T)).cell? ⟨w.heap.size, j, none⟩ = some (.string L[j]) := by
  refine cellOf (Go.heap_alloc_new w _) ?_
  simp [h]
theorem op3B_le : ∀ p ∈ op3B, p.size ≤ 3 := by decide
theorem op2B_le : ∀ p ∈ op2B, p.size ≤ 3 := by decide
theorem any_cons (p : List Nat) (ps : List (List Nat)) (l : List Nat) : (p :: ps).any (·.isPrefixOf l) = (p.isPrefixOf l || ps.any (·.isPrefixOf l)) := rfl
theorem one_pre (c x : Nat) (l : List Nat) : [c].isPrefixOf (x :: l) = (x == c) := by
  rw [Bool.eq_iff_iff]
  simp [List.isPrefixOf]
  exact eq_comm
end Go.Proofs.YtilpfngjiolmaaaDoor
