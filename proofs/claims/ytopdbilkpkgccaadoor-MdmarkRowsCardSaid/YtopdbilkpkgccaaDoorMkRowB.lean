/- What MdmarkRows puts together. -/
import Derived.Test.YtopdbilkpkgccaaDoorMkReads
import Derived.Test.YtopdbilkpkgccaaDoorMkP5U
import Derived.Test.YtopdbilkpkgccaaDoorMkP5F
import Derived.Test.YtopdbilkpkgccaaDoorMkRow
namespace Go.Proofs.YtopdbilkpkgccaaDoor
open Go.RowKit

theorem conv96 (w : World) : (convert 31 9 (.slice (some ⟨w.heap.size, 0, none⟩) 1 1)).run Tryd.prog (w.alloc (.cells #[.int .u8 96] 5)) = .ok (.string ⟨#[96]⟩) (w.alloc (.cells #[.int .u8 96] 5)) := by
  exact run_convert_bytes_back (P := Tryd.prog) (w.alloc (.cells #[.int .u8 96] 5)) 31 9 5 ⟨w.heap.size, 0, none⟩ 1 [96] Tryd.underlying31 Tryd.underlying5 Tryd.underlying9 (fun j hj => by
    have : j = 0 := by simpa using hj
    subst this
    simp [Addr.add, go_sem])
def chS : ByteArray := ⟨#[42, 45, 95, 61, 126]⟩ ++ ⟨#[96]⟩
theorem chS_at (j : Nat) (hj : j < 6) : ∃ c, chS.extract j (j + 1) = ⟨#[c]⟩ ∧ c.toNat = [42, 45, 95, 61, 126, 96].getD j 0 := by
  match j, hj with
  | 0, _ => exact ⟨42, by kernel_rfl, rfl⟩
  | 1, _ => exact ⟨45, by kernel_rfl, rfl⟩
  | 2, _ => exact ⟨95, by kernel_rfl, rfl⟩
  | 3, _ => exact ⟨61, by kernel_rfl, rfl⟩
  | 4, _ => exact ⟨126, by kernel_rfl, rfl⟩
  | 5, _ => exact ⟨96, by kernel_rfl, rfl⟩
theorem bl_one (c : UInt8) : bl ⟨#[c]⟩ = [c.toNat] := rfl
theorem bl_snoc_rep {X S : ByteArray} {n c : Nat} (hX : bl X = List.replicate n c) (hS : bl S = [c]) : bl (X ++ S) = List.replicate (n + 1) c := by
  rw [bl_append, hX, hS, List.replicate_succ']
theorem bl_snoc_row {X : ByteArray} {n m c : Nat} (hX : bl X = rowS c n m) : bl (X ++ ⟨#[32]⟩) = rowS c n (m + 1) := by
  rw [bl_append, hX]
  unfold rowS
  rw [List.append_assoc, List.replicate_succ']
  rfl
end Go.Proofs.YtopdbilkpkgccaaDoor
