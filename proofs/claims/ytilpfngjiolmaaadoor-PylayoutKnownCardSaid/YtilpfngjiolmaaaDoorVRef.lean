/- The document's May, Take, Indent. -/
import Derived.Test.YtilpfngjiolmaaaDoorVMath2
import Derived.Deep.LoopGhost
import Derived.Deep.QuietTactic
import Derived.Lib.Hide
namespace Go.Proofs.YtilpfngjiolmaaaDoor
open Go.RowKit

abbrev I64v (x : Int) : Prop := -9223372036854775808 ≤ x ∧ x ≤ 9223372036854775807
theorem goF_zero {s : ByteArray} {size e c : Int} {p : Nat} (h : s.size ≤ p) : goF s size e (s.size - p) p c = (p, c) := by
  rw [show s.size - p = 0 from by omega]
  rfl
theorem goF_step {s : ByteArray} {size e c d : Int} {p : Nat} (h : p < s.size) (hn : nxC (bt s p) c size = some d) (he : ¬ e < d) : goF s size e (s.size - p) p c = goF s size e (s.size - (p + 1)) (p + 1) d := by
  rw [show s.size - p = (s.size - (p + 1)) + 1 from by omega]
  show (match nxC (bt s p) c size with | none => (p, c) | some d => if e < d then (p, c) else goF s size e (s.size - (p + 1)) (p + 1) d) = _
  rw [hn]
  dsimp only
  rw [if_neg he]
theorem goF_over {s : ByteArray} {size e c d : Int} {p : Nat} (h : p < s.size) (hn : nxC (bt s p) c size = some d) (he : e < d) : goF s size e (s.size - p) p c = (p, c) := by
  rw [show s.size - p = (s.size - (p + 1)) + 1 from by omega]
  show (match nxC (bt s p) c size with | none => (p, c) | some d => if e < d then (p, c) else goF s size e (s.size - (p + 1)) (p + 1) d) = _
  rw [hn]
  dsimp only
  rw [if_pos he]
theorem nxC_sp {x : Nat} {c size : Int} (h : x = 32) : nxC x c size = some (c + 1) := by unfold nxC; rw [if_pos h]
theorem nxC_tb {x : Nat} {c size : Int} (h : x = 9) : nxC x c size = some ((c / size + 1) * size) := by unfold nxC; rw [if_neg (by omega), if_pos h]
end Go.Proofs.YtilpfngjiolmaaaDoor
