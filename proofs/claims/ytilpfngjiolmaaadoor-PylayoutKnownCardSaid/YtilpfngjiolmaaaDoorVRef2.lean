/- The document's Blank and End. -/
import Derived.Test.YtilpfngjiolmaaaDoorBase
import Derived.Deep.LoopGhost
import Derived.Deep.QuietTactic
import Derived.Lib.Hide
namespace Go.Proofs.YtilpfngjiolmaaaDoor
open Go.RowKit

def wh (b : Nat) : Bool := decide ((9 ≤ b ∧ b ≤ 13) ∨ b = 32)
/-- Nothing but blanks stands from p on. -/
def blF (s : ByteArray) : Nat → Nat → Bool
  | 0, _ => true
  | f + 1, p => if wh (bt s p) = true then blF s f (p + 1) else false
def blankE (s : ByteArray) (a : Int) : Bool := if 0 ≤ a ∧ a ≤ s.size then blF s (s.size - a.toNat) a.toNat else false
def endE (s : ByteArray) : Nat := if s.size = 0 ∨ bt s (s.size - 1) ≠ 10 then s.size else if 1 < s.size ∧ bt s (s.size - 2) = 13 then s.size - 2 else s.size - 1
theorem blF_zero {s : ByteArray} {p : Nat} (h : s.size ≤ p) : blF s (s.size - p) p = true := by
  rw [show s.size - p = 0 from by omega]
  rfl
theorem blF_step {s : ByteArray} {p : Nat} (h : p < s.size) : blF s (s.size - p) p = if wh (bt s p) = true then blF s (s.size - (p + 1)) (p + 1) else false := by
  rw [show s.size - p = (s.size - (p + 1)) + 1 from by omega]
  rfl
end Go.Proofs.YtilpfngjiolmaaaDoor
