/- The document's close and number. -/
import Derived.Test.YtilpfngjiolmaaaDoorYRefA
namespace Go.Proofs.YtilpfngjiolmaaaDoor
open Go.RowKit

theorem clo_step {q l : List Nat} {c : Nat} (h : c ≠ 92) : clo q (c :: l) = if q.isPrefixOf (c :: l) then (q.length, 0) else ((clo q l).1 + 1, (clo q l).2) := by
  cases l with
  | nil =>
    show (if c = 92 then ((1, 1) : Nat × Nat) else if q.isPrefixOf [c] then (q.length, 0) else (1, 2)) = _
    rw [if_neg h]; rfl
  | cons d r => rw [clo, if_neg h]
theorem clo_esc {q r : List Nat} {d : Nat} : clo q (92 :: d :: r) = ((clo q r).1 + 2, (clo q r).2) := by rw [clo, if_pos rfl]
theorem clo_last {q : List Nat} : clo q [92] = (1, 1) := by rw [clo, if_pos rfl]
theorem bl_head {s : ByteArray} {p : Nat} {x : Nat} (h : p < s.size) (hx : bt s p = x) : (bl s).drop p = x :: (bl s).drop (p + 1) := by rw [bl_drop h, hx]
/-- Is a byte behind the first one of a number? -/
theorem numT_cons (sg : Bool) (a c : Nat) (r : List Nat) : numT sg a (c :: r) = if numC sg a c = true then numT sg c r + 1 else 0 := rfl
end Go.Proofs.YtilpfngjiolmaaaDoor
