/- A list of ranges that is handed in lies in a block that is there. -/
import Derived.Test.YtbgdphjjepbafaaSArg
namespace Go.Proofs.Ytbgdphjjepbafaa
open Go.ChangeShapes Go.WideShapes Go.ChangeAt Go.RowKit
theorem wf64 {a : Int} (h : (Lit.int .i64 a).wf = true) : -9223372036854775808 ≤ a ∧ a ≤ 9223372036854775807 := by
  simpa [Lit.wf, IntKind.min, IntKind.max, IntKind.signed, IntKind.bits] using h
set_option maxRecDepth 100000 in
theorem ranges_lt {r : Reach} {b0 : Nat} {w : World} {A : Option Addr} {n c : Nat} (hv : Value.okWide Try.prog w r b0 22 (.slice A n c)) : ∀ b, A = some b → b.block < w.heap.size := by
  rintro b rfl
  simp only [Value.okWide, Try.underlying22, Cell.okWide, Cell.ok] at hv
  obtain ⟨-, -, -, -, row, cells, hs, -⟩ := hv
  unfold World.shape? at hs
  rcases Nat.lt_or_ge b.block w.heap.size with h | h
  · exact h
  · rw [Array.getElem?_eq_none h] at hs
    cases hs
end Go.Proofs.Ytbgdphjjepbafaa
