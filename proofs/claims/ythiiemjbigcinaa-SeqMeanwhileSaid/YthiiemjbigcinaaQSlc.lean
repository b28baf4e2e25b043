/- Slices taken: how the operation runs. -/
import Derived.Test.YthiiemjbigcinaaQCut
namespace Go.Proofs.Ythiiemjbigcinaa
open Go.RowKit

theorem slc_lo_s (ab ao k c h : Nat) (hh : h ≤ c) (hc : ¬ c = 0) (W : World) : (Instr.slice 22 (.slice (some ⟨ab, ao, none⟩) k c) none (some (.int .i64 (h : Nat))) none).run Try.prog W = .ok (.slice (some ⟨ab, ao, none⟩) h c) W := by
  unfold Instr.slice
  rw [Sem.run_bind, run_underlying Try.underlying22 W]
  simp [Result.andThen, Instr.sliceBounds, Instr.sliceBound, asIntOf, go_sem, hh, hc, Addr.add]
theorem slc_hi_s (ab ao k c h m : Nat) (hm : h + 1 + m = k) : ∃ A : Option Addr, (0 < m → k ≤ c → A = some ⟨ab, ao + (h + 1), none⟩) ∧ ∀ W, (Instr.slice 22 (.slice (some ⟨ab, ao, none⟩) k c) (some (.int .i64 ((h : Int) + 1))) none none).run Try.prog W = .ok (.slice A m (c - (h + 1))) W := by
  refine ⟨if c = h + 1 then some ⟨ab, ao, none⟩ else some ⟨ab, ao + (h + 1), none⟩, fun h0 h1 => if_neg (by omega), fun W => ?_⟩
  have e1 : (0 : Int) ≤ (h : Int) + 1 ∧ (h : Int) + 1 ≤ k := by omega
  have e2 : ((h : Int) + 1).toNat = h + 1 := by omega
  have e3 : k - (h + 1) = m := by omega
  unfold Instr.slice
  rw [Sem.run_bind, run_underlying Try.underlying22 W]
  simp [Result.andThen, Instr.sliceBounds, Instr.sliceBound, asIntOf, go_sem, e1, e2, e3, Addr.add]
theorem slc_lo_i (ab ao k c h : Nat) (hh : h ≤ c) (hc : ¬ c = 0) (W : World) : (Instr.slice 23 (.slice (some ⟨ab, ao, none⟩) k c) none (some (.int .i64 (h : Nat))) none).run Try.prog W = .ok (.slice (some ⟨ab, ao, none⟩) h c) W := by
  unfold Instr.slice
  rw [Sem.run_bind, run_underlying Try.underlying23 W]
  simp [Result.andThen, Instr.sliceBounds, Instr.sliceBound, asIntOf, go_sem, hh, hc, Addr.add]
theorem slc_hi_i (ab ao k c h m : Nat) (hm : h + 1 + m = k) : ∃ A : Option Addr, (0 < m → k ≤ c → A = some ⟨ab, ao + (h + 1), none⟩) ∧ ∀ W, (Instr.slice 23 (.slice (some ⟨ab, ao, none⟩) k c) (some (.int .i64 ((h : Int) + 1))) none none).run Try.prog W = .ok (.slice A m (c - (h + 1))) W := by
  refine ⟨if c = h + 1 then some ⟨ab, ao, none⟩ else some ⟨ab, ao + (h + 1), none⟩, fun h0 h1 => if_neg (by omega), fun W => ?_⟩
  have e1 : (0 : Int) ≤ (h : Int) + 1 ∧ (h : Int) + 1 ≤ k := by omega
  have e2 : ((h : Int) + 1).toNat = h + 1 := by omega
  have e3 : k - (h + 1) = m := by omega
  unfold Instr.slice
  rw [Sem.run_bind, run_underlying Try.underlying23 W]
  simp [Result.andThen, Instr.sliceBounds, Instr.sliceBound, asIntOf, go_sem, e1, e2, e3, Addr.add]
end Go.Proofs.Ythiiemjbigcinaa
