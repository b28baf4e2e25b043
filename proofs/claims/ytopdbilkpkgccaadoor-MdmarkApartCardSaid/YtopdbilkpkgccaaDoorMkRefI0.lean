/- The document's Item: numbers. -/
import Derived.Test.YtopdbilkpkgccaaDoorMkBox
namespace Go.Proofs.YtopdbilkpkgccaaDoor
open Go.RowKit

theorem nuL_snoc (u : List Nat) (x : Nat) : nuL (u ++ [x]) = 10 * nuL u + (x - 48) := by unfold nuL; rw [List.foldl_append]; rfl
theorem nuL_lt : ∀ (n : Nat) (u : List Nat), u.length ≤ n → (∀ x ∈ u, x ≤ 57) → nuL u < 10 ^ u.length := by
  intro n
  induction n with
  | zero => intro u h _; obtain rfl : u = [] := List.eq_nil_of_length_eq_zero (by omega); decide
  | succ n ih =>
    intro u h hu
    rcases List.eq_nil_or_concat u with rfl | ⟨v, x, rfl⟩
    · decide
    · rw [List.concat_eq_append] at h hu ⊢
      rw [nuL_snoc, List.length_append, List.length_singleton, Nat.pow_succ]
      have h1 := ih v (by simp at h; omega) (fun y hy => hu y (by simp [hy]))
      have h2 := hu x (by simp)
      omega
theorem nuL_nine {u : List Nat} (h : u.length ≤ 9) (hu : ∀ x ∈ u, x ≤ 57) : nuL u < 1000000000 := by
  have h1 := nuL_lt u.length u (Nat.le_refl _) hu
  have h2 : 10 ^ u.length ≤ 10 ^ 9 := Nat.pow_le_pow_right (by omega) h
  omega
theorem rwL_all {p : Nat → Bool} {l : List Nat} {k : Nat} (h : k ≤ rwL p l) : ∀ x ∈ l.take k, p x = true := by
  intro x hx
  obtain ⟨i, hi, e⟩ := List.mem_iff_getElem.1 hx
  rw [List.length_take] at hi
  obtain ⟨c, hc, hp⟩ := rwL_mem p l i (by omega)
  rw [List.getElem_take] at e
  rw [List.getElem?_eq_getElem (by omega)] at hc
  injection hc with hc
  rw [← e, hc]
  exact hp
end Go.Proofs.YtopdbilkpkgccaaDoor
