/- PylayoutSound, walked. -/
import Derived.Test.YtilpfngjiolmaaaDoorOLawB
import Derived.Deep.CutBlock
namespace Go.Proofs.YtilpfngjiolmaaaDoor
open Go.RowKit
attribute [local go_sem ↓] ldS_eq stS_eq elS_eq neS_eq zrS_eq bsS_eq bdS_eq
attribute [local go_sem] ldS_run stS_run elS_run neS_run zrS_run bsS_run bdS_run0 bdS_run1 g0_rule ldV_drew ldV_drewN

theorem chk_step {n p k : Nat} {e : LEv} {r : List LEv} {R : Nat × Nat} (h : chkL n (e :: r) p k = some R) : p ≤ e.a ∧ e.a ≤ n ∧ ((e.op = 1 ∧ e.b = 0 ∧ chkL n r e.a (k + 1) = some R) ∨ (e.op = 2 ∧ e.b = 0 ∧ 0 < k ∧ chkL n r e.a (k - 1) = some R) ∨ (e.op = 3 ∧ e.a ≤ e.b ∧ e.b ≤ n ∧ chkL n r e.b k = some R)) := by
  rw [chkL] at h
  split at h
  · rename_i h1
    refine ⟨h1.1, h1.2, ?_⟩
    split at h
    · rename_i h2
      split at h
      · rename_i h3; exact .inl ⟨h2, h3, h⟩
      · cases h
    · split at h
      · rename_i h2
        split at h
        · rename_i h3; exact .inr (.inl ⟨h2, h3.1, h3.2, h⟩)
        · cases h
      · split at h
        · rename_i h2
          split at h
          · rename_i h3; exact .inr (.inr ⟨h2, h3.1, h3.2, h⟩)
          · cases h
        · cases h
  · cases h
/-- No more nodes are ever open than there are events and were. -/
theorem chk_count {n : Nat} : ∀ (l : List LEv) (p k : Nat) (R : Nat × Nat), chkL n l p k = some R → k ≤ R.2 + l.length
  | [], p, k, R, h => by
    rw [chkL] at h
    injection h with h
    subst h
    simp
  | e :: r, p, k, R, h => by
    obtain ⟨-, -, h1 | h1 | h1⟩ := chk_step h
    · have := chk_count r _ _ R h1.2.2; rw [List.length_cons]; omega
    · have := chk_count r _ _ R h1.2.2.2; rw [List.length_cons]; omega
    · have := chk_count r _ _ R h1.2.2.2; rw [List.length_cons]; omega
theorem lay_len (cols : List Nat) (flags ti col : Nat) (h : cols.length ≤ 16) : (layL cols flags ti col).1.length ≤ 17 := by
  have := lay_set ⟨cols, 0, 0, flags, 0⟩ ti col
  have h2 := set_len ⟨cols, 0, 0, flags, 0⟩ col h
  show (layL cols flags ti col).1.length ≤ 17
  have e : (layL cols flags ti col).1 = _ := this
  rw [e, List.length_append]
  split <;> simp <;> omega
theorem scanP_len {s : LSt} {l : List Nat} (h : LOk s) : (scanP s l).1.length ≤ l.length + 20 := by
  have hr : ∀ (cols : List Nat) (a m : Nat) (d : Int), (readL cols s.flags (scanE l a m d) (endL l)).1.length ≤ l.length + 1 := fun cols a m d => by
    have := lenE l a m d
    unfold readL
    split <;> simp <;> omega
  unfold scanP
  split
  · split
    · simp
    · split
      · simp
      · have h1 := lay_len s.cols s.flags (indL l 0).1 (indL l 0).2 h.len
        have h2 := hr (layL s.cols s.flags (indL l 0).1 (indL l 0).2).2 (indL l 0).1 s.mark s.count
        simp only [List.length_append, List.length_singleton]
        omega
  · have := hr s.cols 0 s.mark s.count
    exact Nat.le_trans this (by omega)
end Go.Proofs.YtilpfngjiolmaaaDoor
