/- Where lines begin, in plain words. -/
import Derived.Test.YtcbmigkdmmmahaaDoorCutAny
namespace Go.Proofs.YtcbmigkdmmmahaaDoor

/-- How many LFs stand ahead of i. -/
def na (s : ByteArray) (i : Nat) : Nat := nl (s.extract 0 i)
theorem na_left {a b : ByteArray} {i : Nat} (h : i ≤ a.size) : na (a ++ b) i = na a i := by unfold na; rw [extract_zero_append h]
theorem na_right {a b : ByteArray} {i : Nat} (h : a.size ≤ i) (hi : i ≤ a.size + b.size) : na (a ++ b) i = nl a + na b (i - a.size) := by unfold na; rw [extract_to_append h hi, nl_append]
theorem na_all (s : ByteArray) : na s s.size = nl s := by unfold na; rw [extract_all _ (Nat.le_refl _)]
theorem na_zero (s : ByteArray) : na s 0 = 0 := by unfold na; simp [nl]

/-- The place behind the first k LFs. -/
def bhL : List UInt8 → Nat → Nat
  | _, 0 => 0
  | [], _ + 1 => 0
  | x :: l, k + 1 => 1 + bhL l (if x = 10 then k else k + 1)
def bh (s : ByteArray) (k : Nat) : Nat := bhL s.data.toList k
theorem bhL_zero (l : List UInt8) : bhL l 0 = 0 := by cases l <;> rfl
theorem bhL_le : ∀ (l : List UInt8) (k : Nat), bhL l k ≤ l.length
  | [], 0 => Nat.le_refl _
  | [], _ + 1 => Nat.le_refl _
  | x :: l, 0 => Nat.zero_le _
  | x :: l, k + 1 => by
    have := bhL_le l (if x = 10 then k else k + 1)
    simp only [bhL, List.length_cons]; omega
theorem bhL_append_left : ∀ (l m : List UInt8) (k : Nat), k ≤ l.count 10 → bhL (l ++ m) k = bhL l k
  | l, m, 0, _ => by rw [bhL_zero, bhL_zero]
  | [], m, k + 1, h => by simp at h
  | x :: l, m, k + 1, h => by
    simp only [List.cons_append, bhL]
    by_cases hx : x = 10
    · subst hx
      rw [if_pos rfl, bhL_append_left l m k (by simpa using h)]
    · rw [if_neg hx, bhL_append_left l m (k + 1) (by rw [List.count_cons_of_ne hx] at h; exact h)]
theorem bhL_append_right : ∀ (l m : List UInt8) (k : Nat), l.count 10 < k → bhL (l ++ m) k = l.length + bhL m (k - l.count 10)
  | [], m, k, h => by simp
  | x :: l, m, 0, h => by omega
  | x :: l, m, k + 1, h => by
    simp only [List.cons_append, bhL, List.length_cons]
    by_cases hx : x = 10
    · subst hx
      rw [List.count_cons_self] at h
      rw [if_pos rfl, bhL_append_right l m k (by omega), List.count_cons_self, show k + 1 - (l.count 10 + 1) = k - l.count 10 from by omega]
      omega
    · rw [List.count_cons_of_ne hx] at h
      rw [if_neg hx, bhL_append_right l m (k + 1) h, List.count_cons_of_ne hx]
      omega
theorem bh_left {a b : ByteArray} {k : Nat} (h : k ≤ nl a) : bh (a ++ b) k = bh a k := by
  unfold bh
  rw [ByteArray.data_append, Array.toList_append]
  exact bhL_append_left _ _ _ h
theorem bh_right {a b : ByteArray} {k : Nat} (h : nl a < k) : bh (a ++ b) k = a.size + bh b (k - nl a) := by
  unfold bh
  rw [ByteArray.data_append, Array.toList_append]
  exact bhL_append_right _ _ _ h
theorem bh_zero (s : ByteArray) : bh s 0 = 0 := bhL_zero _
theorem bh_le (s : ByteArray) (k : Nat) : bh s k ≤ s.size := bhL_le _ _
/-- One byte further. -/
theorem bh_drop (s : ByteArray) (i k : Nat) (hk : 0 < k) (hi : i < s.size) : bhL (s.data.toList.drop i) k = 1 + bhL (s.data.toList.drop (i + 1)) (if s[i] = 10 then k - 1 else k) := by
  rw [List.drop_eq_getElem_cons (by simpa using hi)]
  obtain ⟨k, rfl⟩ : ∃ j, k = j + 1 := ⟨k - 1, by omega⟩
  simp only [bhL]
  rfl
theorem count_drop (s : ByteArray) (i : Nat) (hi : i < s.size) : (s.data.toList.drop i).count 10 = (s.data.toList.drop (i + 1)).count 10 + (if s[i] = 10 then 1 else 0) := by
  rw [List.drop_eq_getElem_cons (by simpa using hi), List.count_cons]
  congr 1
  by_cases h : s[i] = 10
  · rw [if_pos h, if_pos]; rw [beq_iff_eq]; exact h
  · rw [if_neg h, if_neg]; intro e; exact h (by rw [beq_iff_eq] at e; exact e)
end Go.Proofs.YtcbmigkdmmmahaaDoor
