/- Lines, in plain words: where they begin and end, and what is in them. -/
import Derived.Test.YtcbmigkdmmmahaaDoorRDoc
namespace Go.Proofs.YtcbmigkdmmmahaaDoor

theorem bhL_lf : ∀ (l : List UInt8) (k : Nat), k < l.count 10 → ∃ j, bhL l (k + 1) = j + 1 ∧ l[j]? = some 10 ∧ (l.take j).count 10 = k
  | [], k, h => by simp at h
  | x :: l, k, h => by
    by_cases hx : x = 10
    · subst hx
      rw [List.count_cons_self] at h
      cases k with
      | zero => exact ⟨0, by simp only [bhL, if_pos], rfl, rfl⟩
      | succ k =>
        obtain ⟨j, h1, h2, h3⟩ := bhL_lf l k (by omega)
        refine ⟨j + 1, ?_, h2, ?_⟩
        · simp only [bhL, if_pos]; rw [h1]; omega
        · rw [List.take_succ_cons, List.count_cons_self, h3]
    · rw [List.count_cons_of_ne hx] at h
      obtain ⟨j, h1, h2, h3⟩ := bhL_lf l k h
      refine ⟨j + 1, ?_, h2, ?_⟩
      · simp only [bhL]; rw [if_neg hx, h1]; omega
      · rw [List.take_succ_cons, List.count_cons_of_ne hx, h3]
theorem nl_count (s : ByteArray) : nl s = s.data.toList.count 10 := rfl
/-- The LF that ends line k. -/
theorem bh_lf {s : ByteArray} {k : Nat} (h : k < nl s) : ∃ (j : Nat) (hj : j < s.size), bh s (k + 1) = j + 1 ∧ s[j] = 10 ∧ na s j = k := by
  obtain ⟨j, h1, h2, h3⟩ := bhL_lf s.data.toList k h
  have hj : j < s.data.toList.length := (List.getElem?_eq_some_iff.1 h2).1
  have hj' : j < s.size := by simpa using hj
  refine ⟨j, hj', h1, ?_, by rw [na_take]; exact h3⟩
  have := (List.getElem?_eq_some_iff.1 h2).2
  exact this
theorem na_mono {s : ByteArray} : ∀ {b a : Nat}, a ≤ b → b ≤ s.size → na s a ≤ na s b := by
  intro b
  induction b with
  | zero => intro a h _; obtain rfl : a = 0 := by omega
            exact Nat.le_refl _
  | succ b ih =>
    intro a h hb
    by_cases e : a = b + 1
    · subst e; exact Nat.le_refl _
    · have := ih (show a ≤ b by omega) (by omega)
      have := na_succ (s := s) (i := b) (by omega)
      omega
theorem na_bh {s : ByteArray} {k : Nat} (h : k ≤ nl s) : na s (bh s k) = k := by
  cases k with
  | zero => rw [bh_zero, na_zero]
  | succ k =>
    obtain ⟨j, hj, h1, h2, h3⟩ := bh_lf (show k < nl s by omega)
    rw [h1, na_succ hj, if_pos h2, h3]
theorem lineEnd_le (s : ByteArray) (k : Nat) : lineEnd s k ≤ s.size := by
  unfold lineEnd; split
  · exact bh_le _ _
  · exact Nat.le_refl _
theorem bh_lt {s : ByteArray} {k : Nat} (h : k < nl s) : bh s k < bh s (k + 1) := by
  obtain ⟨j, hj, h1, h2, h3⟩ := bh_lf h
  rw [h1]
  cases k with
  | zero => rw [bh_zero]; omega
  | succ k =>
    obtain ⟨i, hi, g1, g2, g3⟩ := bh_lf (show k < nl s by omega)
    rw [g1]
    by_cases hij : j ≤ i
    · have := na_mono (s := s) hij (by omega); omega
    · omega
theorem bh_lineEnd (s : ByteArray) (k : Nat) : bh s k ≤ lineEnd s k := by
  unfold lineEnd; split
  · rename_i h; exact Nat.le_of_lt (bh_lt h)
  · exact bh_le _ _
theorem na_line {s : ByteArray} {k i : Nat} (hk : k ≤ nl s) (h1 : bh s k ≤ i) (h2 : i < lineEnd s k) : na s i = k := by
  have hz := lineEnd_le s k
  have g1 := na_mono (s := s) h1 (by omega)
  rw [na_bh hk] at g1
  by_cases h : k < nl s
  · obtain ⟨j, hj, e1, e2, e3⟩ := bh_lf h
    unfold lineEnd at h2
    rw [if_pos h, e1] at h2
    have := na_mono (s := s) (show i ≤ j by omega) (by omega)
    omega
  · have := na_mono (s := s) (show i ≤ s.size by omega) (Nat.le_refl _)
    rw [na_all] at this
    omega
theorem lf_line {s : ByteArray} {k i : Nat} (hk : k ≤ nl s) (h1 : bh s k ≤ i) (h2 : i < lineEnd s k) (hi : i < s.size) : s[i] = 10 ↔ (i + 1 = lineEnd s k ∧ k < nl s) := by
  have hn := na_line hk h1 h2
  constructor
  · intro hx
    have hb := bh_behind hi hx
    rw [hn] at hb
    have hs := na_succ hi
    rw [if_pos hx, hn] at hs
    have hm := na_mono (s := s) (show i + 1 ≤ s.size by omega) (Nat.le_refl _)
    rw [na_all] at hm
    have hlt : k < nl s := by omega
    refine ⟨?_, hlt⟩
    unfold lineEnd
    rw [if_pos hlt, hb]
  · rintro ⟨e, hlt⟩
    obtain ⟨j, hj, e1, e2, e3⟩ := bh_lf hlt
    unfold lineEnd at e
    rw [if_pos hlt, e1] at e
    obtain rfl : i = j := by omega
    exact e2
/-- Where line k begins, and what is behind the last one. -/
def lnAt (s : ByteArray) (k : Nat) : Nat := if k ≤ nl s then bh s k else s.size
theorem lnAt_zero (s : ByteArray) : lnAt s 0 = 0 := by unfold lnAt; rw [if_pos (Nat.zero_le _), bh_zero]
theorem lnAt_in {s : ByteArray} {k : Nat} (h : k ≤ nl s) : lnAt s k = bh s k := by unfold lnAt; rw [if_pos h]
theorem lnAt_succ {s : ByteArray} {k : Nat} (h : k ≤ nl s) : lnAt s (k + 1) = lineEnd s k := by
  unfold lnAt lineEnd
  by_cases h1 : k < nl s
  · rw [if_pos h1, if_pos (by omega)]
  · rw [if_neg h1, if_neg (by omega)]
theorem lnAt_all (s : ByteArray) : lnAt s (nl s + 1) = s.size := by unfold lnAt; rw [if_neg (by omega)]
end Go.Proofs.YtcbmigkdmmmahaaDoor
