/- A text's beginning has the steps that the text has, as far as it goes. -/
import Derived.Test.YtfcpieodgflmnaaDoorGH
namespace Go.Proofs.YtfcpieodgflmnaaDoor

theorem pos_pre {a b : ByteArray} : ∀ n, pos (a ++ b) n ≤ a.size → pos a n = pos (a ++ b) n
  | 0, _ => rfl
  | n + 1, h => by
    have hm := pos_mono (a ++ b) n (n + 1) (by omega)
    have ih := pos_pre (a := a) (b := b) n (by omega)
    have hz : (a ++ b).size = a.size + b.size := ByteArray.size_append
    by_cases e : pos (a ++ b) n < a.size
    · have e2 : pos (a ++ b) n < (a ++ b).size := by omega
      rw [pos_add_one e2] at h ⊢
      have hd := dec_same (a := a) (b := b) (p := pos (a ++ b) n) h
      rw [pos_add_one (by omega), ih, (stepLen_of hd).1]
    · have e1 : pos a (n + 1) = pos a n := by rw [pos, if_neg (by omega)]
      omega
theorem size_take {u : ByteArray} {k : Nat} (hk : k ≤ u.size) : (u.extract 0 k).size = k := by rw [ByteArray.size_extract]; omega
theorem pos_take {u : ByteArray} {k n : Nat} (hk : k ≤ u.size) (h : pos u n ≤ k) : pos (u.extract 0 k) n = pos u n := by
  obtain ⟨a, b, rfl, rfl⟩ := cut_at hk
  rw [extract_all_left]
  exact pos_pre n h
theorem take_all (u : ByteArray) : u.extract 0 u.size = u := by
  apply ByteArray.ext
  rw [ByteArray.data_extract]
  exact Array.extract_size
theorem pos_le4 (u : ByteArray) : ∀ n, pos u n ≤ 4 * n
  | 0 => Nat.le_refl _
  | n + 1 => by
    have := pos_le4 u n
    have := stepLen_le u (pos u n)
    rw [pos]
    split <;> omega
theorem pos_chN {u : ByteArray} {m : Nat} (hm : m ≤ u.size) : pos u (chN u m) ≤ m + 3 := by
  obtain ⟨h1, h2⟩ := chN_spec u m hm
  cases hn : chN u m with
  | zero => exact Nat.zero_le _
  | succ n =>
    have := h2 n (by omega)
    have := stepLen_le u (pos u n)
    rw [pos_add_one (by omega)]
    omega
theorem chN_take {u : ByteArray} {m k : Nat} (hm : m ≤ u.size) (hk : k = min u.size (m + 3)) : chN (u.extract 0 k) m = chN u m := by
  obtain ⟨h1, h2⟩ := chN_spec u m hm
  have hp := pos_chN hm
  have hp2 := pos_le u (chN u m)
  have hku : k ≤ u.size := by omega
  have hz := size_take hku
  refine chN_eq (by omega) ?_ fun j hj => ?_
  · rw [pos_take hku (by omega)]; exact h1
  · have := h2 j hj
    rw [pos_take hku (by have := pos_mono u j (chN u m) (by omega); omega)]
    exact this
theorem chN_le_count {u : ByteArray} {m : Nat} (hm : m ≤ u.size) : chN u m ≤ countS u := by
  obtain ⟨_, h2⟩ := chN_spec u m hm
  by_cases h : countS u < chN u m
  · have := h2 _ h
    rw [pos_count] at this
    omega
  · omega
theorem count_take {u : ByteArray} {n : Nat} (h : n ≤ countS u) : countS (u.extract 0 (pos u n)) = n := by
  have hk := pos_le u n
  have hz := size_take hk
  have e := pos_take hk (Nat.le_refl _)
  have h1 : ¬ n < countS (u.extract 0 (pos u n)) := fun hc => by have := pos_lt hc; omega
  by_cases h2 : countS (u.extract 0 (pos u n)) < n
  · have h3 := pos_count (u.extract 0 (pos u n))
    have hm := pos_mono u (countS (u.extract 0 (pos u n)) + 1) n h2
    have hl := pos_lt_succ (t := u) (n := countS (u.extract 0 (pos u n))) (pos_lt (by omega))
    rw [pos_take hk (by omega)] at h3
    omega
  · omega
theorem width_take {u : ByteArray} {n k : Nat} (hk : k = min u.size (4 * n)) : (n ≤ countS (u.extract 0 k) ↔ n ≤ countS u) ∧ (n ≤ countS u → pos (u.extract 0 k) n = pos u n) := by
  have hku : k ≤ u.size := by omega
  have hz := size_take hku
  have h4 := pos_le4 u n
  have hp := pos_le u n
  have key : n ≤ countS u → pos (u.extract 0 k) n = pos u n := fun _ => pos_take hku (by omega)
  refine ⟨⟨fun h => ?_, fun h => ?_⟩, key⟩
  · by_cases hc : countS u < n
    · have h5 := pos_le4 u (countS u)
      rw [pos_count] at h5
      obtain rfl : k = u.size := by omega
      rw [take_all] at h
      omega
    · omega
  · by_cases hc : countS (u.extract 0 k) < n
    · have h3 := pos_count (u.extract 0 k)
      have hm := pos_mono u (countS (u.extract 0 k) + 1) n hc
      have hl := pos_lt_succ (t := u) (n := countS (u.extract 0 k)) (pos_lt (by omega))
      rw [pos_take hku (by omega)] at h3
      omega
    · omega
/-- A piece of a piece. -/
theorem extract_of_extract {t : ByteArray} {f u k : Nat} (h : f + k ≤ u) : (t.extract f u).extract 0 k = t.extract f (f + k) := by
  apply ByteArray.ext
  rw [ByteArray.data_extract, ByteArray.data_extract, ByteArray.data_extract, Array.extract_extract]
  congr 1 <;> omega
end Go.Proofs.YtfcpieodgflmnaaDoor
