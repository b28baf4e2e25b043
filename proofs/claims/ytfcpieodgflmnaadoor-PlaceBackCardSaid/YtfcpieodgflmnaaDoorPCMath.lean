/- The characters of a line, its LF with it or not. -/
import Derived.Test.YtfcpieodgflmnaaDoorPTell
namespace Go.Proofs.YtfcpieodgflmnaaDoor

theorem pos_incr {t : ByteArray} {j n : Nat} (h : j < n) (hn : n ≤ countS t) : pos t j < pos t n := by
  have h1 := pos_lt_succ (t := t) (n := j) (pos_lt (by omega))
  have h2 := pos_mono t (j + 1) n h
  omega
theorem le_pos {t : ByteArray} : ∀ n, n ≤ countS t → n ≤ pos t n
  | 0, _ => Nat.zero_le _
  | n + 1, h => by
    have := le_pos (t := t) n (by omega)
    have := pos_lt_succ (t := t) (n := n) (pos_lt (by omega))
    omega
theorem chN_pos {t : ByteArray} {n : Nat} (h : n ≤ countS t) : chN t (pos t n) = n :=
  chN_eq (pos_le t n) (Nat.le_refl _) fun _ hj => pos_incr hj h
theorem chN_in {t : ByteArray} {n m : Nat} (h1 : pos t n < m) (h2 : m < pos t (n + 1)) : chN t m = n + 1 := by
  have := pos_le t (n + 1)
  refine chN_eq (by omega) (by omega) fun j hj => ?_
  have := pos_mono t j n (by omega)
  omega
/-- An LF begins a step. -/
theorem bd_lf {t : ByteArray} {i : Nat} (hi : i < t.size) (h : bt t i = 10) : Bd t i := by
  have hs : Stands t i 10 1 := by
    refine ⟨by rw [h]; decide, by omega, by omega, conts_one _ _, ?_, by decide, by decide⟩
    show bt t i - leadOf 1 = 10
    rw [h]; decide
  refine bd_of_char (by omega) ?_
  rw [dec_some hs]
  exact Nat.one_pos
/-- The steps of a line without its LF are those of the line. -/
theorem pos_line {s : ByteArray} {k : Nat} (hk : k ≤ nl s) : ∀ j, j ≤ countS (lnB s k) → pos (lnA s k) j = pos (lnB s k) j := by
  have h1 := lnA_size s k
  have h2 := lnB_size s k
  have h3 := bh_be s k
  have h4 := be_lineEnd s hk
  have h5 := lineEnd_le s k
  have e : (lnA s k).extract 0 (lnB s k).size = lnB s k := by
    rw [h2]
    unfold lnA lnB
    rw [extract_of_extract (by omega), show bh s k + (be s k - bh s k) = be s k from by omega]
  have hB : Bd (lnA s k) (lnB s k).size := by
    rcases be_test hk with ⟨g1, g2, g3⟩ | ⟨g1, _⟩
    · refine bd_lf (by omega) ?_
      unfold lnA
      rw [bt_ext_in (by omega) (by omega), h2, show bh s k + (be s k - bh s k) = lineEnd s k - 1 from by omega]
      exact g2
    · refine ⟨countS (lnA s k), ?_⟩
      rw [pos_count]
      omega
  obtain ⟨m, hm⟩ := hB
  have hle : (lnB s k).size ≤ (lnA s k).size := by omega
  have key : ∀ j, j ≤ m → pos (lnB s k) j = pos (lnA s k) j := fun j hj => by
    have := pos_mono (lnA s k) j m hj
    have := pos_take (u := lnA s k) (k := (lnB s k).size) (n := j) hle (by omega)
    rw [e] at this
    exact this
  have hc : countS (lnB s k) ≤ m := by
    by_cases hcm : m < countS (lnB s k)
    · have := pos_lt hcm
      rw [key m (Nat.le_refl _), hm] at this
      omega
    · omega
  exact fun j hj => (key j (by omega)).symm
theorem count_line {s : ByteArray} {k : Nat} (hk : k ≤ nl s) : countS (lnB s k) ≤ countS (lnA s k) := by
  have h1 := lnA_size s k
  have h2 := lnB_size s k
  have h4 := be_lineEnd s hk
  by_cases h : countS (lnA s k) < countS (lnB s k)
  · have h5 := pos_line hk (countS (lnA s k)) (by omega)
    rw [pos_count] at h5
    have := pos_lt h
    omega
  · omega

/-- What CharOffset tells is a place, and Of and Char tell of it what was asked. -/
theorem co_back {s : ByteArray} {k n : Nat} (hk : k ≤ nl s) (hn : n ≤ countS (lnB s k)) :
    bh s k + pos (lnB s k) n ≤ s.size ∧ na s (bh s k + pos (lnB s k) n) = k ∧ chN (lnA s k) (pos (lnB s k) n) = n := by
  have h2 := lnB_size s k
  have h3 := bh_be s k
  have h4 := be_le s k
  have h5 := pos_le (lnB s k) n
  refine ⟨by omega, na_be hk (by omega) (by omega), ?_⟩
  rw [← pos_line hk n hn]
  exact chN_pos (Nat.le_trans hn (count_line hk))
theorem co_between {s : ByteArray} {k n i : Nat} (hk : k ≤ nl s) (hn : n + 1 ≤ countS (lnB s k)) (h1 : bh s k + pos (lnB s k) n < i) (h2 : i < bh s k + pos (lnB s k) (n + 1)) :
    i ≤ s.size ∧ na s i = k ∧ chN (lnA s k) (i - bh s k) = n + 1 := by
  have g2 := lnB_size s k
  have g3 := bh_be s k
  have g4 := be_le s k
  have g5 := pos_le (lnB s k) (n + 1)
  refine ⟨by omega, na_be hk (by omega) (by omega), ?_⟩
  rw [← pos_line hk n (by omega)] at h1
  rw [← pos_line hk (n + 1) hn] at h2
  exact chN_in (by omega) (by omega)
end Go.Proofs.YtfcpieodgflmnaaDoor
