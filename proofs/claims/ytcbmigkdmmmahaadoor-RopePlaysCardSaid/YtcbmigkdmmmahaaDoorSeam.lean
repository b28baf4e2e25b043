/- How many steps a text has that is put together of two: what goes over the seam is lone bytes on both of its sides. Nothing of the program stands here. -/
import Derived.Test.YtcbmigkdmmmahaaDoorUJoin
namespace Go.Proofs.YtcbmigkdmmmahaaDoor
open Go.RowKit

theorem dec_within {a b : ByteArray} {p : Nat} (h : 0 < (dec (a ++ b) p).2) (hp : p + (dec (a ++ b) p).2 ≤ a.size) : dec a p = dec (a ++ b) p := by
  obtain ⟨hc, e, hat, _⟩ := dec_facts h
  have h2 := dec_some (stands_of_at hc (s := a) (a := p) ⟨by omega, fun i hi => by rw [← bt_append_left (b := b) (by omega)]; exact hat.2 i hi⟩)
  rw [h2, ← e]
theorem dec_same {a b : ByteArray} {p : Nat} (hp : p + stepLen (a ++ b) p ≤ a.size) : dec (a ++ b) p = dec a p := by
  by_cases h : 0 < (dec (a ++ b) p).2
  · exact (dec_within h (by unfold stepLen at hp; rw [if_pos h] at hp; exact hp)).symm
  · rcases dec_cases (a ++ b) p with ⟨e, _⟩ | hs
    · by_cases h2 : 0 < (dec a p).2
      · exact dec_left h2
      · rcases dec_cases a p with ⟨e2, _⟩ | hs2
        · rw [e, e2]
        · have := hs2.2.1; omega
    · have := hs.2.1; omega
theorem steps_until {a b : ByteArray} (hB : Bd (a ++ b) a.size) : ∀ m p, a.size - p ≤ m → p ≤ a.size → Bd (a ++ b) p →
    (stepsFrom (a ++ b) p).length = (stepsFrom a p).length + (stepsFrom (a ++ b) a.size).length := by
  intro m
  induction m with
  | zero =>
    intro p h1 h2 _
    obtain rfl : p = a.size := by omega
    rw [stepsFrom_nil (s := a) (by omega)]
    simp
  | succ m ih =>
    intro p h1 h2 hb
    by_cases hlt : p < a.size
    · have hst := hb.step hB hlt
      obtain ⟨e1, e2⟩ := stepLen_of (dec_same hst)
      have hp := stepLen_pos (a ++ b) p
      have hlt2 : p < (a ++ b).size := by rw [ByteArray.size_append]; omega
      have e3 := ih (p + stepLen (a ++ b) p) (by omega) hst (hb.next hlt2)
      rw [stepsFrom_cons hlt2, stepsFrom_cons hlt, List.length_cons, List.length_cons, e3, e1]
      omega
    · obtain rfl : p = a.size := by omega
      rw [stepsFrom_nil (s := a) hlt]
      simp
/-- Where a step begins at the seam, the counts add up. -/
theorem count_cut {a b : ByteArray} (hB : Bd (a ++ b) a.size) : countS (a ++ b) = countS a + countS b := by
  have e1 := steps_until hB a.size 0 (by omega) (by omega) (Bd.zero _)
  obtain ⟨e4, _⟩ := steps_right (a := a) (b := b) b.size 0 (by omega) (by omega)
  rw [Nat.add_zero] at e4
  unfold countS; rw [e1, e4]

/-- Bytes that begin no character are a step each. -/
theorem count_lone {s : ByteArray} (h : ∀ i, i < s.size → dec s i = (0, 0)) : ∀ m p, s.size - p = m → p ≤ s.size → (stepsFrom s p).length = m := by
  intro m
  induction m with
  | zero => intro p h1 h2; rw [stepsFrom_nil (by omega)]; rfl
  | succ m ih =>
    intro p h1 h2
    have hL : stepLen s p = 1 := by unfold stepLen; rw [h p (by omega)]; rfl
    rw [stepsFrom_cons (by omega), List.length_cons, hL, ih (p + 1) (by omega) (by omega)]
theorem count_lone0 {s : ByteArray} (h : ∀ i, i < s.size → dec s i = (0, 0)) : countS s = s.size := count_lone h s.size 0 (by omega) (by omega)
theorem dec_later {s : ByteArray} {i : Nat} (h : 128 ≤ bt s i ∧ bt s i < 192) : dec s i = (0, 0) := dec_zero (by unfold szOf; rw [if_neg (by omega), if_pos (by omega)])

theorem cut_at {s : ByteArray} {k : Nat} (h : k ≤ s.size) : ∃ a b, s = a ++ b ∧ a.size = k := by
  refine ⟨s.extract 0 k, s.extract k s.size, ?_, by rw [ByteArray.size_extract]; omega⟩
  refine ext_bt (by rw [ByteArray.size_append, ByteArray.size_extract, ByteArray.size_extract]; omega) fun i hi => ?_
  by_cases h1 : i < k
  · rw [bt_append_left (by rw [ByteArray.size_extract]; omega)]
    have := bt_extract (s := s) (a := 0) (n := k) (i := i) (by omega) h1
    rw [Nat.zero_add, Nat.zero_add] at this
    exact this.symm
  · have hs : (s.extract 0 k).size = k := by rw [ByteArray.size_extract]; omega
    have h2 := bt_append_right (a := s.extract 0 k) (b := s.extract k s.size) (i := i - k) (by rw [ByteArray.size_extract]; omega)
    rw [hs, show k + (i - k) = i from by omega] at h2
    rw [h2]
    have h3 := bt_extract (s := s) (a := k) (n := s.size - k) (i := i - k) (by omega) (by omega)
    rw [show k + (s.size - k) = s.size from by omega, show k + (i - k) = i from by omega] at h3
    exact h3.symm

/-- Where a character goes over the seam, its bytes are one step in place of as many. -/
theorem count_over {a b : ByteArray} {j : Nat} (hc : Covers (a ++ b) a.size j) : countS (a ++ b) + (dec (a ++ b) (a.size - j)).2 = countS a + countS b + 1 := by
  obtain ⟨h1, h2, h3, h4⟩ := hc
  obtain ⟨n, hn⟩ : ∃ n, (dec (a ++ b) (a.size - j)).2 = n := ⟨_, rfl⟩
  obtain ⟨a1, a2, rfl, ha1⟩ := cut_at (s := a) (k := a.size - j) (by omega)
  have hsz : (a1 ++ a2).size = a1.size + a2.size := ByteArray.size_append
  have ha2 : a2.size = j := by omega
  rw [hn] at h4 ⊢
  have hpos : 0 < (dec ((a1 ++ a2) ++ b) ((a1 ++ a2).size - j)).2 := by omega
  obtain ⟨_, _, _, hst⟩ := dec_facts hpos
  rw [hn, show (a1 ++ a2).size - j = a1.size from by omega] at hst
  have hnb : n - j ≤ b.size := by
    have := hst.2.2.1
    rw [ByteArray.size_append, hsz] at this
    omega
  obtain ⟨b1, b2, rfl, hb1⟩ := cut_at hnb
  have hx : ((a1 ++ a2) ++ (b1 ++ b2)) = a1 ++ ((a2 ++ b1) ++ b2) := by rw [ByteArray.append_assoc, ByteArray.append_assoc]
  have hy : ((a1 ++ a2) ++ (b1 ++ b2)) = (a1 ++ (a2 ++ b1)) ++ b2 := by simp only [ByteArray.append_assoc]
  have hcs : (a2 ++ b1).size = n := by rw [ByteArray.size_append]; omega
  have hd0 : dec ((a1 ++ a2) ++ (b1 ++ b2)) a1.size = dec ((a2 ++ b1) ++ b2) 0 := by rw [hx]; exact dec_right 0
  have hn' : (dec ((a1 ++ a2) ++ (b1 ++ b2)) a1.size).2 = n := by rw [← hn, show (a1 ++ a2).size - j = a1.size from by omega]
  have hdc : dec (a2 ++ b1) 0 = dec ((a2 ++ b1) ++ b2) 0 := dec_within (by rw [← hd0, hn']; omega) (by rw [← hd0, hn', hcs]; omega)
  have hdcn : (dec (a2 ++ b1) 0).2 = n := by rw [hdc, ← hd0, hn']
  -- the whole
  have hB1 : Bd ((a1 ++ (a2 ++ b1)) ++ b2) (a1 ++ (a2 ++ b1)).size := by
    rw [← hy]
    have hb : Bd ((a1 ++ a2) ++ (b1 ++ b2)) a1.size := bd_of_char (by rw [ByteArray.size_append, hsz]; omega) (by rw [hn']; omega)
    have hnx := hb.next (by rw [ByteArray.size_append, ByteArray.size_append (a := b1), hsz]; omega)
    unfold stepLen at hnx
    rw [if_pos (by rw [hn']; omega), hn'] at hnx
    rw [ByteArray.size_append, hcs]
    exact hnx
  have hB2 : Bd (a1 ++ (a2 ++ b1)) a1.size := by
    have := dec_right (a := a1) (b := a2 ++ b1) 0
    rw [Nat.add_zero] at this
    exact bd_of_char (by rw [ByteArray.size_append]; omega) (by rw [this, hdcn]; omega)
  have hone : countS (a2 ++ b1) = 1 := by
    have hL : stepLen (a2 ++ b1) 0 = n := by unfold stepLen; rw [if_pos (by omega), hdcn]
    unfold countS
    rw [stepsFrom_cons (by omega), hL, stepsFrom_nil (by omega)]
    rfl
  have e1 : countS ((a1 ++ a2) ++ (b1 ++ b2)) = countS a1 + 1 + countS b2 := by rw [hy, count_cut hB1, count_cut hB2, hone]
  -- inside bytes
  have hin : ∀ i, 1 ≤ i → i < n → 128 ≤ bt (a2 ++ b1) i ∧ bt (a2 ++ b1) i < 192 := fun i hi1 hi2 => by
    obtain ⟨_, _, _, hs2⟩ := dec_facts (s := a2 ++ b1) (a := 0) (by omega)
    have := hs2.2.2.2.1 i hi1 (by omega)
    rw [Nat.zero_add] at this
    exact this
  -- the first text
  have hB3 : Bd (a1 ++ a2) a1.size := by
    refine (covers_iff (by omega)).1 fun q hq => ?_
    obtain ⟨q1, q2, q3, q4⟩ := hq
    have hdl := dec_left (b := b1 ++ b2) (show 0 < (dec (a1 ++ a2) (a1.size - q)).2 by omega)
    rw [show a1.size = a1.size - q + q from by omega] at hst
    exact inside_none q1 (by rw [hdl]; exact q4) hst
  have hl2 : ∀ i, i < a2.size → dec a2 i = (0, 0) := fun i hi => by
    by_cases e : i = 0
    · subst e
      rcases dec_cases a2 0 with ⟨e, _⟩ | hs2
      · exact e
      · have hp2 := hs2.2.1
        have hle := hs2.2.2.1
        have := dec_left (b := b1) hp2
        rw [this] at hdcn
        omega
    · have := hin i (by omega) (by omega)
      rw [bt_append_left hi] at this
      exact dec_later this
  have e2 : countS (a1 ++ a2) = countS a1 + j := by rw [count_cut hB3, count_lone0 hl2, ha2]
  -- the second text
  have hlb : ∀ i, i < b1.size → 128 ≤ bt b1 i ∧ bt b1 i < 192 := fun i hi => by
    have := hin (a2.size + i) (by omega) (by omega)
    rw [bt_append_right hi] at this
    exact this
  have hB4 : Bd (b1 ++ b2) b1.size := by
    refine (covers_iff (by rw [ByteArray.size_append]; omega)).1 fun q hq => ?_
    obtain ⟨q1, q2, q3, q4⟩ := hq
    have h5 := hlb (b1.size - q) (by omega)
    rw [← bt_append_left (b := b2) (by omega)] at h5
    rw [dec_later h5] at q4
    simp at q4
  have e3 : countS (b1 ++ b2) = (n - j) + countS b2 := by rw [count_cut hB4, count_lone0 (fun i hi => dec_later (hlb i hi)), hb1]
  rw [e1, e2, e3]
  omega

def hd (s : ByteArray) : ByteArray := s.extract 0 (min 3 s.size)
def tl (s : ByteArray) : ByteArray := s.extract (s.size - min 3 s.size) s.size

theorem extract_zero_append {a b : ByteArray} {n : Nat} (h : n ≤ a.size) : (a ++ b).extract 0 n = a.extract 0 n := by
  refine ext_bt (by rw [ByteArray.size_extract, ByteArray.size_extract, ByteArray.size_append]; omega) fun i hi => ?_
  rw [ByteArray.size_extract, ByteArray.size_append] at hi
  have h1 := bt_extract (s := a ++ b) (a := 0) (n := n) (i := i) (by rw [ByteArray.size_append]; omega) (by omega)
  have h2 := bt_extract (s := a) (a := 0) (n := n) (i := i) (by omega) (by omega)
  rw [Nat.zero_add, Nat.zero_add] at h1 h2
  rw [h1, h2, bt_append_left (by omega)]
theorem extract_all_left {a b : ByteArray} : (a ++ b).extract 0 a.size = a := by
  rw [extract_zero_append (Nat.le_refl _)]
  simp
theorem extract_right {a b : ByteArray} {m n : Nat} (h1 : a.size ≤ m) (h : n ≤ a.size + b.size) : (a ++ b).extract m n = b.extract (m - a.size) (n - a.size) := by
  by_cases hmn : m ≤ n
  · refine ext_bt (by rw [ByteArray.size_extract, ByteArray.size_extract, ByteArray.size_append]; omega) fun i hi => ?_
    rw [ByteArray.size_extract, ByteArray.size_append] at hi
    have e1 := bt_extract (s := a ++ b) (a := m) (n := n - m) (i := i) (by rw [ByteArray.size_append]; omega) (by omega)
    have e2 := bt_extract (s := b) (a := m - a.size) (n := n - m) (i := i) (by omega) (by omega)
    rw [show m + (n - m) = n from by omega] at e1
    rw [show m - a.size + (n - m) = n - a.size from by omega] at e2
    rw [e1, e2, show m + i = a.size + (m - a.size + i) from by omega, bt_append_right (by omega)]
  · refine ext_bt (by rw [ByteArray.size_extract, ByteArray.size_extract, ByteArray.size_append]; omega) fun i hi => ?_
    rw [ByteArray.size_extract, ByteArray.size_append] at hi
    omega
theorem hd_append {a b : ByteArray} (h : 3 ≤ a.size) : hd (a ++ b) = hd a := by
  unfold hd
  rw [ByteArray.size_append, show min 3 (a.size + b.size) = 3 from by omega, show min 3 a.size = 3 from by omega, extract_zero_append h]
theorem tl_append {a b : ByteArray} (h : 3 ≤ b.size) : tl (a ++ b) = tl b := by
  unfold tl
  rw [ByteArray.size_append, show min 3 (a.size + b.size) = 3 from by omega, show min 3 b.size = 3 from by omega, extract_right (by omega) (by omega)]
  congr 1 <;> omega
theorem tl_split {a : ByteArray} : ∃ a0, a = a0 ++ tl a := by
  obtain ⟨a0, a1, e, hs⟩ := cut_at (s := a) (k := a.size - min 3 a.size) (by omega)
  refine ⟨a0, ?_⟩
  have h : a.size = a0.size + a1.size := by rw [e, ByteArray.size_append]
  have : tl a = a1 := by
    unfold tl
    rw [show a.size - min 3 a.size = a0.size from hs.symm, h]
    conv => lhs; rw [e]
    rw [extract_right (by omega) (by omega)]
    simp
  rw [this]; exact e
theorem hd_split {b : ByteArray} : ∃ b0, b = hd b ++ b0 := by
  obtain ⟨b1, b0, e, hs⟩ := cut_at (s := b) (k := min 3 b.size) (by omega)
  refine ⟨b0, ?_⟩
  have : hd b = b1 := by
    unfold hd
    rw [← hs]
    conv => lhs; rw [e]
    exact extract_all_left
  rw [this]; exact e
theorem hd_size (s : ByteArray) : (hd s).size = min 3 s.size := by unfold hd; rw [ByteArray.size_extract]; omega
theorem tl_size (s : ByteArray) : (tl s).size = min 3 s.size := by unfold tl; rw [ByteArray.size_extract]; omega

/-- What stands ahead of the seam and goes over it stands so in the rims, too. -/
theorem dec_rim {a b : ByteArray} (ha : 3 ≤ a.size) (hb : 3 ≤ b.size) {j : Nat} (h1 : 1 ≤ j) (h2 : j ≤ 3) : dec (a ++ b) (a.size - j) = dec (tl a ++ hd b) (3 - j) := by
  obtain ⟨a0, ea⟩ := tl_split (a := a)
  obtain ⟨b0, eb⟩ := hd_split (b := b)
  have hta := tl_size a
  have hhb := hd_size b
  have hsz : a.size = a0.size + (tl a).size := by conv => lhs; rw [ea, ByteArray.size_append]
  have e1 : a ++ b = a0 ++ ((tl a ++ hd b) ++ b0) := by
    conv => lhs; rw [ea, eb]
    rw [ByteArray.append_assoc, ByteArray.append_assoc]
  have hm : (tl a ++ hd b).size = 6 := by rw [ByteArray.size_append]; omega
  rw [e1, show a.size - j = a0.size + (3 - j) from by omega, dec_right]
  have h4 := dec_le4 ((tl a ++ hd b) ++ b0) (3 - j)
  refine dec_same ?_
  rw [hm]
  unfold stepLen
  split <;> omega
theorem covers_rim {a b : ByteArray} (ha : 3 ≤ a.size) (hb : 3 ≤ b.size) {j : Nat} : Covers (a ++ b) a.size j ↔ Covers (tl a ++ hd b) (tl a).size j := by
  have hta := tl_size a
  constructor
  · rintro ⟨h1, h2, h3, h4⟩
    refine ⟨h1, h2, by omega, ?_⟩
    rw [show (tl a).size - j = 3 - j from by omega, ← dec_rim ha hb h1 h2]; exact h4
  · rintro ⟨h1, h2, h3, h4⟩
    refine ⟨h1, h2, by omega, ?_⟩
    rw [show (tl a).size - j = 3 - j from by omega] at h4
    rw [dec_rim ha hb h1 h2]; exact h4
/-- The whole's steps by its parts' and the rims'. -/
theorem seam {a b : ByteArray} (ha : 3 ≤ a.size) (hb : 3 ≤ b.size) : countS (a ++ b) + (countS (tl a) + countS (hd b)) = countS a + countS b + countS (tl a ++ hd b) := by
  have hta := tl_size a
  by_cases h : ∃ j, Covers (a ++ b) a.size j
  · obtain ⟨j, hj⟩ := h
    have e1 := count_over hj
    have e2 := count_over ((covers_rim ha hb).1 hj)
    have e3 := dec_rim ha hb hj.1 hj.2.1
    rw [show (tl a).size - j = 3 - j from by omega, ← e3] at e2
    omega
  · have hB : Bd (a ++ b) a.size := (covers_iff (by rw [ByteArray.size_append]; omega)).1 fun j hj => h ⟨j, hj⟩
    have hB2 : Bd (tl a ++ hd b) (tl a).size := (covers_iff (by rw [ByteArray.size_append]; omega)).1 fun j hj => h ⟨j, (covers_rim ha hb).2 hj⟩
    rw [count_cut hB, count_cut hB2]
end Go.Proofs.YtcbmigkdmmmahaaDoor
