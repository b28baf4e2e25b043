/- Where steps begin: the places that going through a text comes to are just those over which no character reaches. -/
import Derived.Test.YtcbmigkdmmmahaaDoorUStartFacts
import Derived.Test.YtcbmigkdmmmahaaDoorURefChar
namespace Go.Proofs.YtcbmigkdmmmahaaDoor
open Go.RowKit

/-- The place at which one stands behind n steps. -/
noncomputable def pos (s : ByteArray) : Nat → Nat
  | 0 => 0
  | n + 1 => if pos s n < s.size then pos s n + stepLen s (pos s n) else pos s n
def Bd (s : ByteArray) (a : Nat) : Prop := ∃ n, pos s n = a
theorem pos_le (s : ByteArray) : ∀ n, pos s n ≤ s.size
  | 0 => by simp [pos]
  | n + 1 => by
    have := pos_le s n
    unfold pos
    split
    · exact stepLen_in (by assumption)
    · exact this
theorem pos_mono (s : ByteArray) (m n : Nat) (h : m ≤ n) : pos s m ≤ pos s n := by
  induction n with
  | zero => obtain rfl : m = 0 := by omega
            exact Nat.le_refl _
  | succ n ih =>
    by_cases e : m = n + 1
    · rw [e]; exact Nat.le_refl _
    · have h1 := ih (by omega)
      have h2 : pos s n ≤ pos s (n + 1) := by
        rw [pos]
        split <;> omega
      omega
theorem Bd.zero (s : ByteArray) : Bd s 0 := ⟨0, rfl⟩
theorem Bd.le {s : ByteArray} {a : Nat} (h : Bd s a) : a ≤ s.size := by obtain ⟨n, rfl⟩ := h; exact pos_le s n
theorem Bd.next {s : ByteArray} {a : Nat} (h : Bd s a) (ha : a < s.size) : Bd s (a + stepLen s a) := by
  obtain ⟨n, rfl⟩ := h
  exact ⟨n + 1, by rw [pos, if_pos ha]⟩
theorem Bd.step {s : ByteArray} {p q : Nat} (hp : Bd s p) (hq : Bd s q) (h : p < q) : p + stepLen s p ≤ q := by
  have hqs := hq.le
  obtain ⟨m, rfl⟩ := hp
  obtain ⟨n, rfl⟩ := hq
  have hmn : m < n := by
    by_cases e : m < n
    · exact e
    · have := pos_mono s n m (by omega); omega
  have h1 := pos_mono s (m + 1) n hmn
  rw [pos, if_pos (by omega)] at h1
  exact h1
theorem bd_floor (s : ByteArray) : ∀ a, a ≤ s.size → ∃ p, Bd s p ∧ p ≤ a ∧ (p = a ∨ a < p + stepLen s p) := by
  intro a
  induction a with
  | zero => intro _; exact ⟨0, Bd.zero s, Nat.le_refl _, .inl rfl⟩
  | succ a ih =>
    intro h
    obtain ⟨p, hp, hpa, hc⟩ := ih (by omega)
    have hps : p < s.size := by omega
    have hpos := stepLen_pos s p
    by_cases e : p + stepLen s p = a + 1
    · exact ⟨a + 1, by rw [← e]; exact hp.next hps, Nat.le_refl _, .inl rfl⟩
    · refine ⟨p, hp, by omega, .inr ?_⟩
      rcases hc with hc | hc <;> omega

theorem stepLen_char {s : ByteArray} {p : Nat} (h : 1 < stepLen s p) : stepLen s p = (dec s p).2 ∧ 0 < (dec s p).2 := by
  unfold stepLen at h ⊢
  split
  · exact ⟨rfl, by assumption⟩
  · rename_i h2; rw [if_neg h2] at h; omega
/-- A byte within a character begins none. -/
theorem inside_none {s : ByteArray} {p i c n : Nat} (h1 : 1 ≤ i) (h2 : i < (dec s p).2) (hs : Stands s (p + i) c n) : False := by
  obtain ⟨_, _, _, hst⟩ := dec_facts (s := s) (a := p) (by omega)
  have hc := hst.2.2.2.1 i h1 h2
  have hz := hs.1
  have h0 := hs.2.1
  unfold szOf at hz
  rw [if_neg (by omega), if_pos (by omega)] at hz
  omega
theorem bd_of_char {s : ByteArray} {a : Nat} (ha : a ≤ s.size) (h : 0 < (dec s a).2) : Bd s a := by
  obtain ⟨p, hp, hpa, hc⟩ := bd_floor s a ha
  obtain ⟨_, _, _, hst⟩ := dec_facts h
  by_cases e : p = a
  · rw [← e]; exact hp
  · have hlt : a < p + stepLen s p := by omega
    obtain ⟨e1, e2⟩ := stepLen_char (s := s) (p := p) (by omega)
    exact (inside_none (s := s) (p := p) (i := a - p) (by omega) (by omega) (by rw [show p + (a - p) = a from by omega]; exact hst)).elim
theorem covers_iff {s : ByteArray} {a : Nat} (ha : a ≤ s.size) : (∀ b, ¬ Covers s a b) ↔ Bd s a := by
  constructor
  · intro h
    obtain ⟨p, hp, hpa, hc⟩ := bd_floor s a ha
    by_cases e : p = a
    · rw [← e]; exact hp
    · have hlt : a < p + stepLen s p := by omega
      obtain ⟨e1, e2⟩ := stepLen_char (s := s) (p := p) (by omega)
      have h4 := dec_le4 s p
      exact (h (a - p) ⟨by omega, by omega, by omega, by rw [show a - (a - p) = p from by omega]; omega⟩).elim
  · rintro h b ⟨h1, h2, h3, h4⟩
    have hb : Bd s (a - b) := bd_of_char (by omega) (by omega)
    have := hb.step h (by omega)
    unfold stepLen at this
    rw [if_pos (by omega)] at this
    omega
theorem startS_iff {s : ByteArray} {x : Int} : startS s x = true ↔ 0 ≤ x ∧ x ≤ s.size ∧ Bd s x.toNat := by
  constructor
  · intro h
    by_cases hx : 0 ≤ x ∧ x ≤ s.size
    · obtain ⟨k, rfl⟩ := Int.eq_ofNat_of_zero_le hx.1
      refine ⟨hx.1, hx.2, (covers_iff (by omega)).1 fun b hb => ?_⟩
      have hb' : Covers s k b := hb
      rw [startS_cov hb'] at h
      cases h
    · rw [startS_no hx] at h; cases h
  · rintro ⟨h0, h1, h2⟩
    obtain ⟨k, rfl⟩ := Int.eq_ofNat_of_zero_le h0
    exact startS_yes (by omega) ((covers_iff (by omega)).2 h2)
theorem startS_in {s : ByteArray} {a i : Nat} (h1 : 1 ≤ i) (h2 : i < stepLen s a) : startS s ((a + i : Nat) : Int) = false := by
  obtain ⟨e1, e2⟩ := stepLen_char (s := s) (p := a) (by omega)
  have := dec_le4 s a
  exact startS_cov (b := i) ⟨h1, by omega, by omega, by rw [show a + i - i = a from by omega]; omega⟩
theorem startS_bd {s : ByteArray} {a : Nat} (h : Bd s a) : startS s (a : Nat) = true := startS_iff.2 ⟨by omega, by have := h.le; omega, h⟩
end Go.Proofs.YtcbmigkdmmmahaaDoor
