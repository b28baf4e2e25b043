/- A step taken by itself is one step; texts without lone bytes, put together, have none, and their counts add up. -/
import Derived.Test.YtcbmigkdmmmahaaDoorUBound
namespace Go.Proofs.YtcbmigkdmmmahaaDoor
open Go.RowKit

theorem dec_of_at_iff {s t : ByteArray} {a b : Nat} (h : ∀ c, isC c = true → (At s a c ↔ At t b c)) : dec s a = dec t b := by
  rcases dec_cases s a with ⟨e, hn⟩ | hs
  · rw [e]
    symm
    refine dec_none fun c n hst => ?_
    obtain ⟨_, hat⟩ := at_of_stands hst
    have hc := hst.2.2.2.2.2.2
    exact hn _ _ (stands_of_at hc ((h c hc).2 hat))
  · obtain ⟨e, hat⟩ := at_of_stands hs
    have hc := hs.2.2.2.2.2.2
    have := dec_some (stands_of_at hc ((h _ hc).1 hat))
    rw [this, ← e]
theorem stepLen_of {s t : ByteArray} {a b : Nat} (h : dec s a = dec t b) : stepLen s a = stepLen t b ∧ stepOk s a = stepOk t b := by
  unfold stepLen stepOk; rw [h]; exact ⟨rfl, rfl⟩

/-- A step by itself. -/
theorem step_alone {s : ByteArray} {a : Nat} (ha : a < s.size) :
    countS (s.extract a (a + stepLen s a)) = 1 ∧ validS (s.extract a (a + stepLen s a)) = stepOk s a := by
  have hin := stepLen_in ha
  have hpos := stepLen_pos s a
  obtain ⟨L, hL⟩ : ∃ L, stepLen s a = L := ⟨_, rfl⟩
  rw [hL] at hin hpos ⊢
  obtain ⟨t, ht⟩ : ∃ t, s.extract a (a + L) = t := ⟨_, rfl⟩
  have hsz : t.size = L := by rw [← ht, ByteArray.size_extract]; omega
  have hbt : ∀ i, i < L → bt t i = bt s (a + i) := fun i hi => by rw [← ht]; exact bt_extract hin hi
  have hle : ∀ c, At t 0 c → At s a c := fun c ⟨h1, h2⟩ => ⟨by omega, fun i hi => by rw [← hbt i (by omega), ← h2 i hi, Nat.zero_add]⟩
  have hd : dec t 0 = dec s a := by
    rcases dec_cases s a with ⟨e, hn⟩ | hs
    · rw [e]
      refine dec_none fun c n hst => ?_
      obtain ⟨_, hat⟩ := at_of_stands hst
      exact hn _ _ (stands_of_at hst.2.2.2.2.2.2 (hle c hat))
    · obtain ⟨e, hat⟩ := at_of_stands hs
      have hc := hs.2.2.2.2.2.2
      have hp := hs.2.1
      have hLn : L = (dec s a).2 := by rw [← hL]; unfold stepLen; rw [if_pos hp]
      have h := dec_some (stands_of_at hc (s := t) (a := 0) ⟨by omega, fun i hi => by rw [Nat.zero_add, hbt i (by omega)]; exact hat.2 i hi⟩)
      rw [h, ← e]
  obtain ⟨h1, h2⟩ := stepLen_of hd
  rw [ht]
  unfold countS validS
  rw [stepsFrom_cons (by omega), h1, hL, h2, stepsFrom_nil (by omega)]
  simp

theorem bt_append_left {a b : ByteArray} {i : Nat} (h : i < a.size) : bt (a ++ b) i = bt a i := by
  have h1 : i < (a ++ b).size := by rw [ByteArray.size_append]; omega
  rw [← bt_eq h1, ← bt_eq h, ByteArray.getElem_append_left h]
theorem bt_append_right {a b : ByteArray} {i : Nat} (h : i < b.size) : bt (a ++ b) (a.size + i) = bt b i := by
  have h1 : a.size + i < (a ++ b).size := by rw [ByteArray.size_append]; omega
  rw [← bt_eq h1, ← bt_eq h, ByteArray.getElem_append_right (by omega)]
  simp
/-- Behind the first text the steps are the second's. -/
theorem dec_right {a b : ByteArray} (i : Nat) : dec (a ++ b) (a.size + i) = dec b i := by
  refine dec_of_at_iff fun c _ => ?_
  unfold At
  rw [ByteArray.size_append]
  constructor
  · rintro ⟨h1, h2⟩
    exact ⟨by omega, fun j hj => by rw [← h2 j hj, Nat.add_assoc, bt_append_right (by omega)]⟩
  · rintro ⟨h1, h2⟩
    exact ⟨by omega, fun j hj => by rw [← h2 j hj, Nat.add_assoc, bt_append_right (by omega)]⟩
theorem steps_right {a b : ByteArray} : ∀ m i, b.size - i ≤ m → i ≤ b.size → (stepsFrom (a ++ b) (a.size + i)).length = (stepsFrom b i).length ∧ ((stepsFrom (a ++ b) (a.size + i)).all (·.2)) = ((stepsFrom b i).all (·.2)) := by
  intro m
  induction m with
  | zero =>
    intro i h1 h2
    rw [stepsFrom_nil (s := b) (by omega), stepsFrom_nil (s := a ++ b) (by rw [ByteArray.size_append]; omega)]
    exact ⟨rfl, rfl⟩
  | succ m ih =>
    intro i h1 h2
    by_cases hlt : i < b.size
    · obtain ⟨e1, e2⟩ := stepLen_of (dec_right (a := a) (b := b) i)
      have hp := stepLen_pos b i
      have hin := stepLen_in hlt
      obtain ⟨e3, e4⟩ := ih (i + stepLen b i) (by omega) hin
      rw [stepsFrom_cons (s := b) hlt, stepsFrom_cons (s := a ++ b) (by rw [ByteArray.size_append]; omega), e1, e2, Nat.add_assoc]
      simp only [List.length_cons, List.all_cons, e3, e4]
      exact ⟨trivial, trivial⟩
    · rw [stepsFrom_nil (s := b) hlt, stepsFrom_nil (s := a ++ b) (by rw [ByteArray.size_append]; omega)]
      exact ⟨rfl, rfl⟩
/-- A character of the first text stands in both. -/
theorem dec_left {a b : ByteArray} {p : Nat} (h : 0 < (dec a p).2) : dec (a ++ b) p = dec a p := by
  obtain ⟨hc, e, hat, _⟩ := dec_facts h
  have h2 := dec_some (stands_of_at hc (s := a ++ b) (a := p) ⟨by rw [ByteArray.size_append]; have := hat.1; omega, fun i hi => by rw [bt_append_left (by have := hat.1; omega)]; exact hat.2 i hi⟩)
  rw [h2, ← e]
theorem steps_left {a b : ByteArray} : ∀ m p, a.size - p ≤ m → p ≤ a.size → ((stepsFrom a p).all (·.2)) = true → Bd (a ++ b) p →
    (stepsFrom (a ++ b) p).length = (stepsFrom a p).length + (stepsFrom (a ++ b) a.size).length ∧ ((stepsFrom (a ++ b) p).all (·.2)) = ((stepsFrom (a ++ b) a.size).all (·.2)) ∧ Bd (a ++ b) a.size := by
  intro m
  induction m with
  | zero =>
    intro p h1 h2 _ hb
    obtain rfl : p = a.size := by omega
    rw [stepsFrom_nil (s := a) (by omega)]
    exact ⟨by simp, rfl, hb⟩
  | succ m ih =>
    intro p h1 h2 hv hb
    by_cases hlt : p < a.size
    · have hv' := hv
      rw [stepsFrom_cons hlt] at hv'
      simp only [List.all_cons, Bool.and_eq_true] at hv'
      obtain ⟨hv1, hv2⟩ := hv'
      have hd := dec_left (b := b) (show 0 < (dec a p).2 by unfold stepOk at hv1; simpa using hv1)
      obtain ⟨e1, e2⟩ := stepLen_of hd
      have hp := stepLen_pos a p
      have hin := stepLen_in hlt
      have hlt2 : p < (a ++ b).size := by rw [ByteArray.size_append]; omega
      have hbn := hb.next hlt2
      rw [e1] at hbn
      obtain ⟨e3, e4, e5⟩ := ih (p + stepLen a p) (by omega) hin hv2 hbn
      rw [stepsFrom_cons hlt, stepsFrom_cons hlt2, e1, e2]
      simp only [List.length_cons, List.all_cons, e3, e4, hv1, Bool.true_and]
      exact ⟨by omega, trivial, e5⟩
    · obtain rfl : p = a.size := by omega
      rw [stepsFrom_nil (s := a) hlt]
      exact ⟨by simp, rfl, hb⟩
theorem joins {a b : ByteArray} (ha : validS a = true) : countS (a ++ b) = countS a + countS b ∧ validS (a ++ b) = validS b ∧ startS (a ++ b) (a.size : Nat) = true := by
  obtain ⟨e1, e2, e3⟩ := steps_left (a := a) (b := b) a.size 0 (by omega) (by omega) ha (Bd.zero _)
  obtain ⟨e4, e5⟩ := steps_right (a := a) (b := b) b.size 0 (by omega) (by omega)
  rw [Nat.add_zero] at e4 e5
  refine ⟨?_, ?_, startS_bd e3⟩
  · unfold countS; rw [e1, e4]
  · unfold validS; rw [e2, e5]
end Go.Proofs.YtcbmigkdmmmahaaDoor
