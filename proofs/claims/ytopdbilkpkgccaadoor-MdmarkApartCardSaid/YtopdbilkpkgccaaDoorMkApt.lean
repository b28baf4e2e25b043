/- What may stand at one place, one beside the other: plain mathematics. -/
import Derived.Test.YtopdbilkpkgccaaDoorMkMath2
namespace Go.Proofs.YtopdbilkpkgccaaDoor

theorem laL_split {l : List Nat} {n : Nat} (hn : n ≤ l.length) (h : ∀ c, 0 < n → l[n - 1]? = some c → bk c = false) : n + laL (l.drop n) = laL l := by
  symm
  have h1 := laL_le (l.drop n)
  rw [List.length_drop] at h1
  refine laL_at l _ (by omega) (fun i c hi hc => ?_) (fun c h0 hc => ?_)
  · refine laL_rest (l.drop n) (i - n) c (by omega) ?_
    rw [List.getElem?_drop, show n + (i - n) = i by omega]
    exact hc
  · by_cases hz : laL (l.drop n) = 0
    · rw [hz] at hc h0
      exact h c h0 hc
    · obtain ⟨d, hd, hb⟩ := laL_last (l.drop n) (by omega)
      rw [List.getElem?_drop, show n + (laL (l.drop n) - 1) = n + laL (l.drop n) - 1 by omega, hc] at hd
      injection hd with hd
      rw [hd]
      exact hb
theorem rw_last {c : Nat} {l : List Nat} {n : Nat} (hn : rwL (· == c) l = n) (hb : bk c = false) : ∀ x, 0 < n → l[n - 1]? = some x → bk x = false := fun x h0 hx => by
  obtain ⟨d, hd, hp⟩ := rwL_mem (· == c) l (n - 1) (by omega)
  rw [hx] at hd
  injection hd with hd
  have : d = c := by simpa using hp
  rw [hd, this]
  exact hb
/-- What a mark keeps to, of a line whose words end at LA. -/
structure GoodM (LA : Nat) (m : Mk) : Prop where
  la : m.la = LA
  tt : m.tt ≤ LA
  fe : m.fr ≤ m.en
  en : m.en ≤ LA
theorem ruleL_c (p c : Nat) (r : List Nat) : ruleL p (c :: r) = if okR c = true ∧ rwL (fun x => x == c || bk x) (c :: r) = (c :: r).length ∧ 3 ≤ (c :: r).count c then (⟨c, (c :: r).count c, 0, 0, 0, p + laL (c :: r)⟩, true) else (noM, false) := rfl
theorem rule_yes {p c : Nat} {r : List Nat} (h : (ruleL p (c :: r)).2 = true) : okR c = true ∧ rwL (fun x => x == c || bk x) (c :: r) = (c :: r).length ∧ 3 ≤ (c :: r).count c ∧ (ruleL p (c :: r)).1 = ⟨c, (c :: r).count c, 0, 0, 0, p + laL (c :: r)⟩ := by
  rw [ruleL_c] at h
  rw [ruleL_c]
  split at h
  · rename_i k
    rw [if_pos k]
    exact ⟨k.1, k.2.1, k.2.2, rfl⟩
  · cases h
theorem rule_no {p : Nat} {l : List Nat} (h : (ruleL p l).2 = false) : (ruleL p l).1 = noM := by
  cases l with
  | nil => rfl
  | cons c r =>
    rw [ruleL_c] at h
    rw [ruleL_c]
    split at h
    · cases h
    · rename_i k
      rw [if_neg k]
theorem under_yes {p c : Nat} {r : List Nat} (h : (underL p (c :: r)).2 = true) : (c = 61 ∨ c = 45) ∧ laL ((c :: r).drop (rwL (· == c) (c :: r))) = 0 ∧ (underL p (c :: r)).1 = ⟨c, rwL (· == c) (c :: r), 0, 0, 0, p + rwL (· == c) (c :: r)⟩ := by
  rw [underL_cons rfl] at h ⊢
  split at h
  · rename_i k
    rw [if_pos k]
    exact ⟨k.1, k.2, rfl⟩
  · cases h
theorem under_no {p : Nat} {l : List Nat} (h : (underL p l).2 = false) : (underL p l).1 = noM := by
  cases l with
  | nil => rfl
  | cons c r =>
    rw [underL_cons rfl] at h ⊢
    split at h
    · cases h
    · rename_i k
      rw [if_neg k]
theorem fence_yes {p c : Nat} {r : List Nat} (h : (fenceL p (c :: r)).2 = true) : (c = 126 ∨ c = 96) ∧ (fenceL p (c :: r)).1 = ⟨c, rwL (· == c) (c :: r), p + rwL (· == c) (c :: r), 0, 0, p + rwL (· == c) (c :: r) + laL ((c :: r).drop (rwL (· == c) (c :: r)))⟩ := by
  rw [fenceL_cons rfl] at h ⊢
  split at h
  · rename_i k
    rw [if_pos k]
    exact ⟨k.1, rfl⟩
  · cases h
theorem fence_no {p : Nat} {l : List Nat} (h : (fenceL p l).2 = false) : (fenceL p l).1 = noM := by
  cases l with
  | nil => rfl
  | cons c r =>
    rw [fenceL_cons rfl] at h ⊢
    split at h
    · cases h
    · rename_i k
      rw [if_neg k]
theorem head_yes {p : Nat} {l : List Nat} {n : Nat} (hn : rwL (· == 35) l = n) (h : (headL p l).2 = true) : 0 < n ∧ (headL p l).1 = ⟨0, n, p + n, p + n + (cnL ((l.drop n).take (laL (l.drop n)))).1, p + n + (cnL ((l.drop n).take (laL (l.drop n)))).2, p + n + laL (l.drop n)⟩ := by
  rw [headL_eq hn] at h ⊢
  split at h
  · cases h
  · rename_i k
    rw [if_neg k]
    exact ⟨by omega, rfl⟩
theorem head_no {p : Nat} {l : List Nat} (h : (headL p l).2 = false) : (headL p l).1 = noM := by
  rw [headL_eq rfl] at h ⊢
  split at h
  · rename_i k
    rw [if_pos k]
  · cases h
theorem item_yes {p : Nat} {l : List Nat} (h : (itemL p l).2 = true) : ∃ c r, l.drop (rwL dgL l) = c :: r ∧ (if 0 < rwL dgL l then c = 46 ∨ c = 41 else c = 45 ∨ c = 43 ∨ c = 42) ∧ ptL r = true ∧ (itemL p l).1 = ⟨c, nuL (l.take (rwL dgL l)), p + rwL dgL l + 1, 0, 0, p + rwL dgL l + 1 + laL r⟩ := by
  cases hd : l.drop (rwL dgL l) with
  | nil =>
    rw [itemL_nil rfl hd] at h
    cases h
  | cons c r =>
    rw [itemL_cons rfl hd] at h
    rw [itemL_cons rfl hd]
    by_cases k : 9 < rwL dgL l ∨ (if 0 < rwL dgL l then c ≠ 46 ∧ c ≠ 41 else c ≠ 45 ∧ c ≠ 43 ∧ c ≠ 42) ∨ ptL r = false
    · rw [if_pos k] at h
      cases h
    · rw [if_neg k]
      refine ⟨c, r, rfl, ?_, ?_, rfl⟩
      · by_cases h0 : 0 < rwL dgL l
        · rw [if_pos h0] at k
          rw [if_pos h0]
          omega
        · rw [if_neg h0] at k
          rw [if_neg h0]
          omega
      · cases hp : ptL r with
        | true => rfl
        | false => exact absurd (.inr (.inr hp)) k
theorem item_no {p : Nat} {l : List Nat} (h : (itemL p l).2 = false) : (itemL p l).1 = noM := by
  cases hd : l.drop (rwL dgL l) with
  | nil => rw [itemL_nil rfl hd]
  | cons c r =>
    rw [itemL_cons rfl hd] at h
    rw [itemL_cons rfl hd]
    by_cases k : 9 < rwL dgL l ∨ (if 0 < rwL dgL l then c ≠ 46 ∧ c ≠ 41 else c ≠ 45 ∧ c ≠ 43 ∧ c ≠ 42) ∨ ptL r = false
    · rw [if_pos k]
    · rw [if_neg k] at h
      cases h
theorem cn_in (h : List Nat) : (cnL h).1 ≤ (cnL h).2 ∧ (cnL h).2 ≤ h.length := by
  unfold cnL
  split
  · exact ⟨Nat.le_refl _, Nat.zero_le _⟩
  · rename_i k
    have h1 := sk_lt_take (h := h) (k := ccL h) (by omega)
    have h2 := laL_le (h.take (ccL h))
    rw [List.length_take] at h2
    exact ⟨by show skL h ≤ laL _; omega, by show laL _ ≤ _; omega⟩
section
variable {p c : Nat} {r : List Nat}
theorem good_rule (h : (ruleL p (c :: r)).2 = true) : GoodM (p + laL (c :: r)) (ruleL p (c :: r)).1 := by
  obtain ⟨-, -, -, e⟩ := rule_yes h
  rw [e]
  exact ⟨rfl, Nat.zero_le _, Nat.le_refl _, Nat.zero_le _⟩
theorem rw_cons_le (q : Nat → Bool) : rwL q (c :: r) ≤ (c :: r).length := rwL_le _ _
theorem good_under (h : (underL p (c :: r)).2 = true) : GoodM (p + laL (c :: r)) (underL p (c :: r)).1 ∧ rwL (· == c) (c :: r) = laL (c :: r) := by
  obtain ⟨hc, h0, e⟩ := under_yes h
  have hs := laL_split (rwL_le (· == c) (c :: r)) (rw_last rfl (by rcases hc with rfl | rfl <;> rfl))
  rw [h0, Nat.add_zero] at hs
  rw [e]
  exact ⟨⟨by show p + _ = _; rw [hs], Nat.zero_le _, Nat.le_refl _, Nat.zero_le _⟩, hs⟩
theorem good_fence (h : (fenceL p (c :: r)).2 = true) : GoodM (p + laL (c :: r)) (fenceL p (c :: r)).1 := by
  obtain ⟨hc, e⟩ := fence_yes h
  have hs := laL_split (rwL_le (· == c) (c :: r)) (rw_last rfl (by rcases hc with rfl | rfl <;> rfl))
  rw [e]
  exact ⟨by show p + _ + _ = _; omega, by show p + _ ≤ _; omega, Nat.le_refl _, Nat.zero_le _⟩
theorem good_head (h : (headL p (c :: r)).2 = true) : GoodM (p + laL (c :: r)) (headL p (c :: r)).1 ∧ c = 35 := by
  obtain ⟨n, hn⟩ : ∃ n, rwL (· == 35) (c :: r) = n := ⟨_, rfl⟩
  obtain ⟨h0, e⟩ := head_yes hn h
  have hs := laL_split (l := c :: r) (n := n) (by rw [← hn]; exact rwL_le _ _) (rw_last hn rfl)
  obtain ⟨c1, c2⟩ := cn_in (((c :: r).drop n).take (laL ((c :: r).drop n)))
  rw [List.length_take] at c2
  have h35 : c = 35 := by
    obtain ⟨d, hd, hp⟩ := rwL_mem (· == 35) (c :: r) 0 (by omega)
    have : c = d := by simpa using hd
    rw [this]
    simpa using hp
  rw [e]
  exact ⟨⟨by show p + n + _ = _; omega, by show p + n ≤ _; omega, by show p + n + _ ≤ p + n + _; omega, by show p + n + _ ≤ _; omega⟩, h35⟩
theorem good_item (h : (itemL p (c :: r)).2 = true) : GoodM (p + laL (c :: r)) (itemL p (c :: r)).1 ∧ (dgL c = true ∨ ((c = 45 ∨ c = 43 ∨ c = 42) ∧ (itemL p (c :: r)).1.ch = c ∧ ptL r = true)) := by
  obtain ⟨x, v, hd, hx, hp, e⟩ := item_yes h
  obtain ⟨d, hdd⟩ : ∃ d, rwL dgL (c :: r) = d := ⟨_, rfl⟩
  rw [hdd] at hd hx e
  have hlt : d < (c :: r).length := by
    refine Nat.lt_of_not_le fun k => ?_
    rw [List.drop_of_length_le k] at hd
    cases hd
  have hx1 : (c :: r)[d]? = some x := by rw [List.drop_eq_getElem_cons hlt] at hd; injection hd with h1 h2; rw [List.getElem?_eq_getElem hlt, h1]
  have hv : (c :: r).drop (d + 1) = v := by rw [List.drop_eq_getElem_cons hlt] at hd; injection hd
  have hb : bk x = false := by
    split at hx
    · rcases hx with rfl | rfl <;> rfl
    · rcases hx with rfl | rfl | rfl <;> rfl
  have hs := laL_split (l := c :: r) (n := d + 1) (by omega) (fun y _ hy => by rw [Nat.add_sub_cancel, hx1] at hy; injection hy with hy; rw [← hy]; exact hb)
  rw [hv] at hs
  rw [e]
  refine ⟨⟨by show p + d + 1 + _ = _; omega, by show p + d + 1 ≤ _; omega, Nat.le_refl _, Nat.zero_le _⟩, ?_⟩
  by_cases h0 : 0 < d
  · left
    obtain ⟨y, hy, hq⟩ := rwL_mem dgL (c :: r) 0 (by omega)
    have : c = y := by simpa using hy
    rw [this]
    exact hq
  · right
    have hz : d = 0 := by omega
    subst hz
    rw [if_neg (by omega)] at hx
    have e1 : c = x := by simpa using hx1
    have e2 : r = v := by simpa using hv
    subst e1 e2
    exact ⟨hx, rfl, hp⟩
/-- A break that is an underline. -/
theorem rule_under (h1 : (ruleL p (c :: r)).2 = true) (h2 : (underL p (c :: r)).2 = true) : (ruleL p (c :: r)).1 = (underL p (c :: r)).1 ∧ c = 45 ∧ 3 ≤ (underL p (c :: r)).1.ct := by
  obtain ⟨ho, hk, h3, e1⟩ := rule_yes h1
  obtain ⟨hc, h0, e2⟩ := under_yes h2
  have hs := (good_under h2).2
  have hc45 : c = 45 := by
    rcases hc with rfl | rfl
    · cases ho
    · rfl
  have hcount : (c :: r).count c = rwL (· == c) (c :: r) := by
    have hsplit : (c :: r).count c = ((c :: r).take (rwL (· == c) (c :: r))).count c + ((c :: r).drop (rwL (· == c) (c :: r))).count c := by rw [← List.count_append, List.take_append_drop]
    have ha : ((c :: r).take (rwL (· == c) (c :: r))).count c = rwL (· == c) (c :: r) := by
      rw [List.count_eq_length.2 (fun b hb => by
        obtain ⟨i, hi⟩ := List.mem_iff_getElem?.1 hb
        have hil := (List.getElem?_eq_some_iff.1 hi).1
        rw [List.length_take] at hil
        obtain ⟨d, hd, hp⟩ := rwL_mem (· == c) (c :: r) i (by omega)
        rw [List.getElem?_take, if_pos (by omega), hd] at hi
        injection hi with hi
        have : d = c := by simpa using hp
        rw [← hi, this]), List.length_take, Nat.min_eq_left (rwL_le _ _)]
    have hb : ((c :: r).drop (rwL (· == c) (c :: r))).count c = 0 := List.count_eq_zero.2 fun hm => by
      have := laL_zero.1 h0 c hm
      rw [hc45] at this
      cases this
    omega
  rw [e1, e2, hcount]
  refine ⟨by rw [hs], hc45, ?_⟩
  show 3 ≤ rwL _ _
  omega
end
end Go.Proofs.YtopdbilkpkgccaaDoor
