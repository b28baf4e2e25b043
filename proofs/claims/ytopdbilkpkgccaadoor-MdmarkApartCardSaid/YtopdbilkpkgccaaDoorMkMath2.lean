/- A heading's content, as the program comes to it: plain mathematics. -/
import Derived.Test.YtopdbilkpkgccaaDoorMkMath
namespace Go.Proofs.YtopdbilkpkgccaaDoor

theorem tl_step {c : Nat} {h : List Nat} {k x : Nat} (hx : h[k]? = some x) : rwL (· == c) ((h.take (k + 1)).reverse) = if x = c then rwL (· == c) ((h.take k).reverse) + 1 else 0 := by
  rw [List.take_add_one, hx, Option.toList_some, List.reverse_append, List.reverse_singleton, List.singleton_append, rwL_cons]
  by_cases e : x = c
  · rw [if_pos e, if_pos (by simpa using e)]
  · rw [if_neg e, if_neg (by simpa using e)]
theorem sk_lt_take {h : List Nat} {k : Nat} (h0 : 0 < laL (h.take k)) : skL h < laL (h.take k) := by
  have h1 := skL_lt h0
  have h2 : skL (h.take k) < (h.take k).length := Nat.lt_of_lt_of_le h1 (laL_le _)
  have : skL h = skL (h.take k) := by
    rw [skL_rw, skL_rw]
    have e := rwL_at bk h (rwL bk (h.take k)) (by rw [← skL_rw]; rw [List.length_take] at h2; omega) (fun i c hi hc => by
      obtain ⟨d, hd, hp⟩ := rwL_mem bk (h.take k) i hi
      rw [List.getElem?_take] at hd
      split at hd
      · rw [hc] at hd; injection hd with hd; rw [hd]; exact hp
      · cases hd) (fun c hc => by
      rw [skL_rw] at h2
      have hk : rwL bk (h.take k) < k := by rw [List.length_take] at h2; omega
      refine rwL_stop bk (h.take k) c ((h.take k).drop (rwL bk (h.take k) + 1)) ?_
      rw [List.drop_eq_getElem_cons h2]
      congr 1
      rw [List.getElem_take]
      rw [List.getElem?_eq_getElem (by rw [List.length_take] at h2; omega)] at hc
      exact Option.some.inj hc)
    exact e
  omega
theorem cn_eq (h : List Nat) : cnL h = (if laL (h.take (ccL h)) = 0 then 0 else skL h, laL (h.take (ccL h))) := by
  unfold cnL
  split
  · rename_i e; rw [e]
  · rfl
/-- Where the row of # begins with which a head ends behind a blank; its end, if it ends with none. -/
def clL (l : List Nat) : Nat := if 0 < l.length - tlL 35 l ∧ bk (l.getD (l.length - tlL 35 l - 1) 0) = true then l.length - tlL 35 l else l.length
theorem tlL_le (c : Nat) (h : List Nat) : tlL c h ≤ h.length := by
  have := rwL_le (· == c) h.reverse
  rw [List.length_reverse] at this
  exact this
theorem rwL_app_lt (p : Nat → Bool) : ∀ (u v : List Nat), rwL p u < u.length → rwL p (u ++ v) = rwL p u
  | [], v, h => by cases h
  | c :: u, v, h => by
    rw [List.cons_append, rwL_cons, rwL_cons] at *
    by_cases hc : p c = true
    · rw [if_pos hc] at h ⊢
      rw [if_pos hc, rwL_app_lt p u v (by simp at h; omega)]
    · rw [if_neg hc, if_neg hc]
theorem cl_cc {u h : List Nat} (hu : ∀ x ∈ u, x = 35) (hp : ptL h = true) : clL (u ++ h) = u.length + ccL h := by
  cases h with
  | nil =>
    have ht : tlL 35 (u ++ []) = u.length := by
      rw [List.append_nil]
      unfold tlL
      have := rwL_app (· == 35) u.reverse [] (fun x hx => by simpa using hu x (by simpa using hx))
      rw [List.append_nil] at this
      rw [this]
      simp [rwL]
    unfold clL
    rw [ht, if_neg (fun k => by have := k.1; simp at this)]
    have : ccL [] = 0 := rfl
    rw [this]
    simp
  | cons b r =>
    have hb : bk b = true := hp
    have hb35 : (b == 35) = false := by
      cases e : b == 35 with
      | false => rfl
      | true => rw [beq_iff_eq.1 e] at hb; exact absurd hb (by decide)
    have hlt : rwL (· == 35) (b :: r).reverse < (b :: r).reverse.length := by
      rcases Nat.lt_or_ge (rwL (· == 35) (b :: r).reverse) (b :: r).reverse.length with h1 | h1
      · exact h1
      · exfalso
        have h0 : (b :: r).reverse.length = r.length + 1 := by simp
        obtain ⟨x, hx, hxp⟩ := rwL_mem (· == 35) (b :: r).reverse r.length (by omega)
        rw [List.reverse_cons, List.getElem?_append_right (by simp)] at hx
        simp at hx
        subst hx
        rw [hb35] at hxp
        cases hxp
    have ht : tlL 35 (u ++ b :: r) = tlL 35 (b :: r) := by
      unfold tlL
      rw [List.reverse_append, rwL_app_lt _ _ _ hlt]
    obtain ⟨k, hk⟩ : ∃ k, (b :: r).length - tlL 35 (b :: r) = k + 1 := ⟨(b :: r).length - tlL 35 (b :: r) - 1, by
      unfold tlL
      rw [List.length_reverse] at hlt
      omega⟩
    have hkl : (u ++ b :: r).length - tlL 35 (u ++ b :: r) = u.length + k + 1 := by
      rw [ht, List.length_append]
      have := tlL_le 35 (b :: r)
      omega
    have hk2 : k < (b :: r).length := by omega
    unfold clL ccL
    rw [hkl, hk, Nat.add_sub_cancel, Nat.add_sub_cancel, List.getD_eq_getElem?_getD, List.getD_eq_getElem?_getD, List.getElem?_append_right (by omega), Nat.add_sub_cancel_left, List.getElem?_eq_getElem hk2, Option.getD_some]
    cases hx : bk (b :: r)[k] with
    | true => rw [if_pos ⟨by omega, rfl⟩, if_neg (fun q => by cases q.2)]; omega
    | false => rw [if_neg (fun q => by cases q.2), if_pos ⟨by omega, rfl⟩, List.length_append]
theorem cc_le (h : List Nat) : ccL h ≤ h.length := by unfold ccL; split <;> omega
theorem cn_prog {u h : List Nat} (hu : ∀ x ∈ u, x = 35) (hp : ptL h = true) : (if laL (((u ++ h).take (clL (u ++ h))).drop u.length) ≤ skL h then (0, 0) else (skL h, laL (((u ++ h).take (clL (u ++ h))).drop u.length))) = cnL h := by
  have e : ((u ++ h).take (clL (u ++ h))).drop u.length = h.take (ccL h) := by
    rw [cl_cc hu hp, List.take_append, List.drop_append, Nat.add_sub_cancel_left, List.take_of_length_le (by omega), List.drop_length]
    simp
  rw [e, cn_eq]
  rcases Nat.eq_zero_or_pos (laL (h.take (ccL h))) with h0 | h0
  · rw [h0, if_pos (by omega), if_pos rfl]
  · rw [if_neg (by have := sk_lt_take h0; omega), if_neg (by omega)]
end Go.Proofs.YtopdbilkpkgccaaDoor
