/- What a row of one byte is, with blanks behind: plain mathematics. -/
import Derived.Test.YtopdbilkpkgccaaDoorMkMath
namespace Go.Proofs.YtopdbilkpkgccaaDoor

theorem rw_rep (p : Nat → Bool) (c : Nat) (h : p c = true) (n : Nat) (v : List Nat) : rwL p (List.replicate n c ++ v) = n + rwL p v := by
  rw [rwL_app p _ v (fun x hx => by rw [(List.mem_replicate.1 hx).2]; exact h), List.length_replicate]
theorem rw_no (p : Nat → Bool) (c : Nat) (h : p c = false) (m : Nat) : rwL p (List.replicate m c) = 0 := by
  cases m with
  | zero => rfl
  | succ m => rw [List.replicate_succ, rwL_cons, if_neg (by rw [h]; exact Bool.false_ne_true)]
theorem la_rep (c : Nat) (h : bk c = false) (n m : Nat) : laL (List.replicate n c ++ List.replicate m 32) = n := by
  refine laL_at _ n (by simp) (fun i d hi hd => ?_) (fun d h0 hd => ?_)
  · rw [List.getElem?_append_right (by rw [List.length_replicate]; exact hi)] at hd
    have := List.mem_of_getElem? hd
    rw [(List.mem_replicate.1 this).2]
    rfl
  · rw [List.getElem?_append_left (by rw [List.length_replicate]; omega)] at hd
    have := List.mem_of_getElem? hd
    rw [(List.mem_replicate.1 this).2]
    exact h
theorem la_blank (m : Nat) : laL (List.replicate m 32) = 0 := laL_zero.2 fun x hx => by rw [(List.mem_replicate.1 hx).2]; rfl
def rowS (c n m : Nat) : List Nat := List.replicate n c ++ List.replicate m 32
theorem row_cons {c n m : Nat} (h : 0 < n) : rowS c n m = c :: (List.replicate (n - 1) c ++ List.replicate m 32) := by
  obtain ⟨k, rfl⟩ : ∃ k, n = k + 1 := ⟨n - 1, by omega⟩
  rfl
theorem ruleR_cons {a c K C L : Nat} {r : List Nat} (hK : rwL (fun x => x == c || bk x) (c :: r) = K) (hC : (c :: r).count c = C) (hL : laL (c :: r) = L) : ruleL a (c :: r) = if okR c = true ∧ K = (c :: r).length ∧ 3 ≤ C then (⟨c, C, 0, 0, 0, a + L⟩, true) else (noM, false) := by subst hK hC hL; rfl
theorem row_rule {c n m : Nat} (h : 0 < n) (hb : bk c = false) : ruleL 0 (rowS c n m) = if okR c = true ∧ 3 ≤ n then (⟨c, n, 0, 0, 0, n⟩, true) else (noM, false) := by
  have h32 : c ≠ 32 := fun e => by rw [e] at hb; cases hb
  have hK : rwL (fun x => x == c || bk x) (rowS c n m) = (rowS c n m).length := by
    unfold rowS
    rw [rw_rep _ c (by simp)]
    have := rwL_app (fun x => x == c || bk x) (List.replicate m 32) [] (fun x hx => by rw [(List.mem_replicate.1 hx).2]; simp [bk])
    rw [List.append_nil] at this
    rw [this]
    simp [rwL]
  have hC : (rowS c n m).count c = n := by
    unfold rowS
    rw [List.count_append, List.count_replicate_self, List.count_eq_zero_of_not_mem (fun hm => h32 (List.mem_replicate.1 hm).2)]
    rfl
  have hL : laL (rowS c n m) = n := la_rep c hb n m
  rw [row_cons h] at hK hC hL ⊢
  rw [ruleR_cons hK hC hL, Nat.zero_add]
  by_cases hq : okR c = true ∧ 3 ≤ n
  · rw [if_pos hq, if_pos ⟨hq.1, rfl, hq.2⟩]
  · rw [if_neg hq, if_neg (fun k => hq ⟨k.1, k.2.2⟩)]
theorem row_n {c n m : Nat} (hb : bk c = false) : rwL (· == c) (rowS c n m) = n ∧ (rowS c n m).drop n = List.replicate m 32 := by
  have h32 : c ≠ 32 := fun e => by rw [e] at hb; cases hb
  unfold rowS
  refine ⟨?_, ?_⟩
  · rw [rw_rep _ c (by simp), rw_no _ 32 (by simp; omega)]
    rfl
  · rw [List.drop_append, List.length_replicate, Nat.sub_self, List.drop_of_length_le (by simp)]
    rfl
theorem row_under {c n m : Nat} (h : 0 < n) (hb : bk c = false) : underL 0 (rowS c n m) = if c = 61 ∨ c = 45 then (⟨c, n, 0, 0, 0, n⟩, true) else (noM, false) := by
  obtain ⟨h1, h2⟩ := row_n (n := n) (m := m) hb
  rw [row_cons h] at h1 h2 ⊢
  rw [underL_cons h1, h2, la_blank, Nat.zero_add]
  by_cases hq : c = 61 ∨ c = 45
  · rw [if_pos hq, if_pos ⟨hq, rfl⟩]
  · rw [if_neg hq, if_neg (fun k => hq k.1)]
theorem row_fence {c n m : Nat} (h : 0 < n) (hb : bk c = false) : fenceL 0 (rowS c n m) = if (c = 126 ∨ c = 96) ∧ 3 ≤ n then (⟨c, n, n, 0, 0, n⟩, true) else (noM, false) := by
  obtain ⟨h1, h2⟩ := row_n (n := n) (m := m) hb
  rw [row_cons h] at h1 h2 ⊢
  rw [fenceL_cons h1, h2, la_blank, Nat.zero_add, Nat.add_zero]
  by_cases hq : (c = 126 ∨ c = 96) ∧ 3 ≤ n
  · rw [if_pos hq, if_pos ⟨hq.1, hq.2, fun _ hm => by have := (List.mem_replicate.1 hm).2; omega⟩]
  · rw [if_neg hq, if_neg (fun k => hq ⟨k.1, k.2.1⟩)]
theorem row_rest {c n m : Nat} (h10 : c ≠ 10) : restL (rowS c n m) 0 = rowS c n m := by
  unfold restL
  rw [if_neg (by omega), endL_none (by
    unfold rowS
    intro hm
    rcases List.mem_append.1 hm with hm | hm
    · exact h10 (List.mem_replicate.1 hm).2.symm
    · have := (List.mem_replicate.1 hm).2; omega), List.take_length]
  rfl
theorem row_rest10 {c n m : Nat} (h : 0 < n) (h10 : c ≠ 10) (h13 : c ≠ 13) : restL (rowS c n m ++ [10]) 0 = rowS c n m := by
  have hno : 10 ∉ rowS c n m := by
    unfold rowS
    intro hm
    rcases List.mem_append.1 hm with hm | hm
    · exact h10 (List.mem_replicate.1 hm).2.symm
    · have := (List.mem_replicate.1 hm).2; omega
  have hlast : lastB false (rowS c n m) = false := by
    unfold rowS
    cases m with
    | zero =>
      obtain ⟨k, rfl⟩ : ∃ k, n = k + 1 := ⟨n - 1, by omega⟩
      rw [List.replicate_zero, List.append_nil, List.replicate_succ', lastB_snoc]
      exact beq_eq_false_iff_ne.2 h13
    | succ m =>
      rw [List.replicate_succ', ← List.append_assoc, lastB_snoc]
      rfl
  unfold restL
  rw [if_neg (by omega), endL_at hno, hlast, if_neg (by decide), List.take_left']
  · rfl
  · rfl
end Go.Proofs.YtopdbilkpkgccaaDoor
