/- Where a line ends, of lines that are put together or cut; texts in quotes are one leaf; in plain mathematics. -/
import Derived.Test.YtlpkflioikmgjaaDoorYSplit
namespace Go.Proofs.YtlpkflioikmgjaaDoor

/-- Is a text's last byte 13? -/
def lastB : Bool → List Nat → Bool
  | b, [] => b
  | _, c :: r => lastB (c == 13) r
theorem lastB_snoc (b : Bool) (u : List Nat) (c : Nat) : lastB b (u ++ [c]) = (c == 13) := by
  induction u generalizing b with
  | nil => rfl
  | cons d r ih => exact ih _
theorem endF_cons (b : Bool) (p c : Nat) (r : List Nat) : endF b p (c :: r) = if c = 10 then (if b then p - 1 else p) else endF (c == 13) (p + 1) r := rfl
theorem endF_app : ∀ (u l : List Nat) (b : Bool) (p : Nat), 10 ∉ u → endF b p (u ++ l) = endF (lastB b u) (p + u.length) l
  | [], _, _, _, _ => rfl
  | c :: r, l, b, p, h => by
    have hc : c ≠ 10 := fun e => h (by simp [e])
    rw [List.cons_append, endF_cons, if_neg hc, endF_app r l _ _ (fun k => h (by simp [k])), List.length_cons, show p + 1 + r.length = p + (r.length + 1) from by omega]
    rfl
theorem endF_shift (k : Nat) : ∀ (l : List Nat) (b : Bool) (p : Nat), (b = true → 0 < p) → endF b (p + k) l = endF b p l + k
  | [], _, _, _ => rfl
  | c :: r, b, p, h => by
    rw [endF_cons, endF_cons]
    by_cases hc : c = 10
    · rw [if_pos hc, if_pos hc]
      cases b with
      | true => have := h rfl; simp; omega
      | false => rfl
    · rw [if_neg hc, if_neg hc, show p + k + 1 = p + 1 + k from by omega]
      exact endF_shift k r _ _ (fun _ => by omega)
theorem endL_split (a b : List Nat) (h : 10 ∉ a) : endL (a ++ 32 :: b) = endL b + (a.length + 1) := by
  unfold endL
  rw [show a ++ 32 :: b = (a ++ [32]) ++ b from by simp, endF_app (a ++ [32]) b false 0 (by simp [h]), lastB_snoc, List.length_append]
  exact endF_shift (a.length + 1) b false 0 (fun e => by cases e)
theorem endL_lf (x : List Nat) (c : Nat) (h : 10 ∉ x) (hc : c ≠ 10) (h13 : c ≠ 13) : endL (x ++ [c] ++ [10]) = x.length + 1 := by
  unfold endL
  rw [endF_app (x ++ [c]) [10] false 0 (by simp [h, Ne.symm hc]), lastB_snoc, beq_eq_false_iff_ne.2 h13, List.length_append]
  simp [endF]
theorem endF_flag (p : Nat) (v : List Nat) (h : v.head? ≠ some 10) : endF true p v = endF false p v := by
  cases v with
  | nil => rfl
  | cons c r =>
    have hc : c ≠ 10 := fun e => h (by simp [e])
    rw [endF_cons, endF_cons, if_neg hc, if_neg hc]
theorem endF_no : ∀ (l : List Nat) (b : Bool) (p : Nat), 10 ∉ l.take (endF b p l - p)
  | [], _, _ => by simp
  | c :: r, b, p => by
    rw [endF_cons]
    by_cases hc : c = 10
    · rw [if_pos hc]
      have e : (if b = true then p - 1 else p) - p = 0 := by split <;> omega
      rw [e]
      simp
    · rw [if_neg hc]
      have ih := endF_no r (c == 13) (p + 1)
      by_cases hz : endF (c == 13) (p + 1) r ≤ p
      · rw [show endF (c == 13) (p + 1) r - p = 0 from by omega]
        simp
      · rw [show endF (c == 13) (p + 1) r - p = (endF (c == 13) (p + 1) r - (p + 1)) + 1 from by omega, List.take_succ_cons]
        intro hm
        rcases List.mem_cons.1 hm with hm | hm
        · exact hc hm.symm
        · exact ih hm
theorem endL_drop (l : List Nat) (k : Nat) (hk : k ≤ endL l) : endL (l.drop k) = endL l - k := by
  have hn : 10 ∉ l.take k := fun hm => by
    have h0 := endF_no l false 0
    rw [Nat.sub_zero] at h0
    refine h0 ?_
    have hsub : l.take k <+: l.take (endF false 0 l) := List.take_prefix_take_left hk
    exact hsub.subset hm
  have hl := endL_le l
  have hkl : (l.take k).length = k := by rw [List.length_take]; omega
  have e : endL l = endF (lastB false (l.take k)) k (l.drop k) := by
    conv => lhs; unfold endL; rw [← List.take_append_drop k l]
    rw [endF_app _ _ _ _ hn, hkl, Nat.zero_add]
  have e2 : endF false k (l.drop k) = endL (l.drop k) + k := by
    have := endF_shift k (l.drop k) false 0 (fun e => by cases e)
    rw [Nat.zero_add] at this
    exact this
  cases hb : lastB false (l.take k) with
  | false => rw [hb] at e; omega
  | true =>
    rw [hb] at e
    by_cases hh : (l.drop k).head? = some 10
    · exfalso
      have hk0 : 0 < k := by
        rcases Nat.eq_zero_or_pos k with h | h
        · subst h; cases hb
        · exact h
      cases hd : l.drop k with
      | nil => rw [hd] at hh; cases hh
      | cons c r =>
        rw [hd] at hh e
        have hc : c = 10 := by simpa using hh
        rw [endF_cons, if_pos hc] at e
        simp at e
        omega
    · rw [endF_flag _ _ hh] at e
      omega
/-- What is told from a place on is what the rest tells by itself. -/
theorem scan_own (l : List Nat) (m : Nat) (d : Int) (a : Int) (k : Nat) (hk : k = min (max a 0).toNat (endL l)) :
    scanE l a m d = ((scanE (l.drop k) 0 m d).1.map (shE k), (scanE (l.drop k) 0 m d).2) := by
  have hke : k ≤ endL l := by omega
  have ht : (l.drop k).take (endL (l.drop k)) = (l.take (endL l)).drop k := by
    rw [endL_drop l k hke, List.drop_take]
  have e1 : scanE (l.drop k) 0 m d = scanC 0 ((l.take (endL l)).drop k) (st0 m d) := by
    unfold scanE
    rw [scanL_eq, ht]
    rfl
  have e2 : scanE l a m d = scanC (max a 0).toNat ((l.take (endL l)).drop (max a 0).toNat) (st0 m d) := by
    unfold scanE
    rw [scanL_eq]
  rw [e1, e2]
  by_cases hz : (max a 0).toNat ≤ endL l
  · have : k = (max a 0).toNat := by omega
    subst this
    have := scan_shift (max a 0).toNat ((l.take (endL l)).drop (max a 0).toNat).length 0 ((l.take (endL l)).drop (max a 0).toNat) (st0 m d)
    rw [Nat.zero_add] at this
    exact this
  · have hl := endL_le l
    have h1 : (l.take (endL l)).drop (max a 0).toNat = [] := List.drop_of_length_le (by rw [List.length_take]; omega)
    have h2 : (l.take (endL l)).drop k = [] := List.drop_of_length_le (by rw [List.length_take]; omega)
    rw [h1, h2, scanC_nil, scanC_nil]
    rfl
/-- A byte of a text, as it is laid within quotes. -/
def escC (q0 c : Nat) : List Nat :=
  let e := if c = 10 ∨ c = 13 then 45 else c
  if e = q0 ∨ e = 92 then [92, e] else [e]
def escL (q0 : Nat) (l : List Nat) : List Nat := l.flatMap (escC q0)
theorem clo_txt (q : List Nat) (q0 : Nat) (qr : List Nat) (hq : q = q0 :: qr) (h92 : q0 ≠ 92) : ∀ l : List Nat, clo q (escL q0 l ++ q) = ((escL q0 l).length + q.length, 0)
  | [] => by
    show clo q ([] ++ q) = _
    rw [List.nil_append]
    conv => lhs; arg 2; rw [hq]
    rw [clo_step h92, ← hq, if_pos (List.isPrefixOf_iff_prefix.2 (List.prefix_refl q))]
    simp [escL]
  | c :: r => by
    have ih := clo_txt q q0 qr hq h92 r
    have e : escL q0 (c :: r) = escC q0 c ++ escL q0 r := rfl
    rw [e]
    unfold escC
    dsimp only
    generalize (if c = 10 ∨ c = 13 then 45 else c) = e
    by_cases h : e = q0 ∨ e = 92
    · rw [if_pos h]
      show clo q (92 :: e :: (escL q0 r ++ q)) = _
      rw [clo_esc, ih]
      simp; omega
    · rw [if_neg h]
      show clo q (e :: (escL q0 r ++ q)) = _
      have hp : q.isPrefixOf (e :: (escL q0 r ++ q)) = false := by
        rw [Bool.eq_false_iff]
        intro k
        rw [hq] at k
        simp only [List.isPrefixOf, Bool.and_eq_true, beq_iff_eq] at k
        exact h (.inl k.1.symm)
      rw [clo_step (fun k => h (.inr k)), hp, if_neg Bool.false_ne_true, ih]
      simp; omega
theorem esc_no10 (q0 : Nat) (h : q0 ≠ 10) (l : List Nat) : 10 ∉ escL q0 l := fun hm => by
  unfold escL at hm
  obtain ⟨c, -, hc⟩ := List.mem_flatMap.1 hm
  unfold escC at hc
  dsimp only at hc
  split at hc <;> split at hc <;> simp_all <;> omega
theorem esc_head (q0 : Nat) (h : q0 ≠ 92) (l : List Nat) : (escL q0 l).head? ≠ some q0 := by
  cases l with
  | nil => simp [escL]
  | cons c r =>
    have e : escL q0 (c :: r) = escC q0 c ++ escL q0 r := rfl
    rw [e]
    unfold escC
    dsimp only
    generalize (if c = 10 ∨ c = 13 then 45 else c) = e
    by_cases hh : e = q0 ∨ e = 92
    · rw [if_pos hh]; simp; exact Ne.symm h
    · rw [if_neg hh]; simp; exact fun k => hh (.inl k)
end Go.Proofs.YtlpkflioikmgjaaDoor
