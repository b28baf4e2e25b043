/- What may begin a block of Markdown at a place of a line: plain mathematics, on the rest of the line alone. -/
import Derived.Test.YtopdbilkpkgccaaDoorLnMath
namespace Go.Proofs.YtopdbilkpkgccaaDoor

/-- How many bytes of a kind stand first. -/
def rwL (p : Nat → Bool) : List Nat → Nat
  | [] => 0
  | c :: r => if p c = true then rwL p r + 1 else 0
structure Mk where
  ch : Nat
  ct : Nat
  tt : Nat
  fr : Nat
  en : Nat
  la : Nat
def noM : Mk := ⟨0, 0, 0, 0, 0, 0⟩
def dgL (c : Nat) : Bool := decide (48 ≤ c ∧ c ≤ 57)
def okR (c : Nat) : Bool := c == 42 || c == 45 || c == 95
def ruleL (a : Nat) : List Nat → Mk × Bool
  | [] => (noM, false)
  | c :: r => if okR c = true ∧ rwL (fun x => x == c || bk x) (c :: r) = (c :: r).length ∧ 3 ≤ (c :: r).count c then (⟨c, (c :: r).count c, 0, 0, 0, a + laL (c :: r)⟩, true) else (noM, false)
/-- How many bytes of the kind c stand last. -/
def tlL (c : Nat) (h : List Nat) : Nat := rwL (· == c) h.reverse
/-- Where the closing row of a heading's content begins, or its end. -/
def ccL (h : List Nat) : Nat := if 0 < h.length - tlL 35 h ∧ bk (h.getD (h.length - tlL 35 h - 1) 0) = false then h.length else h.length - tlL 35 h
/-- Where a heading's content begins and ends. -/
def cnL (h : List Nat) : Nat × Nat := if laL (h.take (ccL h)) = 0 then (0, 0) else (skL h, laL (h.take (ccL h)))
def headL (a : Nat) (l : List Nat) : Mk × Bool :=
  let n := rwL (· == 35) l
  let r := l.drop n
  if n = 0 ∨ 6 < n ∨ ptL r = false then (noM, false) else (⟨0, n, a + n, a + n + (cnL (r.take (laL r))).1, a + n + (cnL (r.take (laL r))).2, a + n + laL r⟩, true)
def underL (a : Nat) : List Nat → Mk × Bool
  | [] => (noM, false)
  | c :: r => let n := rwL (· == c) (c :: r)
    if (c = 61 ∨ c = 45) ∧ laL ((c :: r).drop n) = 0 then (⟨c, n, 0, 0, 0, a + n⟩, true) else (noM, false)
def fenceL (a : Nat) : List Nat → Mk × Bool
  | [] => (noM, false)
  | c :: r => let n := rwL (· == c) (c :: r)
    if (c = 126 ∨ c = 96) ∧ 3 ≤ n ∧ (c = 96 → 96 ∉ (c :: r).drop n) then (⟨c, n, a + n, 0, 0, a + n + laL ((c :: r).drop n)⟩, true) else (noM, false)
/-- The number that digits spell. -/
def nuL (l : List Nat) : Nat := l.foldl (fun n c => 10 * n + (c - 48)) 0
def itemL (a : Nat) (l : List Nat) : Mk × Bool :=
  let d := rwL dgL l
  match l.drop d with
  | [] => (noM, false)
  | c :: r => if 9 < d ∨ (if 0 < d then c ≠ 46 ∧ c ≠ 41 else c ≠ 45 ∧ c ≠ 43 ∧ c ≠ 42) ∨ ptL r = false then (noM, false) else (⟨c, nuL (l.take d), a + d + 1, 0, 0, a + d + 1 + laL r⟩, true)
/-- What a line has from a place on, ahead of its end. -/
def restL (t : List Nat) (a : Int) : List Nat := if a < 0 then [] else (t.take (endL t)).drop a.toNat
theorem underL_cons {a c n : Nat} {r : List Nat} (hn : rwL (· == c) (c :: r) = n) : underL a (c :: r) = if (c = 61 ∨ c = 45) ∧ laL ((c :: r).drop n) = 0 then (⟨c, n, 0, 0, 0, a + n⟩, true) else (noM, false) := by subst hn; rfl
theorem fenceL_cons {a c n : Nat} {r : List Nat} (hn : rwL (· == c) (c :: r) = n) : fenceL a (c :: r) = if (c = 126 ∨ c = 96) ∧ 3 ≤ n ∧ (c = 96 → 96 ∉ (c :: r).drop n) then (⟨c, n, a + n, 0, 0, a + n + laL ((c :: r).drop n)⟩, true) else (noM, false) := by subst hn; rfl
theorem headL_eq {a n : Nat} {l : List Nat} (hn : rwL (· == 35) l = n) : headL a l = if n = 0 ∨ 6 < n ∨ ptL (l.drop n) = false then (noM, false) else (⟨0, n, a + n, a + n + (cnL ((l.drop n).take (laL (l.drop n)))).1, a + n + (cnL ((l.drop n).take (laL (l.drop n)))).2, a + n + laL (l.drop n)⟩, true) := by subst hn; rfl
theorem itemL_nil {a d : Nat} {l : List Nat} (hn : rwL dgL l = d) (h : l.drop d = []) : itemL a l = (noM, false) := by subst hn; unfold itemL; dsimp only; rw [h]
theorem itemL_cons {a d c : Nat} {l r : List Nat} (hn : rwL dgL l = d) (h : l.drop d = c :: r) : itemL a l = if 9 < d ∨ (if 0 < d then c ≠ 46 ∧ c ≠ 41 else c ≠ 45 ∧ c ≠ 43 ∧ c ≠ 42) ∨ ptL r = false then (noM, false) else (⟨c, nuL (l.take d), a + d + 1, 0, 0, a + d + 1 + laL r⟩, true) := by subst hn; unfold itemL; dsimp only; rw [h]
theorem rwL_le (p : Nat → Bool) : ∀ l : List Nat, rwL p l ≤ l.length
  | [] => Nat.le_refl _
  | c :: r => by have := rwL_le p r; unfold rwL; rw [List.length_cons]; split <;> omega
theorem rwL_cons (p : Nat → Bool) (c : Nat) (r : List Nat) : rwL p (c :: r) = if p c = true then rwL p r + 1 else 0 := rfl
theorem rwL_mem (p : Nat → Bool) : ∀ (l : List Nat) (i : Nat), i < rwL p l → ∃ c, l[i]? = some c ∧ p c = true
  | [], i, h => by cases h
  | c :: r, i, h => by
    rw [rwL_cons] at h
    by_cases hc : p c = true
    · rw [if_pos hc] at h
      cases i with
      | zero => exact ⟨c, rfl, hc⟩
      | succ i => exact rwL_mem p r i (by omega)
    · rw [if_neg hc] at h
      omega
theorem rwL_stop (p : Nat → Bool) : ∀ (l : List Nat) (c : Nat) (r : List Nat), l.drop (rwL p l) = c :: r → p c = false
  | [], c, r, h => by cases h
  | d :: u, c, r, h => by
    rw [rwL_cons] at h
    by_cases hd : p d = true
    · rw [if_pos hd, List.drop_succ_cons] at h
      exact rwL_stop p u c r h
    · rw [if_neg hd, List.drop_zero] at h
      injection h with h1 h2
      subst h1
      simpa using hd
theorem rwL_app (p : Nat → Bool) : ∀ (u v : List Nat), (∀ x ∈ u, p x = true) → rwL p (u ++ v) = u.length + rwL p v
  | [], v, _ => by simp
  | c :: u, v, h => by
    rw [List.cons_append, rwL_cons, if_pos (h c (by simp)), rwL_app p u v (fun x hx => h x (by simp [hx])), List.length_cons]
    omega
theorem rwL_at (p : Nat → Bool) (l : List Nat) (k : Nat) (hk : k ≤ l.length) (h1 : ∀ (i : Nat) c, i < k → l[i]? = some c → p c = true) (h2 : ∀ c, l[k]? = some c → p c = false) : rwL p l = k := by
  induction l generalizing k with
  | nil => simp at hk; rw [hk]; rfl
  | cons c r ih =>
    rw [rwL_cons]
    cases k with
    | zero => rw [if_neg (by rw [h2 c rfl]; exact Bool.false_ne_true)]
    | succ k =>
      rw [if_pos (h1 0 c (by omega) rfl), ih k (by simp at hk; omega) (fun i d hi hd => h1 (i + 1) d (by omega) (by simpa using hd)) (fun d hd => h2 d (by simpa using hd))]
theorem rwL_drop (p : Nat → Bool) (l : List Nat) (i : Nat) (h : i ≤ rwL p l) : rwL p (l.drop i) + i = rwL p l := by
  induction l generalizing i with
  | nil => simp [rwL] at h ⊢; omega
  | cons c r ih =>
    cases i with
    | zero => rfl
    | succ i =>
      rw [rwL_cons] at h ⊢
      split at h
      · rename_i hc
        rw [List.drop_succ_cons, if_pos hc, ← ih i (by omega)]
        omega
      · omega
theorem skL_rw (l : List Nat) : skL l = rwL bk l := by
  induction l with
  | nil => rfl
  | cons c r ih => show (if bk c = true then skL r + 1 else 0) = _; rw [rwL_cons, ih]
theorem laL_zero {l : List Nat} : laL l = 0 ↔ ∀ x ∈ l, bk x = true := by
  induction l with
  | nil => simp [laL]
  | cons c r ih =>
    unfold laL
    constructor
    · intro h x hx
      split at h
      · rename_i k
        rcases List.mem_cons.1 hx with rfl | hx
        · exact k.2
        · exact ih.1 k.1 x hx
      · omega
    · intro h
      rw [if_pos ⟨ih.2 fun x hx => h x (by simp [hx]), h c (by simp)⟩]
/-- All behind it is blank. -/
theorem laL_rest : ∀ (l : List Nat) (i : Nat) (c : Nat), laL l ≤ i → l[i]? = some c → bk c = true
  | [], i, c, _, h => by simp at h
  | d :: r, i, c, h, hc => by
    unfold laL at h
    by_cases k : laL r = 0 ∧ bk d = true
    · rw [if_pos k] at h
      cases i with
      | zero => simp at hc; subst hc; exact k.2
      | succ i => exact laL_rest r i c (by omega) (by simpa using hc)
    · rw [if_neg k] at h
      cases i with
      | zero => omega
      | succ i => exact laL_rest r i c (by omega) (by simpa using hc)
theorem laL_at (l : List Nat) (k : Nat) (hk : k ≤ l.length) (h1 : ∀ (i : Nat) c, k ≤ i → l[i]? = some c → bk c = true) (h2 : ∀ c, 0 < k → l[k - 1]? = some c → bk c = false) : laL l = k := by
  rcases Nat.lt_trichotomy (laL l) k with h | h | h
  · exfalso
    obtain ⟨c, hc⟩ : ∃ c, l[k - 1]? = some c := ⟨l[k - 1], List.getElem?_eq_getElem (by omega)⟩
    have a := h2 c (by omega) hc
    have b := laL_rest l (k - 1) c (by omega) hc
    rw [a] at b
    cases b
  · exact h
  · exfalso
    obtain ⟨c, hc, hb⟩ := laL_last l (by omega)
    have := h1 (laL l - 1) c (by omega) hc
    rw [hb] at this
    cases this
theorem skL_lt {l : List Nat} (h : 0 < laL l) : skL l < laL l := by
  obtain ⟨c, hc, hb⟩ := laL_last l h
  rcases Nat.lt_or_ge (skL l) (laL l) with k | k
  · exact k
  · exfalso
    rw [skL_rw] at k
    obtain ⟨d, hd, hb2⟩ := rwL_mem bk l (laL l - 1) (by omega)
    rw [hc] at hd
    injection hd with hd
    subst hd
    rw [hb] at hb2
    cases hb2
theorem restL_len (t : List Nat) (a : Int) : (restL t a).length ≤ t.length := by
  unfold restL
  split
  · simp
  · rw [List.length_drop, List.length_take]; omega
end Go.Proofs.YtopdbilkpkgccaaDoor
