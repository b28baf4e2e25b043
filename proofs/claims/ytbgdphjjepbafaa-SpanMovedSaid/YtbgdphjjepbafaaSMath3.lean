/- What is said of the places of two lists, gone through end by end: what has been told up to an end, and one step. Nothing of the program stands here. -/
import Derived.Test.YtbgdphjjepbafaaSMath2
namespace Go.Proofs.Ytbgdphjjepbafaa

/-- Which places are kept, by whether each list has them. -/
def keepB (how : Int) (p q : Bool) : Bool := if how = 0 then p || q else if how = 1 then p && !q else p && q
theorem keepB_none (how : Int) : keepB how false false = false := by
  unfold keepB
  split
  · rfl
  · split <;> rfl
def hasB (how : Int) (a b : List Rng) (p : Int) : Bool := keepB how (has a p) (has b p)
/-- The ends of two lists. -/
def ends2 (a b : List Rng) : List Int := endsL b (endsL a [])
theorem ends2_up (a b : List Rng) : Up1 (ends2 a b) := endsL_up (endsL_up trivial)
theorem mem_ends2 {a b : List Rng} {y : Int} : y ∈ ends2 a b ↔ (∃ r ∈ a, y = clp r.1 ∨ y = clp r.2) ∨ ∃ r ∈ b, y = clp r.1 ∨ y = clp r.2 := by
  unfold ends2
  rw [mem_endsL, mem_endsL]
  simp
theorem ends2_in {a b : List Rng} {y : Int} (h : y ∈ ends2 a b) : 0 ≤ y ∧ y ≤ 1099511627776 := by
  rcases mem_ends2.1 h with ⟨r, -, e | e⟩ | ⟨r, -, e | e⟩ <;> exact e ▸ clp_in _
/-- What a list that rises holds lies between two neighbours of it nowhere. -/
theorem up1_gap {X : List Int} (h : Up1 X) {i : Nat} (hi : i + 1 < X.length) {y : Int} (hy : y ∈ X) : ¬ (X[i]'(by omega) < y ∧ y < X[i + 1]) := by
  obtain ⟨j, hj, rfl⟩ := List.getElem_of_mem hy
  rintro ⟨h1, h2⟩
  rcases Nat.lt_trichotomy j i with e | e | e
  · have := h.lt j i e (by omega)
    omega
  · subst e; omega
  · by_cases g : j = i + 1
    · subst g; omega
    · have := h.lt (i + 1) j (by omega) hj
      omega
theorem hasB_between {how : Int} {a b : List Rng} {i : Nat} (hi : i + 1 < (ends2 a b).length) {p : Int} (h1 : (ends2 a b)[i]'(by omega) ≤ p) (h2 : p < (ends2 a b)[i + 1]) : hasB how a b p = hasB how a b ((ends2 a b)[i]'(by omega)) := by
  have hup := ends2_up a b
  unfold hasB
  rw [has_same (L := a) h1 (fun r hr => ⟨fun e => up1_gap hup hi (y := clp r.1) (mem_ends2.2 (.inl ⟨r, hr, .inl rfl⟩)) ⟨e.1, by omega⟩, fun e => up1_gap hup hi (y := clp r.2) (mem_ends2.2 (.inl ⟨r, hr, .inr rfl⟩)) ⟨e.1, by omega⟩⟩),
    has_same (L := b) h1 (fun r hr => ⟨fun e => up1_gap hup hi (y := clp r.1) (mem_ends2.2 (.inr ⟨r, hr, .inl rfl⟩)) ⟨e.1, by omega⟩, fun e => up1_gap hup hi (y := clp r.2) (mem_ends2.2 (.inr ⟨r, hr, .inr rfl⟩)) ⟨e.1, by omega⟩⟩)]
theorem has_mem {L : List Rng} {p : Int} (h : has L p = true) : ∃ r ∈ L, clp r.1 ≤ p ∧ p < clp r.2 := by
  unfold has at h
  rw [List.any_eq_true] at h
  obtain ⟨r, hr, h2⟩ := h
  exact ⟨r, hr, inR_iff.1 h2⟩
theorem up1_first {X : List Int} (h : Up1 X) {y : Int} (hy : y ∈ X) (h0 : 0 < X.length) : X[0] ≤ y := by
  obtain ⟨j, hj, rfl⟩ := List.getElem_of_mem hy
  by_cases e : j = 0
  · subst e; exact Int.le_refl _
  · have := h.lt 0 j (by omega) hj
    omega
theorem up1_last {X : List Int} (h : Up1 X) {y : Int} (hy : y ∈ X) {n : Nat} (hn : n + 1 = X.length) : y ≤ X[n]'(by omega) := by
  obtain ⟨j, hj, rfl⟩ := List.getElem_of_mem hy
  by_cases e : j = n
  · subst e; exact Int.le_refl _
  · have := h.lt j n (by omega) (by omega)
    omega
theorem hasB_ahead {how : Int} {a b : List Rng} (h0 : 0 < (ends2 a b).length) {p : Int} (hp : p < (ends2 a b)[0]) : hasB how a b p = false := by
  have hup := ends2_up a b
  have n : ∀ L : List Rng, (∀ r ∈ L, clp r.1 ∈ ends2 a b) → has L p = false := by
    intro L hL
    cases hb : has L p with
    | false => rfl
    | true =>
      obtain ⟨r, hr, h1, h2⟩ := has_mem hb
      have := up1_first hup (hL r hr) h0
      omega
  unfold hasB
  rw [n a (fun r hr => mem_ends2.2 (.inl ⟨r, hr, .inl rfl⟩)), n b (fun r hr => mem_ends2.2 (.inr ⟨r, hr, .inl rfl⟩)), keepB_none]
theorem hasB_behind {how : Int} {a b : List Rng} {n : Nat} (hn : n + 1 = (ends2 a b).length) {p : Int} (hp : (ends2 a b)[n]'(by omega) ≤ p) : hasB how a b p = false := by
  have hup := ends2_up a b
  have no : ∀ L : List Rng, (∀ r ∈ L, clp r.2 ∈ ends2 a b) → has L p = false := by
    intro L hL
    cases hb : has L p with
    | false => rfl
    | true =>
      obtain ⟨r, hr, h1, h2⟩ := has_mem hb
      have := up1_last hup (hL r hr) hn
      omega
  unfold hasB
  rw [no a (fun r hr => mem_ends2.2 (.inl ⟨r, hr, .inr rfl⟩)), no b (fun r hr => mem_ends2.2 (.inr ⟨r, hr, .inr rfl⟩)), keepB_none]
theorem hasB_nothing {how : Int} {a b : List Rng} (h0 : (ends2 a b).length = 0) (p : Int) : hasB how a b p = false := by
  have e : ends2 a b = [] := List.eq_nil_of_length_eq_zero h0
  have no : ∀ L : List Rng, (∀ r ∈ L, clp r.2 ∈ ends2 a b) → has L p = false := by
    intro L hL
    cases hb : has L p with
    | false => rfl
    | true =>
      obtain ⟨r, hr, -, -⟩ := has_mem hb
      have := hL r hr
      rw [e] at this
      cases this
  unfold hasB
  rw [no a (fun r hr => mem_ends2.2 (.inl ⟨r, hr, .inr rfl⟩)), no b (fun r hr => mem_ends2.2 (.inr ⟨r, hr, .inr rfl⟩)), keepB_none]
/-- What has been told up to a place x. -/
structure Told (K : Int → Bool) (x : Int) (F : List Rng) : Prop where
  form : Form F
  le : ∀ r ∈ F, r.2 ≤ x
  has_ : ∀ p, has F p = (decide (p < x) && K p)
theorem Told.nil {K : Int → Bool} {x : Int} (h : ∀ p, p < x → K p = false) : Told K x [] := by
  refine ⟨trivial, fun _ h => (by cases h), fun p => ?_⟩
  rw [has_nil]
  by_cases g : p < x
  · rw [h p g, Bool.and_false]
  · rw [decide_eq_false g, Bool.false_and]
/-- Nothing is told of the places from x to y. -/
theorem Told.skip {K : Int → Bool} {x y : Int} {F : List Rng} (h : Told K x F) (hxy : x ≤ y) (hk : ∀ p, x ≤ p → p < y → K p = false) : Told K y F := by
  refine ⟨h.form, fun r hr => Int.le_trans (h.le r hr) hxy, fun p => ?_⟩
  rw [h.has_]
  by_cases g : p < x
  · rw [decide_eq_true g, decide_eq_true (show p < y by omega)]
  · rw [decide_eq_false g]
    by_cases g2 : p < y
    · rw [hk p (by omega) g2, Bool.and_false, Bool.and_false]
    · rw [decide_eq_false g2]
theorem told_has {K : Int → Bool} {x y p : Int} {H : Bool} (h : H = (decide (p < x) && K p)) (hxy : x ≤ y) (hk : ∀ p, x ≤ p → p < y → K p = true) : (H || (decide (x ≤ p) && decide (p < y))) = (decide (p < y) && K p) := by
  rw [h]
  by_cases g : p < x
  · rw [decide_eq_true g, decide_eq_true (show p < y by omega), decide_eq_false (show ¬ x ≤ p by omega)]
    simp
  · rw [decide_eq_false g, decide_eq_true (show x ≤ p by omega)]
    by_cases g2 : p < y
    · rw [hk p (by omega) g2, decide_eq_true g2]
      rfl
    · rw [decide_eq_false g2]
      rfl
/-- The last range goes on. -/
theorem Told.longer {K : Int → Bool} {x y u : Int} {F : List Rng} (h : Told K x (F ++ [(u, x)])) (hxy : x < y) (hy : y ≤ 1099511627776) (hk : ∀ p, x ≤ p → p < y → K p = true) : Told K y (F ++ [(u, y)]) := by
  have hf := formA_longer h.form hxy hy
  obtain ⟨i1, i2, i3, i4, i5⟩ := formA_init h.form
  obtain ⟨j1, j2, j3, j4, j5⟩ := formA_init hf
  refine ⟨hf, fun r hr => ?_, fun p => ?_⟩
  · rcases List.mem_append.1 hr with e | e
    · have := i2 r e
      omega
    · rw [List.mem_singleton] at e
      subst e
      exact Int.le_refl _
  · have e := told_has (y := y) (h.has_ p) (by omega) hk
    rw [← e, has_append, has_append, has_cons, has_cons, has_nil, Bool.or_false, Bool.or_false, Bool.or_assoc]
    congr 1
    unfold inR
    simp only at i3 i4 i5 j3 j4 j5
    rw [clp_id (by omega) (by omega), clp_id (by omega) (by omega), clp_id (by omega) (by omega)]
    by_cases g : u ≤ p
    · by_cases g2 : p < x
      · rw [decide_eq_true g, decide_eq_true g2, decide_eq_true (show p < y by omega)]; rfl
      · rw [decide_eq_true g, decide_eq_false g2, decide_eq_true (show x ≤ p by omega)]; rfl
    · rw [decide_eq_false g, decide_eq_false (show ¬ x ≤ p by omega)]; rfl
/-- A new range. -/
theorem Told.more {K : Int → Bool} {x y : Int} {F : List Rng} (h : Told K x F) (hn : ∀ G r, F = G ++ [r] → r.2 ≠ x) (hx : 0 ≤ x) (hxy : x < y) (hy : y ≤ 1099511627776) (hk : ∀ p, x ≤ p → p < y → K p = true) : Told K y (F ++ [(x, y)]) := by
  have hlt : ∀ r ∈ F, r.2 < x := by
    intro r hr
    have hle := h.le r hr
    rcases List.eq_nil_or_concat F with e | ⟨G, q, e⟩
    · subst e; cases hr
    · rw [List.concat_eq_append] at e
      have hq := hn G q e
      have hql := h.le q (by rw [e]; simp)
      have hf : FormA (-1) (G ++ [q]) := e ▸ h.form
      obtain ⟨i1, i2, i3, i4, i5⟩ := formA_init hf
      rw [e] at hr
      rcases List.mem_append.1 hr with g | g
      · have := i2 r g
        omega
      · rw [List.mem_singleton] at g
        subst g
        omega
  refine ⟨formA_snoc h.form (by omega) hlt hxy hy, fun r hr => ?_, fun p => ?_⟩
  · rcases List.mem_append.1 hr with e | e
    · have := hlt r e
      omega
    · rw [List.mem_singleton] at e
      subst e
      exact Int.le_refl _
  · rw [has_append, has_cons, has_nil, Bool.or_false, ← told_has (y := y) (h.has_ p) (by omega) hk]
    unfold inR
    simp only
    rw [clp_id (by omega) (by omega), clp_id (by omega) (by omega)]
end Go.Proofs.Ytbgdphjjepbafaa
