/- The ends of lists of ranges, rising, each once; between two neighbouring ends a place stands for all. Nothing of the program stands here. -/
import Derived.Test.YtbgdphjjepbafaaSMath
namespace Go.Proofs.Ytbgdphjjepbafaa

/-- A place put into a rising list, if it is not there. -/
def ins (x : Int) : List Int → List Int
  | [] => [x]
  | y :: t => if y < x then y :: ins x t else if y = x then y :: t else x :: y :: t
theorem ins_here {x : Int} : ∀ (o : List Int) (k : Nat) (h : k < o.length), (∀ j (hj : j < k), o[j] < x) → o[k] = x → ins x o = o
  | y :: t, 0, _, _, e => by
    have e' : y = x := e
    unfold ins
    rw [if_neg (by omega), if_pos e']
  | y :: t, k + 1, h, hl, e => by
    have h0 : y < x := hl 0 (by omega)
    unfold ins
    rw [if_pos h0, ins_here t k (by simpa using h) (fun j hj => hl (j + 1) (by omega)) e]
theorem ins_new {x : Int} : ∀ (o : List Int) (k : Nat), k ≤ o.length → (∀ j (_ : j < k) (h : j < o.length), o[j] < x) → (∀ h : k < o.length, x < o[k]) → ins x o = o.take k ++ x :: o.drop k
  | [], 0, _, _, _ => rfl
  | y :: t, 0, _, _, e => by
    have h : x < y := e (by simp)
    unfold ins
    rw [if_neg (by omega), if_neg (by omega)]
    rfl
  | y :: t, k + 1, hk, hl, e => by
    have h0 : y < x := hl 0 (by omega) (by simp)
    unfold ins
    rw [if_pos h0, ins_new t k (by simpa using hk) (fun j hj h => hl (j + 1) (by omega) (by simpa using h)) (fun h => e (by simpa using h))]
    rfl
theorem ins_len (x : Int) : ∀ o : List Int, (ins x o).length ≤ o.length + 1
  | [] => Nat.le_refl _
  | y :: t => by
    have := ins_len x t
    unfold ins
    split
    · simp only [List.length_cons]; omega
    · split <;> simp only [List.length_cons] <;> omega
theorem mem_ins {x y : Int} : ∀ {o : List Int}, y ∈ ins x o ↔ y = x ∨ y ∈ o
  | [] => by simp [ins]
  | z :: t => by
    unfold ins
    split
    · rw [List.mem_cons, mem_ins (o := t), List.mem_cons]
      constructor
      · rintro (h | h | h)
        · exact .inr (.inl h)
        · exact .inl h
        · exact .inr (.inr h)
      · rintro (h | h | h)
        · exact .inr (.inl h)
        · exact .inl h
        · exact .inr (.inr h)
    · split
      · rename_i e
        subst e
        rw [List.mem_cons]
        constructor
        · rintro (h | h)
          · exact .inl h
          · exact .inr (.inr h)
        · rintro (h | h | h)
          · exact .inl h
          · exact .inl h
          · exact .inr h
      · rw [List.mem_cons]
/-- A list that rises. -/
def Up1 : List Int → Prop
  | [] => True
  | [_] => True
  | x :: y :: t => x < y ∧ Up1 (y :: t)
theorem Up1.tail {x : Int} : ∀ {t : List Int}, Up1 (x :: t) → Up1 t
  | [], _ => trivial
  | _ :: _, h => h.2
theorem Up1.head {x : Int} : ∀ {t : List Int}, Up1 (x :: t) → ∀ y ∈ t, x < y
  | [], _, _, h => by cases h
  | z :: u, h, y, hy => by
    rcases List.mem_cons.1 hy with e | e
    · exact e ▸ h.1
    · have := Up1.head h.2 y e
      have := h.1
      omega
theorem Up1.cons {x : Int} : ∀ {t : List Int}, Up1 t → (∀ y ∈ t, x < y) → Up1 (x :: t)
  | [], _, _ => trivial
  | _ :: _, h, g => ⟨g _ (List.mem_cons_self ..), h⟩
theorem Up1.ins {x : Int} : ∀ {o : List Int}, Up1 o → Up1 (ins x o)
  | [], _ => trivial
  | y :: t, h => by
    unfold Go.Proofs.Ytbgdphjjepbafaa.ins
    split
    · refine Up1.cons (Up1.ins h.tail) fun z hz => ?_
      rcases mem_ins.1 hz with e | e
      · omega
      · exact h.head z e
    · split
      · exact h
      · refine ⟨by omega, h⟩
theorem Up1.at_ : ∀ {o : List Int}, Up1 o → ∀ i (h : i + 1 < o.length), o[i]'(by omega) < o[i + 1]
  | [], _, _, h => absurd h (by simp)
  | [_], _, _, h => absurd h (by simp)
  | x :: y :: t, h, 0, _ => h.1
  | x :: y :: t, h, i + 1, hi => Up1.at_ (o := y :: t) h.2 i (by simpa using hi)
theorem Up1.lt : ∀ {o : List Int}, Up1 o → ∀ i j (_ : i < j) (h : j < o.length), o[i]'(by omega) < o[j]
  | o, h, i, 0, hij, _ => absurd hij (Nat.not_lt_zero _)
  | o, h, i, j + 1, hij, hj => by
    have e := h.at_ j hj
    by_cases g : i = j
    · subst g
      exact e
    · have := Up1.lt h i j (by omega) (by omega)
      omega
/-- The ends of a list put into a rising list. -/
def endsL (L : List Rng) (o : List Int) : List Int := L.foldl (fun o r => ins (clp r.2) (ins (clp r.1) o)) o
theorem endsL_snoc (L : List Rng) (r : Rng) (o : List Int) : endsL (L ++ [r]) o = ins (clp r.2) (ins (clp r.1) (endsL L o)) := by
  unfold endsL
  rw [List.foldl_append]
  rfl
theorem endsL_up : ∀ {L : List Rng} {o : List Int}, Up1 o → Up1 (endsL L o)
  | [], _, h => h
  | r :: t, o, h => endsL_up (L := t) (o := ins (clp r.2) (ins (clp r.1) o)) h.ins.ins
theorem mem_endsL {y : Int} : ∀ {L : List Rng} {o : List Int}, y ∈ endsL L o ↔ y ∈ o ∨ ∃ r ∈ L, y = clp r.1 ∨ y = clp r.2
  | [], o => by simp [endsL]
  | r :: t, o => by
    show y ∈ endsL t (ins (clp r.2) (ins (clp r.1) o)) ↔ _
    rw [mem_endsL (L := t), mem_ins, mem_ins]
    constructor
    · rintro ((h | h | h) | ⟨q, hq, h⟩)
      · exact .inr ⟨r, List.mem_cons_self .., .inr h⟩
      · exact .inr ⟨r, List.mem_cons_self .., .inl h⟩
      · exact .inl h
      · exact .inr ⟨q, List.mem_cons_of_mem _ hq, h⟩
    · rintro (h | ⟨q, hq, h⟩)
      · exact .inl (.inr (.inr h))
      · rcases List.mem_cons.1 hq with e | e
        · subst e
          rcases h with h | h
          · exact .inl (.inr (.inl h))
          · exact .inl (.inl h)
        · exact .inr ⟨q, e, h⟩
theorem endsL_len : ∀ (L : List Rng) (o : List Int), (endsL L o).length ≤ o.length + 2 * L.length
  | [], o => by simp [endsL]
  | r :: t, o => by
    have h1 := endsL_len t (ins (clp r.2) (ins (clp r.1) o))
    have h2 := ins_len (clp r.2) (ins (clp r.1) o)
    have h3 := ins_len (clp r.1) o
    have e : endsL (r :: t) o = endsL t (ins (clp r.2) (ins (clp r.1) o)) := rfl
    rw [e, List.length_cons]
    omega
/-- No end between two places: both are in, or none is. -/
theorem has_same {L : List Rng} {x p : Int} (hxp : x ≤ p) (h : ∀ r ∈ L, ¬ (x < clp r.1 ∧ clp r.1 ≤ p) ∧ ¬ (x < clp r.2 ∧ clp r.2 ≤ p)) : has L p = has L x := by
  induction L with
  | nil => rfl
  | cons r t ih =>
    rw [has_cons, has_cons, ih (fun q hq => h q (List.mem_cons_of_mem _ hq))]
    congr 1
    obtain ⟨h1, h2⟩ := h r (List.mem_cons_self ..)
    unfold inR
    by_cases a : clp r.1 ≤ x
    · rw [decide_eq_true (show clp r.1 ≤ p by omega), decide_eq_true a]
      by_cases b : x < clp r.2
      · rw [decide_eq_true (show p < clp r.2 by omega), decide_eq_true b]
      · rw [decide_eq_false (show ¬ p < clp r.2 by omega), decide_eq_false b]
    · rw [decide_eq_false (show ¬ clp r.1 ≤ p by omega), decide_eq_false a]
      rfl
end Go.Proofs.Ytbgdphjjepbafaa
