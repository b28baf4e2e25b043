/- Leaves and kids, one behind the other: plain facts that the statement on families asks. -/
import Derived.Test.YtidnldchdahgeaaDoorTFam
import Derived.Test.YtidnldchdahgeaaDoorTLeaves
namespace Go.Proofs.YtidnldchdahgeaaDoor

/-- The leaves from a place on. -/
def leavesR (L : List Nd) (n i : Nat) : List Nat := (List.range' i (n - i)).filter (leafT L)
theorem leaves_cut {L : List Nd} {n i : Nat} (h : i ≤ n) : leavesT L n = leavesT L i ++ leavesR L n i := by
  unfold leavesT leavesR
  rw [← List.filter_append, List.range_eq_range', List.range_eq_range']
  have h1 := (List.range'_append_1 (s := 0) (m := i) (n := n - i)).symm
  rw [show i + (n - i) = n from by omega, Nat.zero_add] at h1
  rw [← h1]
theorem leavesR_step {L : List Nd} {n i : Nat} (h : i < n) : leavesR L n i = (if leafT L i = true then [i] else []) ++ leavesR L n (i + 1) := by
  unfold leavesR
  rw [show n - i = (n - (i + 1)) + 1 from by omega, List.range'_succ, List.filter_cons]
  split <;> rfl
theorem leavesR_ge {L : List Nd} {n i x : Nat} (h : x ∈ leavesR L n i) : i ≤ x := by
  unfold leavesR at h
  have := (List.mem_filter.1 h).1
  rw [List.mem_range'_1] at this
  exact this.1
theorem leavesT_step {L : List Nd} {i : Nat} : leavesT L (i + 1) = leavesT L i ++ (if leafT L i = true then [i] else []) := by
  unfold leavesT
  rw [List.range_succ, List.filter_append, List.filter_cons]
  split <;> rfl
/-- The leaf that comes next. -/
theorem leaf_next {L : List Nd} {n i a : Nat} (h : i < n) (ha : (leavesT L i).length = a) : (leafT L i = true → (leavesT L n)[a]? = some i) ∧ (leafT L i = false → ∀ x, (leavesT L n)[a]? = some x → i < x) := by
  have h1 := leaves_cut (L := L) (show i ≤ n by omega)
  have h2 := leavesR_step (L := L) h
  constructor
  · intro hl
    rw [h1, h2, if_pos hl, List.getElem?_append_right (by omega), ha, Nat.sub_self]
    rfl
  · intro hl x hx
    rw [h1, h2, if_neg (by rw [hl]; decide), List.getElem?_append_right (by omega), ha, Nat.sub_self, List.nil_append] at hx
    have := leavesR_ge (List.mem_of_getElem? hx)
    omega
theorem leaves_all {L : List Nd} {n a : Nat} (ha : (leavesT L n).length = a) : (leavesT L n)[a]? = none := List.getElem?_eq_none (by omega)
/-- Of a row that rises, what stands once is counted once. -/
theorem count_asc : ∀ {l : List Nat} {x : Nat}, l.Pairwise (· < ·) → x ∈ l → l.count x = 1
  | y :: t, x, h, hx => by
    obtain ⟨h1, h2⟩ := List.pairwise_cons.1 h
    rcases List.mem_cons.1 hx with e | e
    · subst e
      rw [List.count_cons_self, List.count_eq_zero_of_not_mem (fun hm => by have := h1 x hm; omega)]
    · have := h1 x e
      rw [List.count_cons_of_ne (by omega), count_asc h2 e]
theorem count_take {l : List Nat} {x k : Nat} (h : k < l.length) : (l.take (k + 1)).count x = (l.take k).count x + (if l[k] = x then 1 else 0) := by
  rw [List.take_succ_eq_append_getElem h, List.count_append, List.count_singleton]
  by_cases e : l[k] = x
  · rw [if_pos e, if_pos (by simpa using e)]
  · rw [if_neg e, if_neg (by simpa using e)]
theorem asc_lt {l : List Nat} (h : l.Pairwise (· < ·)) {k : Nat} (h1 : k + 1 < l.length) : l[k] < l[k + 1] := List.pairwise_iff_getElem.1 h k (k + 1) (by omega) h1 (Nat.lt_succ_self k)
end Go.Proofs.YtidnldchdahgeaaDoor
