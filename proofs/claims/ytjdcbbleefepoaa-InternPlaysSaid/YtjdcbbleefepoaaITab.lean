/- The list of states that comes of a row of states, each put once; the number of each. -/
import Derived.Test.YtjdcbbleefepoaaIState
namespace Go.Proofs.Ytjdcbbleefepoaa

theorem addS_pre (L : List (Array Value)) (x : Array Value) : L <+: addS L x := by
  unfold addS
  split
  · exact List.prefix_refl _
  · exact List.prefix_append _ _
theorem pre_at {L M : List (Array Value)} (h : L <+: M) {i : Nat} (hi : i < L.length) : M[i]'(Nat.lt_of_lt_of_le hi h.length_le) = L[i] := by
  obtain ⟨r, rfl⟩ := h
  exact List.getElem_append_left hi
theorem fI_val {L : List (Array Value)} {x : Array Value} (h : fI L x < L.length) : L[fI L x] = x := by
  have := List.findIdx_getElem (xs := L) (p := fun y => eqS y x) (w := h)
  exact eqS_true.1 this
theorem addS_lt (L : List (Array Value)) (x : Array Value) : fI L x < (addS L x).length := by
  have := fI_le L x
  unfold addS
  split
  · assumption
  · rw [List.length_append]; show fI L x < L.length + 1; omega
theorem addS_val (L : List (Array Value)) (x : Array Value) : (addS L x)[fI L x]'(addS_lt L x) = x := by
  have h0 := fI_le L x
  by_cases h : fI L x < L.length
  · rw [pre_at (addS_pre L x) h]
    exact fI_val h
  · have e : fI L x = L.length := by omega
    have e2 : addS L x = L ++ [x] := by unfold addS; rw [if_neg h]
    have : (addS L x)[fI L x]? = some x := by rw [e2, e]; simp
    rw [List.getElem?_eq_getElem (addS_lt L x)] at this
    exact Option.some.inj this
/-- No state stands there twice. -/
def Once (L : List (Array Value)) : Prop := ∀ (i j : Nat) (hi : i < L.length) (hj : j < L.length), L[i] = L[j] → i = j
theorem once_nil : Once [] := fun _ _ hi => absurd hi (Nat.not_lt_zero _)
theorem fI_once {L : List (Array Value)} (h : Once L) {j : Nat} (hj : j < L.length) : fI L L[j] = j := by
  have hlt : fI L L[j] < L.length := by
    have hle := fI_le L L[j]
    rcases Nat.lt_or_ge (fI L L[j]) L.length with k | k
    · exact k
    · exfalso
      have e : L.findIdx (fun y => eqS y L[j]) = L.length := Nat.le_antisymm hle k
      rw [List.findIdx_eq_length] at e
      have := e L[j] (List.getElem_mem hj)
      rw [eqS_self] at this
      cases this
  exact h _ _ hlt hj (fI_val hlt)
theorem fI_not {L : List (Array Value)} {x : Array Value} (h : ¬ fI L x < L.length) (i : Nat) (hi : i < L.length) : L[i] ≠ x := fun e => by
  have e2 : L.findIdx (fun y => eqS y x) = L.length := Nat.le_antisymm (fI_le L x) (Nat.le_of_not_lt h)
  rw [List.findIdx_eq_length] at e2
  have := e2 L[i] (List.getElem_mem hi)
  rw [e, eqS_self] at this
  cases this
theorem once_add {L : List (Array Value)} (h : Once L) (x : Array Value) : Once (addS L x) := by
  by_cases hx : fI L x < L.length
  · have e : addS L x = L := by unfold addS; rw [if_pos hx]
    rw [e]; exact h
  · have e : addS L x = L ++ [x] := by unfold addS; rw [if_neg hx]
    rw [e]
    intro i j hi hj heq
    have hl : (L ++ [x]).length = L.length + 1 := by simp
    by_cases h1 : i < L.length
    · by_cases h2 : j < L.length
      · rw [List.getElem_append_left h1, List.getElem_append_left h2] at heq
        exact h i j h1 h2 heq
      · have : j = L.length := by omega
        subst this
        rw [List.getElem_append_left h1] at heq
        have e2 : (L ++ [x])[L.length] = x := by simp
        rw [e2] at heq
        exact absurd heq (fI_not hx i h1)
    · have : i = L.length := by omega
      subst this
      by_cases h2 : j < L.length
      · rw [List.getElem_append_left h2] at heq
        have e2 : (L ++ [x])[L.length] = x := by simp
        rw [e2] at heq
        exact absurd heq.symm (fI_not hx j h2)
      · omega
/-- The list behind the first i of a row's states, and the number of the state i. -/
noncomputable def tabN (l : List (Array Value)) : Nat → List (Array Value)
  | 0 => []
  | i + 1 => addS (tabN l i) (l.getD i z0)
noncomputable def idN (l : List (Array Value)) (i : Nat) : Nat := fI (tabN l i) (l.getD i z0)
theorem tab_pre (l : List (Array Value)) (i : Nat) : ∀ k, tabN l i <+: tabN l (i + k)
  | 0 => List.prefix_refl _
  | k + 1 => (tab_pre l i k).trans (addS_pre _ _)
theorem tab_once (l : List (Array Value)) : ∀ i, Once (tabN l i)
  | 0 => once_nil
  | i + 1 => once_add (tab_once l i) _
theorem addS_len (L : List (Array Value)) (x : Array Value) : (addS L x).length ≤ L.length + 1 := by
  unfold addS
  split
  · omega
  · simp
theorem tab_len (l : List (Array Value)) : ∀ i, (tabN l i).length ≤ i
  | 0 => Nat.le_refl _
  | i + 1 => Nat.le_trans (addS_len _ _) (Nat.succ_le_succ (tab_len l i))
theorem tab_at {l : List (Array Value)} {i n : Nat} (hi : i < n) : ∃ h : idN l i < (tabN l n).length, (tabN l n)[idN l i] = l.getD i z0 := by
  obtain ⟨k, rfl⟩ : ∃ k, n = i + 1 + k := ⟨n - (i + 1), by omega⟩
  have hp := tab_pre l (i + 1) k
  have h1 : idN l i < (tabN l (i + 1)).length := addS_lt _ _
  exact ⟨Nat.lt_of_lt_of_le h1 hp.length_le, by rw [pre_at hp h1]; exact addS_val _ _⟩
theorem tab_id {l : List (Array Value)} {i n : Nat} (hi : i < n) : fI (tabN l n) (l.getD i z0) = idN l i := by
  obtain ⟨h1, h2⟩ := tab_at (l := l) hi
  rw [← h2]
  exact fI_once (tab_once l n) h1
theorem tab_same {l : List (Array Value)} {i n : Nat} (hi : i < n) : addS (tabN l n) (l.getD i z0) = tabN l n := by
  obtain ⟨h1, -⟩ := tab_at (l := l) hi
  unfold addS
  rw [tab_id hi, if_pos h1]
theorem tab_eq {l : List (Array Value)} {i k n : Nat} (hi : i < n) (hk : k < n) : idN l k = idN l i ↔ l.getD k z0 = l.getD i z0 := by
  constructor
  · intro h
    obtain ⟨h1, h2⟩ := tab_at (l := l) hi
    obtain ⟨h3, h4⟩ := tab_at (l := l) hk
    rw [← h2, ← h4]
    congr 1
  · intro h
    rw [← tab_id hi, ← tab_id hk, h]
theorem tab_pos {l : List (Array Value)} {n : Nat} (hn : 0 < n) : 0 < (tabN l n).length := by
  obtain ⟨h1, -⟩ := tab_at (l := l) (i := 0) hn
  omega
theorem tab_state {l : List (Array Value)} {i n : Nat} (hi : i < n) : stT (tabN l n) (idN l i : Nat) = l.getD i z0 ∧ stE (tabN l n).length (idN l i : Nat) = 0 := by
  obtain ⟨h1, h2⟩ := tab_at (l := l) hi
  unfold stT stE
  rw [if_pos (by omega), if_pos (by omega), Int.toNat_natCast, List.getD_eq_getElem?_getD, List.getElem?_eq_getElem h1]
  exact ⟨h2, rfl⟩
theorem tab_find {l : List (Array Value)} {i n : Nat} (hi : i < n) : fE (tabN l n) (l.getD i z0) = idN l i ∧ fB (tabN l n) (l.getD i z0) = true := by
  obtain ⟨h1, -⟩ := tab_at (l := l) hi
  unfold fE fB
  rw [tab_id hi, if_pos h1]
  exact ⟨rfl, decide_eq_true h1⟩
end Go.Proofs.Ytjdcbbleefepoaa
