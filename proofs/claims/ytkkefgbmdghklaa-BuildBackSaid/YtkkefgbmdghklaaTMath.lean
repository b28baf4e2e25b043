/- Trees as lists of nodes: whether a list is one, in plain words. Nothing of the program stands here. -/
import Derived.Test.YtkkefgbmdghklaaTArg
namespace Go.Proofs.Ytkkefgbmdghklaa

def nd (L : List Nd) (i : Nat) : Nd := L.getD i (0, 0, 0, 0)
theorem nd_eq {L : List Nd} {i : Nat} (h : i < L.length) : L[i] = nd L i := by
  unfold nd
  rw [List.getD_eq_getElem?_getD, List.getElem?_eq_getElem h]
  rfl
/-- How deep a node lies. -/
def dep (L : List Nd) (i : Nat) : Int := (nd L i).2.2.2
/-- The nodes that are open behind a node: of each depth one. -/
def st (L : List Nd) : Nat → List Nat
  | 0 => [0]
  | i + 1 => (st L i).take (dep L (i + 1)).toNat ++ [i + 1]
/-- Whether the next node may stand there. -/
def okA (L : List Nd) (i : Nat) : Prop :=
  1 ≤ dep L (i + 1) ∧ dep L (i + 1) ≤ dep L i + 1 ∧
  (nd L ((st L i).getD ((dep L (i + 1)).toNat - 1) 0)).2.1 ≤ (nd L (i + 1)).2.1 ∧ (nd L (i + 1)).2.1 ≤ (nd L (i + 1)).2.2.1 ∧
  (nd L (i + 1)).2.2.1 ≤ (nd L ((st L i).getD ((dep L (i + 1)).toNat - 1) 0)).2.2.1 ∧
  (dep L (i + 1) ≤ dep L i → (nd L ((st L i).getD (dep L (i + 1)).toNat 0)).2.2.1 ≤ (nd L (i + 1)).2.1)
/-- A tree of n bytes. -/
structure IsT (L : List Nd) (n : Int) : Prop where
  lo : 0 ≤ n
  hi : n ≤ 1048576
  pos : 0 < L.length
  root : nd L 0 = (1, 0, n, 0)
  ok : ∀ i, i + 1 < L.length → okA L i
/-- A tree of its size. -/
def Fit (L : List Nd) : Prop := IsT L (nd L 0).2.2.1
theorem IsT.fit {L : List Nd} {n : Int} (h : IsT L n) : Fit L := by
  unfold Fit
  rw [h.root]
  exact h
/-- What is so of a list's first nodes: the open ones are as many as the last one is deep, and one. -/
theorem st_len {L : List Nd} : ∀ {i : Nat}, dep L 0 = 0 → (∀ j, j < i → okA L j) → ((st L i).length : Int) = dep L i + 1 ∧ 0 ≤ dep L i
  | 0, h0, _ => by rw [h0]; exact ⟨rfl, Int.le_refl _⟩
  | i + 1, h0, h => by
    obtain ⟨h1, h2⟩ := st_len (L := L) (i := i) h0 (fun j hj => h j (by omega))
    obtain ⟨h3, h4, -⟩ := h i (by omega)
    unfold st
    rw [List.length_append, List.length_take, List.length_singleton]
    refine ⟨?_, by omega⟩
    omega
theorem st_last (L : List Nd) : ∀ i, ∃ P, st L i = P ++ [i]
  | 0 => ⟨[], rfl⟩
  | _ + 1 => ⟨_, rfl⟩
/-- The open nodes lie one behind the other, none behind the last one. -/
theorem st_le (L : List Nd) : ∀ (i k : Nat), k ∈ st L i → k ≤ i
  | 0, k, h => by
    have : k = 0 := by simpa [st] using h
    omega
  | i + 1, k, h => by
    unfold st at h
    rcases List.mem_append.1 h with h | h
    · have := st_le L i k (List.mem_of_mem_take h); omega
    · have := List.mem_singleton.1 h; omega
theorem st_succ (L : List Nd) (i : Nat) : st L (i + 1) = (st L i).take (dep L (i + 1)).toNat ++ [i + 1] := rfl
/-- The open node of each depth is of that depth. -/
theorem st_dep {L : List Nd} : ∀ {i : Nat}, dep L 0 = 0 → (∀ j, j < i → okA L j) → ∀ (k x : Nat), (st L i)[k]? = some x → dep L x = k
  | 0, h0, _, k, x, h => by
    have hk : k = 0 ∧ x = 0 := by
      match k, h with
      | 0, h => exact ⟨rfl, by simpa [st] using h.symm⟩
    obtain ⟨rfl, rfl⟩ := hk
    exact h0
  | i + 1, h0, hok, k, x, h => by
    obtain ⟨h1, h2⟩ := st_len (L := L) (i := i) h0 (fun j hj => hok j (by omega))
    obtain ⟨h3, h4, -⟩ := hok i (by omega)
    have ih := st_dep (L := L) (i := i) h0 (fun j hj => hok j (by omega))
    have hl : ((st L i).take (dep L (i + 1)).toNat).length = (dep L (i + 1)).toNat := by rw [List.length_take]; omega
    rw [st_succ, List.getElem?_append, hl] at h
    by_cases hk : k < (dep L (i + 1)).toNat
    · rw [if_pos hk, List.getElem?_take, if_pos hk] at h
      exact ih k x h
    · rw [if_neg hk] at h
      have hk2 : k - (dep L (i + 1)).toNat = 0 := by
        rcases Nat.eq_zero_or_pos (k - (dep L (i + 1)).toNat) with e | e
        · exact e
        · rw [List.getElem?_eq_none (by simp; omega)] at h; cases h
      rw [hk2] at h
      have hx : i + 1 = x := by simpa using h
      subst hx
      omega
/-- The parent: the last node ahead whose depth is one less; below 0: there is none. -/
def parN (L : List Nd) (d : Int) : Nat → Int
  | 0 => -1
  | k + 1 => if dep L k = d then k else parN L d k
def par (L : List Nd) (i : Nat) : Int := parN L (dep L i - 1) i
/-- The nodes within a node, right below it. -/
def subE (L : List Nd) (i : Nat) : Nat → Nat → Nat
  | 0, k => k
  | m + 1, k => if dep L i < dep L k then subE L i m (k + 1) else k
def kidsT (L : List Nd) (i : Nat) : List Nat := ((List.range' (i + 1) (subE L i (L.length - (i + 1)) (i + 1) - (i + 1))).filter fun k => decide (dep L k = dep L i + 1))
/-- The leaves. -/
def leafT (L : List Nd) (i : Nat) : Bool := decide (i + 1 = L.length) || decide (dep L (i + 1) ≤ dep L i)
def leavesT (L : List Nd) (n : Nat) : List Nat := (List.range n).filter (leafT L)
/-- The deepest node at a place, of the first ones. -/
def atT (L : List Nd) (q : Int) : Nat → Nat
  | 0 => 0
  | n + 1 => if n = 0 then 0 else if (nd L n).2.1 ≤ q ∧ q ≤ (nd L n).2.2.1 ∧ dep L (atT L q n) < dep L n then n else atT L q n
end Go.Proofs.Ytkkefgbmdghklaa
