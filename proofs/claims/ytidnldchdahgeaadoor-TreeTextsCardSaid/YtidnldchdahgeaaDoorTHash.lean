/- The numbers of which a node is summed, in plain words. Nothing of the program stands here. -/
import Derived.Test.YtidnldchdahgeaaDoorTFam
namespace Go.Proofs.YtidnldchdahgeaaDoor

/-- The nodes behind a node that lie within it. -/
def subR (L : List Nd) (i : Nat) : Nat → Nat → List Nat
  | 0, _ => []
  | m + 1, k => if dep L i < dep L k then k :: subR L i m (k + 1) else []
def subL (L : List Nd) (n i : Nat) : List Nat := subR L i (n - (i + 1)) (i + 1)
theorem subR_len (L : List Nd) (i : Nat) : ∀ m k, (subR L i m k).length ≤ m
  | 0, _ => Nat.le_refl _
  | m + 1, k => by
    have := subR_len L i m (k + 1)
    unfold subR
    split
    · rw [List.length_cons]; omega
    · simp
theorem subR_mem (L : List Nd) (i : Nat) : ∀ m k x, x ∈ subR L i m k → k ≤ x ∧ x < k + m
  | 0, _, _, h => by cases h
  | m + 1, k, x, h => by
    unfold subR at h
    split at h
    · rcases List.mem_cons.1 h with e | e
      · omega
      · have := subR_mem L i m (k + 1) x e; omega
    · cases h
theorem kids_sub (L : List Nd) (i : Nat) : ∀ m k, kidsR L i m k = (subR L i m k).filter fun k => decide (dep L k = dep L i + 1)
  | 0, _ => rfl
  | m + 1, k => by
    show (if dep L i < dep L k then (if dep L k = dep L i + 1 then [k] else []) ++ kidsR L i m (k + 1) else []) = (if dep L i < dep L k then k :: subR L i m (k + 1) else []).filter _
    rw [kids_sub L i m (k + 1)]
    by_cases h : dep L i < dep L k
    · rw [if_pos h, if_pos h, List.filter_cons]
      by_cases h2 : dep L k = dep L i + 1
      · rw [if_pos h2, if_pos (by simpa using h2)]
        rfl
      · rw [if_neg h2, if_neg (by simpa using h2)]
        rfl
    · rw [if_neg h, if_neg h]
      rfl
/-- A node's numbers, as seen from a node. -/
def nums (L : List Nd) (i k : Nat) : List Int := [(nd L k).1, dep L k - dep L i, (nd L k).2.1 - (nd L i).2.1, (nd L k).2.2.1 - (nd L i).2.1]
def numsL (L : List Nd) (i : Nat) : List Nat → List Int
  | [] => []
  | k :: t => nums L i k ++ numsL L i t
theorem numsL_snoc (L : List Nd) (i : Nat) : ∀ (a : List Nat) (k : Nat), numsL L i (a ++ [k]) = numsL L i a ++ nums L i k
  | [], k => by show nums L i k ++ [] = [] ++ nums L i k; simp
  | x :: t, k => by show nums L i x ++ numsL L i (t ++ [k]) = nums L i x ++ numsL L i t ++ nums L i k; rw [numsL_snoc L i t k, List.append_assoc]
def sumNs (L : List Nd) (n i : Nat) : List Int := numsL L i (i :: subL L n i)
theorem subR_mov {by_ : Int} {L : List Nd} {i : Nat} (hi : i < L.length) : ∀ m k, k + m ≤ L.length → subR (movL by_ L) i m k = subR L i m k
  | 0, _, _ => rfl
  | m + 1, k, h => by
    unfold subR
    rw [dep_mov hi, dep_mov (show k < L.length by omega), subR_mov hi m (k + 1) (by omega)]
theorem nums_mov {by_ : Int} {L : List Nd} {i k : Nat} (hi : i < L.length) (hk : k < L.length) (h0 : 0 < i) (hik : i ≤ k) : nums (movL by_ L) i k = nums L i k := by
  unfold nums
  rw [dep_mov hi, dep_mov hk, nd_mov hi, nd_mov hk]
  unfold movN
  dsimp only
  rw [if_pos (show 0 < k by omega), if_pos h0, show (nd L k).2.1 + by_ - ((nd L i).2.1 + by_) = (nd L k).2.1 - (nd L i).2.1 from by omega, show (nd L k).2.2.1 + by_ - ((nd L i).2.1 + by_) = (nd L k).2.2.1 - (nd L i).2.1 from by omega]
theorem numsL_mov {by_ : Int} {L : List Nd} {i : Nat} (hi : i < L.length) (h0 : 0 < i) : ∀ l : List Nat, (∀ k ∈ l, i ≤ k ∧ k < L.length) → numsL (movL by_ L) i l = numsL L i l
  | [], _ => rfl
  | k :: t, h => by
    show nums _ i k ++ numsL _ i t = nums L i k ++ numsL L i t
    rw [nums_mov hi (h k List.mem_cons_self).2 h0 (h k List.mem_cons_self).1, numsL_mov hi h0 t fun x hx => h x (List.mem_cons_of_mem _ hx)]
theorem sumNs_mov {by_ : Int} {L : List Nd} {i : Nat} (hi : i < L.length) (h0 : 0 < i) : sumNs (movL by_ L) L.length i = sumNs L L.length i := by
  unfold sumNs subL
  rw [subR_mov hi _ _ (by omega)]
  refine numsL_mov hi h0 _ fun k hk => ?_
  rcases List.mem_cons.1 hk with e | e
  · omega
  · have := subR_mem L i _ _ k e; omega
end Go.Proofs.YtidnldchdahgeaaDoor
