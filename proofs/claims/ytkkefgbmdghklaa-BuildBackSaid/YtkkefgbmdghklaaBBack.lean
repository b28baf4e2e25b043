/- Each tree is what comes of its own events: in plain words. Nothing of the program stands here. -/
import Derived.Test.YtkkefgbmdghklaaBTree
namespace Go.Proofs.Ytkkefgbmdghklaa

theorem asks_snoc {at_ : Int} {e : Ev} : ∀ {L : List Ev} {b : Bs}, asks at_ b.far b.O.length L = 0 → askE (dos at_ b L).far (dos at_ b L).O.length at_ e = 0 → asks at_ b.far b.O.length (L ++ [e]) = 0
  | [], b, _, h => by
    have h2 : askE b.far b.O.length at_ e = 0 := h
    show asks at_ b.far b.O.length [e] = 0
    rw [asks, if_pos h2]
    rfl
  | x :: t, b, h, k => by
    obtain ⟨h1, h2⟩ := asks_cons h
    show asks at_ b.far b.O.length (x :: (t ++ [e])) = 0
    rw [asks, if_pos h1, ← doE_far (askE_ok h1).1, ← doE_opn (askE_ok h1).1]
    exact asks_snoc h2 k
theorem dos_snoc {at_ : Int} {e : Ev} {L : List Ev} {b : Bs} : dos at_ b (L ++ [e]) = doE at_ (dos at_ b L) e := by unfold dos; rw [List.foldl_append]; rfl
/-- A tree's nodes lie within the root. -/
theorem isT_in {L : List Nd} {m : Int} (h : IsT L m) : ∀ (k i : Nat), i < k → i < L.length → 0 ≤ (nd L i).2.1 ∧ (nd L i).2.1 ≤ (nd L i).2.2.1 ∧ (nd L i).2.2.1 ≤ m
  | 0, i, hk, _ => absurd hk (Nat.not_lt_zero _)
  | k + 1, 0, _, _ => by rw [h.root]; exact ⟨Int.le_refl _, h.lo, Int.le_refl _⟩
  | k + 1, i + 1, hk, hi => by
    obtain ⟨-, -, a3, a4, a5, -⟩ := h.ok i hi
    have hp : (st L i).getD ((dep L (i + 1)).toNat - 1) 0 ≤ i := by
      rw [List.getD_eq_getElem?_getD]
      cases e : (st L i)[(dep L (i + 1)).toNat - 1]? with
      | none => exact Nat.zero_le _
      | some y => exact st_le _ i y (List.mem_of_getElem? e)
    have := isT_in h k _ (show (st L i).getD ((dep L (i + 1)).toNat - 1) 0 < k by omega) (by omega)
    omega
/-- The builder when the nodes 1 to p have been told, of which the first q that lie around p are open. -/
def bkO (L : List Nd) (p q : Nat) : List Nat := (((st L p).take (q + 1)).drop 1).map (· - 1)
def opn0 (x : Nd) : Nd := (x.1, x.2.1, 0, x.2.2.2)
def bkN (L : List Nd) (p q : Nat) : List Nd := (List.range p).map fun j => if j + 1 ∈ (st L p).take (q + 1) then opn0 (nd L (j + 1)) else nd L (j + 1)
def bkF (L : List Nd) (p q : Nat) : Int := if q + 1 < (st L p).length then (nd L ((st L p).getD (q + 1) 0)).2.2.1 else (nd L p).2.1
def bk (L : List Nd) (p q : Nat) : Bs := ⟨bkN L p q, bkO L p q, bkF L p q⟩
theorem bkN_len (L : List Nd) (p q : Nat) : (bkN L p q).length = p := by unfold bkN; rw [List.length_map, List.length_range]
theorem bkO_len {L : List Nd} {p q : Nat} (h : q + 1 ≤ (st L p).length) : (bkO L p q).length = q := by
  unfold bkO
  rw [List.length_map, List.length_drop, List.length_take]
  omega
theorem bkN_at {L : List Nd} {p q j : Nat} (h : j < p) : nd (bkN L p q) j = if j + 1 ∈ (st L p).take (q + 1) then opn0 (nd L (j + 1)) else nd L (j + 1) := by
  unfold bkN
  rw [show nd ((List.range p).map _) j = ((List.range p).map _)[j]'(by rw [List.length_map, List.length_range]; exact h) from (nd_eq _).symm, List.getElem_map, List.getElem_range]
theorem nd_ext {A B : List Nd} (hl : A.length = B.length) (h : ∀ j, j < A.length → nd A j = nd B j) : A = B := by
  apply List.ext_getElem hl
  intro j h1 h2
  rw [nd_eq h1, nd_eq h2]
  exact h j h1
theorem bk_start {L : List Nd} {m : Int} (h : IsT L m) : bk L 0 0 = Bs.new := by
  unfold bk bkN bkO bkF Bs.new
  have : (nd L 0).2.1 = 0 := by rw [h.root]
  simp [st, this]
/-- The last open node ends. -/
theorem bk_pop {L : List Nd} {m : Int} (h : IsT L m) {p q : Nat} (hp : p < L.length) (hq : q + 1 + 1 ≤ (st L p).length) : ∃ s, (st L p)[q + 1]? = some s ∧ s ≤ p ∧
    askE (bk L p (q + 1)).far (bk L p (q + 1)).O.length 0 (2, 0, (nd L s).2.2.1, 0) = 0 ∧ doE 0 (bk L p (q + 1)) (2, 0, (nd L s).2.2.1, 0) = bk L p q := by
  obtain ⟨s, hs⟩ : ∃ s, (st L p)[q + 1]? = some s := ⟨_, List.getElem?_eq_getElem (by omega)⟩
  have hg := h.good
  have hsp := st_le L p s (List.mem_of_getElem? hs)
  have hsd := st_dep hg.1 (hg.ok hp) _ _ hs
  have hin := fun i hi => isT_in h (i + 1) i (Nat.lt_succ_self i) hi
  have hO : (bkO L p (q + 1)).length = q + 1 := bkO_len hq
  -- how far it came
  have hfar : bkF L p (q + 1) ≤ (nd L s).2.2.1 := by
    unfold bkF
    split
    · rename_i h2
      obtain ⟨t, ht⟩ : ∃ t, (st L p)[q + 1 + 1]? = some t := ⟨_, List.getElem?_eq_getElem h2⟩
      rw [List.getD_eq_getElem?_getD, ht]
      show (nd L t).2.2.1 ≤ _
      obtain ⟨e1, e2, -⟩ := st_sub hg hp _ _ ht
      have e4 := st_dep hg.1 (hg.ok hp) _ _ ht
      cases t with
      | zero => have := hg.1; omega
      | succ j =>
        obtain ⟨-, -, -, -, a5, -⟩ := h.ok j (by omega)
        rw [e4] at a5
        have e5 : (st L j).getD (((q + 1 + 1 : Nat) : Int).toNat - 1) 0 = s := by
          have e6 : (st L (j + 1))[q + 1]? = some s := by rw [e1, List.getElem?_take, if_pos (by omega), hs]
          obtain ⟨k1, k2⟩ := hg.len (show j < L.length by omega)
          have k3 := (h.ok j (by omega)).2.1
          rw [e4] at k3
          rw [st_succ, e4, List.getElem?_append, List.length_take, if_pos (by omega), List.getElem?_take, if_pos (by omega)] at e6
          rw [show ((q + 1 + 1 : Nat) : Int).toNat - 1 = q + 1 from by omega, List.getD_eq_getElem?_getD, e6]
          rfl
        rw [e5] at a5
        exact a5
    · rename_i h2
      have hl : (st L p).length = q + 1 + 1 := by omega
      obtain ⟨P, hP⟩ := st_last L p
      have : s = p := by
        rw [hP, List.length_append, List.length_singleton] at hl
        rw [hP, List.getElem?_append_right (by omega), show q + 1 - P.length = 0 from by omega] at hs
        simpa using hs.symm
      subst this
      exact (hin s hp).2.1
  have hmx : (nd L s).2.2.1 ≤ 1048576 := by have := (hin s (by omega)).2.2; have := h.hi; omega
  refine ⟨s, hs, hsp, ?_, ?_⟩
  · show askE (bkF L p (q + 1)) (bkO L p (q + 1)).length 0 (2, 0, (nd L s).2.2.1, 0) = 0
    unfold askE
    dsimp only
    rw [hO, if_neg (by omega), if_neg (by omega), if_neg (by omega), if_neg (by omega)]
  · have hs0 : 0 < s := by rcases Nat.eq_zero_or_pos s with e | e; subst e; have := hg.1; omega; exact e
    have htk : (st L p).take (q + 1 + 1) = (st L p).take (q + 1) ++ [s] := by
      rw [List.take_succ_eq_append_getElem (by omega)]
      congr 2
      rw [List.getElem?_eq_getElem (by omega)] at hs
      exact Option.some.inj hs
    have hOs : bkO L p (q + 1) = bkO L p q ++ [s - 1] := by
      unfold bkO
      rw [htk, List.drop_append_of_le_length (by rw [List.length_take]; omega), List.map_append]
      rfl
    have hns : s ∉ (st L p).take (q + 1) := fun hm => by
      obtain ⟨j, hj, e⟩ := List.getElem_of_mem hm
      rw [List.length_take] at hj
      rw [List.getElem_take] at e
      have h4 := st_dep hg.1 (hg.ok hp) j s (by rw [List.getElem?_eq_getElem (by omega), e])
      omega
    have hlast : (bk L p (q + 1)).O.getLastD 0 = s - 1 := by
      show (bkO L p (q + 1)).getLastD 0 = s - 1
      rw [hOs]
      simp
    have hdl : (bk L p (q + 1)).O.dropLast = bkO L p q := by
      show (bkO L p (q + 1)).dropLast = _
      rw [hOs]
      simp
    unfold doE
    rw [if_neg (show ¬ (2 : Int) = 1 by decide), if_pos rfl, hlast, hdl]
    unfold bk
    congr 1
    · refine nd_ext (by rw [List.length_modify, bkN_len, bkN_len]) fun j hj => ?_
      rw [List.length_modify, bkN_len] at hj
      dsimp only
      rw [nd_modify (by rw [bkN_len]; exact hj), bkN_at hj, bkN_at hj, htk]
      by_cases e : s - 1 = j
      · rw [if_pos e, if_pos (List.mem_append_right _ (List.mem_singleton.2 (by omega))), if_neg (by rw [show j + 1 = s from by omega]; exact hns)]
        rw [show j + 1 = s from by omega]
        unfold shutN opn0
        dsimp only
        rw [if_pos rfl, Int.zero_add]
      · rw [if_neg e]
        by_cases hm : j + 1 ∈ (st L p).take (q + 1)
        · rw [if_pos hm, if_pos (List.mem_append_left _ hm)]
        · rw [if_neg hm, if_neg (fun k => by
            rcases List.mem_append.1 k with k | k
            · exact hm k
            · have := List.mem_singleton.1 k; omega)]
    · show 0 + (nd L s).2.2.1 = bkF L p q
      unfold bkF
      rw [if_pos (by omega), List.getD_eq_getElem?_getD, hs, Int.zero_add]
      rfl
/-- What is so where the next node begins. -/
theorem bk_next {L : List Nd} {m : Int} (h : IsT L m) {p q : Nat} (hp : p + 1 < L.length) (hq : q + 1 ≤ (st L p).length) (hd : dep L (p + 1) = (q : Int) + 1) : bkF L p q ≤ (nd L (p + 1)).2.1 ∧ st L (p + 1) = (st L p).take (q + 1) ++ [p + 1] := by
  have hg := h.good
  obtain ⟨k1, k2⟩ := hg.len (show p < L.length by omega)
  obtain ⟨a1, a2, a3, a4, a5, a6⟩ := h.ok p hp
  rw [hd] at a1 a2 a3 a5 a6
  refine ⟨?_, by rw [st_succ, hd]; congr 2⟩
  unfold bkF
  split
  · rename_i h2
    exact a6 (by omega)
  · rename_i h2
    obtain ⟨P, hP⟩ := st_last L p
    have hl : (st L p).length = q + 1 := by omega
    have e : (st L p).getD (((q : Int) + 1).toNat - 1) 0 = p := by
      rw [hP, List.length_append, List.length_singleton] at hl
      rw [show ((q : Int) + 1).toNat - 1 = q from by omega, List.getD_eq_getElem?_getD, hP, List.getElem?_append_right (by omega), show q - P.length = 0 from by omega]
      rfl
    rw [e] at a3
    exact a3
theorem bkN_next {L : List Nd} {p q q' : Nat} (hst : ∀ j, j < p → (j + 1 ∈ (st L (p + 1)).take (q' + 1) ↔ j + 1 ∈ (st L p).take (q + 1))) : bkN L (p + 1) q' = bkN L p q ++ [if p + 1 ∈ (st L (p + 1)).take (q' + 1) then opn0 (nd L (p + 1)) else nd L (p + 1)] := by
  refine nd_ext (by rw [List.length_append, bkN_len, bkN_len]; rfl) fun j hj => ?_
  rw [bkN_len] at hj
  rw [bkN_at hj]
  by_cases e : j < p
  · rw [nd_push (by rw [bkN_len]; exact e), bkN_at e]
    by_cases hm : j + 1 ∈ (st L p).take (q + 1)
    · rw [if_pos hm, if_pos ((hst j e).2 hm)]
    · rw [if_neg hm, if_neg (fun k => hm ((hst j e).1 k))]
  · obtain rfl : j = p := by omega
    have := nd_pushed (L := bkN L j q) (x := if j + 1 ∈ (st L (j + 1)).take (q' + 1) then opn0 (nd L (j + 1)) else nd L (j + 1))
    rw [bkN_len] at this
    exact this.symm
/-- A node that others lie in. -/
theorem bk_open {L : List Nd} {m : Int} (h : IsT L m) {p q : Nat} (hp : p + 1 < L.length) (hq : q + 1 ≤ (st L p).length) (hd : dep L (p + 1) = (q : Int) + 1) :
    askE (bk L p q).far (bk L p q).O.length 0 (1, (nd L (p + 1)).1, (nd L (p + 1)).2.1, 0) = 0 ∧ doE 0 (bk L p q) (1, (nd L (p + 1)).1, (nd L (p + 1)).2.1, 0) = bk L (p + 1) (q + 1) := by
  obtain ⟨h1, h2⟩ := bk_next h hp hq hd
  have hin := isT_in h (p + 2) (p + 1) (by omega) hp
  have hmx := h.hi
  have hlt : ((st L p).take (q + 1)).length = q + 1 := by rw [List.length_take]; omega
  have hfull : (st L (p + 1)).take (q + 1 + 1) = (st L p).take (q + 1) ++ [p + 1] := by rw [h2]; exact List.take_of_length_le (by rw [List.length_append, hlt]; simp)
  refine ⟨?_, ?_⟩
  · show askE (bkF L p q) (bkO L p q).length 0 (1, (nd L (p + 1)).1, (nd L (p + 1)).2.1, 0) = 0
    unfold askE
    dsimp only
    rw [if_neg (by omega), if_neg (by omega), if_neg (by omega), if_neg (by omega)]
  · have hN := bkN_next (L := L) (p := p) (q := q) (q' := q + 1) (fun j hj => by
      rw [hfull, List.mem_append, List.mem_singleton]
      exact ⟨fun k => k.resolve_right (by omega), .inl⟩)
    rw [if_pos (by rw [hfull]; exact List.mem_append_right _ (List.mem_singleton.2 rfl))] at hN
    have hO : bkO L (p + 1) (q + 1) = bkO L p q ++ [p] := by
      unfold bkO
      rw [hfull, List.drop_append_of_le_length (by omega), List.map_append]
      rfl
    have hF : bkF L (p + 1) (q + 1) = (nd L (p + 1)).2.1 := by
      unfold bkF
      rw [if_neg (by rw [h2, List.length_append, hlt]; simp)]
    unfold doE
    rw [if_pos rfl]
    unfold bk
    rw [hN, hO, hF]
    dsimp only
    rw [bkO_len hq, bkN_len, Int.zero_add]
    unfold opn0
    have : (nd L (p + 1)).2.2.2 = (q : Int) + 1 := hd
    rw [this]
/-- A leaf. -/
theorem bk_leaf {L : List Nd} {m : Int} (h : IsT L m) {p q : Nat} (hp : p + 1 < L.length) (hq : q + 1 ≤ (st L p).length) (hd : dep L (p + 1) = (q : Int) + 1) :
    askE (bk L p q).far (bk L p q).O.length 0 (3, (nd L (p + 1)).1, (nd L (p + 1)).2.1, (nd L (p + 1)).2.2.1) = 0 ∧ doE 0 (bk L p q) (3, (nd L (p + 1)).1, (nd L (p + 1)).2.1, (nd L (p + 1)).2.2.1) = bk L (p + 1) q := by
  obtain ⟨h1, h2⟩ := bk_next h hp hq hd
  have hin := isT_in h (p + 2) (p + 1) (by omega) hp
  have hmx := h.hi
  have hlt : ((st L p).take (q + 1)).length = q + 1 := by rw [List.length_take]; omega
  have hpart : (st L (p + 1)).take (q + 1) = (st L p).take (q + 1) := by rw [h2, List.take_append_of_le_length (by omega), List.take_of_length_le (by omega)]
  refine ⟨?_, ?_⟩
  · show askE (bkF L p q) (bkO L p q).length 0 (3, (nd L (p + 1)).1, (nd L (p + 1)).2.1, (nd L (p + 1)).2.2.1) = 0
    unfold askE
    dsimp only
    rw [if_neg (by omega), if_neg (by omega), if_neg (by omega), if_neg (by omega)]
  · have hN := bkN_next (L := L) (p := p) (q := q) (q' := q) (fun j hj => by rw [hpart])
    rw [if_neg (by
      rw [hpart]
      intro hm
      have := st_le L p _ (List.mem_of_mem_take hm)
      omega)] at hN
    have hO : bkO L (p + 1) q = bkO L p q := by
      unfold bkO
      rw [hpart]
    have hF : bkF L (p + 1) q = (nd L (p + 1)).2.2.1 := by
      unfold bkF
      rw [if_pos (by rw [h2, List.length_append, hlt]; simp), List.getD_eq_getElem?_getD, h2, List.getElem?_append_right (by omega), hlt, Nat.sub_self]
      rfl
    unfold doE
    rw [if_neg (show ¬ (3 : Int) = 1 by decide), if_neg (show ¬ (3 : Int) = 2 by decide)]
    unfold bk
    rw [hN, hO, hF]
    dsimp only
    rw [bkO_len hq, Int.zero_add, Int.zero_add]
    have : (nd L (p + 1)).2.2.2 = (q : Int) + 1 := hd
    rw [← this]
/-- All has ended: the tree. -/
theorem bk_end {L : List Nd} {m : Int} (h : IsT L m) {p : Nat} (hp : p + 1 = L.length) : told 1 m (bk L p 0) = L ∧ (bk L p 0).far ≤ m := by
  have hg := h.good
  have hO : bkO L p 0 = [] := by
    unfold bkO
    rw [List.drop_of_length_le (by rw [List.length_take]; omega)]
    rfl
  have ht : (st L p).take (0 + 1) = [0] := by
    obtain ⟨P, hP⟩ := st_first L p (hg.ok (by omega))
    rw [hP]
    rfl
  refine ⟨nd_ext (by rw [told_len]; show (bkN L p 0).length + 1 = _; rw [bkN_len]; exact hp) fun j hj => ?_, ?_⟩
  · rw [told_len] at hj
    cases j with
    | zero => rw [told_zero, h.root]
    | succ j =>
      have hj2 : j < (bk L p 0).N.length := by omega
      rw [told_succ hj2, finN_out (by show j ∉ bkO L p 0; rw [hO]; exact List.not_mem_nil)]
      have hj3 : j < p := by have : (bk L p 0).N.length = p := bkN_len L p 0; omega
      show nd (bkN L p 0) j = _
      rw [bkN_at hj3, ht, if_neg (by simp)]
  · show bkF L p 0 ≤ m
    unfold bkF
    split
    · rename_i h2
      obtain ⟨s, hs⟩ : ∃ s, (st L p)[0 + 1]? = some s := ⟨_, List.getElem?_eq_getElem h2⟩
      rw [List.getD_eq_getElem?_getD, hs]
      have := st_le L p s (List.mem_of_getElem? hs)
      exact (isT_in h (s + 1) s (Nat.lt_succ_self s) (by omega)).2.2
    · have := isT_in h (p + 1) p (Nat.lt_succ_self p) (by omega)
      omega
end Go.Proofs.Ytkkefgbmdghklaa
