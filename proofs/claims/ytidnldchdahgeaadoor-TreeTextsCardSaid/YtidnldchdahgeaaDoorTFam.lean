/- Families of a tree, in plain words: a path is the open nodes turned about; kids and parents; the list that stands further behind. Nothing of the program stands here. -/
import Derived.Test.YtidnldchdahgeaaDoorTPath
import Derived.Test.YtidnldchdahgeaaDoorTKids
namespace Go.Proofs.YtidnldchdahgeaaDoor

/-- A list is well laid as far as node n. -/
def Good (L : List Nd) (n : Nat) : Prop := dep L 0 = 0 ∧ ∀ j, j + 1 < n → okA L j
theorem Good.ok {L : List Nd} {n i : Nat} (h : Good L n) (hi : i < n) : ∀ j, j < i → okA L j := fun j hj => h.2 j (by omega)
theorem IsT.good {L : List Nd} {m : Int} (h : IsT L m) : Good L L.length := ⟨by unfold dep; rw [h.root], h.ok⟩
theorem Good.len {L : List Nd} {n i : Nat} (h : Good L n) (hi : i < n) : ((st L i).length : Int) = dep L i + 1 ∧ 0 ≤ dep L i := st_len h.1 (h.ok hi)
/-- An open node's own open nodes are those ahead; behind it all lies deeper. -/
theorem st_sub {L : List Nd} {n : Nat} (h : Good L n) : ∀ {i : Nat}, i < n → ∀ (k x : Nat), (st L i)[k]? = some x → st L x = (st L i).take (k + 1) ∧ x ≤ i ∧ ∀ y, x < y → y ≤ i → (k : Int) < dep L y
  | 0, _, k, x, hx => by
    have hk : k = 0 ∧ x = 0 := by
      match k, hx with
      | 0, hx => exact ⟨rfl, by simpa [st] using hx.symm⟩
    obtain ⟨rfl, rfl⟩ := hk
    exact ⟨rfl, Nat.le_refl _, fun y h1 h2 => by omega⟩
  | i + 1, hi, k, x, hx => by
    obtain ⟨h1, h2⟩ := h.len (show i < n by omega)
    obtain ⟨h3, h4, -⟩ := h.2 i hi
    have hl : ((st L i).take (dep L (i + 1)).toNat).length = (dep L (i + 1)).toNat := by rw [List.length_take]; omega
    rw [st_succ, List.getElem?_append, hl] at hx
    by_cases hk : k < (dep L (i + 1)).toNat
    · rw [if_pos hk, List.getElem?_take, if_pos hk] at hx
      obtain ⟨e1, e2, e3⟩ := st_sub h (show i < n by omega) k x hx
      refine ⟨?_, by omega, fun y hy1 hy2 => ?_⟩
      · rw [e1, st_succ, List.take_append_of_le_length (by rw [hl]; omega), List.take_take, show min (k + 1) (dep L (i + 1)).toNat = k + 1 from by omega]
      · by_cases hy : y ≤ i
        · exact e3 y hy1 hy
        · obtain rfl : y = i + 1 := by omega
          omega
    · rw [if_neg hk] at hx
      have hk2 : k - (dep L (i + 1)).toNat = 0 := by
        rcases Nat.eq_zero_or_pos (k - (dep L (i + 1)).toNat) with e | e
        · exact e
        · rw [List.getElem?_eq_none (by simp; omega)] at hx; cases hx
      rw [hk2] at hx
      have hx2 : i + 1 = x := by simpa using hx
      subst hx2
      refine ⟨?_, Nat.le_refl _, fun y h5 h6 => by omega⟩
      rw [List.take_of_length_le]
      rw [st_succ, List.length_append, hl, List.length_singleton]
      omega
theorem parN_of {L : List Nd} {d : Int} {x : Nat} (hx : dep L x = d) : ∀ {k : Nat}, x < k → (∀ y, x < y → y < k → d < dep L y) → parN L d k = x
  | 0, h, _ => absurd h (Nat.not_lt_zero _)
  | k + 1, h, hy => by
    show (if dep L k = d then (k : Int) else parN L d k) = x
    by_cases hk : x = k
    · subst hk
      rw [if_pos hx]
    · have := hy k (by omega) (by omega)
      rw [if_neg (by omega)]
      exact parN_of hx (by omega) fun y h1 h2 => hy y h1 (by omega)
/-- The parent is the last open node but one. -/
theorem par_st {L : List Nd} {n i : Nat} (h : Good L n) (hi : i + 1 < n) : ∃ x : Nat, (st L i)[(dep L (i + 1)).toNat - 1]? = some x ∧ par L (i + 1) = x ∧ st L x = (st L i).take (dep L (i + 1)).toNat ∧ x ≤ i ∧ dep L x = dep L (i + 1) - 1 ∧ ∀ y, x < y → y ≤ i + 1 → dep L x < dep L y := by
  obtain ⟨h1, h2⟩ := h.len (show i < n by omega)
  obtain ⟨h3, h4, -⟩ := h.2 i hi
  have hk : (dep L (i + 1)).toNat - 1 < (st L i).length := by omega
  obtain ⟨x, hx⟩ : ∃ x, (st L i)[(dep L (i + 1)).toNat - 1]? = some x := ⟨_, List.getElem?_eq_getElem hk⟩
  obtain ⟨e1, e2, e3⟩ := st_sub h (show i < n by omega) _ _ hx
  have e4 := st_dep h.1 (h.ok (show i < n by omega)) _ _ hx
  have e5 : dep L x = dep L (i + 1) - 1 := by omega
  refine ⟨x, hx, ?_, ?_, e2, e5, fun y h5 h6 => ?_⟩
  · unfold par
    rw [← e5]
    exact parN_of rfl (by omega) fun y h5 h6 => by have := e3 y h5 (by omega); omega
  · rw [e1, show (dep L (i + 1)).toNat - 1 + 1 = (dep L (i + 1)).toNat from by omega]
  · by_cases hy : y ≤ i
    · have := e3 y h5 hy; omega
    · obtain rfl : y = i + 1 := by omega
      omega
theorem par_zero (L : List Nd) : par L 0 = -1 := rfl
/-- A path is the open nodes, turned about. -/
theorem path_st {L : List Nd} {n : Nat} (h : Good L n) : ∀ (m : Nat) {i : Nat}, i < m → i < n → pathL L i = (st L i).reverse
  | 0, i, h0, _ => absurd h0 (Nat.not_lt_zero _)
  | m + 1, 0, _, _ => by
    rw [pathL_eq, par_zero, if_neg (by omega)]
    rfl
  | m + 1, i + 1, hm, hi => by
    obtain ⟨x, h1, h2, h3, h4, -⟩ := par_st h hi
    rw [pathL_eq, h2, if_pos (by omega), Int.toNat_natCast, path_st h m (show x < m by omega) (by omega), st_succ, h3, List.reverse_append]
    rfl
theorem kidsR_mem {L : List Nd} {i : Nat} : ∀ (m k x : Nat), x ∈ kidsR L i m k ↔ (k ≤ x ∧ x < k + m ∧ dep L x = dep L i + 1 ∧ ∀ y, k ≤ y → y ≤ x → dep L i < dep L y)
  | 0, k, x => by
    constructor
    · intro h; cases h
    · intro h; omega
  | m + 1, k, x => by
    have ih := kidsR_mem (L := L) (i := i) m (k + 1) x
    show x ∈ (if dep L i < dep L k then (if dep L k = dep L i + 1 then [k] else []) ++ kidsR L i m (k + 1) else []) ↔ _
    by_cases h1 : dep L i < dep L k
    · rw [if_pos h1, List.mem_append, ih]
      constructor
      · rintro (h | ⟨a, b, c, d⟩)
        · split at h
          · rename_i h2
            have := List.mem_singleton.1 h
            subst this
            exact ⟨by omega, by omega, h2, fun y h3 h4 => by rw [show y = x from by omega]; exact h1⟩
          · cases h
        · exact ⟨by omega, by omega, c, fun y h3 h4 => by
            by_cases hy : y = k
            · subst hy; exact h1
            · exact d y (by omega) h4⟩
      · rintro ⟨a, b, c, d⟩
        by_cases hx : x = k
        · subst hx
          left
          rw [if_pos c]
          exact List.mem_singleton.2 rfl
        · exact .inr ⟨by omega, by omega, c, fun y h3 h4 => d y (by omega) h4⟩
    · rw [if_neg h1]
      constructor
      · intro h; cases h
      · rintro ⟨a, b, c, d⟩
        exact absurd (d k (Nat.le_refl _) a) h1
theorem kidsR_asc {L : List Nd} {i : Nat} : ∀ (m k : Nat), (kidsR L i m k).Pairwise (· < ·) ∧ ∀ x ∈ kidsR L i m k, k ≤ x
  | 0, k => ⟨List.Pairwise.nil, fun x h => by cases h⟩
  | m + 1, k => by
    obtain ⟨h1, h2⟩ := kidsR_asc (L := L) (i := i) m (k + 1)
    show (if dep L i < dep L k then (if dep L k = dep L i + 1 then [k] else []) ++ kidsR L i m (k + 1) else []).Pairwise (· < ·) ∧ ∀ x ∈ (if dep L i < dep L k then (if dep L k = dep L i + 1 then [k] else []) ++ kidsR L i m (k + 1) else []), k ≤ x
    split
    · split
      · refine ⟨List.pairwise_cons.2 ⟨fun x hx => by have := h2 x hx; omega, h1⟩, fun x hx => ?_⟩
        rcases List.mem_cons.1 hx with e | e
        · omega
        · have := h2 x e; omega
      · exact ⟨h1, fun x hx => by have := h2 x hx; omega⟩
    · exact ⟨List.Pairwise.nil, fun x h => by cases h⟩
theorem kids_mem {L : List Nd} {n i x : Nat} (hi : i < n) : x ∈ kidsL L n i ↔ (i < x ∧ x < n ∧ dep L x = dep L i + 1 ∧ ∀ y, i < y → y ≤ x → dep L i < dep L y) := by
  unfold kidsL
  rw [kidsR_mem]
  constructor
  · rintro ⟨a, b, c, d⟩
    exact ⟨by omega, by omega, c, fun y h1 h2 => d y (by omega) h2⟩
  · rintro ⟨a, b, c, d⟩
    exact ⟨by omega, by omega, c, fun y h1 h2 => d y (by omega) h2⟩
theorem kids_asc (L : List Nd) (n i : Nat) : (kidsL L n i).Pairwise (· < ·) := (kidsR_asc _ _).1
/-- Whose parent is a node, that is among its kids, and the other way round. -/
theorem kid_par {L : List Nd} {n i x : Nat} (hi : i < n) (hx : x ∈ kidsL L n i) : par L x = i := by
  obtain ⟨a, b, c, d⟩ := (kids_mem hi).1 hx
  unfold par
  rw [c, show dep L i + 1 - 1 = dep L i from by omega]
  exact parN_of rfl a fun y h1 h2 => d y h1 (by omega)
theorem par_kid {L : List Nd} {n i : Nat} (h : Good L n) (hi : i + 1 < n) : i + 1 ∈ kidsL L n (par L (i + 1)).toNat := by
  obtain ⟨x, h1, h2, h3, h4, h5, h6⟩ := par_st h hi
  rw [h2, Int.toNat_natCast]
  exact (kids_mem (by omega)).2 ⟨by omega, hi, by omega, h6⟩
theorem leaf_kids {L : List Nd} {n i : Nat} (h : Good L n) (hi : i < n) (hn : n = L.length) : kidsL L n i = [] ↔ leafT L i = true := by
  unfold leafT
  rw [Bool.or_eq_true, decide_eq_true_iff, decide_eq_true_iff]
  constructor
  · intro he
    by_cases h1 : i + 1 = L.length
    · exact .inl h1
    · right
      by_cases h2 : dep L (i + 1) ≤ dep L i
      · exact h2
      · exfalso
        obtain ⟨h3, h4, -⟩ := h.2 i (by omega)
        have : i + 1 ∈ kidsL L n i := (kids_mem hi).2 ⟨by omega, by omega, by omega, fun y h5 h6 => by rw [show y = i + 1 from by omega]; omega⟩
        rw [he] at this
        cases this
  · intro hl
    cases hk : kidsL L n i with
    | nil => rfl
    | cons x t =>
      exfalso
      obtain ⟨a, b, c, d⟩ := (kids_mem hi).1 (show x ∈ kidsL L n i by rw [hk]; exact List.mem_cons_self)
      have := d (i + 1) (by omega) (by omega)
      omega
/-- The list that stands further behind. -/
def movN (by_ : Int) (k : Nat) (x : Nd) : Nd := (x.1, (if 0 < k then x.2.1 + by_ else x.2.1), x.2.2.1 + by_, x.2.2.2)
def movL (by_ : Int) (L : List Nd) : List Nd := L.mapIdx (movN by_)
theorem nd_mov {by_ : Int} {L : List Nd} {i : Nat} (h : i < L.length) : nd (movL by_ L) i = movN by_ i (nd L i) := by
  unfold nd movL
  rw [List.getD_eq_getElem?_getD, List.getD_eq_getElem?_getD, List.getElem?_mapIdx, List.getElem?_eq_getElem h]
  rfl
theorem movL_len {by_ : Int} {L : List Nd} : (movL by_ L).length = L.length := by unfold movL; rw [List.length_mapIdx]
theorem dep_mov {by_ : Int} {L : List Nd} {i : Nat} (h : i < L.length) : dep (movL by_ L) i = dep L i := by unfold dep; rw [nd_mov h]; rfl
theorem st_mov {by_ : Int} {L : List Nd} : ∀ {i : Nat}, i < L.length → st (movL by_ L) i = st L i
  | 0, _ => rfl
  | i + 1, h => by rw [st_succ, st_succ, dep_mov h, st_mov (show i < L.length by omega)]
theorem isT_mov {by_ : Int} {L : List Nd} {m : Int} (h : IsT L m) (hb : 0 ≤ by_) (hm : m + by_ ≤ 1048576) : IsT (movL by_ L) (m + by_) := by
  have hp := h.pos
  refine ⟨by have := h.lo; omega, hm, by rw [movL_len]; exact hp, ?_, fun i hi => ?_⟩
  · rw [nd_mov hp, h.root]
    rfl
  · rw [movL_len] at hi
    have ok := h.ok i hi
    obtain ⟨h1, h2⟩ := h.good.len (show i < L.length by omega)
    unfold okA at ok ⊢
    rw [dep_mov hi, dep_mov (show i < L.length by omega), st_mov (show i < L.length by omega)]
    obtain ⟨o1, o2, o3, o4, o5, o6⟩ := ok
    have hle : ∀ k, k < (st L i).length → (st L i).getD k 0 ≤ i := fun k hk => by
      rw [List.getD_eq_getElem?_getD, List.getElem?_eq_getElem hk]
      exact st_le L i _ (List.getElem_mem hk)
    rw [nd_mov hi, nd_mov (show (st L i).getD ((dep L (i + 1)).toNat - 1) 0 < L.length by have := hle ((dep L (i + 1)).toNat - 1) (by omega); omega)]
    unfold movN
    dsimp only
    rw [if_pos (show 0 < i + 1 by omega)]
    refine ⟨o1, o2, by split <;> omega, by omega, by omega, fun h3 => ?_⟩
    have h4 := o6 h3
    have h5 := hle (dep L (i + 1)).toNat (by omega)
    rw [nd_mov (show (st L i).getD (dep L (i + 1)).toNat 0 < L.length by omega)]
    show (nd L ((st L i).getD (dep L (i + 1)).toNat 0)).2.2.1 + by_ ≤ _
    omega
end Go.Proofs.YtidnldchdahgeaaDoor
