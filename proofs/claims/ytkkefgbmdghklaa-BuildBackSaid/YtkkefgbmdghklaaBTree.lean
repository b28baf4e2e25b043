/- Whatever events are put, what comes of them is a tree: in plain words. Nothing of the program stands here. -/
import Derived.Test.YtkkefgbmdghklaaBMath
namespace Go.Proofs.Ytkkefgbmdghklaa

theorem told_zero (k n : Int) (b : Bs) : nd (told k n b) 0 = (k, 0, n, 0) := rfl
theorem told_succ {k n : Int} {b : Bs} {i : Nat} (h : i < b.N.length) : nd (told k n b) (i + 1) = finN n b.O i (nd b.N i) := by
  unfold told nd
  rw [List.getD_eq_getElem?_getD, List.getElem?_cons_succ, List.getElem?_mapIdx, List.getD_eq_getElem?_getD, List.getElem?_eq_getElem h]
  rfl
theorem told_over {k n : Int} {b : Bs} {i : Nat} (h : b.N.length ≤ i) : nd (told k n b) (i + 1) = (0, 0, 0, 0) := by
  unfold told nd
  rw [List.getD_eq_getElem?_getD, List.getElem?_cons_succ, List.getElem?_mapIdx, List.getElem?_eq_none h]
  rfl
theorem told_len (k n : Int) (b : Bs) : (told k n b).length = b.N.length + 1 := by
  unfold told
  rw [List.length_cons, List.length_mapIdx]
theorem finN_dep (n : Int) (O : List Nat) (i : Nat) (x : Nd) : (finN n O i x).2.2.2 = x.2.2.2 := by unfold finN; split <;> rfl
theorem finN_from (n : Int) (O : List Nat) (i : Nat) (x : Nd) : (finN n O i x).2.1 = x.2.1 := by unfold finN; split <;> rfl
theorem finN_in {n : Int} {O : List Nat} {i : Nat} {x : Nd} (h : i ∈ O) : (finN n O i x).2.2.1 = n := by unfold finN; rw [if_pos h]
theorem finN_out {n : Int} {O : List Nat} {i : Nat} {x : Nd} (h : i ∉ O) : finN n O i x = x := by unfold finN; rw [if_neg h]
theorem told_dep {k n : Int} {b : Bs} {i : Nat} (h : i < b.N.length) : dep (told k n b) (i + 1) = (nd b.N i).2.2.2 := by
  unfold dep
  rw [told_succ h, finN_dep]
theorem dep_n {k n n' : Int} {b : Bs} (i : Nat) : dep (told k n b) i = dep (told k n' b) i := by
  cases i with
  | zero => rfl
  | succ i =>
    by_cases h : i < b.N.length
    · rw [told_dep h, told_dep h]
    · unfold dep
      rw [told_over (by omega), told_over (by omega)]
theorem st_congr {L L' : List Nd} : ∀ {i : Nat}, (∀ j, j ≤ i → dep L j = dep L' j) → st L i = st L' i
  | 0, _ => rfl
  | i + 1, h => by
    rw [st_succ, st_succ, st_congr (fun j hj => h j (by omega)), h (i + 1) (Nat.le_refl _)]
theorem okA_of {L L' : List Nd} {i : Nat} (hd : ∀ j, j ≤ i + 1 → dep L j = dep L' j) (h : okA L i)
    (hp : (nd L' ((st L i).getD ((dep L (i + 1)).toNat - 1) 0)).2.1 = (nd L ((st L i).getD ((dep L (i + 1)).toNat - 1) 0)).2.1 ∧ (nd L' ((st L i).getD ((dep L (i + 1)).toNat - 1) 0)).2.2.1 = (nd L ((st L i).getD ((dep L (i + 1)).toNat - 1) 0)).2.2.1)
    (hs : dep L (i + 1) ≤ dep L i → (nd L' ((st L i).getD (dep L (i + 1)).toNat 0)).2.2.1 = (nd L ((st L i).getD (dep L (i + 1)).toNat 0)).2.2.1)
    (hi : (nd L' (i + 1)).2.1 = (nd L (i + 1)).2.1 ∧ (nd L' (i + 1)).2.2.1 = (nd L (i + 1)).2.2.1) : okA L' i := by
  obtain ⟨h1, h2, h3, h4, h5, h6⟩ := h
  unfold okA
  rw [← st_congr (fun j hj => hd j (by omega)), ← hd (i + 1) (Nat.le_refl _), ← hd i (by omega), hp.1, hp.2, hi.1, hi.2]
  exact ⟨h1, h2, h3, h4, h5, fun h => by rw [hs h]; exact h6 h⟩
theorem okA_same {L L' : List Nd} {i : Nat} (hd : ∀ j, j ≤ i + 1 → nd L' j = nd L j) (h : okA L i) : okA L' i := by
  have hm : ∀ k, (st L i).getD k 0 ≤ i := fun k => by
    rw [List.getD_eq_getElem?_getD]
    cases e : (st L i)[k]? with
    | none => exact Nat.zero_le _
    | some x => exact st_le L i x (List.mem_of_getElem? e)
  refine okA_of (fun j hj => by unfold dep; rw [hd j hj]) h ?_ (fun _ => ?_) ?_
  · rw [hd _ (by have := hm ((dep L (i + 1)).toNat - 1); omega)]; exact ⟨rfl, rfl⟩
  · rw [hd _ (by have := hm (dep L (i + 1)).toNat; omega)]
  · rw [hd _ (Nat.le_refl _)]; exact ⟨rfl, rfl⟩
/-- What a builder is, as a tree that is not told yet. -/
structure TOk (b : Bs) : Prop where
  ok : ∀ n, b.far ≤ n → n ≤ 1048576 → ∀ i, i < b.N.length → okA (told 1 n b) i
  opn : (st (told 1 b.far b) b.N.length).take (b.O.length + 1) = 0 :: b.O.map (· + 1)
theorem TOk.new : TOk Bs.new := ⟨fun _ _ _ _ h => absurd h (Nat.not_lt_zero _), rfl⟩
theorem TOk.isT {b : Bs} (h : TOk b) (hb : BOk b) {n : Int} (h1 : b.far ≤ n) (h2 : n ≤ 1048576) : IsT (told 1 n b) n :=
  ⟨by have := hb.lo; omega, h2, by rw [told_len]; omega, rfl, fun i hi => h.ok n h1 h2 i (by rw [told_len] at hi; omega)⟩
theorem st_n {k n n' : Int} {b : Bs} (i : Nat) : st (told k n b) i = st (told k n' b) i := st_congr fun j _ => dep_n j
theorem TOk.good {b : Bs} (h : TOk b) {n : Int} (h1 : b.far ≤ n) (h2 : n ≤ 1048576) : Good (told 1 n b) (b.N.length + 1) := ⟨rfl, fun j hj => h.ok n h1 h2 j (by omega)⟩
/-- The open nodes, at whatever end. -/
theorem TOk.opn' {b : Bs} (h : TOk b) (n : Int) : (st (told 1 n b) b.N.length).take (b.O.length + 1) = 0 :: b.O.map (· + 1) := by
  rw [st_n (n' := b.far)]
  exact h.opn
theorem TOk.len {b : Bs} (h : TOk b) (n : Int) : b.O.length + 1 ≤ (st (told 1 n b) b.N.length).length := by
  have h1 := congrArg List.length (h.opn' n)
  rw [List.length_take, List.length_cons, List.length_map] at h1
  omega
theorem TOk.at_ {b : Bs} (h : TOk b) (n : Int) {k : Nat} (hk : k ≤ b.O.length) : (st (told 1 n b) b.N.length)[k]? = (0 :: b.O.map (· + 1))[k]? := by
  rw [← h.opn' n, List.getElem?_take, if_pos (by omega)]
/-- The node within which the next one begins: the root or an open one. -/
theorem TOk.top {b : Bs} (h : TOk b) (n : Int) : ∃ p, (st (told 1 n b) b.N.length).getD b.O.length 0 = p ∧ (p = 0 ∨ ∃ o, o ∈ b.O ∧ p = o + 1) := by
  refine ⟨_, rfl, ?_⟩
  rw [List.getD_eq_getElem?_getD, h.at_ n (Nat.le_refl _)]
  cases hO : b.O.length with
  | zero => exact .inl rfl
  | succ m =>
    right
    refine ⟨b.O[m]'(by omega), List.getElem_mem _, ?_⟩
    rw [List.getElem?_cons_succ, List.getElem?_map, List.getElem?_eq_getElem (by omega)]
    rfl
theorem nd_mem {L : List Nd} {i : Nat} (h : i < L.length) : nd L i ∈ L := by
  rw [← nd_eq h]
  exact List.getElem_mem h
theorem nd_push {L : List Nd} {x : Nd} {i : Nat} (h : i < L.length) : nd (L ++ [x]) i = nd L i := by
  unfold nd
  rw [List.getD_eq_getElem?_getD, List.getD_eq_getElem?_getD, List.getElem?_append_left h]
theorem nd_pushed {L : List Nd} {x : Nd} : nd (L ++ [x]) L.length = x := by
  unfold nd
  rw [List.getD_eq_getElem?_getD, List.getElem?_append_right (Nat.le_refl _), Nat.sub_self]
  rfl
/-- A node more: open (then O' has it) or a leaf. -/
theorem TOk.push {b : Bs} (h : TOk b) (hb : BOk b) {x : Nd} {O' : List Nat} {far' : Int} (hO : O' = b.O ∨ O' = b.O ++ [b.N.length]) (hd : x.2.2.2 = (b.O.length : Int) + 1) (hf : b.far ≤ x.2.1) (hx : x.2.1 ≤ far') (hleaf : O' = b.O → x.2.1 ≤ x.2.2.1 ∧ x.2.2.1 ≤ far') :
    TOk ⟨b.N ++ [x], O', far'⟩ := by
  have hmem : ∀ i, i < b.N.length → (i ∈ O' ↔ i ∈ b.O) := fun i hi => by
    rcases hO with rfl | rfl
    · exact Iff.rfl
    · rw [List.mem_append, List.mem_singleton]
      exact ⟨fun h => h.resolve_right (by omega), .inl⟩
  have hsame : ∀ n j, j ≤ b.N.length → nd (told 1 n ⟨b.N ++ [x], O', far'⟩) j = nd (told 1 n b) j := fun n j hj => by
    cases j with
    | zero => rfl
    | succ j =>
      have hj2 : j < b.N.length := by omega
      rw [told_succ (show j < (b.N ++ [x]).length by rw [List.length_append]; omega), told_succ hj2]
      dsimp only
      rw [nd_push hj2]
      unfold finN
      by_cases hm : j ∈ b.O
      · rw [if_pos hm, if_pos ((hmem j hj2).2 hm)]
      · rw [if_neg hm, if_neg (fun k => hm ((hmem j hj2).1 k))]
  have hst : ∀ n j, j ≤ b.N.length → st (told 1 n ⟨b.N ++ [x], O', far'⟩) j = st (told 1 n b) j := fun n j hj => st_congr fun i hi => by unfold dep; rw [hsame n i (by omega)]
  have hlast : ∀ n, nd (told 1 n ⟨b.N ++ [x], O', far'⟩) (b.N.length + 1) = finN n O' b.N.length x := fun n => by
    rw [told_succ (show b.N.length < (b.N ++ [x]).length by rw [List.length_append, List.length_singleton]; omega)]
    dsimp only
    rw [nd_pushed]
  have hdl : ∀ n, dep (told 1 n ⟨b.N ++ [x], O', far'⟩) (b.N.length + 1) = (b.O.length : Int) + 1 := fun n => by unfold dep; rw [hlast, finN_dep, hd]
  have hno : b.N.length ∉ b.O := fun k => Nat.lt_irrefl _ (hb.lt _ k)
  refine ⟨fun n h1 h2 i hi => ?_, ?_⟩
  · dsimp only at h1 hi
    rw [List.length_append, List.length_singleton] at hi
    have hfn : b.far ≤ n := by omega
    by_cases hlt : i < b.N.length
    · exact okA_same (fun j hj => hsame n j (by omega)) (h.ok n hfn h2 i hlt)
    · obtain rfl : i = b.N.length := by omega
      have hg := h.good hfn h2
      obtain ⟨g1, g2⟩ := hg.len (show b.N.length < b.N.length + 1 by omega)
      have hl := h.len n
      obtain ⟨p, hp, hpo⟩ := h.top n
      unfold okA
      rw [hdl, hlast, hst n _ (Nat.le_refl _), show ((b.O.length : Int) + 1).toNat - 1 = b.O.length from by omega, show ((b.O.length : Int) + 1).toNat = b.O.length + 1 from by omega, hp]
      have hdN : dep (told 1 n ⟨b.N ++ [x], O', far'⟩) b.N.length = dep (told 1 n b) b.N.length := by unfold dep; rw [hsame n _ (Nat.le_refl _)]
      rw [hdN]
      have hpl : p ≤ b.N.length := by
        rcases hpo with rfl | ⟨o, ho, rfl⟩
        · exact Nat.zero_le _
        · exact hb.lt o ho
      rw [hsame n p hpl]
      have hpf : (nd (told 1 n b) p).2.1 ≤ b.far ∧ (nd (told 1 n b) p).2.2.1 = n := by
        rcases hpo with rfl | ⟨o, ho, rfl⟩
        · exact ⟨hb.lo, rfl⟩
        · have := hb.lt o ho
          rw [told_succ this, finN_from, finN_in ho]
          exact ⟨(hb.from_ _ (nd_mem this)).2, rfl⟩
      refine ⟨by omega, by omega, ?_, ?_, ?_, fun hle => ?_⟩
      · rw [finN_from]; omega
      · rw [finN_from]
        rcases hO with rfl | rfl
        · rw [finN_out hno]; exact (hleaf rfl).1
        · rw [finN_in (List.mem_append_right _ (List.mem_singleton.2 rfl))]; omega
      · rw [hpf.2]
        rcases hO with rfl | rfl
        · rw [finN_out hno]; have := (hleaf rfl).2; omega
        · rw [finN_in (List.mem_append_right _ (List.mem_singleton.2 rfl))]; omega
      · rw [finN_from]
        have hk : b.O.length + 1 < (st (told 1 n b) b.N.length).length := by omega
        obtain ⟨s, hs⟩ : ∃ s, (st (told 1 n b) b.N.length)[b.O.length + 1]? = some s := ⟨_, List.getElem?_eq_getElem hk⟩
        have hsl := st_le _ _ _ (List.mem_of_getElem? hs)
        have hsd := st_dep hg.1 (hg.ok (show b.N.length < b.N.length + 1 by omega)) _ _ hs
        rw [List.getD_eq_getElem?_getD, hs]
        show (nd (told 1 n ⟨b.N ++ [x], O', far'⟩) s).2.2.1 ≤ _
        rw [hsame n s hsl]
        cases s with
        | zero => rw [show dep (told 1 n b) 0 = 0 from rfl] at hsd; omega
        | succ j =>
          have hjN : j < b.N.length := by omega
          have hjO : j ∉ b.O := fun hj => by
            obtain ⟨m, hm, hme⟩ := List.getElem_of_mem hj
            have h3 : (st (told 1 n b) b.N.length)[m + 1]? = some (j + 1) := by
              rw [h.at_ n (by omega), List.getElem?_cons_succ, List.getElem?_map, List.getElem?_eq_getElem hm, hme]
              rfl
            have h4 := st_dep hg.1 (hg.ok (show b.N.length < b.N.length + 1 by omega)) _ _ h3
            omega
          rw [told_succ hjN, finN_out hjO]
          have := (hb.to_ _ (nd_mem hjN)).2
          omega
  · dsimp only
    have hl : (b.N ++ [x]).length = b.N.length + 1 := by rw [List.length_append]; rfl
    rw [hl, st_succ, hdl, hst _ _ (Nat.le_refl _), show ((b.O.length : Int) + 1).toNat = b.O.length + 1 from by omega, h.opn']
    rcases hO with rfl | rfl
    · rw [List.take_append_of_le_length (by simp), List.take_of_length_le (by simp)]
    · rw [List.length_append, List.map_append, List.take_of_length_le (by simp)]
      rfl
theorem nd_modify {L : List Nd} {f : Nd → Nd} {i j : Nat} (h : j < L.length) : nd (L.modify i f) j = if i = j then f (nd L j) else nd L j := by
  unfold nd
  rw [List.getD_eq_getElem?_getD, List.getElem?_modify, List.getD_eq_getElem?_getD, List.getElem?_eq_getElem h]
  by_cases e : i = j
  · simp [e]
  · simp [e]
theorem last_split {O : List Nat} (h : 0 < O.length) : O = O.dropLast ++ [O.getLastD 0] := by
  have hne : O ≠ [] := fun e => by rw [e] at h; exact Nat.lt_irrefl _ h
  rw [List.getLastD_eq_getLast?, List.getLast?_eq_some_getLast hne]
  exact (List.dropLast_concat_getLast hne).symm
/-- The last open node ends. -/
theorem TOk.shut {b : Bs} (h : TOk b) (hb : BOk b) (ho : 0 < b.O.length) {p kd : Int} (hp : b.far ≤ p) (hpm : p ≤ 1048576) : TOk ⟨b.N.modify (b.O.getLastD 0) (shutN p kd), b.O.dropLast, p⟩ := by
  obtain ⟨x, hx⟩ : ∃ x, b.O.getLastD 0 = x := ⟨_, rfl⟩
  have hsp := last_split ho
  rw [hx] at hsp ⊢
  have hxO : x ∈ b.O := by rw [hsp]; exact List.mem_append_right _ (List.mem_singleton.2 rfl)
  have hxN := hb.lt x hxO
  have hasc := hb.asc
  rw [hsp, List.pairwise_append] at hasc
  have hlt : ∀ y ∈ b.O.dropLast, y < x := fun y hy => hasc.2.2 y hy x (List.mem_singleton.2 rfl)
  have hxno : x ∉ b.O.dropLast := fun k => Nat.lt_irrefl _ (hlt x k)
  have hmem : ∀ i, i ≠ x → (i ∈ b.O.dropLast ↔ i ∈ b.O) := fun i hi => by
    constructor
    · exact fun k => List.dropLast_subset _ k
    · intro k
      rw [hsp] at k
      rcases List.mem_append.1 k with k | k
      · exact k
      · exact absurd (List.mem_singleton.1 k) hi
  have hml : (b.N.modify x (shutN p kd)).length = b.N.length := List.length_modify ..
  -- what the new list's nodes are
  have hother : ∀ n j, j ≠ x + 1 → nd (told 1 n ⟨b.N.modify x (shutN p kd), b.O.dropLast, p⟩) j = nd (told 1 n b) j := fun n j hj => by
    cases j with
    | zero => rfl
    | succ j =>
      by_cases hj2 : j < b.N.length
      · rw [told_succ (show j < (b.N.modify x (shutN p kd)).length by omega), told_succ hj2]
        dsimp only
        rw [nd_modify hj2, if_neg (by omega)]
        unfold finN
        by_cases hm : j ∈ b.O
        · rw [if_pos hm, if_pos ((hmem j (by omega)).2 hm)]
        · rw [if_neg hm, if_neg (fun k => hm ((hmem j (by omega)).1 k))]
      · rw [told_over (show (b.N.modify x (shutN p kd)).length ≤ j by omega), told_over (by omega)]
  have hself : ∀ n, nd (told 1 n ⟨b.N.modify x (shutN p kd), b.O.dropLast, p⟩) (x + 1) = shutN p kd (nd b.N x) := fun n => by
    rw [told_succ (show x < (b.N.modify x (shutN p kd)).length by omega)]
    dsimp only
    rw [finN_out hxno, nd_modify hxN, if_pos rfl]
  have hold : ∀ n, nd (told 1 n b) (x + 1) = finN n b.O x (nd b.N x) := fun n => told_succ hxN
  have hdep : ∀ n j, dep (told 1 n b) j = dep (told 1 n ⟨b.N.modify x (shutN p kd), b.O.dropLast, p⟩) j := fun n j => by
    by_cases hj : j = x + 1
    · subst hj
      unfold dep
      rw [hself, hold, finN_dep]
      rfl
    · unfold dep
      rw [hother n j hj]
  obtain ⟨m, hm⟩ : ∃ m, b.O.length = m + 1 := ⟨b.O.length - 1, by omega⟩
  have hOl : b.O.dropLast.length = m := by rw [List.length_dropLast, hm]; rfl
  have hst1 : ∀ n, (st (told 1 n b) b.N.length)[m + 1]? = some (x + 1) := fun n => by
    rw [h.at_ n (by omega), List.getElem?_cons_succ, List.getElem?_map]
    have : b.O[m]? = some x := by
      rw [hsp, List.getElem?_append_right (by omega), hOl, Nat.sub_self]
      rfl
    rw [this]
    rfl
  refine ⟨fun n h1 h2 i hi => ?_, ?_⟩
  · dsimp only at h1 hi
    rw [hml] at hi
    have hfn : b.far ≤ n := by omega
    have hg := h.good hfn h2
    by_cases hix : i + 1 < x + 1
    · exact okA_same (fun j hj => hother n j (by omega)) (h.ok n hfn h2 i hi)
    by_cases hie : i = x
    · subst hie
      obtain ⟨a1, a2, a3, a4, a5, a6⟩ := h.ok n hfn h2 i hi
      have hm1 : ∀ k, (st (told 1 n b) i).getD k 0 ≠ i + 1 := fun k e => by
        have : (st (told 1 n b) i).getD k 0 ≤ i := by
          rw [List.getD_eq_getElem?_getD]
          cases e : (st (told 1 n b) i)[k]? with
          | none => exact Nat.zero_le _
          | some y => exact st_le _ i y (List.mem_of_getElem? e)
        omega
      have hfr := hb.from_ _ (nd_mem hxN)
      unfold okA
      rw [← st_congr (fun j _ => hdep n j), ← hdep n (i + 1), ← hdep n i, hother n _ (hm1 _), hother n _ (hm1 _), hself]
      rw [hold] at a3 a4 a5 a6
      rw [finN_from] at a3 a4 a6
      rw [finN_in hxO] at a4 a5
      refine ⟨a1, a2, a3, ?_, ?_, a6⟩
      · show (nd b.N i).2.1 ≤ p
        omega
      · show p ≤ _
        omega
    · have hgx := h.good (n := p) hp hpm
      have hsub := (st_sub hg (show b.N.length < b.N.length + 1 by omega) _ _ (hst1 n)).2.2
      have hdi : ((m + 1 : Nat) : Int) < dep (told 1 n b) (i + 1) := hsub (i + 1) (by omega) (by omega)
      have hdx : dep (told 1 n b) (x + 1) = ((m + 1 : Nat) : Int) := st_dep hg.1 (hg.ok (show b.N.length < b.N.length + 1 by omega)) _ _ (hst1 n)
      -- the nodes that are asked of lie at x or behind it
      have hge : ∀ k e, m + 1 ≤ k → (st (told 1 p b) i)[k]? = some e → x + 1 ≤ e := fun k e hk he => by
        rcases Nat.lt_or_ge e (x + 1) with hlt2 | hge
        · have h5 := (st_sub hgx (show i < b.N.length + 1 by omega) _ _ he).2.2 (x + 1) hlt2 (by omega)
          rw [dep_n (n' := n), hdx] at h5
          omega
        · exact hge
      have hnew : ∀ j, x + 1 ≤ j → (nd (told 1 n ⟨b.N.modify x (shutN p kd), b.O.dropLast, p⟩) j).2.1 = (nd (told 1 p b) j).2.1 ∧ (nd (told 1 n ⟨b.N.modify x (shutN p kd), b.O.dropLast, p⟩) j).2.2.1 = (nd (told 1 p b) j).2.2.1 := fun j hj => by
        by_cases hjx : j = x + 1
        · subst hjx
          rw [hself, hold, finN_from, finN_in hxO]
          exact ⟨rfl, rfl⟩
        · rw [hother n j hjx]
          obtain ⟨q, rfl⟩ : ∃ q, j = q + 1 := ⟨j - 1, by omega⟩
          by_cases hq : q < b.N.length
          · have hqo : q ∉ b.O := fun k => by
              rw [hsp] at k
              rcases List.mem_append.1 k with k | k
              · have := hlt q k; omega
              · have := List.mem_singleton.1 k; omega
            rw [told_succ hq, told_succ hq, finN_out hqo, finN_out hqo]
            exact ⟨rfl, rfl⟩
          · rw [told_over (by omega), told_over (by omega)]
            exact ⟨rfl, rfl⟩
      have hok := h.ok p hp hpm i hi
      have hdp : ∀ j, dep (told 1 p b) j = dep (told 1 n ⟨b.N.modify x (shutN p kd), b.O.dropLast, p⟩) j := fun j => (dep_n (n' := n) j).trans (hdep n j)
      have hdi2 : ((m + 1 : Nat) : Int) < dep (told 1 p b) (i + 1) := by rw [dep_n (n' := n)]; exact hdi
      obtain ⟨l1, l2⟩ := hgx.len (show i < b.N.length + 1 by omega)
      have hin : ∀ k, m + 1 ≤ k → k < (st (told 1 p b) i).length → x + 1 ≤ (st (told 1 p b) i).getD k 0 := fun k h5 h6 => by
        rw [List.getD_eq_getElem?_getD, List.getElem?_eq_getElem h6]
        exact hge k _ h5 (List.getElem?_eq_getElem h6)
      refine okA_of (fun j _ => hdp j) hok ?_ (fun hle => ?_) ?_
      · exact hnew _ (hin _ (by omega) (by have := hok.2.1; omega))
      · exact (hnew _ (hin _ (by omega) (by omega))).2
      · exact hnew _ (by omega)
  · dsimp only
    rw [hml, ← st_congr (fun j _ => hdep p j), hOl]
    have h1 := h.opn' p
    have h2 : ((st (told 1 p b) b.N.length).take (b.O.length + 1)).take (m + 1) = (0 :: b.O.map (· + 1)).take (m + 1) := by rw [h1]
    rw [List.take_take, show min (m + 1) (b.O.length + 1) = m + 1 from by omega] at h2
    rw [h2, List.take_succ_cons]
    congr 1
    rw [← List.map_take]
    congr 1
    rw [List.dropLast_eq_take, hm]
    rfl
theorem TOk.step {at_ : Int} {b : Bs} {e : Ev} (h : TOk b) (hb : BOk b) (hk : askE b.far b.O.length at_ e = 0) : TOk (doE at_ b e) := by
  obtain ⟨k1, k2, k3, k4, k5⟩ := askE_ok hk
  unfold doE
  by_cases c1 : e.1 = 1
  · rw [if_pos c1]
    refine h.push hb (.inr rfl) rfl k2 (Int.le_refl _) (fun e => ?_)
    have := congrArg List.length e
    rw [List.length_append] at this
    simp at this
  · rw [if_neg c1]
    by_cases c2 : e.1 = 2
    · rw [if_pos c2]
      exact h.shut hb (k5 c2) k2 k3
    · rw [if_neg c2]
      have k6 := k4 (by omega)
      exact h.push hb (.inl rfl) rfl k2 (by dsimp only; omega) (fun _ => ⟨by dsimp only; omega, Int.le_refl _⟩)
theorem TOk.dos {at_ : Int} : ∀ {L : List Ev} {b : Bs}, TOk b → BOk b → (∀ e ∈ L, EvOk e) → asks at_ b.far b.O.length L = 0 → TOk (dos at_ b L)
  | [], _, h, _, _, _ => h
  | e :: t, b, h, hb, he, hk => by
    obtain ⟨h1, h2⟩ := asks_cons hk
    exact TOk.dos (L := t) (h.step hb h1) (hb.step (he e List.mem_cons_self) h1) (fun x hx => he x (List.mem_cons_of_mem _ hx)) h2
theorem TOk.put {at_ : Int} {L : List Ev} {b : Bs} (h : TOk b) (hb : BOk b) (he : ∀ e ∈ L, EvOk e) : TOk (putB at_ b L) := by
  unfold putB
  split
  · rename_i h1
    unfold putE at h1
    split at h1
    · cases h1
    · exact h.dos hb he h1
  · exact h
end Go.Proofs.Ytkkefgbmdghklaa
