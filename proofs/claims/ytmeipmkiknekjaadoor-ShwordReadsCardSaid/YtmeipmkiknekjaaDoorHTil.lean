/- Pieces are all of a line: in plain mathematics. -/
import Derived.Test.YtmeipmkiknekjaaDoorHRead
namespace Go.Proofs.YtmeipmkiknekjaaDoor

/-- The pieces that are left lie one behind the other from p on; M is the mark behind the line. -/
def Til (L : List Nat) (M : Nat) : Bool → Nat → List Pc → Prop
  | _, p, [] => ((L.take (con L)).drop (min p (con L))).all isW = true
  | e, p, x :: r => p ≤ x.a ∧ x.a ≤ x.b ∧ x.b ≤ L.length ∧ (e = true ∨ x.a < x.b) ∧ ((L.take x.a).drop p).all isW = true ∧ (x.kind ≠ 51 → x.text = [] ∧ x.raw = false ∧ x.whole = false) ∧ x.text.length ≤ x.b - x.a ∧
      (con L < x.b → r = [] ∧ (x.kind = 54 ∨ (x.kind = 51 ∧ M ≠ 0))) ∧ (r = [] → M ≠ 0 → x.whole = false ∧ x.b = L.length) ∧ Til L M false x.b r
theorem wpc_b (L : List Nat) (p m : Nat) : (wpc L p m).b = if (wd m (L.drop p)).2.2 = 0 then p + (wd m (L.drop p)).1 else L.length := rfl
theorem rd_nil {L : List Nat} : ∀ (k mk p : Nat), con L - p ≤ k → (rd L mk p).1 = [] → (rd L mk p).2 = mk
  | k, mk, p, hk, h => by
    by_cases hp : con L ≤ p
    · rw [rd_end hp]
    · obtain ⟨h1, h2⟩ := rd_step (mk := mk) [] (by omega : p < con L)
      rw [List.nil_append] at h1
      rw [h] at h1
      cases hw : hdW (L.drop p) with
      | true =>
        have e : nxH L p mk [] = (p + 1, mk, []) := by unfold nxH; rw [if_pos hw]
        rw [e] at h1 h2
        rw [h2]
        match k, hk with
        | 0, hk => omega
        | k + 1, hk => exact rd_nil k mk (p + 1) (by omega) h1.symm
      | false =>
        have e : nxH L p mk [] = ((tk L p mk).1.b, (tk L p mk).2, [(tk L p mk).1]) := by unfold nxH; rw [if_neg (by rw [hw]; decide)]; rfl
        rw [e] at h1
        simp at h1
theorem take_drop_blank {L : List Nat} {p a : Nat} (hw : hdW (L.drop p) = true) (h : ((L.take a).drop (p + 1)).all isW = true) : ((L.take a).drop p).all isW = true := by
  by_cases hpa : p < a
  · have e : (L.take a).drop p = (L.drop p).take (a - p) := List.drop_take
    have e2 : (L.take a).drop (p + 1) = (L.drop (p + 1)).take (a - (p + 1)) := List.drop_take
    rw [e2] at h
    rw [e]
    cases hd : L.drop p with
    | nil => simp
    | cons c r =>
      have hr : L.drop (p + 1) = r := by rw [← List.drop_drop, hd]; rfl
      rw [hr] at h
      rw [hd] at hw
      rw [show a - p = (a - (p + 1)) + 1 from by omega, List.take_succ_cons, List.all_cons, h, Bool.and_true]
      exact hw
  · rw [List.drop_of_length_le (by rw [List.length_take]; omega)]
    rfl
theorem til_blank {L : List Nat} {M : Nat} {e : Bool} {p : Nat} (hp : p < con L) (hw : hdW (L.drop p) = true) : ∀ {ps : List Pc}, Til L M e (p + 1) ps → Til L M e p ps
  | [], h => by
    unfold Til at h ⊢
    rw [Nat.min_eq_left (by omega)] at h ⊢
    exact take_drop_blank hw h
  | x :: r, h => by
    unfold Til at h ⊢
    obtain ⟨h1, h2, h3, h4, h5, h6⟩ := h
    exact ⟨by omega, h2, h3, h4, take_drop_blank hw h5, h6⟩
theorem self_blank (L : List Nat) (p : Nat) : ((L.take p).drop p).all isW = true := by
  rw [List.drop_of_length_le (by rw [List.length_take]; omega)]
  rfl
theorem drop_con_len (L : List Nat) : (L.drop (con L)).length = L.length - con L := by rw [List.length_drop]
/-- A word that begins at p. -/
theorem til_word {L : List Nat} {p m : Nat} {e : Bool} {r : List Pc} {M : Nat} (hm : m = 0 ∨ m = 39 ∨ m = 34) (hp : p ≤ con L) (he : e = true ∨ p < (wpc L p m).b)
    (hr : r = (rd L (wd m (L.drop p)).2.2 (wpc L p m).b).1) (hM : M = (rd L (wd m (L.drop p)).2.2 (wpc L p m).b).2) (ht : Til L M false (wpc L p m).b r) : Til L M e p (wpc L p m :: r) := by
  have hcl := con_le L
  have hcd := drop_con hp
  obtain ⟨a1, a2, a3, a4⟩ := wd_all (con L) m (L.drop p) (by omega) hm
  have hb := wpc_b L p m
  have hbl : p ≤ (wpc L p m).b ∧ (wpc L p m).b ≤ L.length := by
    rw [hb]
    split <;> omega
  have hlast : (wd m (L.drop p)).2.2 ≠ 0 → r = [] ∧ M = (wd m (L.drop p)).2.2 := fun h => by
    have hbe : (wpc L p m).b = L.length := by rw [hb, if_neg h]
    rw [hbe, rd_end hcl.1] at hr hM
    exact ⟨hr, hM⟩
  unfold Til
  refine ⟨Nat.le_refl _, hbl.1, hbl.2, he, self_blank L p, fun h => absurd rfl h, ?_, ?_, ?_, ht⟩
  · show ((wd m (L.drop p)).2.1 ++ (if (wd m (L.drop p)).2.2 = 0 then [] else L.drop (con L))).length ≤ (wpc L p m).b - p
    rw [hb, List.length_append]
    split
    · simp; omega
    · rename_i h
      have := a4 h
      rw [drop_con_len]
      omega
  · intro h
    by_cases hz : (wd m (L.drop p)).2.2 = 0
    · rw [hb, if_pos hz] at h
      omega
    · obtain ⟨h1, h2⟩ := hlast hz
      exact ⟨h1, .inr ⟨rfl, by rw [h2]; exact hz⟩⟩
  · intro h1 h2
    have hz : (wd m (L.drop p)).2.2 ≠ 0 := by
      rw [hr] at h1
      rw [hM, rd_nil _ _ _ (Nat.le_refl _) h1] at h2
      exact h2
    refine ⟨?_, by rw [hb, if_neg hz]⟩
    show (decide (m = 0) && decide ((wd m (L.drop p)).2.2 = 0)) = false
    rw [decide_eq_false hz, Bool.and_false]
theorem til_rd {L : List Nat} : ∀ (k mk p : Nat), con L - p ≤ k → p ≤ L.length → (mk = 0 ∨ con L ≤ p) → Til L (rd L mk p).2 false p (rd L mk p).1
  | k, mk, p, hk, hpl, hmk => by
    have hcl := con_le L
    by_cases hp : con L ≤ p
    · rw [rd_end hp]
      unfold Til
      rw [Nat.min_eq_right hp]
      exact self_blank L (con L)
    · have hmk0 : mk = 0 := by omega
      subst hmk0
      obtain ⟨h1, h2⟩ := rd_step (mk := 0) [] (by omega : p < con L)
      rw [List.nil_append] at h1
      obtain ⟨k, rfl⟩ : ∃ k', k = k' + 1 := ⟨k - 1, by omega⟩
      cases hw : hdW (L.drop p) with
      | true =>
        have e : nxH L p 0 [] = (p + 1, 0, []) := by unfold nxH; rw [if_pos hw]
        rw [e] at h1 h2
        have h1 : (rd L 0 p).1 = (rd L 0 (p + 1)).1 := h1
        rw [h1, h2]
        exact til_blank (by omega) hw (til_rd k 0 (p + 1) (by omega) (by omega) (.inl rfl))
      | false =>
        have e : nxH L p 0 [] = ((tk L p 0).1.b, (tk L p 0).2, [(tk L p 0).1]) := by unfold nxH; rw [if_neg (by rw [hw]; decide)]; rfl
        rw [e] at h1 h2
        have h1 : (rd L 0 p).1 = (tk L p 0).1 :: (rd L (tk L p 0).2 (tk L p 0).1.b).1 := h1
        have hb := tk_b (mk := 0) (by omega : p < con L) hw
        rw [h1, h2]
        have ih := til_rd k (tk L p 0).2 (tk L p 0).1.b (by omega) hb.2
        have hother : ∀ kd b, tk L p 0 = (⟨kd, p, b, [], false, false⟩, 0) → kd ≠ 51 → (con L < b → b = L.length ∧ kd = 54) → Til L (rd L (tk L p 0).2 (tk L p 0).1.b).2 false p ((tk L p 0).1 :: (rd L (tk L p 0).2 (tk L p 0).1.b).1) := fun kd b he hkd hfar => by
          rw [he] at ih hb ⊢
          have ih2 := ih (.inl rfl)
          simp only [] at hb ih2 ⊢
          have hnil := rd_nil (L := L) _ 0 b (Nat.le_refl _)
          unfold Til
          refine ⟨Nat.le_refl _, Nat.le_of_lt hb.1, hb.2, .inr hb.1, self_blank L p, fun _ => ⟨rfl, rfl, rfl⟩, Nat.zero_le _, ?_, ?_, ih2⟩
          · intro h
            obtain ⟨f1, f2⟩ := hfar h
            rw [rd_end (by omega)]
            exact ⟨rfl, .inl f2⟩
          · intro h h3
            exact absurd (hnil h) h3
        by_cases h35 : (L.drop p).head? = some 35
        · exact hother 53 (con L) (by unfold tk; rw [if_pos h35]) (by decide) (fun h => absurd h (Nat.lt_irrefl _))
        · by_cases hop : 0 < opL (L.drop p)
          · refine hother 52 (p + opL (L.drop p)) (by unfold tk; rw [if_neg h35, if_pos hop]) (by decide) (fun h => ?_)
            have := opL_con (L.drop p)
            have := drop_con (Nat.le_of_lt (by omega : p < con L))
            omega
          · by_cases hj : L.drop p = [92, 10]
            · exact hother 54 L.length (by unfold tk; rw [if_neg h35, if_neg hop, if_pos hj]) (by decide) (fun _ => ⟨rfl, rfl⟩)
            · have ht : tk L p 0 = (wpc L p 0, (wd 0 (L.drop p)).2.2) := by unfold tk; rw [if_neg h35, if_neg hop, if_neg hj]
              rw [ht] at ih hb ⊢
              refine til_word (.inl rfl) (by omega) (.inr hb.1) rfl rfl (ih ?_)
              by_cases hz : (wd 0 (L.drop p)).2.2 = 0
              · exact .inl hz
              · right
                show con L ≤ (wpc L p 0).b
                rw [wpc_b, if_neg hz]
                exact hcl.1
theorem rdE_eq' (L : List Nat) (p m : Nat) (hp : p ≤ con L) : rdE L (p : Int) m = if sgM m = true then (wpc L p m :: (rd L (wd m (L.drop p)).2.2 (wpc L p m).b).1, (rd L (wd m (L.drop p)).2.2 (wpc L p m).b).2) else rd L 0 p := by
  unfold rdE
  rw [if_neg (by omega), Int.toNat_natCast]
/-- What Read tells of a line, from a place in it on. -/
theorem til_all (L : List Nat) (p m : Nat) (hp : p ≤ con L) : Til L (rdE L (p : Int) m).2 (sgM m) p (rdE L (p : Int) m).1 := by
  have hcl := con_le L
  rw [rdE_eq' L p m hp]
  cases hm : sgM m with
  | true =>
    rw [if_pos rfl]
    have hm2 : m = 39 ∨ m = 34 := by unfold sgM at hm; simpa using hm
    have hbl : (wpc L p m).b ≤ L.length := by
      obtain ⟨a1, a2, a3, a4⟩ := wd_all (con L) m (L.drop p) (by rw [drop_con hp]; omega) (.inr hm2)
      rw [drop_con hp] at a1
      rw [wpc_b]
      split <;> omega
    refine til_word (.inr hm2) hp (.inl rfl) rfl rfl (til_rd _ _ _ (Nat.le_refl _) hbl ?_)
    by_cases hz : (wd m (L.drop p)).2.2 = 0
    · exact .inl hz
    · right
      rw [wpc_b, if_neg hz]
      exact hcl.1
  | false =>
    rw [if_neg (by decide)]
    exact til_rd _ _ _ (Nat.le_refl _) (by omega) (.inl rfl)
end Go.Proofs.YtmeipmkiknekjaaDoor
