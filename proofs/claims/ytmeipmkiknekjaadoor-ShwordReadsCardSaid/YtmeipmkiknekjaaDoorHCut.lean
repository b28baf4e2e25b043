/- A line that is cut at a blank: in plain mathematics. -/
import Derived.Test.YtmeipmkiknekjaaDoorHTil
import Derived.Test.YtmeipmkiknekjaaDoorHQuo
namespace Go.Proofs.YtmeipmkiknekjaaDoor

theorem pre_take (d : Nat) : ∀ (o R : List Nat) (q : Nat), d ∉ o → R[q]? = some d → (o.isPrefixOf (R.take q) = o.isPrefixOf R)
  | [], R, q, _, _ => by simp
  | a :: o, [], q, _, h => by simp at h
  | a :: o, c :: R, 0, ho, h => by
    have hcd : c = d := by simpa using h
    have hac : a ≠ c := fun e => ho (by rw [e, hcd]; simp)
    simp [List.isPrefixOf, hac]
  | a :: o, c :: R, q + 1, ho, h => by
    have ih := pre_take d o R q (fun h => ho (by simp [h])) (by simpa using h)
    simp only [List.take_succ_cons, List.isPrefixOf, ih]
theorem opF_take (d : Nat) (R : List Nat) (q : Nat) (h : R[q]? = some d) : ∀ os : List (List Nat), (∀ o ∈ os, d ∉ o) → opF os (R.take q) = opF os R
  | [], _ => rfl
  | o :: os, ho => by
    unfold opF
    rw [pre_take d o R q (ho o (by simp)) h, opF_take d R q h os (fun x hx => ho x (by simp [hx]))]
theorem opL_take {d : Nat} {R : List Nat} {q : Nat} (h : R[q]? = some d) (hd : isW d = true) : opL (R.take q) = opL R := by
  have h2 : d = 32 ∨ d = 9 := by unfold isW at hd; simpa using hd
  unfold opL
  refine opF_take d R q h opsL ?_
  rcases h2 with rfl | rfl <;> decide
/-- q is cut: a blank stands at q, in the content, and no LF before it. -/
structure CutAt (R : List Nat) (q : Nat) : Prop where
  lt : q < con R
  at' : ∃ d, R[q]? = some d ∧ isW d = true
  no : q = 0 ∨ R[q - 1]? ≠ some 10
theorem CutAt.len {R : List Nat} {q : Nat} (h : CutAt R q) : q < R.length := by have := (con_le R).1; have := h.lt; omega
theorem CutAt.con {R : List Nat} {q : Nat} (h : CutAt R q) : con (R.take q) = q := by
  have hl := h.len
  rw [con_last]
  rcases h.no with rfl | hn
  · simp
  · by_cases h0 : q = 0
    · subst h0; simp
    · have hg : (R.take q).getLast? = R[q - 1]? := by
        rw [List.getLast?_eq_getElem?, List.length_take, Nat.min_eq_left (by omega), List.getElem?_take_of_lt (by omega)]
      rw [hg, if_neg hn, List.length_take]
      omega
theorem CutAt.drop {R : List Nat} {q k : Nat} (h : CutAt R q) (hk : k ≤ q) : CutAt (R.drop k) (q - k) := by
  have hl := h.lt
  refine ⟨by rw [con_drop k R (by omega)]; omega, ?_, ?_⟩
  · obtain ⟨d, h1, h2⟩ := h.at'
    exact ⟨d, by rw [List.getElem?_drop, show k + (q - k) = q from by omega]; exact h1, h2⟩
  · by_cases h0 : q - k = 0
    · exact .inl h0
    · refine .inr ?_
      rw [List.getElem?_drop, show k + (q - k - 1) = q - 1 from by omega]
      exact h.no.resolve_left (by omega)
theorem take_drop' (R : List Nat) (q k : Nat) : (R.take q).drop k = (R.drop k).take (q - k) := List.drop_take
theorem stp_take {m : Nat} {R : List Nat} {q : Nat} (h : CutAt R q) (hq : q ≠ 0) (hw : (wd m R).1 ≤ q) : stp m (R.take q) = stp m R := by
  have hlt := h.lt
  have hcon := h.con
  obtain ⟨d, hd1, hd2⟩ := h.at'
  have hno := h.no.resolve_left hq
  have hop := opL_take hd1 hd2
  match R, h, hlt, hcon, hd1, hno, hop, hw with
  | [], _, hlt, _, _, _, _, _ => exact absurd hlt (Nat.not_lt_zero _)
  | c :: r, h, hlt, hcon, hd1, hno, hop, hw =>
    obtain ⟨q', rfl⟩ : ∃ q', q = q' + 1 := ⟨q - 1, by omega⟩
    rw [List.take_succ_cons] at hcon hop ⊢
    have h0 : con (c :: r) ≠ 0 := by omega
    have hcr := con_pos h0
    have hcr2 : con (r.take q') = q' := by have := con_pos (show con (c :: r.take q') ≠ 0 by omega); omega
    have hcr3 : con r ≠ 0 := by omega
    have halg : ∀ b : Bool, (b = true ∨ q' ≠ 0) → alg b (r.take q') = alg b r := fun b hb => by
      match r, hd1, hcr3, hcr2 with
      | [], _, hcr3, _ => exact absurd rfl hcr3
      | x :: r, hd1, hcr3, hcr2 =>
        cases q' with
        | zero =>
          have hb' : b = true := by simpa using hb
          have hx : x = d := by simpa using hd1
          subst hb' hx
          have hf : frd x = false := by
            have h2 : x = 32 ∨ x = 9 := by unfold isW at hd2; simpa using hd2
            rcases h2 with rfl | rfl <;> rfl
          unfold alg
          rw [if_neg (by omega : ¬ con (x :: r) = 0)]
          simp [con, hf]
        | succ q'' =>
          unfold alg
          rw [List.take_succ_cons] at hcr2 ⊢
          rw [if_neg (by omega : ¬ con (x :: r) = 0), if_neg (by omega : ¬ con (x :: r.take q'') = 0)]
    rw [stp_cons, stp_cons, if_neg h0, if_neg (by omega)]
    by_cases h1 : m = 39
    · rw [if_pos h1, if_pos h1]
    rw [if_neg h1, if_neg h1]
    by_cases h2 : m = 34
    · rw [if_pos h2, if_pos h2, halg true (.inl rfl)]
    rw [if_neg h2, if_neg h2]
    have hne1 : (c :: r == [92, 10]) = false := by
      refine beq_eq_false_iff_ne.2 fun e => ?_
      rw [e] at hlt
      have : con [92, 10] = 1 := rfl
      omega
    have hne2 : (c :: r.take q' == [92, 10]) = false := by
      refine beq_eq_false_iff_ne.2 fun e => ?_
      have := congrArg con e
      have e2 : con [92, 10] = 1 := rfl
      have e3 := congrArg List.length e
      simp only [List.length_cons, List.length_take, List.length_nil] at e3
      omega
    have hb : bhd (c :: r.take q') = bhd (c :: r) := by
      unfold bhd
      rw [hne1, hne2, hop, decide_eq_false h0, decide_eq_false (by omega : ¬ con (c :: r.take q') = 0)]
      rfl
    rw [hb]
    by_cases h3 : bhd (c :: r) = true
    · rw [if_pos h3, if_pos h3]
    rw [if_neg h3, if_neg h3]
    by_cases h92 : c = 92
    · have hq' : q' ≠ 0 := fun e => by
        have hs : stp m (c :: r) = some ((alg false r).1 + 1, [(alg false r).2], 0) := by
          rw [stp_cons, if_neg h0, if_neg h1, if_neg h2, if_neg h3, if_neg (by omega), if_neg (by omega), if_pos h92]
        rw [wd_step hs] at hw
        subst e
        have ha : (alg false r).1 = 1 := by
          unfold alg
          rw [if_neg (by omega)]
          match r, hd1 with
          | [], hd1 => simp at hd1
          | x :: r, _ => rfl
        simp only [ha] at hw
        omega
      rw [halg false (.inr hq')]
    · rw [if_neg h92, if_neg h92]
theorem wd_take : ∀ (n m : Nat) (R : List Nat) (q : Nat), q ≤ n → CutAt R q → (wd m R).1 ≤ q → (wd m R).2.2 = 0 → wd m (R.take q) = wd m R
  | n, m, R, 0, _, h, hw, h0 => by
    have hs : stp m R = none := by
      cases hs : stp m R with
      | none => rfl
      | some x =>
        have := (stp_con hs).2.1
        rw [wd_step hs] at hw
        simp only [] at hw
        omega
    rw [wd_stop hs] at h0 ⊢
    have hm : m = 0 := h0
    rw [hm, List.take_zero]
    rfl
  | n, m, R, q + 1, hn, h, hw, h0 => by
    have hst := stp_take h (by omega) hw
    cases hs : stp m R with
    | none => rw [wd_stop hs, wd_stop (hst.trans hs)]
    | some x =>
      have hx := stp_con hs
      have e1 := wd_step hs
      rw [e1] at hw h0
      simp only [] at hw h0
      rw [e1, wd_step (hst.trans hs), take_drop']
      have hwx : x.1 ≤ q + 1 := by omega
      match n, hn with
      | 0, hn => omega
      | n + 1, hn => rw [wd_take n x.2.2 (R.drop x.1) (q + 1 - x.1) (by omega) (h.drop hwx) (by omega) h0]
theorem hdW_take {R : List Nat} {q : Nat} (hq : 0 < q) : hdW (R.take q) = hdW R := by
  obtain ⟨q, rfl⟩ : ∃ k, q = k + 1 := ⟨q - 1, by omega⟩
  cases R <;> rfl
/-- A piece that ends before the cut is the same piece of the left part. -/
theorem tk_take {L : List Nat} {k p : Nat} (h : CutAt L k) (hp : p < k) (hb : (tk L p 0).1.b ≤ k) : tk (L.take k) p 0 = tk L p 0 ∧ (tk L p 0).2 = 0 := by
  have hc := h.drop (Nat.le_of_lt hp)
  have hl := h.len
  have hlt := h.lt
  have hcon := h.con
  obtain ⟨d, hd1, hd2⟩ := hc.at'
  have hop := opL_take hd1 hd2
  have hhd : ((L.take k).drop p).head? = (L.drop p).head? := by
    rw [take_drop']
    obtain ⟨q, hq⟩ : ∃ q, k - p = q + 1 := ⟨k - p - 1, by omega⟩
    rw [hq]
    cases L.drop p <;> rfl
  by_cases h35 : (L.drop p).head? = some 35
  · exfalso
    have : tk L p 0 = (⟨53, p, con L, [], false, false⟩, 0) := by unfold tk; rw [if_pos h35]
    rw [this] at hb
    simp only [] at hb
    omega
  · by_cases hopp : 0 < opL (L.drop p)
    · have e : tk L p 0 = (⟨52, p, p + opL (L.drop p), [], false, false⟩, 0) := by unfold tk; rw [if_neg h35, if_pos hopp]
      refine ⟨?_, by rw [e]⟩
      rw [e]
      unfold tk
      rw [hhd, if_neg h35, take_drop', hop, if_pos hopp]
    · by_cases hj : L.drop p = [92, 10]
      · exfalso
        have : tk L p 0 = (⟨54, p, L.length, [], false, false⟩, 0) := by unfold tk; rw [if_neg h35, if_neg hopp, if_pos hj]
        rw [this] at hb
        simp only [] at hb
        omega
      · have e : tk L p 0 = (wpc L p 0, (wd 0 (L.drop p)).2.2) := by unfold tk; rw [if_neg h35, if_neg hopp, if_neg hj]
        rw [e] at hb
        have hbb := wpc_b L p 0
        have hm : (wd 0 (L.drop p)).2.2 = 0 := Classical.byContradiction fun hm => by
          rw [if_neg hm] at hbb
          have hb' : (wpc L p 0).b ≤ k := hb
          omega
        rw [if_pos hm] at hbb
        have hb' : (wpc L p 0).b ≤ k := hb
        have hwt := wd_take (k - p) 0 (L.drop p) (k - p) (Nat.le_refl _) hc (by omega) hm
        have hj2 : (L.take k).drop p ≠ [92, 10] := fun e => by
          have h1 := con_drop p (L.take k) (by omega)
          rw [e, hcon] at h1
          have h2 : con [92, 10] = 1 := rfl
          have h3 := congrArg List.length e
          simp only [List.length_drop, List.length_take, List.length_cons, List.length_nil] at h3
          omega
        refine ⟨?_, by rw [e]; exact hm⟩
        rw [e]
        unfold tk
        rw [hhd, if_neg h35, if_neg (by rw [take_drop', hop]; exact hopp), if_neg hj2]
        have hwt' : wd 0 ((L.take k).drop p) = wd 0 (L.drop p) := by rw [take_drop', hwt]
        have hwp : wpc (L.take k) p 0 = wpc L p 0 := by
          unfold wpc
          rw [hwt', if_pos hm, if_pos hm, if_pos hm, if_pos hm, take_drop', List.take_take, Nat.min_eq_left (by omega)]
        rw [hwp, hwt']
theorem rd_cut {L : List Nat} {k : Nat} (h : CutAt L k) : ∀ (n p : Nat), k - p ≤ n → p ≤ k → (∀ x ∈ (rd L 0 p).1, ¬ (x.a ≤ k ∧ k < x.b)) →
    (rd L 0 p).1 = (rd (L.take k) 0 p).1 ++ (rd L 0 k).1 ∧ (rd L 0 p).2 = (rd L 0 k).2 ∧ (rd (L.take k) 0 p).2 = 0
  | n, p, hn, hp, hx => by
    have hcon := h.con
    have hlt := h.lt
    by_cases hpk : p = k
    · subst hpk
      rw [rd_end (L := L.take p) (by omega)]
      exact ⟨rfl, rfl, rfl⟩
    · match n, hn with
      | 0, hn => omega
      | n + 1, hn =>
        obtain ⟨h1, h2⟩ := rd_step (L := L) (mk := 0) [] (by omega : p < con L)
        obtain ⟨g1, g2⟩ := rd_step (L := L.take k) (mk := 0) [] (by omega : p < con (L.take k))
        rw [List.nil_append] at h1 g1
        have hhw : hdW ((L.take k).drop p) = hdW (L.drop p) := by rw [take_drop', hdW_take (by omega)]
        cases hw : hdW (L.drop p) with
        | true =>
          have e : nxH L p 0 [] = (p + 1, 0, []) := by unfold nxH; rw [if_pos hw]
          have e' : nxH (L.take k) p 0 [] = (p + 1, 0, []) := by unfold nxH; rw [if_pos (hhw.trans hw)]
          rw [e] at h1 h2
          rw [e'] at g1 g2
          have h1 : (rd L 0 p).1 = (rd L 0 (p + 1)).1 := h1
          have g1 : (rd (L.take k) 0 p).1 = (rd (L.take k) 0 (p + 1)).1 := g1
          rw [h1, h2, g1, g2]
          rw [h1] at hx
          exact rd_cut h n (p + 1) (by omega) (by omega) hx
        | false =>
          have e : nxH L p 0 [] = ((tk L p 0).1.b, (tk L p 0).2, [(tk L p 0).1]) := by unfold nxH; rw [if_neg (by rw [hw]; decide)]; rfl
          have e' : nxH (L.take k) p 0 [] = ((tk (L.take k) p 0).1.b, (tk (L.take k) p 0).2, [(tk (L.take k) p 0).1]) := by unfold nxH; rw [if_neg (by rw [hhw, hw]; decide)]; rfl
          rw [e] at h1 h2
          rw [e'] at g1 g2
          have hb := tk_b (mk := 0) (by omega : p < con L) hw
          have h1 : (rd L 0 p).1 = (tk L p 0).1 :: (rd L (tk L p 0).2 (tk L p 0).1.b).1 := h1
          have g1 : (rd (L.take k) 0 p).1 = (tk (L.take k) p 0).1 :: (rd (L.take k) (tk (L.take k) p 0).2 (tk (L.take k) p 0).1.b).1 := g1
          have ha : (tk L p 0).1.a = p := by
            unfold tk
            split
            · rfl
            · split
              · rfl
              · split <;> rfl
          have hbk : (tk L p 0).1.b ≤ k := by
            have := hx (tk L p 0).1 (by rw [h1]; simp)
            omega
          obtain ⟨t1, t2⟩ := tk_take h (by omega) hbk
          rw [t1, t2] at g1 g2
          rw [t2] at h1 h2
          have ih := rd_cut h n (tk L p 0).1.b (by omega) hbk (fun x hx2 => hx x (by rw [h1]; simp [hx2]))
          rw [h1, h2, g1, g2, ih.1]
          exact ⟨rfl, ih.2.1, ih.2.2⟩
theorem rdE_zero (L : List Nat) (p : Nat) (hp : p ≤ con L) : rdE L (p : Int) 0 = rd L 0 p := by
  rw [rdE_eq' L p 0 hp]
  rfl
theorem rdE_cut {L : List Nat} {k : Nat} (h : CutAt L k) (hx : ∀ x ∈ (rdE L 0 0).1, ¬ (x.a ≤ k ∧ k < x.b)) :
    (rdE L 0 0).1 = (rdE (L.take k) 0 0).1 ++ (rdE L (k : Nat) 0).1 ∧ (rdE L 0 0).2 = (rdE L (k : Nat) 0).2 ∧ (rdE (L.take k) 0 0).2 = 0 := by
  have e0 : rdE L 0 0 = rd L 0 0 := rdE_zero L 0 (Nat.zero_le _)
  have e1 : rdE (L.take k) 0 0 = rd (L.take k) 0 0 := rdE_zero _ 0 (Nat.zero_le _)
  rw [e0] at hx ⊢
  rw [e1, rdE_zero L k (Nat.le_of_lt h.lt)]
  exact rd_cut h k 0 (Nat.le_refl _) (Nat.zero_le _) hx
end Go.Proofs.YtmeipmkiknekjaaDoor
