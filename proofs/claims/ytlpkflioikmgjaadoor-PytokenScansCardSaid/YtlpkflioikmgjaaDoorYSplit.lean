/- What stands behind a blank is read by itself, in plain mathematics. -/
import Derived.Test.YtlpkflioikmgjaaDoorYScanA
namespace Go.Proofs.YtlpkflioikmgjaaDoor

theorem pre_sp : ∀ (q w B : List Nat), 32 ∉ q → q.isPrefixOf (w ++ 32 :: B) = q.isPrefixOf w
  | [], w, B, _ => by simp [List.isPrefixOf]
  | c :: q, [], B, h => by
    have hc : c ≠ 32 := fun e => h (by simp [e])
    simp [List.isPrefixOf, hc]
  | c :: q, d :: w, B, h => by
    have := pre_sp q w B (fun k => h (by simp [k]))
    simp only [List.cons_append, List.isPrefixOf, this]
theorem quo_sp (m : Nat) : 32 ∉ quo m := by unfold quo; (repeat' split) <;> decide
theorem begP_pre (p l : List Nat) : begP p l = p.isPrefixOf (l.map lowN) := by
  unfold begP
  rw [pre_iff, Bool.eq_iff_iff, Bool.and_eq_true, decide_eq_true_eq, decide_eq_true_eq, beq_iff_eq, ← List.map_take]
  constructor
  · exact fun h => h.2
  · intro h
    refine ⟨?_, h⟩
    have := congrArg List.length h
    rw [List.length_map, List.length_take] at this
    omega
theorem lowN_sp : lowN 32 = 32 := rfl
theorem begP_sp (p w B : List Nat) (h : 32 ∉ p) : begP p (w ++ 32 :: B) = begP p w := by
  rw [begP_pre, begP_pre, List.map_append, List.map_cons, lowN_sp, pre_sp _ _ _ h]
theorem begM_sp (w B : List Nat) (n : Nat) : begM (w ++ 32 :: B) n = begM w n := by
  unfold begM
  rw [pre_sp _ _ _ (quo_sp 1), pre_sp _ _ _ (quo_sp 2), pre_sp _ _ _ (quo_sp 3), pre_sp _ _ _ (quo_sp 4)]
theorem begF_sp : ∀ (ps : List (List Nat)) (w B : List Nat), (∀ p ∈ ps, 32 ∉ p) → begF ps (w ++ 32 :: B) = begF ps w
  | [], _, _, _ => rfl
  | p :: ps, w, B, h => by
    rw [begF_cons, begF_cons, begP_sp p w B (h p (by simp)), begF_sp ps w B (fun q hq => h q (by simp [hq]))]
    by_cases hp : begP p w = true
    · have hl : p.length ≤ w.length := by
        unfold begP at hp
        simp only [Bool.and_eq_true, decide_eq_true_eq] at hp
        exact hp.1
      rw [List.drop_append_of_le_length hl, begM_sp]
    · rw [if_neg (fun k => hp k.1), if_neg (fun k => hp k.1)]
theorem begL_sp (w B : List Nat) : begL (w ++ 32 :: B) = begL w := begF_sp pres w B (by decide)
theorem clo_sp_nil {q : List Nat} (hq : 32 ∉ q) (hq0 : q ≠ []) : (clo q [32]).2 ≠ 0 := fun h => by
  rw [clo_step (by decide), show ([32] : List Nat) = [] ++ 32 :: [] from rfl, pre_sp q [] [] hq] at h
  cases q with
  | nil => exact hq0 rfl
  | cons c q => simp [List.isPrefixOf, clo] at h
theorem clo_sp (q : List Nat) (hq : 32 ∉ q) (hq0 : q ≠ []) (B : List Nat) : ∀ w : List Nat, (clo q (w ++ [32])).2 = 0 → clo q (w ++ 32 :: B) = clo q (w ++ [32]) ∧ (clo q (w ++ [32])).1 ≤ w.length
  | [], h => absurd h (clo_sp_nil hq hq0)
  | [c], h => by
    by_cases hc : c = 92
    · subst hc
      exfalso
      rw [show ([92] ++ [32] : List Nat) = 92 :: 32 :: [] from rfl, clo_esc] at h
      simp [clo] at h
    · rw [show ([c] ++ [32] : List Nat) = c :: [32] from rfl, clo_step hc] at h ⊢
      rw [show ([c] ++ 32 :: B : List Nat) = c :: 32 :: B from rfl, clo_step hc]
      have e1 : q.isPrefixOf (c :: 32 :: B) = q.isPrefixOf [c] := pre_sp q [c] B hq
      have e2 : q.isPrefixOf (c :: [32]) = q.isPrefixOf [c] := pre_sp q [c] [] hq
      rw [e1, e2]
      rw [e2] at h
      by_cases hp : q.isPrefixOf [c] = true
      · rw [if_pos hp, if_pos hp]
        exact ⟨rfl, (List.isPrefixOf_iff_prefix.1 hp).length_le⟩
      · rw [if_neg hp] at h
        exact absurd h (clo_sp_nil hq hq0)
  | c :: d :: r, h => by
    by_cases hc : c = 92
    · subst hc
      rw [show (92 :: d :: r) ++ [32] = 92 :: d :: (r ++ [32]) from rfl, clo_esc] at h ⊢
      rw [show (92 :: d :: r) ++ 32 :: B = 92 :: d :: (r ++ 32 :: B) from rfl, clo_esc]
      obtain ⟨k1, k2⟩ := clo_sp q hq hq0 B r h
      rw [k1]
      exact ⟨rfl, by simp; omega⟩
    · rw [show (c :: d :: r) ++ [32] = c :: ((d :: r) ++ [32]) from rfl, clo_step hc] at h ⊢
      rw [show (c :: d :: r) ++ 32 :: B = c :: ((d :: r) ++ 32 :: B) from rfl, clo_step hc]
      have e1 : q.isPrefixOf (c :: ((d :: r) ++ 32 :: B)) = q.isPrefixOf (c :: d :: r) := pre_sp q (c :: d :: r) B hq
      have e2 : q.isPrefixOf (c :: ((d :: r) ++ [32])) = q.isPrefixOf (c :: d :: r) := pre_sp q (c :: d :: r) [] hq
      rw [e1, e2]
      rw [e2] at h
      by_cases hp : q.isPrefixOf (c :: d :: r) = true
      · rw [if_pos hp, if_pos hp]
        exact ⟨rfl, (List.isPrefixOf_iff_prefix.1 hp).length_le⟩
      · rw [if_neg hp] at h
        rw [if_neg hp, if_neg hp]
        obtain ⟨k1, k2⟩ := clo_sp q hq hq0 B (d :: r) h
        rw [k1]
        exact ⟨rfl, by simp at k2 ⊢; omega⟩
theorem numT_sp (sg : Bool) (B : List Nat) : ∀ (p : Nat) (w : List Nat), numT sg p (w ++ 32 :: B) = numT sg p w
  | p, [] => by
    rw [List.nil_append, numT_cons, if_neg]
    · rfl
    · simp [numC, letN, digN]
  | p, c :: r => by
    rw [List.cons_append, numT_cons, numT_cons, numT_sp sg B c r]
theorem namT_sp (B : List Nat) : ∀ w : List Nat, namT (w ++ 32 :: B) = namT w
  | [] => by simp [namT, letN, digN]
  | c :: r => by
    have := namT_sp B r
    rw [List.cons_append]
    unfold namT
    rw [this]
theorem any_sp (ps : List (List Nat)) (w B : List Nat) (h : ∀ p ∈ ps, 32 ∉ p) : ps.any (·.isPrefixOf (w ++ 32 :: B)) = ps.any (·.isPrefixOf w) := by
  induction ps with
  | nil => rfl
  | cons p ps ih => rw [any_cons, any_cons, pre_sp p w B (h p (by simp)), ih (fun q hq => h q (by simp [hq]))]
theorem opL_sp (w B : List Nat) : opL (w ++ 32 :: B) = opL w := by
  have e : ∀ l : List Nat, (op1.any fun c => [c].isPrefixOf l) = (op1.map fun c => [c]).any (·.isPrefixOf l) := fun l => by rw [List.any_map]; rfl
  unfold opL
  rw [any_sp op3 w B (by decide), any_sp op2 w B (by decide), e, e, any_sp _ w B (by decide)]
theorem sgn_sp (c : Nat) (r B : List Nat) : sgn (c :: (r ++ 32 :: B)) = sgn (c :: r) := by
  cases r with
  | nil => rfl
  | cons d r => rfl
theorem digH_sp (r B : List Nat) : digH (r ++ 32 :: B) = digH r := by
  cases r with
  | nil => rfl
  | cons d r => rfl
/-- The kinds that P11.4 lets stand. -/
def goodK (k : Nat) : Prop := k = 13 ∨ k = 14 ∨ k = 15 ∨ k = 17
/-- A leaf ahead of a blank is the same whatever stands behind the blank. -/
theorem tokL_sp {d : Int} {c : Nat} {r B : List Nat} {t : Tok} (h : tokL 0 d (c :: (r ++ [32])) = some t) (hk : goodK t.kind) : tokL 0 d (c :: (r ++ 32 :: B)) = some t ∧ t.len ≤ r.length + 1 ∧ t.mark = 0 := by
  have eb : ∀ B' : List Nat, begL (c :: (r ++ 32 :: B')) = begL (c :: r) := fun B' => begL_sp (c :: r) B'
  have et : ∀ B' : List Nat, isTxt 0 c (c :: (r ++ 32 :: B')) = isTxt 0 c (c :: r) := fun B' => by unfold isTxt; rw [eb]
  have eo : ∀ B' : List Nat, opL (c :: (r ++ 32 :: B')) = opL (c :: r) := fun B' => opL_sp (c :: r) B'
  have en : ∀ B' : List Nat, numL (c :: (r ++ 32 :: B')) = numL (c :: r) := fun B' => by
    show numT (sgn (c :: (r ++ 32 :: B'))) c (r ++ 32 :: B') + 1 = numT (sgn (c :: r)) c r + 1
    rw [sgn_sp, numT_sp]
  have eq0 : ∀ B' : List Nat, opTok d c (c :: (r ++ 32 :: B')) = opTok d c (c :: r) := fun B' => by unfold opTok; rw [eo]
  rw [tokL] at h ⊢
  rw [et] at h ⊢
  split at h
  · rename_i ht
    rw [if_pos ht]
    injection h with h
    have hb : (begL (c :: r)).1 ≠ 0 := by
      unfold isTxt at ht
      simp only [Bool.or_eq_true, Bool.and_eq_true, decide_eq_true_eq] at ht
      rcases ht with ht | ht
      · exact absurd rfl ht
      · exact ht.2
    have hl := (begL_le hb).2.1
    rw [List.length_cons] at hl
    have key : ∀ B' : List Nat, (c :: (r ++ 32 :: B')).drop (begL (c :: r)).2 = ((c :: r).drop (begL (c :: r)).2) ++ 32 :: B' := fun B' => List.drop_append_of_le_length (l₁ := c :: r) (by simpa using hl)
    have hx : (clo (quo (begL (c :: r)).1) (((c :: r).drop (begL (c :: r)).2) ++ [32])).2 = 0 := by
      have h' := h
      unfold textL at h'
      simp only [if_true] at h'
      rw [eb, key] at h'
      by_cases hz : (clo (quo (begL (c :: r)).1) (((c :: r).drop (begL (c :: r)).2) ++ [32])).2 = 0
      · exact hz
      · rw [if_neg hz] at h'
        exfalso
        subst h'
        unfold goodK at hk
        split at hk <;> simp at hk
    obtain ⟨k1, k2⟩ := clo_sp (quo (begL (c :: r)).1) (quo_sp _) (fun e => by have := (quo_len (begL (c :: r)).1).1; rw [e] at this; simp at this) B _ hx
    have e1 : textL 0 d (c :: (r ++ [32])) = ⟨15, (begL (c :: r)).2 + (clo (quo (begL (c :: r)).1) (((c :: r).drop (begL (c :: r)).2) ++ [32])).1, 0, d, false⟩ := by
      unfold textL
      simp only [if_true]
      rw [eb, key, if_pos hx]
    have e2 : textL 0 d (c :: (r ++ 32 :: B)) = textL 0 d (c :: (r ++ [32])) := by
      rw [e1]
      unfold textL
      simp only [if_true]
      rw [eb, key, k1, if_pos hx]
    rw [e2, ← h]
    refine ⟨rfl, ?_, ?_⟩
    · rw [e1]
      rw [List.length_drop, List.length_cons] at k2
      show _ + _ ≤ _
      omega
    · rw [e1]
  · rename_i ht
    rw [if_neg ht]
    split at h
    · cases h
    · rename_i hbl
      rw [if_neg hbl]
      split at h
      · injection h with h
        exfalso; subst h; unfold goodK at hk; simp at hk
      · rename_i h35
        rw [if_neg h35]
        split at h
        · injection h with h
          exfalso; subst h
          unfold goodK at hk
          dsimp only at hk
          split at hk <;> simp at hk
        · rename_i h92
          rw [if_neg h92]
          rw [namT_sp, digH_sp, en, eo, eq0] at h ⊢
          have ho := opL_le (c :: r)
          have hn := numT_le (sgn (c :: r)) c r
          have ha := namT_le r
          rw [List.length_cons] at ho
          refine ⟨h, ?_⟩
          (repeat' split at h)
          all_goals (injection h with h; subst h)
          all_goals first
            | (unfold opTok; (repeat' split) <;> first | exact ⟨by simp; omega, rfl⟩ | exact ⟨by simp, rfl⟩)
            | (unfold numL; exact ⟨by simp; omega, rfl⟩)
            | exact ⟨by simp; omega, rfl⟩
            | exact ⟨by simp, rfl⟩
theorem blank_sp {d : Int} {c : Nat} {r B : List Nat} (h : tokL 0 d (c :: (r ++ [32])) = none) : tokL 0 d (c :: (r ++ 32 :: B)) = none := by
  obtain ⟨hb, -⟩ := none_blank h
  rw [tokL]
  have ht : isTxt 0 c (c :: (r ++ 32 :: B)) = false := by unfold isTxt; simp [hb]
  rw [if_neg (by rw [ht]; exact Bool.false_ne_true), if_pos hb]
theorem space_none (d : Int) (B : List Nat) : tokL 0 d (32 :: B) = none := by
  rw [tokL]
  have ht : isTxt 0 32 (32 :: B) = false := by unfold isTxt; simp [isBl]
  rw [if_neg (by rw [ht]; exact Bool.false_ne_true), if_pos (by rfl)]
/-- A scan ahead of a blank, and what stands behind it. -/
theorem scan_split (B : List Nat) : ∀ (n p : Nat) (w : List Nat) (st : PSt), w.length ≤ n → StOk st → st.mark = 0 → (∀ e ∈ (scanC p (w ++ [32]) st).1, goodK e.kind) →
    scanC p (w ++ 32 :: B) st = ((scanC p (w ++ [32]) st).1 ++ (scanC (p + w.length + 1) B (scanC p (w ++ [32]) st).2).1, (scanC (p + w.length + 1) B (scanC p (w ++ [32]) st).2).2)
      ∧ (scanC p (w ++ [32]) st).2.mark = 0
  | n, p, [], st, _, hs, hm, hk => by
    have e1 : scanC p ([] ++ [32]) st = ([], st) := by
      rw [List.nil_append, scanC_blank (by rw [hm]; exact space_none _ _), scanC_nil]
    have e2 : scanC p ([] ++ 32 :: B) st = scanC (p + 1) B st := by
      rw [List.nil_append, scanC_blank (by rw [hm]; exact space_none _ _)]
    rw [e1, e2]
    exact ⟨rfl, hm⟩
  | 0, p, c :: r, st, hn, _, _, _ => absurd hn (by simp)
  | n + 1, p, c :: r, st, hn, hs, hm, hk => by
    cases hq : tokL st.mark st.depth (c :: (r ++ [32])) with
    | none =>
      have hq2 : tokL st.mark st.depth (c :: (r ++ 32 :: B)) = none := by rw [hm] at hq ⊢; exact blank_sp hq
      have e1 : scanC p ((c :: r) ++ [32]) st = scanC (p + 1) (r ++ [32]) st := scanC_blank hq
      have e2 : scanC p ((c :: r) ++ 32 :: B) st = scanC (p + 1) (r ++ 32 :: B) st := scanC_blank hq2
      rw [e1] at hk ⊢
      rw [e2]
      have ih := scan_split B n (p + 1) r st (by simpa using hn) hs hm hk
      rw [show p + (c :: r).length + 1 = p + 1 + r.length + 1 from by simp; omega]
      exact ih
    | some t =>
      have e1 := scanC_tok (p := p) hs hq
      have e1' : scanC p ((c :: r) ++ [32]) st = _ := e1
      have hkt : goodK t.kind := by
        rw [e1'] at hk
        exact hk ⟨t.kind, p, p + t.len⟩ (by simp)
      have hq0 := hq
      rw [hm] at hq0
      obtain ⟨q1, q2, q3⟩ := tokL_sp (B := B) hq0 hkt
      have hq2 : tokL st.mark st.depth (c :: (r ++ 32 :: B)) = some t := by rw [hm]; exact q1
      have e2 := scanC_tok (p := p) hs hq2
      have e2' : scanC p ((c :: r) ++ 32 :: B) st = _ := e2
      have d1 : (c :: (r ++ [32])).drop t.len = ((c :: r).drop t.len) ++ [32] := List.drop_append_of_le_length (l₁ := c :: r) (by simpa using q2)
      have d2 : (c :: (r ++ 32 :: B)).drop t.len = ((c :: r).drop t.len) ++ 32 :: B := List.drop_append_of_le_length (l₁ := c :: r) (by simpa using q2)
      have t1 : (c :: (r ++ [32])).take t.len = (c :: r).take t.len := List.take_append_of_le_length (l₁ := c :: r) (by simpa using q2)
      have t2 : (c :: (r ++ 32 :: B)).take t.len = (c :: r).take t.len := List.take_append_of_le_length (l₁ := c :: r) (by simpa using q2)
      have ea : aft st t (c :: (r ++ 32 :: B)) = aft st t (c :: (r ++ [32])) := by unfold aft; rw [t1, t2]
      rw [d1] at e1'
      rw [d2, ea] at e2'
      rw [e1'] at hk ⊢
      rw [e2']
      have hpos := (tokL_ok hq hs.mark hs.d0 hs.d1).pos
      have ih := scan_split B n (p + t.len) ((c :: r).drop t.len) (aft st t (c :: (r ++ [32]))) (by rw [List.length_drop]; omega) (aft_ok hs hq) q3 (fun e he => hk e (by simp [he]))
      have hp : p + t.len + ((c :: r).drop t.len).length + 1 = p + (c :: r).length + 1 := by rw [List.length_drop]; simp at q2 ⊢; omega
      rw [hp] at ih
      rw [ih.1]
      exact ⟨rfl, ih.2⟩
end Go.Proofs.YtlpkflioikmgjaaDoor
