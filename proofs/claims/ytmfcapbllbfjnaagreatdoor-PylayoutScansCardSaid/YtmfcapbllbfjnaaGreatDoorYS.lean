/- What stands behind a blank is read by itself, in plain mathematics. Where a line ends, of lines that are put together or cut; texts in quotes are one leaf; in plain mathematics. P11.4 whole, in plain mathematics. -/
import Derived.Test.YtmfcapbllbfjnaaGreatDoorYScanA
namespace Go.Proofs.YtmfcapbllbfjnaaGreatDoor

theorem pre_sp : ∀ (q w B : List Nat), 32 ∉ q → q.isPrefixOf (w ++ 32 :: B) = q.isPrefixOf w
  | [], w, B, _ => by simp [List.isPrefixOf]
  | c :: q, [], B, h => by
    have hc : c ≠ 32 := fun e => h (by simp [e])
    simp [List.isPrefixOf, hc]
  | c :: q, d :: w, B, h => by
    have := pre_sp q w B (fun k => h (by simp [k]))
    simp only [List.cons_append, List.isPrefixOf, this]
theorem quo_sp (m : Nat) : 32 ∉ quo m := by unfold quo; (repeat' split) <;> decide
theorem begP_pre (p l : List Nat) : begP p l = p.isPrefixOf (l.map lowN) := by
  unfold begP
  rw [pre_iff, Bool.eq_iff_iff, Bool.and_eq_true, decide_eq_true_eq, decide_eq_true_eq, beq_iff_eq, ← List.map_take]
  constructor
  · exact fun h => h.2
  · intro h
    refine ⟨?_, h⟩
    have := congrArg List.length h
    rw [List.length_map, List.length_take] at this
    omega
theorem lowN_sp : lowN 32 = 32 := rfl
theorem begP_sp (p w B : List Nat) (h : 32 ∉ p) : begP p (w ++ 32 :: B) = begP p w := by
  rw [begP_pre, begP_pre, List.map_append, List.map_cons, lowN_sp, pre_sp _ _ _ h]
theorem begM_sp (w B : List Nat) (n : Nat) : begM (w ++ 32 :: B) n = begM w n := by
  unfold begM
  rw [pre_sp _ _ _ (quo_sp 1), pre_sp _ _ _ (quo_sp 2), pre_sp _ _ _ (quo_sp 3), pre_sp _ _ _ (quo_sp 4)]
theorem begF_sp : ∀ (ps : List (List Nat)) (w B : List Nat), (∀ p ∈ ps, 32 ∉ p) → begF ps (w ++ 32 :: B) = begF ps w
  | [], _, _, _ => rfl
  | p :: ps, w, B, h => by
    rw [begF_cons, begF_cons, begP_sp p w B (h p (by simp)), begF_sp ps w B (fun q hq => h q (by simp [hq]))]
    by_cases hp : begP p w = true
    · have hl : p.length ≤ w.length := by
        unfold begP at hp
        simp only [Bool.and_eq_true, decide_eq_true_eq] at hp
        exact hp.1
      rw [List.drop_append_of_le_length hl, begM_sp]
    · rw [if_neg (fun k => hp k.1), if_neg (fun k => hp k.1)]
theorem begL_sp (w B : List Nat) : begL (w ++ 32 :: B) = begL w := begF_sp pres w B (by decide)
theorem clo_sp_nil {q : List Nat} (hq : 32 ∉ q) (hq0 : q ≠ []) : (clo q [32]).2 ≠ 0 := fun h => by
  rw [clo_step (by decide), show ([32] : List Nat) = [] ++ 32 :: [] from rfl, pre_sp q [] [] hq] at h
  cases q with
  | nil => exact hq0 rfl
  | cons c q => simp [List.isPrefixOf, clo] at h
theorem clo_sp (q : List Nat) (hq : 32 ∉ q) (hq0 : q ≠ []) (B : List Nat) : ∀ w : List Nat, (clo q (w ++ [32])).2 = 0 → clo q (w ++ 32 :: B) = clo q (w ++ [32]) ∧ (clo q (w ++ [32])).1 ≤ w.length
  | [], h => absurd h (clo_sp_nil hq hq0)
  | [c], h => by
    by_cases hc : c = 92
    · subst hc
      exfalso
      rw [show ([92] ++ [32] : List Nat) = 92 :: 32 :: [] from rfl, clo_esc] at h
      simp [clo] at h
    · rw [show ([c] ++ [32] : List Nat) = c :: [32] from rfl, clo_step hc] at h ⊢
      rw [show ([c] ++ 32 :: B : List Nat) = c :: 32 :: B from rfl, clo_step hc]
      have e1 : q.isPrefixOf (c :: 32 :: B) = q.isPrefixOf [c] := pre_sp q [c] B hq
      have e2 : q.isPrefixOf (c :: [32]) = q.isPrefixOf [c] := pre_sp q [c] [] hq
      rw [e1, e2]
      rw [e2] at h
      by_cases hp : q.isPrefixOf [c] = true
      · rw [if_pos hp, if_pos hp]
        exact ⟨rfl, (List.isPrefixOf_iff_prefix.1 hp).length_le⟩
      · rw [if_neg hp] at h
        exact absurd h (clo_sp_nil hq hq0)
  | c :: d :: r, h => by
    by_cases hc : c = 92
    · subst hc
      rw [show (92 :: d :: r) ++ [32] = 92 :: d :: (r ++ [32]) from rfl, clo_esc] at h ⊢
      rw [show (92 :: d :: r) ++ 32 :: B = 92 :: d :: (r ++ 32 :: B) from rfl, clo_esc]
      obtain ⟨k1, k2⟩ := clo_sp q hq hq0 B r h
      rw [k1]
      exact ⟨rfl, by simp; omega⟩
    · rw [show (c :: d :: r) ++ [32] = c :: ((d :: r) ++ [32]) from rfl, clo_step hc] at h ⊢
      rw [show (c :: d :: r) ++ 32 :: B = c :: ((d :: r) ++ 32 :: B) from rfl, clo_step hc]
      have e1 : q.isPrefixOf (c :: ((d :: r) ++ 32 :: B)) = q.isPrefixOf (c :: d :: r) := pre_sp q (c :: d :: r) B hq
      have e2 : q.isPrefixOf (c :: ((d :: r) ++ [32])) = q.isPrefixOf (c :: d :: r) := pre_sp q (c :: d :: r) [] hq
      rw [e1, e2]
      rw [e2] at h
      by_cases hp : q.isPrefixOf (c :: d :: r) = true
      · rw [if_pos hp, if_pos hp]
        exact ⟨rfl, (List.isPrefixOf_iff_prefix.1 hp).length_le⟩
      · rw [if_neg hp] at h
        rw [if_neg hp, if_neg hp]
        obtain ⟨k1, k2⟩ := clo_sp q hq hq0 B (d :: r) h
        rw [k1]
        exact ⟨rfl, by simp at k2 ⊢; omega⟩
theorem numT_sp (sg : Bool) (B : List Nat) : ∀ (p : Nat) (w : List Nat), numT sg p (w ++ 32 :: B) = numT sg p w
  | p, [] => by
    rw [List.nil_append, numT_cons, if_neg]
    · rfl
    · simp [numC, letN, digN]
  | p, c :: r => by
    rw [List.cons_append, numT_cons, numT_cons, numT_sp sg B c r]
theorem namT_sp (B : List Nat) : ∀ w : List Nat, namT (w ++ 32 :: B) = namT w
  | [] => by simp [namT, letN, digN]
  | c :: r => by
    have := namT_sp B r
    rw [List.cons_append]
    unfold namT
    rw [this]
theorem any_sp (ps : List (List Nat)) (w B : List Nat) (h : ∀ p ∈ ps, 32 ∉ p) : ps.any (·.isPrefixOf (w ++ 32 :: B)) = ps.any (·.isPrefixOf w) := by
  induction ps with
  | nil => rfl
  | cons p ps ih => rw [any_cons, any_cons, pre_sp p w B (h p (by simp)), ih (fun q hq => h q (by simp [hq]))]
theorem opL_sp (w B : List Nat) : opL (w ++ 32 :: B) = opL w := by
  have e : ∀ l : List Nat, (op1.any fun c => [c].isPrefixOf l) = (op1.map fun c => [c]).any (·.isPrefixOf l) := fun l => by rw [List.any_map]; rfl
  unfold opL
  rw [any_sp op3 w B (by decide), any_sp op2 w B (by decide), e, e, any_sp _ w B (by decide)]
theorem sgn_sp (c : Nat) (r B : List Nat) : sgn (c :: (r ++ 32 :: B)) = sgn (c :: r) := by
  cases r with
  | nil => rfl
  | cons d r => rfl
theorem digH_sp (r B : List Nat) : digH (r ++ 32 :: B) = digH r := by
  cases r with
  | nil => rfl
  | cons d r => rfl
/-- The kinds that P11.4 lets stand. -/
def goodK (k : Nat) : Prop := k = 13 ∨ k = 14 ∨ k = 15 ∨ k = 17
/-- A leaf ahead of a blank is the same whatever stands behind the blank. -/
theorem tokL_sp {d : Int} {c : Nat} {r B : List Nat} {t : Tok} (h : tokL 0 d (c :: (r ++ [32])) = some t) (hk : goodK t.kind) : tokL 0 d (c :: (r ++ 32 :: B)) = some t ∧ t.len ≤ r.length + 1 ∧ t.mark = 0 := by
  have eb : ∀ B' : List Nat, begL (c :: (r ++ 32 :: B')) = begL (c :: r) := fun B' => begL_sp (c :: r) B'
  have et : ∀ B' : List Nat, isTxt 0 c (c :: (r ++ 32 :: B')) = isTxt 0 c (c :: r) := fun B' => by unfold isTxt; rw [eb]
  have eo : ∀ B' : List Nat, opL (c :: (r ++ 32 :: B')) = opL (c :: r) := fun B' => opL_sp (c :: r) B'
  have en : ∀ B' : List Nat, numL (c :: (r ++ 32 :: B')) = numL (c :: r) := fun B' => by
    show numT (sgn (c :: (r ++ 32 :: B'))) c (r ++ 32 :: B') + 1 = numT (sgn (c :: r)) c r + 1
    rw [sgn_sp, numT_sp]
  have eq0 : ∀ B' : List Nat, opTok d c (c :: (r ++ 32 :: B')) = opTok d c (c :: r) := fun B' => by unfold opTok; rw [eo]
  rw [tokL] at h ⊢
  rw [et] at h ⊢
  split at h
  · rename_i ht
    rw [if_pos ht]
    injection h with h
    have hb : (begL (c :: r)).1 ≠ 0 := by
      unfold isTxt at ht
      simp only [Bool.or_eq_true, Bool.and_eq_true, decide_eq_true_eq] at ht
      rcases ht with ht | ht
      · exact absurd rfl ht
      · exact ht.2
    have hl := (begL_le hb).2.1
    rw [List.length_cons] at hl
    have key : ∀ B' : List Nat, (c :: (r ++ 32 :: B')).drop (begL (c :: r)).2 = ((c :: r).drop (begL (c :: r)).2) ++ 32 :: B' := fun B' => List.drop_append_of_le_length (l₁ := c :: r) (by simpa using hl)
    have hx : (clo (quo (begL (c :: r)).1) (((c :: r).drop (begL (c :: r)).2) ++ [32])).2 = 0 := by
      have h' := h
      unfold textL at h'
      simp only [if_true] at h'
      rw [eb, key] at h'
      by_cases hz : (clo (quo (begL (c :: r)).1) (((c :: r).drop (begL (c :: r)).2) ++ [32])).2 = 0
      · exact hz
      · rw [if_neg hz] at h'
        exfalso
        subst h'
        unfold goodK at hk
        split at hk <;> simp at hk
    obtain ⟨k1, k2⟩ := clo_sp (quo (begL (c :: r)).1) (quo_sp _) (fun e => by have := (quo_len (begL (c :: r)).1).1; rw [e] at this; simp at this) B _ hx
    have e1 : textL 0 d (c :: (r ++ [32])) = ⟨15, (begL (c :: r)).2 + (clo (quo (begL (c :: r)).1) (((c :: r).drop (begL (c :: r)).2) ++ [32])).1, 0, d, false⟩ := by
      unfold textL
      simp only [if_true]
      rw [eb, key, if_pos hx]
    have e2 : textL 0 d (c :: (r ++ 32 :: B)) = textL 0 d (c :: (r ++ [32])) := by
      rw [e1]
      unfold textL
      simp only [if_true]
      rw [eb, key, k1, if_pos hx]
    rw [e2, ← h]
    refine ⟨rfl, ?_, ?_⟩
    · rw [e1]
      rw [List.length_drop, List.length_cons] at k2
      show _ + _ ≤ _
      omega
    · rw [e1]
  · rename_i ht
    rw [if_neg ht]
    split at h
    · cases h
    · rename_i hbl
      rw [if_neg hbl]
      split at h
      · injection h with h
        exfalso; subst h; unfold goodK at hk; simp at hk
      · rename_i h35
        rw [if_neg h35]
        split at h
        · injection h with h
          exfalso; subst h
          unfold goodK at hk
          dsimp only at hk
          split at hk <;> simp at hk
        · rename_i h92
          rw [if_neg h92]
          rw [namT_sp, digH_sp, en, eo, eq0] at h ⊢
          have ho := opL_le (c :: r)
          have hn := numT_le (sgn (c :: r)) c r
          have ha := namT_le r
          rw [List.length_cons] at ho
          refine ⟨h, ?_⟩
          (repeat' split at h)
          all_goals (injection h with h; subst h)
          all_goals first
            | (unfold opTok; (repeat' split) <;> first | exact ⟨by simp; omega, rfl⟩ | exact ⟨by simp, rfl⟩)
            | (unfold numL; exact ⟨by simp; omega, rfl⟩)
            | exact ⟨by simp; omega, rfl⟩
            | exact ⟨by simp, rfl⟩
theorem blank_sp {d : Int} {c : Nat} {r B : List Nat} (h : tokL 0 d (c :: (r ++ [32])) = none) : tokL 0 d (c :: (r ++ 32 :: B)) = none := by
  obtain ⟨hb, -⟩ := none_blank h
  rw [tokL]
  have ht : isTxt 0 c (c :: (r ++ 32 :: B)) = false := by unfold isTxt; simp [hb]
  rw [if_neg (by rw [ht]; exact Bool.false_ne_true), if_pos hb]
theorem space_none (d : Int) (B : List Nat) : tokL 0 d (32 :: B) = none := by
  rw [tokL]
  have ht : isTxt 0 32 (32 :: B) = false := by unfold isTxt; simp [isBl]
  rw [if_neg (by rw [ht]; exact Bool.false_ne_true), if_pos (by rfl)]
/-- A scan ahead of a blank, and what stands behind it. -/
theorem scan_split (B : List Nat) : ∀ (n p : Nat) (w : List Nat) (st : PSt), w.length ≤ n → StOk st → st.mark = 0 → (∀ e ∈ (scanC p (w ++ [32]) st).1, goodK e.kind) →
    scanC p (w ++ 32 :: B) st = ((scanC p (w ++ [32]) st).1 ++ (scanC (p + w.length + 1) B (scanC p (w ++ [32]) st).2).1, (scanC (p + w.length + 1) B (scanC p (w ++ [32]) st).2).2)
      ∧ (scanC p (w ++ [32]) st).2.mark = 0
  | n, p, [], st, _, hs, hm, hk => by
    have e1 : scanC p ([] ++ [32]) st = ([], st) := by
      rw [List.nil_append, scanC_blank (by rw [hm]; exact space_none _ _), scanC_nil]
    have e2 : scanC p ([] ++ 32 :: B) st = scanC (p + 1) B st := by
      rw [List.nil_append, scanC_blank (by rw [hm]; exact space_none _ _)]
    rw [e1, e2]
    exact ⟨rfl, hm⟩
  | 0, p, c :: r, st, hn, _, _, _ => absurd hn (by simp)
  | n + 1, p, c :: r, st, hn, hs, hm, hk => by
    cases hq : tokL st.mark st.depth (c :: (r ++ [32])) with
    | none =>
      have hq2 : tokL st.mark st.depth (c :: (r ++ 32 :: B)) = none := by rw [hm] at hq ⊢; exact blank_sp hq
      have e1 : scanC p ((c :: r) ++ [32]) st = scanC (p + 1) (r ++ [32]) st := scanC_blank hq
      have e2 : scanC p ((c :: r) ++ 32 :: B) st = scanC (p + 1) (r ++ 32 :: B) st := scanC_blank hq2
      rw [e1] at hk ⊢
      rw [e2]
      have ih := scan_split B n (p + 1) r st (by simpa using hn) hs hm hk
      rw [show p + (c :: r).length + 1 = p + 1 + r.length + 1 from by simp; omega]
      exact ih
    | some t =>
      have e1 := scanC_tok (p := p) hs hq
      have e1' : scanC p ((c :: r) ++ [32]) st = _ := e1
      have hkt : goodK t.kind := by
        rw [e1'] at hk
        exact hk ⟨t.kind, p, p + t.len⟩ (by simp)
      have hq0 := hq
      rw [hm] at hq0
      obtain ⟨q1, q2, q3⟩ := tokL_sp (B := B) hq0 hkt
      have hq2 : tokL st.mark st.depth (c :: (r ++ 32 :: B)) = some t := by rw [hm]; exact q1
      have e2 := scanC_tok (p := p) hs hq2
      have e2' : scanC p ((c :: r) ++ 32 :: B) st = _ := e2
      have d1 : (c :: (r ++ [32])).drop t.len = ((c :: r).drop t.len) ++ [32] := List.drop_append_of_le_length (l₁ := c :: r) (by simpa using q2)
      have d2 : (c :: (r ++ 32 :: B)).drop t.len = ((c :: r).drop t.len) ++ 32 :: B := List.drop_append_of_le_length (l₁ := c :: r) (by simpa using q2)
      have t1 : (c :: (r ++ [32])).take t.len = (c :: r).take t.len := List.take_append_of_le_length (l₁ := c :: r) (by simpa using q2)
      have t2 : (c :: (r ++ 32 :: B)).take t.len = (c :: r).take t.len := List.take_append_of_le_length (l₁ := c :: r) (by simpa using q2)
      have ea : aft st t (c :: (r ++ 32 :: B)) = aft st t (c :: (r ++ [32])) := by unfold aft; rw [t1, t2]
      rw [d1] at e1'
      rw [d2, ea] at e2'
      rw [e1'] at hk ⊢
      rw [e2']
      have hpos := (tokL_ok hq hs.mark hs.d0 hs.d1).pos
      have ih := scan_split B n (p + t.len) ((c :: r).drop t.len) (aft st t (c :: (r ++ [32]))) (by rw [List.length_drop]; omega) (aft_ok hs hq) q3 (fun e he => hk e (by simp [he]))
      have hp : p + t.len + ((c :: r).drop t.len).length + 1 = p + (c :: r).length + 1 := by rw [List.length_drop]; simp at q2 ⊢; omega
      rw [hp] at ih
      rw [ih.1]
      exact ⟨rfl, ih.2⟩
end Go.Proofs.YtmfcapbllbfjnaaGreatDoor

namespace Go.Proofs.YtmfcapbllbfjnaaGreatDoor

/-- Is a text's last byte 13? -/
def lastB : Bool → List Nat → Bool
  | b, [] => b
  | _, c :: r => lastB (c == 13) r
theorem lastB_snoc (b : Bool) (u : List Nat) (c : Nat) : lastB b (u ++ [c]) = (c == 13) := by
  induction u generalizing b with
  | nil => rfl
  | cons d r ih => exact ih _
theorem endF_cons (b : Bool) (p c : Nat) (r : List Nat) : endF b p (c :: r) = if c = 10 then (if b then p - 1 else p) else endF (c == 13) (p + 1) r := rfl
theorem endF_app : ∀ (u l : List Nat) (b : Bool) (p : Nat), 10 ∉ u → endF b p (u ++ l) = endF (lastB b u) (p + u.length) l
  | [], _, _, _, _ => rfl
  | c :: r, l, b, p, h => by
    have hc : c ≠ 10 := fun e => h (by simp [e])
    rw [List.cons_append, endF_cons, if_neg hc, endF_app r l _ _ (fun k => h (by simp [k])), List.length_cons, show p + 1 + r.length = p + (r.length + 1) from by omega]
    rfl
theorem endF_shift (k : Nat) : ∀ (l : List Nat) (b : Bool) (p : Nat), (b = true → 0 < p) → endF b (p + k) l = endF b p l + k
  | [], _, _, _ => rfl
  | c :: r, b, p, h => by
    rw [endF_cons, endF_cons]
    by_cases hc : c = 10
    · rw [if_pos hc, if_pos hc]
      cases b with
      | true => have := h rfl; simp; omega
      | false => rfl
    · rw [if_neg hc, if_neg hc, show p + k + 1 = p + 1 + k from by omega]
      exact endF_shift k r _ _ (fun _ => by omega)
theorem endL_split (a b : List Nat) (h : 10 ∉ a) : endL (a ++ 32 :: b) = endL b + (a.length + 1) := by
  unfold endL
  rw [show a ++ 32 :: b = (a ++ [32]) ++ b from by simp, endF_app (a ++ [32]) b false 0 (by simp [h]), lastB_snoc, List.length_append]
  exact endF_shift (a.length + 1) b false 0 (fun e => by cases e)
theorem endL_lf (x : List Nat) (c : Nat) (h : 10 ∉ x) (hc : c ≠ 10) (h13 : c ≠ 13) : endL (x ++ [c] ++ [10]) = x.length + 1 := by
  unfold endL
  rw [endF_app (x ++ [c]) [10] false 0 (by simp [h, Ne.symm hc]), lastB_snoc, beq_eq_false_iff_ne.2 h13, List.length_append]
  simp [endF]
theorem endF_flag (p : Nat) (v : List Nat) (h : v.head? ≠ some 10) : endF true p v = endF false p v := by
  cases v with
  | nil => rfl
  | cons c r =>
    have hc : c ≠ 10 := fun e => h (by simp [e])
    rw [endF_cons, endF_cons, if_neg hc, if_neg hc]
theorem endF_no : ∀ (l : List Nat) (b : Bool) (p : Nat), 10 ∉ l.take (endF b p l - p)
  | [], _, _ => by simp
  | c :: r, b, p => by
    rw [endF_cons]
    by_cases hc : c = 10
    · rw [if_pos hc]
      have e : (if b = true then p - 1 else p) - p = 0 := by split <;> omega
      rw [e]
      simp
    · rw [if_neg hc]
      have ih := endF_no r (c == 13) (p + 1)
      by_cases hz : endF (c == 13) (p + 1) r ≤ p
      · rw [show endF (c == 13) (p + 1) r - p = 0 from by omega]
        simp
      · rw [show endF (c == 13) (p + 1) r - p = (endF (c == 13) (p + 1) r - (p + 1)) + 1 from by omega, List.take_succ_cons]
        intro hm
        rcases List.mem_cons.1 hm with hm | hm
        · exact hc hm.symm
        · exact ih hm
theorem endL_drop (l : List Nat) (k : Nat) (hk : k ≤ endL l) : endL (l.drop k) = endL l - k := by
  have hn : 10 ∉ l.take k := fun hm => by
    have h0 := endF_no l false 0
    rw [Nat.sub_zero] at h0
    refine h0 ?_
    have hsub : l.take k <+: l.take (endF false 0 l) := List.take_prefix_take_left hk
    exact hsub.subset hm
  have hl := endL_le l
  have hkl : (l.take k).length = k := by rw [List.length_take]; omega
  have e : endL l = endF (lastB false (l.take k)) k (l.drop k) := by
    conv => lhs; unfold endL; rw [← List.take_append_drop k l]
    rw [endF_app _ _ _ _ hn, hkl, Nat.zero_add]
  have e2 : endF false k (l.drop k) = endL (l.drop k) + k := by
    have := endF_shift k (l.drop k) false 0 (fun e => by cases e)
    rw [Nat.zero_add] at this
    exact this
  cases hb : lastB false (l.take k) with
  | false => rw [hb] at e; omega
  | true =>
    rw [hb] at e
    by_cases hh : (l.drop k).head? = some 10
    · exfalso
      have hk0 : 0 < k := by
        rcases Nat.eq_zero_or_pos k with h | h
        · subst h; cases hb
        · exact h
      cases hd : l.drop k with
      | nil => rw [hd] at hh; cases hh
      | cons c r =>
        rw [hd] at hh e
        have hc : c = 10 := by simpa using hh
        rw [endF_cons, if_pos hc] at e
        simp at e
        omega
    · rw [endF_flag _ _ hh] at e
      omega
/-- What is told from a place on is what the rest tells by itself. -/
theorem scan_own (l : List Nat) (m : Nat) (d : Int) (a : Int) (k : Nat) (hk : k = min (max a 0).toNat (endL l)) :
    scanE l a m d = ((scanE (l.drop k) 0 m d).1.map (shE k), (scanE (l.drop k) 0 m d).2) := by
  have hke : k ≤ endL l := by omega
  have ht : (l.drop k).take (endL (l.drop k)) = (l.take (endL l)).drop k := by
    rw [endL_drop l k hke, List.drop_take]
  have e1 : scanE (l.drop k) 0 m d = scanC 0 ((l.take (endL l)).drop k) (st0 m d) := by
    unfold scanE
    rw [scanL_eq, ht]
    rfl
  have e2 : scanE l a m d = scanC (max a 0).toNat ((l.take (endL l)).drop (max a 0).toNat) (st0 m d) := by
    unfold scanE
    rw [scanL_eq]
  rw [e1, e2]
  by_cases hz : (max a 0).toNat ≤ endL l
  · have : k = (max a 0).toNat := by omega
    subst this
    have := scan_shift (max a 0).toNat ((l.take (endL l)).drop (max a 0).toNat).length 0 ((l.take (endL l)).drop (max a 0).toNat) (st0 m d)
    rw [Nat.zero_add] at this
    exact this
  · have hl := endL_le l
    have h1 : (l.take (endL l)).drop (max a 0).toNat = [] := List.drop_of_length_le (by rw [List.length_take]; omega)
    have h2 : (l.take (endL l)).drop k = [] := List.drop_of_length_le (by rw [List.length_take]; omega)
    rw [h1, h2, scanC_nil, scanC_nil]
    rfl
/-- A byte of a text, as it is laid within quotes. -/
def escC (q0 c : Nat) : List Nat :=
  let e := if c = 10 ∨ c = 13 then 45 else c
  if e = q0 ∨ e = 92 then [92, e] else [e]
def escL (q0 : Nat) (l : List Nat) : List Nat := l.flatMap (escC q0)
theorem clo_txt (q : List Nat) (q0 : Nat) (qr : List Nat) (hq : q = q0 :: qr) (h92 : q0 ≠ 92) : ∀ l : List Nat, clo q (escL q0 l ++ q) = ((escL q0 l).length + q.length, 0)
  | [] => by
    show clo q ([] ++ q) = _
    rw [List.nil_append]
    conv => lhs; arg 2; rw [hq]
    rw [clo_step h92, ← hq, if_pos (List.isPrefixOf_iff_prefix.2 (List.prefix_refl q))]
    simp [escL]
  | c :: r => by
    have ih := clo_txt q q0 qr hq h92 r
    have e : escL q0 (c :: r) = escC q0 c ++ escL q0 r := rfl
    rw [e]
    unfold escC
    dsimp only
    generalize (if c = 10 ∨ c = 13 then 45 else c) = e
    by_cases h : e = q0 ∨ e = 92
    · rw [if_pos h]
      show clo q (92 :: e :: (escL q0 r ++ q)) = _
      rw [clo_esc, ih]
      simp; omega
    · rw [if_neg h]
      show clo q (e :: (escL q0 r ++ q)) = _
      have hp : q.isPrefixOf (e :: (escL q0 r ++ q)) = false := by
        rw [Bool.eq_false_iff]
        intro k
        rw [hq] at k
        simp only [List.isPrefixOf, Bool.and_eq_true, beq_iff_eq] at k
        exact h (.inl k.1.symm)
      rw [clo_step (fun k => h (.inr k)), hp, if_neg Bool.false_ne_true, ih]
      simp; omega
theorem esc_no10 (q0 : Nat) (h : q0 ≠ 10) (l : List Nat) : 10 ∉ escL q0 l := fun hm => by
  unfold escL at hm
  obtain ⟨c, -, hc⟩ := List.mem_flatMap.1 hm
  unfold escC at hc
  dsimp only at hc
  split at hc <;> split at hc <;> simp_all <;> omega
theorem esc_head (q0 : Nat) (h : q0 ≠ 92) (l : List Nat) : (escL q0 l).head? ≠ some q0 := by
  cases l with
  | nil => simp [escL]
  | cons c r =>
    have e : escL q0 (c :: r) = escC q0 c ++ escL q0 r := rfl
    rw [e]
    unfold escC
    dsimp only
    generalize (if c = 10 ∨ c = 13 then 45 else c) = e
    by_cases hh : e = q0 ∨ e = 92
    · rw [if_pos hh]; simp; exact Ne.symm h
    · rw [if_neg hh]; simp; exact fun k => hh (.inl k)
end Go.Proofs.YtmfcapbllbfjnaaGreatDoor

namespace Go.Proofs.YtmfcapbllbfjnaaGreatDoor

theorem tok_nojoin {m : Nat} {d : Int} {l : List Nat} {t : Tok} (h : tokL m d l = some t) (hk : goodK t.kind) : t.join = false := by
  cases l with
  | nil => cases h
  | cons c r =>
    rw [tokL] at h
    split at h
    · injection h with h
      subst h
      unfold textL
      dsimp only
      (repeat' split) <;> rfl
    · split at h
      · cases h
      · (repeat' split at h)
        all_goals (injection h with h; subst h)
        all_goals first
          | rfl
          | (unfold opTok; (repeat' split) <;> rfl)
          | (exfalso; unfold goodK at hk; simp at hk)
theorem scan_nojoin : ∀ (n p : Nat) (l : List Nat) (st : PSt), l.length ≤ n → StOk st → st.j = false → (∀ e ∈ (scanC p l st).1, goodK e.kind) → (scanC p l st).2.j = false
  | _, p, [], st, _, _, hj, _ => hj
  | 0, p, c :: r, st, hn, _, _, _ => absurd hn (by simp)
  | n + 1, p, c :: r, st, hn, hs, hj, hk => by
    cases hq : tokL st.mark st.depth (c :: r) with
    | none =>
      rw [scanC_blank hq] at hk ⊢
      exact scan_nojoin n (p + 1) r st (by simpa using hn) hs hj hk
    | some t =>
      have e := scanC_tok (p := p) hs hq
      rw [e] at hk ⊢
      have hkt := hk ⟨t.kind, p, p + t.len⟩ (by simp)
      have hpos := (tokL_ok hq hs.mark hs.d0 hs.d1).pos
      refine scan_nojoin n (p + t.len) _ _ (by rw [List.length_drop]; simp at hn ⊢; omega) (aft_ok hs hq) ?_ (fun e he => hk e (by simp [he]))
      show (st.j || t.join) = false
      rw [hj, tok_nojoin hq hkt]
      rfl
theorem scanE_zero (l : List Nat) (m : Nat) (d : Int) : scanE l 0 m d = scanC 0 (l.take (endL l)) (st0 m d) := by
  unfold scanE
  rw [scanL_eq]
  rfl
theorem endL_sp (a : List Nat) (h : 10 ∉ a) : endL (a ++ [32]) = a.length + 1 := by
  have := endL_split a [] h
  rw [this]
  simp [endL, endF]
/-- What stands behind a blank is read by itself. -/
theorem split_all (a b : List Nat) (d : Int) (h10 : 10 ∉ a) (hk : ∀ e ∈ (scanE (a ++ [32]) 0 0 d).1, goodK e.kind) :
    scanE (a ++ 32 :: b) 0 0 d = ((scanE (a ++ [32]) 0 0 d).1 ++ (scanE b 0 0 (scanE (a ++ [32]) 0 0 d).2.depth).1.map (shE (a.length + 1)),
        withF false (scanE (a ++ [32]) 0 0 d).2.s (scanE (a ++ [32]) 0 0 d).2.c (scanE b 0 0 (scanE (a ++ [32]) 0 0 d).2.depth).2) := by
  have ex : scanE (a ++ [32]) 0 0 d = scanC 0 (a ++ [32]) (st0 0 d) := by
    rw [scanE_zero, endL_sp a h10, List.take_of_length_le (by simp)]
  have ev : scanE (a ++ 32 :: b) 0 0 d = scanC 0 (a ++ 32 :: b.take (endL b)) (st0 0 d) := by
    rw [scanE_zero, endL_split a b h10]
    congr 1
    rw [List.take_append, List.take_of_length_le (by omega), show endL b + (a.length + 1) - a.length = endL b + 1 from by omega, List.take_succ_cons]
  rw [ex] at hk ⊢
  rw [ev]
  obtain ⟨h1, h2⟩ := scan_split (b.take (endL b)) a.length 0 a (st0 0 d) (Nat.le_refl _) (st0_ok 0 d) rfl hk
  rw [h1]
  have hj := scan_nojoin (a ++ [32]).length 0 (a ++ [32]) (st0 0 d) (Nat.le_refl _) (st0_ok 0 d) rfl hk
  have hok := (scan_cov (a ++ [32]) (a ++ [32]).length 0 (a ++ [32]) (st0 0 d) (st0_ok 0 d) rfl (Nat.zero_le _) (Nat.le_refl _)).2
  have hok' : StOk (scanC 0 (a ++ [32]) (st0 0 d)).2 := hok
  generalize scanC 0 (a ++ [32]) (st0 0 d) = X at h2 hj hok' ⊢
  obtain ⟨xs, xm, xd, xj, xss, xc⟩ := X
  dsimp only at h2 hj hok' ⊢
  subst h2 hj
  have h0 : 0 ≤ xd := hok'.d0
  have h1' : xd ≤ 1048576 := hok'.d1
  have est : (⟨0, xd, false, xss, xc⟩ : PSt) = withF false xss xc (st0 0 xd) := by
    unfold withF st0 markE depE
    simp only [if_neg (show ¬ xd < 0 by omega), if_neg (show ¬ (1048576 : Int) < xd by omega)]
    simp
  have ey : scanE b 0 0 xd = scanC 0 (b.take (endL b)) (st0 0 xd) := scanE_zero b 0 xd
  rw [est, ey]
  have e3 : scanC (0 + a.length + 1) (b.take (endL b)) (withF false xss xc (st0 0 xd)) = ((scanC 0 (b.take (endL b)) (st0 0 xd)).1.map (shE (a.length + 1)), withF false xss xc (scanC 0 (b.take (endL b)) (st0 0 xd)).2) := by
    have s1 := scan_shift (a.length + 1) (b.take (endL b)).length 0 (b.take (endL b)) (withF false xss xc (st0 0 xd))
    have s2 := scan_flags false xss xc (b.take (endL b)).length 0 (b.take (endL b)) (st0 0 xd)
    rw [s2] at s1
    rw [show 0 + a.length + 1 = 0 + (a.length + 1) from by omega]
    exact s1
  rw [e3]
end Go.Proofs.YtmfcapbllbfjnaaGreatDoor
