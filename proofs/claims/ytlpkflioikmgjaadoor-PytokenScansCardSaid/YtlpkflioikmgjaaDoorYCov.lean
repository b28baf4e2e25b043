/- Nothing of a line is lost, in plain mathematics; a scan hangs on neither its fuel nor its place. -/
import Derived.Test.YtlpkflioikmgjaaDoorYMath
namespace Go.Proofs.YtlpkflioikmgjaaDoor

theorem tokL_keep {m : Nat} {d : Int} {l : List Nat} {t : Tok} (h : tokL m d l = some t) (hk : t.kind = 18 ∨ t.kind = 19) : t.depth = d := by
  cases l with
  | nil => cases h
  | cons c r =>
    rw [tokL] at h
    split at h
    · injection h with h
      subst h
      exfalso
      unfold textL at hk
      dsimp only at hk
      (repeat' split at hk) <;> simp at hk
    · split at h
      · cases h
      · (repeat' split at h)
        all_goals (injection h with h; subst h)
        all_goals first
          | rfl
          | (exfalso; unfold opTok at hk; (repeat' split at hk) <;> simp at hk)
/-- What is so of what a line has told so far. -/
structure StOk (st : PSt) : Prop where
  mark : st.mark ≤ 4
  d0 : 0 ≤ st.depth
  d1 : st.depth ≤ 1048576
  col : st.c = true → st.s = true ∧ st.depth = 0
theorem st0_ok (m : Nat) (d : Int) : StOk (st0 m d) := by
  refine ⟨?_, ?_, ?_, fun h => by cases h⟩
  · show markE m ≤ 4; unfold markE; split <;> omega
  · show 0 ≤ depE d; unfold depE; (repeat' split) <;> omega
  · show depE d ≤ 1048576; unfold depE; (repeat' split) <;> omega
theorem aft_ok {st : PSt} {l : List Nat} {t : Tok} (hs : StOk st) (h : tokL st.mark st.depth l = some t) : StOk (aft st t l) := by
  have hk := tokL_ok h hs.mark hs.d0 hs.d1
  refine ⟨hk.mark, hk.d0, hk.d1, fun hc => ?_⟩
  have hc' : (if t.kind = 18 ∨ t.kind = 19 then st.c else t.kind == 17 && l.take t.len == [58] && t.depth == 0) = true := hc
  show (st.s || (t.kind != 18 && t.kind != 19)) = true ∧ t.depth = 0
  split at hc'
  · rename_i hh
    obtain ⟨k1, k2⟩ := hs.col hc'
    exact ⟨by simp [k1], by rw [tokL_keep h hh]; exact k2⟩
  · simp only [Bool.and_eq_true, beq_iff_eq] at hc'
    obtain ⟨⟨k1, -⟩, k2⟩ := hc'
    exact ⟨by simp [k1], k2⟩
/-- Leaves in order, each with bytes, and blanks alone between them. -/
def Cov (t : List Nat) : Nat → List PEv → Prop
  | p, [] => p ≤ t.length ∧ ∀ k c, p ≤ k → t[k]? = some c → isBl c = true
  | p, e :: r => p ≤ e.a ∧ e.a < e.b ∧ e.b ≤ t.length ∧ (e.kind = 2 ∨ (13 ≤ e.kind ∧ e.kind ≤ 19)) ∧ (∀ k c, p ≤ k → k < e.a → t[k]? = some c → isBl c = true) ∧ Cov t e.b r
theorem cov_blank {t : List Nat} {p c : Nat} {es : List PEv} (hc : t[p]? = some c) (hb : isBl c = true) (h : Cov t (p + 1) es) : Cov t p es := by
  cases es with
  | nil =>
    obtain ⟨h1, h2⟩ := h
    refine ⟨by omega, fun k c' hk hk' => ?_⟩
    by_cases e : k = p
    · subst e
      rw [hc] at hk'
      injection hk' with hk'
      rw [← hk']; exact hb
    · exact h2 k c' (by omega) hk'
  | cons e r =>
    obtain ⟨h1, h2, h3, h4, h5, h6⟩ := h
    refine ⟨by omega, h2, h3, h4, fun k c' hk hka hk' => ?_, h6⟩
    by_cases e : k = p
    · subst e
      rw [hc] at hk'
      injection hk' with hk'
      rw [← hk']; exact hb
    · exact h5 k c' (by omega) hka hk'
theorem drop_at {t : List Nat} {p c : Nat} {r : List Nat} (h : t.drop p = c :: r) : t[p]? = some c ∧ p < t.length ∧ t.drop (p + 1) = r := by
  have hp : p < t.length := by
    rcases Nat.lt_or_ge p t.length with k | k
    · exact k
    · rw [List.drop_of_length_le k] at h; cases h
  rw [List.drop_eq_getElem_cons hp] at h
  injection h with h1 h2
  exact ⟨by rw [List.getElem?_eq_getElem hp, h1], hp, h2⟩
theorem scan_cov (t : List Nat) : ∀ (f p : Nat) (l : List Nat) (st : PSt), StOk st → t.drop p = l → p ≤ t.length → l.length ≤ f → Cov t p (scanF f p l st).1 ∧ StOk (scanF f p l st).2
  | 0, p, l, st, hs, hl, hp, hf => by
    have : l = [] := List.eq_nil_of_length_eq_zero (by omega)
    subst this
    refine ⟨⟨hp, fun k c hk hc => ?_⟩, hs⟩
    have h1 : k < t.length := (List.getElem?_eq_some_iff.1 hc).1
    have h2 : t.length ≤ p := List.drop_eq_nil_iff.1 hl
    omega
  | f + 1, p, [], st, hs, hl, hp, hf => by
    unfold scanF
    rw [if_pos rfl]
    refine ⟨⟨hp, fun k c hk hc => ?_⟩, hs⟩
    have h1 : k < t.length := (List.getElem?_eq_some_iff.1 hc).1
    have h2 : t.length ≤ p := List.drop_eq_nil_iff.1 hl
    omega
  | f + 1, p, c :: r, st, hs, hl, hp, hf => by
    obtain ⟨h1, h2, h3⟩ := drop_at hl
    unfold scanF
    rw [if_neg (by simp)]
    cases hq : tokL st.mark st.depth (c :: r) with
    | none =>
      dsimp only
      obtain ⟨hb, -⟩ := none_blank hq
      rw [List.drop_one, List.tail_cons]
      obtain ⟨k1, k2⟩ := scan_cov t f (p + 1) r st hs h3 h2 (by simpa using hf)
      exact ⟨cov_blank h1 hb k1, k2⟩
    | some tk =>
      dsimp only
      have hk := tokL_ok hq hs.mark hs.d0 hs.d1
      have hkl := hk.len
      have hlen : (c :: r).length = t.length - p := by rw [← hl, List.length_drop]
      have h4 : t.drop (p + tk.len) = (c :: r).drop tk.len := by rw [← hl, List.drop_drop]
      obtain ⟨k1, k2⟩ := scan_cov t f (p + tk.len) _ _ (aft_ok hs hq) h4 (by omega) (by rw [List.length_drop]; have := hk.pos; omega)
      exact ⟨⟨Nat.le_refl _, by have := hk.pos; show p < p + tk.len; omega, by show p + tk.len ≤ _; omega, hk.kind, fun k c' g1 g2 => absurd g2 (Nat.not_lt.2 g1), k1⟩, k2⟩
/-- Where one stands ahead of the leaf number i. -/
def preB (p : Nat) (es : List PEv) (i : Nat) : Nat := if i = 0 then p else (es[i - 1]?.map (·.b)).getD 0
theorem preB_cons (p : Nat) (e : PEv) (r : List PEv) (i : Nat) : preB p (e :: r) (i + 1) = preB e.b r i := by
  unfold preB
  rw [if_neg (by omega)]
  cases i with
  | zero => simp
  | succ j => simp
theorem cov_at {t : List Nat} : ∀ {p : Nat} {es : List PEv}, Cov t p es → ∀ (i : Nat) (hi : i < es.length),
    preB p es i ≤ es[i].a ∧ es[i].a < es[i].b ∧ es[i].b ≤ t.length ∧ (es[i].kind = 2 ∨ (13 ≤ es[i].kind ∧ es[i].kind ≤ 19)) ∧ ∀ k c, preB p es i ≤ k → k < es[i].a → t[k]? = some c → isBl c = true
  | p, [], _, i, hi => absurd hi (Nat.not_lt_zero _)
  | p, e :: r, h, 0, hi => ⟨h.1, h.2.1, h.2.2.1, h.2.2.2.1, h.2.2.2.2.1⟩
  | p, e :: r, h, i + 1, hi => by
    have := cov_at h.2.2.2.2.2 i (by simpa using hi)
    rw [preB_cons]
    exact this
theorem cov_end {t : List Nat} : ∀ {p : Nat} {es : List PEv}, Cov t p es → preB p es es.length ≤ t.length ∧ ∀ k c, preB p es es.length ≤ k → t[k]? = some c → isBl c = true
  | p, [], h => h
  | p, e :: r, h => by
    have := cov_end h.2.2.2.2.2
    rw [List.length_cons, preB_cons]
    exact this
theorem scan_fuel : ∀ (f f' p : Nat) (l : List Nat) (st : PSt), StOk st → l.length ≤ f → l.length ≤ f' → scanF f p l st = scanF f' p l st
  | 0, 0, _, _, _, _, _, _ => rfl
  | 0, f' + 1, p, l, st, _, h, _ => by
    have : l = [] := List.eq_nil_of_length_eq_zero (by omega)
    subst this
    unfold scanF
    rw [if_pos rfl]
  | f + 1, 0, p, l, st, _, _, h => by
    have : l = [] := List.eq_nil_of_length_eq_zero (by omega)
    subst this
    unfold scanF
    rw [if_pos rfl]
  | f + 1, f' + 1, p, l, st, hs, h, h' => by
    unfold scanF
    by_cases hl : l = []
    · rw [if_pos hl, if_pos hl]
    · rw [if_neg hl, if_neg hl]
      cases hq : tokL st.mark st.depth l with
      | none =>
        dsimp only
        exact scan_fuel f f' (p + 1) _ st hs (by rw [List.length_drop]; omega) (by rw [List.length_drop]; omega)
      | some tk =>
        dsimp only
        have hk := tokL_ok hq hs.mark hs.d0 hs.d1
        have := hk.pos
        rw [scan_fuel f f' (p + tk.len) _ _ (aft_ok hs hq) (by rw [List.length_drop]; omega) (by rw [List.length_drop]; omega)]
def shE (k : Nat) (e : PEv) : PEv := ⟨e.kind, e.a + k, e.b + k⟩
theorem scan_shift (k : Nat) : ∀ (f p : Nat) (l : List Nat) (st : PSt), scanF f (p + k) l st = ((scanF f p l st).1.map (shE k), (scanF f p l st).2)
  | 0, _, _, _ => rfl
  | f + 1, p, l, st => by
    unfold scanF
    by_cases hl : l = []
    · rw [if_pos hl, if_pos hl]; rfl
    · rw [if_neg hl, if_neg hl]
      cases hq : tokL st.mark st.depth l with
      | none =>
        dsimp only
        rw [show p + k + 1 = p + 1 + k from by omega]
        exact scan_shift k f (p + 1) _ st
      | some tk =>
        dsimp only
        rw [show p + k + tk.len = p + tk.len + k from by omega, scan_shift k f (p + tk.len)]
        simp [shE, Nat.add_comm]
/-- The flags that were there ahead of a scan. -/
def withF (j s c : Bool) (st : PSt) : PSt := ⟨st.mark, st.depth, j || st.j, s || st.s, if st.s then st.c else c⟩
theorem scan_flags (j s c : Bool) : ∀ (f p : Nat) (l : List Nat) (st : PSt), scanF f p l (withF j s c st) = ((scanF f p l st).1, withF j s c (scanF f p l st).2)
  | 0, _, _, _ => rfl
  | f + 1, p, l, st => by
    unfold scanF
    by_cases hl : l = []
    · rw [if_pos hl, if_pos hl]
    · rw [if_neg hl, if_neg hl]
      show (match tokL st.mark st.depth l with | none => _ | some t => _) = _
      cases hq : tokL st.mark st.depth l with
      | none =>
        dsimp only
        exact scan_flags j s c f (p + 1) _ st
      | some tk =>
        dsimp only
        have e : aft (withF j s c st) tk l = withF j s c (aft st tk l) := by
          unfold aft withF
          dsimp only
          by_cases hk : tk.kind = 18 ∨ tk.kind = 19
          · rw [if_pos hk, if_pos hk]
            have h1 : (tk.kind != 18 && tk.kind != 19) = false := by rcases hk with hk | hk <;> simp [hk]
            simp [h1, Bool.or_assoc]
          · rw [if_neg hk, if_neg hk]
            have h1 : (tk.kind != 18 && tk.kind != 19) = true := by simpa using hk
            simp [h1, Bool.or_assoc]
        rw [e, scan_flags j s c f (p + tk.len)]
end Go.Proofs.YtlpkflioikmgjaaDoor
