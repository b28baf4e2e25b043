/- The program's turns together: the first that applies takes what is read. -/
import Derived.Test.YtmfcapbllbfjnaaGreatDoorYPTurn2
namespace Go.Proofs.YtmfcapbllbfjnaaGreatDoor
open Go.RowKit
set_option linter.unusedVariables false

/-- Does a turn apply? -/
def cnd (m c : Nat) (l : List Nat) : Nat → Bool
  | 0 => m != 0
  | 1 => isBl c
  | 2 => c == 35
  | 3 => c == 92
  | 4 => (begL l).1 != 0
  | 5 => letN c
  | 6 => numO l != 0
  | 7 => opL l != 0
  | _ => true
theorem cnd_first (m c : Nat) (l : List Nat) : ∃ i, i ≤ 8 ∧ cnd m c l i = true ∧ ∀ j, j < i → cnd m c l j = false := by
  have key : ∀ n, (∃ i, i < n ∧ cnd m c l i = true ∧ ∀ j, j < i → cnd m c l j = false) ∨ ∀ j, j < n → cnd m c l j = false := by
    intro n
    induction n with
    | zero => exact .inr fun j h => absurd h (Nat.not_lt_zero _)
    | succ n ih =>
      rcases ih with ⟨i, h1, h2⟩ | h
      · exact .inl ⟨i, Nat.lt_succ_of_lt h1, h2⟩
      · cases hc : cnd m c l n with
        | true => exact .inl ⟨n, Nat.lt_succ_self n, hc, h⟩
        | false =>
          refine .inr fun j hj => ?_
          rcases Nat.lt_succ_iff_lt_or_eq.1 hj with h' | rfl
          · exact h j h'
          · exact hc
  rcases key 9 with ⟨i, h1, h2, h3⟩ | h
  · exact ⟨i, by omega, h2, h3⟩
  · exact absurd (h 8 (by omega)) (by show ¬ true = false; decide)
/-- The function of a turn. -/
def fnK : Nat → Nat
  | 0 => 47
  | 1 => 48
  | 2 => 49
  | 3 => 50
  | 4 => 51
  | 5 => 52
  | 6 => 53
  | 7 => 54
  | _ => 55
/-- Where one comes to, what has been told, and what is known, behind a round. -/
def nxP (p : Nat) (st : PSt) (l : List Nat) : Nat := match tokL st.mark st.depth l with
  | none => p + 1
  | some t => p + t.len
def nxE (p : Nat) (st : PSt) (l : List Nat) (es : List PEv) : List PEv := match tokL st.mark st.depth l with
  | none => es
  | some t => es ++ [⟨t.kind, p, p + t.len⟩]
def nxS (st : PSt) (l : List Nat) : PSt := match tokL st.mark st.depth l with
  | none => st
  | some t => aft st t l
variable {w0 W : World} {O : Nat → Obj → Prop} {b p : Nat} {line : ByteArray} {v : Value} {es : List PEv} {st : PSt}
theorem turn_no (k : Nat) (hk : k < 8) (hr : RdAt w0 W O b line p v es st) (hT : TabsP w0) (hp : p < line.size) (hs : (line.size : Int) ≤ 1000000) (hl : es.length ≤ 1000000) (hc : cnd st.mark (bt line p) ((bl line).drop p) k = false) :
    Calls Tryz.prog (fnK k) #[.pointer (some ⟨b, 0, none⟩)] W (Took w0 O b line false p es st) := by
  match k, hk with
  | 0, _ => exact open_no w0 W O b line p v es st hr hT hp hs hl (by simpa [cnd] using hc)
  | 1, _ => exact blank_no w0 W O b line p v es st hr hT hp hs hl hc
  | 2, _ => exact comment_no w0 W O b line p v es st hr hT hp hs hl (by simpa [cnd] using hc)
  | 3, _ => exact slash_no w0 W O b line p v es st hr hT hp hs hl (by simpa [cnd] using hc)
  | 4, _ => exact text_no w0 W O b line p v es st hr hT hp hs hl (by simpa [cnd] using hc)
  | 5, _ =>
    cases hd : digN (bt line p)
    · exact name_no2 w0 W O b line p v es st hr hT hp hs hl hc hd
    · exact name_no1 w0 W O b line p v es st hr hT hp hs hl hc hd
  | 6, _ => exact number_no w0 W O b line p v es st hr hT hp hs hl (by simpa [cnd] using hc)
  | 7, _ => exact op_no w0 W O b line p v es st hr hT hp hs hl (by simpa [cnd] using hc)
theorem nx_some {t : Tok} {l : List Nat} (h : tokL st.mark st.depth l = some t) : nxP p st l = p + t.len ∧ nxE p st l es = es ++ [⟨t.kind, p, p + t.len⟩] ∧ nxS st l = aft st t l := by
  unfold nxP nxE nxS
  rw [h]
  exact ⟨rfl, rfl, rfl⟩
/-- What a turn takes, told by the leaf that is read. -/
theorem took_of {t : Tok} {k : Nat} {st2 : PSt} (h : tokL st.mark st.depth ((bl line).drop p) = some t) (hj : t.join = (t.kind == 19)) (hm : st2 = ⟨t.mark, t.depth, st.j, st.s, st.c⟩) {q kd : Nat} (hq : q = p + t.len) (hk : kd = t.kind)
    (hC : Calls Tryz.prog k #[.pointer (some ⟨b, 0, none⟩)] W (Took w0 O b line true q (es ++ [⟨kd, p, q⟩]) (lfS st2 kd (((bl line).drop p).take (q - p))))) :
    Calls Tryz.prog k #[.pointer (some ⟨b, 0, none⟩)] W (Took w0 O b line true (nxP p st ((bl line).drop p)) (nxE p st ((bl line).drop p) es) (nxS st ((bl line).drop p))) := by
  obtain ⟨h1, h2, h3⟩ := nx_some (p := p) (es := es) h
  rw [h1, h2, h3, aft_lf st t _ hj]
  subst hq hk hm
  rw [Nat.add_sub_cancel_left] at hC
  exact hC
theorem st_mk (st : PSt) (h : st.mark = 0) (d : Int) (hd : st.depth = d) : st = ⟨0, d, st.j, st.s, st.c⟩ := by
  subst hd
  cases st
  simp at h
  subst h
  rfl
theorem textK_eq (m1 sk whole : Nat) (d : Int) (x : Nat × Nat) : (if x.2 = 0 then (⟨whole, sk + x.1, 0, d, false⟩ : Tok) else if m1 ≤ 2 ∨ x.2 = 1 then ⟨16, sk + x.1, m1, d, false⟩ else ⟨2, sk + x.1, 0, d, false⟩) = ⟨(textK whole m1 x.2).1, sk + x.1, (textK whole m1 x.2).2, d, false⟩ := by
  unfold textK
  (repeat' split) <;> rfl
theorem textK_19 (whole m x : Nat) (h : whole ≠ 19) : (false : Bool) = ((textK whole m x).1 == 19) := by
  unfold textK
  (repeat' split)
  · exact (beq_eq_false_iff_ne.2 h).symm
  · rfl
  · rfl
theorem numO_pos {c : Nat} {r : List Nat} (h : numO (c :: r) ≠ 0) : (digN c || (c == 46 && digH r)) = true ∧ numO (c :: r) = numL (c :: r) := by
  rw [numO_cons] at h ⊢
  split
  · rename_i hh; exact ⟨hh, rfl⟩
  · rename_i hh; rw [if_neg hh] at h; exact absurd rfl h
theorem numO_zero {c : Nat} {r : List Nat} (h : numO (c :: r) = 0) : ¬ (digN c || (c == 46 && digH r)) = true := by
  intro hh
  rw [numO_cons, if_pos hh] at h
  have h2 : numT (sgn (c :: r)) c r + 1 = 0 := h
  omega
theorem turn_yes (k : Nat) (hk : k ≤ 8) (hr : RdAt w0 W O b line p v es st) (hT : TabsP w0) (hp : p < line.size) (hs : (line.size : Int) ≤ 1000000) (hl : es.length ≤ 1000000) (hst : StOk st)
    (hc : cnd st.mark (bt line p) ((bl line).drop p) k = true) (hb : ∀ j, j < k → cnd st.mark (bt line p) ((bl line).drop p) j = false) :
    Calls Tryz.prog (fnK k) #[.pointer (some ⟨b, 0, none⟩)] W (Took w0 O b line true (nxP p st ((bl line).drop p)) (nxE p st ((bl line).drop p) es) (nxS st ((bl line).drop p))) := by
  have hd := bl_drop hp
  have hlen : ((bl line).drop p).length = line.size - p := by rw [List.length_drop, bl_len]
  obtain ⟨c, hcc⟩ : ∃ c, bt line p = c := ⟨_, rfl⟩
  obtain ⟨r, hrr⟩ : ∃ r, (bl line).drop (p + 1) = r := ⟨_, rfl⟩
  rw [hcc, hrr] at hd
  have hrl : r.length = line.size - (p + 1) := by rw [← hrr, List.length_drop, bl_len]
  by_cases hm0 : st.mark ≠ 0
  · have hk0 : k = 0 := by
      apply Classical.byContradiction
      intro h
      have h1 := hb 0 (by omega)
      have : st.mark = 0 := by simpa [cnd] using h1
      exact hm0 this
    subst hk0
    have ht : tokL st.mark st.depth ((bl line).drop p) = some (textL st.mark st.depth ((bl line).drop p)) := by
      rw [hd, tokL, if_pos (by unfold isTxt; rw [decide_eq_true hm0, Bool.true_or])]
    have e : textL st.mark st.depth ((bl line).drop p) = ⟨(textK 16 st.mark (clo (quo st.mark) ((bl line).drop p)).2).1, 0 + (clo (quo st.mark) ((bl line).drop p)).1, (textK 16 st.mark (clo (quo st.mark) ((bl line).drop p)).2).2, st.depth, false⟩ := by
      unfold textL
      simp only [if_neg hm0, List.drop_zero]
      exact textK_eq _ _ _ _ _
    rw [e] at ht
    exact took_of ht (textK_19 _ _ _ (by decide)) rfl (by dsimp only; omega) rfl (open_yes w0 W O b line p v es st hr hT hp hs hl hm0 hst.mark)
  have hm : st.mark = 0 := Classical.byContradiction hm0
  have hk1 : 1 ≤ k := by
    apply Classical.byContradiction
    intro h
    obtain rfl : k = 0 := by omega
    have : st.mark ≠ 0 := by simpa [cnd] using hc
    exact hm0 this
  have hcB : ∀ j, j < k → cnd st.mark c (c :: r) j = false := fun j h => by have := hb j h; rwa [hcc, hd] at this
  have hcC : cnd st.mark c (c :: r) k = true := by rwa [hcc, hd] at hc
  -- what is read where nothing is open
  have htx : ∀ h : isBl c = false, ∀ h35 : c ≠ 35, ∀ h92 : c ≠ 92, isTxt st.mark c (c :: r) = decide ((begL (c :: r)).1 ≠ 0) := fun h h35 h92 => by
    unfold isTxt
    rw [hm, h]
    simp [h35, h92]
  match k, hk, hk1 with
  | 1, _, _ =>
    have hbl : isBl c = true := hcC
    have htx0 : isTxt st.mark c (c :: r) = false := by unfold isTxt; rw [hm, hbl]; simp
    have ht : tokL st.mark st.depth ((bl line).drop p) = none := by rw [hd, tokL, if_neg (by rw [htx0]; exact Bool.false_ne_true), if_pos hbl]
    have e1 : nxP p st ((bl line).drop p) = p + 1 := by unfold nxP; rw [ht]
    have e2 : nxE p st ((bl line).drop p) es = es := by unfold nxE; rw [ht]
    have e3 : nxS st ((bl line).drop p) = st := by unfold nxS; rw [ht]
    rw [e1, e2, e3]
    exact blank_yes w0 W O b line p v es st hr hT hp hs hl (by rw [hcc]; exact hbl)
  | 2, _, _ =>
    have h1 : isBl c = false := hcB 1 (by omega)
    have h35 : c = 35 := by simpa [cnd] using hcC
    have htx0 : isTxt st.mark c (c :: r) = false := by unfold isTxt; rw [hm, h35]; rfl
    have ht : tokL st.mark st.depth ((bl line).drop p) = some ⟨18, r.length + 1, 0, st.depth, false⟩ := by
      rw [hd, tokL, if_neg (by rw [htx0]; exact Bool.false_ne_true), if_neg (by rw [h1]; exact Bool.false_ne_true), if_pos h35]
    exact took_of ht rfl (st_mk st hm _ rfl) (by dsimp only; omega) rfl (comment_yes w0 W O b line p v es st hr hT hp hs hl (hcc.trans h35))
  | 3, _, _ =>
    have h1 : isBl c = false := hcB 1 (by omega)
    have h2 : c ≠ 35 := by simpa [cnd] using hcB 2 (by omega)
    have h92 : c = 92 := by simpa [cnd] using hcC
    have htx0 : isTxt st.mark c (c :: r) = false := by unfold isTxt; rw [hm, h92]; rfl
    have ht : tokL st.mark st.depth ((bl line).drop p) = some ⟨if r = [] then 19 else 2, 1, 0, st.depth, decide (r = [])⟩ := by
      rw [hd, tokL, if_neg (by rw [htx0]; exact Bool.false_ne_true), if_neg (by rw [h1]; exact Bool.false_ne_true), if_neg h2, if_pos h92]
    by_cases hn : r = []
    · rw [if_pos hn, decide_eq_true hn] at ht
      have hz : p + 1 = line.size := by rw [hn] at hrl; simp at hrl; omega
      exact took_of ht rfl (st_mk st hm _ rfl) rfl rfl (slash_join w0 W O b line p v es st hr hT hp hs hl (hcc.trans h92) hz)
    · rw [if_neg hn, decide_eq_false hn] at ht
      have hz : p + 1 ≠ line.size := fun e => hn (List.eq_nil_of_length_eq_zero (by omega))
      exact took_of ht rfl (st_mk st hm _ rfl) rfl rfl (slash_err w0 W O b line p v es st hr hT hp hs hl (hcc.trans h92) hz)
  | 4, _, _ =>
    have h1 : isBl c = false := hcB 1 (by omega)
    have h2 : c ≠ 35 := by simpa [cnd] using hcB 2 (by omega)
    have h3 : c ≠ 92 := by simpa [cnd] using hcB 3 (by omega)
    have h4 : (begL (c :: r)).1 ≠ 0 := by simpa [cnd] using hcC
    have ht : tokL st.mark st.depth ((bl line).drop p) = some (textL st.mark st.depth ((bl line).drop p)) := by
      rw [hd, tokL, if_pos (by rw [htx h1 h2 h3]; exact decide_eq_true h4)]
    rw [← hd] at h4
    have hdd : (bl line).drop (p + (begL ((bl line).drop p)).2) = ((bl line).drop p).drop (begL ((bl line).drop p)).2 := by rw [List.drop_drop]
    have e : textL st.mark st.depth ((bl line).drop p) = ⟨(textK 15 (begL ((bl line).drop p)).1 (clo (quo (begL ((bl line).drop p)).1) ((bl line).drop (p + (begL ((bl line).drop p)).2))).2).1, (begL ((bl line).drop p)).2 + (clo (quo (begL ((bl line).drop p)).1) ((bl line).drop (p + (begL ((bl line).drop p)).2))).1, (textK 15 (begL ((bl line).drop p)).1 (clo (quo (begL ((bl line).drop p)).1) ((bl line).drop (p + (begL ((bl line).drop p)).2))).2).2, st.depth, false⟩ := by
      rw [hdd]
      unfold textL
      simp only [hm, if_true]
      exact textK_eq _ _ _ _ _
    rw [e] at ht
    exact took_of ht (textK_19 _ _ _ (by decide)) rfl (by dsimp only; omega) rfl (text_yes w0 W O b line p v es st hr hT hp hs hl h4)
  | 5, _, _ =>
    have h1 : isBl c = false := hcB 1 (by omega)
    have h2 : c ≠ 35 := by simpa [cnd] using hcB 2 (by omega)
    have h3 : c ≠ 92 := by simpa [cnd] using hcB 3 (by omega)
    have h4 : (begL (c :: r)).1 = 0 := by simpa [cnd] using hcB 4 (by omega)
    have h5 : letN c = true := hcC
    have ht : tokL st.mark st.depth ((bl line).drop p) = some ⟨13, namT r + 1, 0, st.depth, false⟩ := by
      rw [hd, tokL, if_neg (by rw [htx h1 h2 h3, h4]; decide), if_neg (by rw [h1]; exact Bool.false_ne_true), if_neg h2, if_neg h3, if_pos h5]
    exact took_of ht rfl (st_mk st hm _ rfl) (by dsimp only; rw [hrr]; omega) rfl (name_yes w0 W O b line p v es st hr hT hp hs hl (by rw [hcc]; exact h5))
  | 6, _, _ =>
    have h1 : isBl c = false := hcB 1 (by omega)
    have h2 : c ≠ 35 := by simpa [cnd] using hcB 2 (by omega)
    have h3 : c ≠ 92 := by simpa [cnd] using hcB 3 (by omega)
    have h4 : (begL (c :: r)).1 = 0 := by simpa [cnd] using hcB 4 (by omega)
    have h5 : letN c = false := hcB 5 (by omega)
    have h6 : numO (c :: r) ≠ 0 := by simpa [cnd] using hcC
    obtain ⟨h7, h8⟩ := numO_pos h6
    have ht : tokL st.mark st.depth ((bl line).drop p) = some ⟨14, numL (c :: r), 0, st.depth, false⟩ := by
      rw [hd, tokL, if_neg (by rw [htx h1 h2 h3, h4]; decide), if_neg (by rw [h1]; exact Bool.false_ne_true), if_neg h2, if_neg h3, if_neg (by rw [h5]; exact Bool.false_ne_true), if_pos h7]
    exact took_of ht rfl (st_mk st hm _ rfl) (by dsimp only; rw [hd, h8]) rfl (number_yes w0 W O b line p v es st hr hT hp hs hl (by rw [hd]; exact h6))
  | 7, _, _ =>
    have h1 : isBl c = false := hcB 1 (by omega)
    have h2 : c ≠ 35 := by simpa [cnd] using hcB 2 (by omega)
    have h3 : c ≠ 92 := by simpa [cnd] using hcB 3 (by omega)
    have h4 : (begL (c :: r)).1 = 0 := by simpa [cnd] using hcB 4 (by omega)
    have h5 : letN c = false := hcB 5 (by omega)
    have h6 : numO (c :: r) = 0 := by simpa [cnd] using hcB 6 (by omega)
    have h7 : opL (c :: r) ≠ 0 := by simpa [cnd] using hcC
    have ht : tokL st.mark st.depth ((bl line).drop p) = some (opTok st.depth c (c :: r)) := by
      rw [hd, tokL, if_neg (by rw [htx h1 h2 h3, h4]; decide), if_neg (by rw [h1]; exact Bool.false_ne_true), if_neg h2, if_neg h3, if_neg (by rw [h5]; exact Bool.false_ne_true), if_neg (numO_zero h6), if_pos (by omega)]
    rw [← hd] at h7
    have hstm : ∀ d : Int, (⟨st.mark, d, st.j, st.s, st.c⟩ : PSt) = ⟨0, d, st.j, st.s, st.c⟩ := fun d => by rw [hm]
    by_cases o1 : c = 40 ∨ c = 91 ∨ c = 123
    · have e : opTok st.depth c (c :: r) = ⟨17, opL ((bl line).drop p), 0, min (st.depth + 1) 1048576, false⟩ := by unfold opTok; rw [if_pos o1, hd]
      rw [e] at ht
      rcases o1 with o | o | o
      · exact took_of ht rfl (hstm _) rfl rfl (op_open40 w0 W O b line p v es st hr hT hp hs hl h7 hst.d0 hst.d1 c hcc o)
      · exact took_of ht rfl (hstm _) rfl rfl (op_open91 w0 W O b line p v es st hr hT hp hs hl h7 hst.d0 hst.d1 c hcc o)
      · exact took_of ht rfl (hstm _) rfl rfl (op_open123 w0 W O b line p v es st hr hT hp hs hl h7 hst.d0 hst.d1 c hcc o)
    by_cases o2 : c = 41 ∨ c = 93 ∨ c = 125
    · have e : opTok st.depth c (c :: r) = ⟨if st.depth = 0 then 2 else 17, opL ((bl line).drop p), 0, max (st.depth - 1) 0, false⟩ := by unfold opTok; rw [if_neg o1, if_pos o2, hd]
      rw [e] at ht
      by_cases hz : st.depth = 0
      · have hx : max (st.depth - 1) 0 = st.depth := by rw [hz]; rfl
        rw [if_pos hz, hx] at ht
        rcases o2 with o | o | o
        · exact took_of ht rfl (hstm _) rfl rfl (op_none41 w0 W O b line p v es st hr hT hp hs hl h7 hst.d0 hst.d1 c hcc o hz)
        · exact took_of ht rfl (hstm _) rfl rfl (op_none93 w0 W O b line p v es st hr hT hp hs hl h7 hst.d0 hst.d1 c hcc o hz)
        · exact took_of ht rfl (hstm _) rfl rfl (op_none125 w0 W O b line p v es st hr hT hp hs hl h7 hst.d0 hst.d1 c hcc o hz)
      · have hx : max (st.depth - 1) 0 = st.depth - 1 := by have := hst.d0; omega
        rw [if_neg hz, hx] at ht
        rcases o2 with o | o | o
        · exact took_of ht rfl (hstm _) rfl rfl (op_close41 w0 W O b line p v es st hr hT hp hs hl h7 hst.d0 hst.d1 c hcc o hz)
        · exact took_of ht rfl (hstm _) rfl rfl (op_close93 w0 W O b line p v es st hr hT hp hs hl h7 hst.d0 hst.d1 c hcc o hz)
        · exact took_of ht rfl (hstm _) rfl rfl (op_close125 w0 W O b line p v es st hr hT hp hs hl h7 hst.d0 hst.d1 c hcc o hz)
    · have e : opTok st.depth c (c :: r) = ⟨17, opL ((bl line).drop p), 0, st.depth, false⟩ := by unfold opTok; rw [if_neg o1, if_neg o2, hd]
      rw [e] at ht
      exact took_of ht rfl (hstm _) rfl rfl (op_rest w0 W O b line p v es st hr hT hp hs hl h7 hst.d0 hst.d1 c hcc (by omega))
  | 8, _, _ =>
    have h1 : isBl c = false := hcB 1 (by omega)
    have h2 : c ≠ 35 := by simpa [cnd] using hcB 2 (by omega)
    have h3 : c ≠ 92 := by simpa [cnd] using hcB 3 (by omega)
    have h4 : (begL (c :: r)).1 = 0 := by simpa [cnd] using hcB 4 (by omega)
    have h5 : letN c = false := hcB 5 (by omega)
    have h6 : numO (c :: r) = 0 := by simpa [cnd] using hcB 6 (by omega)
    have h7 : opL (c :: r) = 0 := by simpa [cnd] using hcB 7 (by omega)
    have ht : tokL st.mark st.depth ((bl line).drop p) = some ⟨2, 1, 0, st.depth, false⟩ := by
      rw [hd, tokL, if_neg (by rw [htx h1 h2 h3, h4]; decide), if_neg (by rw [h1]; exact Bool.false_ne_true), if_neg h2, if_neg h3, if_neg (by rw [h5]; exact Bool.false_ne_true), if_neg (numO_zero h6), if_neg (by omega)]
    exact took_of ht rfl (st_mk st hm _ rfl) rfl rfl (other_yes w0 W O b line p v es st hr hT hp hs hl)
end Go.Proofs.YtmfcapbllbfjnaaGreatDoor
