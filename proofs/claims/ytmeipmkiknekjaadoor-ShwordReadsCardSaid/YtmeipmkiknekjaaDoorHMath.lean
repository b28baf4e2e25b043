/- What stands in a line of the shell's, in plain mathematics. -/
import Derived.Test.YtmeipmkiknekjaaDoorBase
import Derived.Lib.Strings
namespace Go.Proofs.YtmeipmkiknekjaaDoor

/-- The bytes of a text. -/
def bl (s : ByteArray) : List Nat := s.data.toList.map (·.toNat)
theorem bl_len (s : ByteArray) : (bl s).length = s.size := by unfold bl; rw [List.length_map, ← Lib.size_eq]
theorem bl_at {s : ByteArray} {i : Nat} (h : i < s.size) : (bl s)[i]? = some (bt s i) := by
  unfold bl
  rw [List.getElem?_map, List.getElem?_eq_getElem (by rw [← Lib.size_eq]; exact h), bt_list s i h]
  rfl
theorem bl_drop {s : ByteArray} {p : Nat} (h : p < s.size) : (bl s).drop p = bt s p :: (bl s).drop (p + 1) := by
  have h1 : p < (bl s).length := by rw [bl_len]; exact h
  rw [List.drop_eq_getElem_cons h1]
  congr 1
  have := bl_at h
  rw [List.getElem?_eq_getElem h1] at this
  exact Option.some.inj this
theorem bl_end {s : ByteArray} {p : Nat} (h : s.size ≤ p) : (bl s).drop p = [] := List.drop_of_length_le (by rw [bl_len]; exact h)
theorem bl_extract (s : ByteArray) (a b : Nat) : bl (s.extract a b) = ((bl s).take b).drop a := by
  unfold bl
  rw [show (s.extract a b).data.toList = (s.data.toList.take b).drop a from by
    simp [ByteArray.data_extract, Array.toList_extract, List.extract, List.drop_take]]
  simp [List.map_drop, List.map_take]
theorem bl_inj {s t : ByteArray} (h : bl s = bl t) : s = t := by
  have h1 : s.data.toList = t.data.toList := (List.map_inj_right (f := UInt8.toNat) (fun a b e => UInt8.toNat_inj.1 e)).1 h
  cases s; cases t
  congr 1
  exact Array.toList_inj.1 h1
theorem bl_append (s t : ByteArray) : bl (s ++ t) = bl s ++ bl t := by simp [bl]
theorem bl_lt {s : ByteArray} {c : Nat} (h : c ∈ bl s) : c < 256 := by
  unfold bl at h
  obtain ⟨x, -, rfl⟩ := List.mem_map.1 h
  exact x.toNat_lt

def opsL : List (List Nat) := [[60, 60, 45], [38, 38], [124, 124], [59, 59], [60, 60], [62, 62], [60, 38], [62, 38], [60, 62], [62, 124], [38], [124], [59], [60], [62], [40], [41]]
def opF : List (List Nat) → List Nat → Nat
  | [], _ => 0
  | o :: os, l => if o.isPrefixOf l = true then o.length else opF os l
/-- How many bytes the operator has that stands at the beginning. -/
def opL (l : List Nat) : Nat := opF opsL l
def isW (c : Nat) : Bool := c == 32 || c == 9
def sgB (c : Nat) : Bool := c == 39 || c == 34 || c == 92
def frd (c : Nat) : Bool := c == 92 || c == 34 || c == 36 || c == 96
/-- How many bytes the content has. -/
def con : List Nat → Nat
  | [] => 0
  | [c] => if c = 10 then 0 else 1
  | _ :: d :: r => con (d :: r) + 1
def hdW : List Nat → Bool
  | [] => false
  | c :: _ => isW c
/-- A word that is in no quote ends. -/
def bhd (l : List Nat) : Bool := decide (con l = 0) || hdW l || decide (0 < opL l) || l == [92, 10]
/-- What a backslash says: how many bytes it takes along, and the byte. -/
def alg (q : Bool) (l : List Nat) : Nat × Nat := if con l = 0 then (0, 92) else match l with
  | [] => (0, 92)
  | d :: _ => if (q && !frd d) = true then (0, 92) else (1, d)
/-- One letter of a word: how many bytes, what it says, the sign that is open behind it; none: the word ends. -/
def stp (m : Nat) : List Nat → Option (Nat × List Nat × Nat)
  | [] => none
  | c :: r =>
    if con (c :: r) = 0 then none
    else if m = 39 then some (if c = 39 then (1, [], 0) else (1, [c], 39))
    else if m = 34 then some (if c = 34 then (1, [], 0) else if c = 92 then ((alg true r).1 + 1, [(alg true r).2], 34) else (1, [c], 34))
    else if bhd (c :: r) = true then none
    else some (if c = 39 then (1, [], 39) else if c = 34 then (1, [], 34) else if c = 92 then ((alg false r).1 + 1, [(alg false r).2], 0) else (1, [c], 0))
theorem stp_cons (m c : Nat) (r : List Nat) : stp m (c :: r) = if con (c :: r) = 0 then none
    else if m = 39 then some (if c = 39 then (1, [], 0) else (1, [c], 39))
    else if m = 34 then some (if c = 34 then (1, [], 0) else if c = 92 then ((alg true r).1 + 1, [(alg true r).2], 34) else (1, [c], 34))
    else if bhd (c :: r) = true then none
    else some (if c = 39 then (1, [], 39) else if c = 34 then (1, [], 34) else if c = 92 then ((alg false r).1 + 1, [(alg false r).2], 0) else (1, [c], 0)) := rfl
def wdF : Nat → Nat → List Nat → Nat × List Nat × Nat
  | 0, m, _ => (0, [], m)
  | f + 1, m, l => match stp m l with
    | none => (0, [], m)
    | some x => (x.1 + (wdF f x.2.2 (l.drop x.1)).1, x.2.1 ++ (wdF f x.2.2 (l.drop x.1)).2.1, (wdF f x.2.2 (l.drop x.1)).2.2)
/-- A word: how many bytes of the content, what it says, the sign that is open behind it. -/
def wd (m : Nat) (l : List Nat) : Nat × List Nat × Nat := wdF l.length m l

/-! The content. -/
theorem con_le : ∀ l : List Nat, con l ≤ l.length ∧ l.length ≤ con l + 1
  | [] => by simp [con]
  | [c] => by unfold con; split <;> simp
  | a :: d :: r => by
    have := con_le (d :: r)
    unfold con
    simp only [List.length_cons] at this ⊢
    omega
theorem con_drop : ∀ (k : Nat) (l : List Nat), k ≤ con l → con (l.drop k) = con l - k
  | 0, l, _ => by simp
  | k + 1, [], h => by simp [con] at h
  | k + 1, [c], h => by
    unfold con at h ⊢
    split at h
    · omega
    · rename_i e; rw [if_neg e]; simp [show k = 0 from by omega]
  | k + 1, a :: d :: r, h => by
    have : con (a :: d :: r) = con (d :: r) + 1 := by rw [con]
    rw [List.drop_succ_cons, con_drop k (d :: r) (by omega), this]
    omega
theorem con_zero {l : List Nat} (h : con l = 0) : l = [] ∨ l = [10] := by
  match l, h with
  | [], _ => exact .inl rfl
  | [c], h =>
    unfold con at h
    split at h
    · rename_i e; exact .inr (by rw [e])
    · omega
  | a :: d :: r, h => unfold con at h; omega
theorem con_last : ∀ l : List Nat, con l = if l.getLast? = some 10 then l.length - 1 else l.length
  | [] => by simp [con]
  | [c] => by
    unfold con
    by_cases h : c = 10
    · subst h; simp
    · simp [h]
  | a :: d :: r => by
    have ih := con_last (d :: r)
    have e : (a :: d :: r).getLast? = (d :: r).getLast? := by simp [List.getLast?_cons_cons]
    rw [con, ih, e]
    split <;> simp
theorem con_pos {c : Nat} {r : List Nat} (h : con (c :: r) ≠ 0) : con r = con (c :: r) - 1 := by
  have := con_drop 1 (c :: r) (by omega)
  simpa using this
/-- What stands in the content is the rest's beginning, and what is left is an LF at most. -/
theorem con_rest (l : List Nat) : l.drop (con l) = [] ∨ l.drop (con l) = [10] := con_zero (by rw [con_drop _ _ (Nat.le_refl _)]; omega)
theorem alg_le (q : Bool) (l : List Nat) : (alg q l).1 ≤ con l ∧ (alg q l).1 ≤ 1 := by
  unfold alg
  split
  · simp
  · split
    · simp
    · split <;> simp <;> omega
theorem stp_con {m : Nat} {l : List Nat} {x : Nat × List Nat × Nat} (h : stp m l = some x) : con l ≠ 0 ∧ 1 ≤ x.1 ∧ x.1 ≤ con l ∧ x.2.1.length ≤ x.1 ∧ (x.2.2 = 0 ∨ x.2.2 = 39 ∨ x.2.2 = 34) := by
  match l, h with
  | [], h => cases h
  | c :: r, h =>
    rw [stp_cons] at h
    have a1 := alg_le true r
    have a2 := alg_le false r
    by_cases h0 : con (c :: r) = 0
    · rw [if_pos h0] at h; cases h
    rw [if_neg h0] at h
    have hp := con_pos h0
    refine ⟨h0, ?_⟩
    by_cases h1 : m = 39
    · rw [if_pos h1] at h
      injection h with h
      subst h
      split <;> simp <;> omega
    rw [if_neg h1] at h
    by_cases h2 : m = 34
    · rw [if_pos h2] at h
      injection h with h
      subst h
      split
      · simp; omega
      · split <;> simp <;> omega
    rw [if_neg h2] at h
    by_cases h3 : bhd (c :: r) = true
    · rw [if_pos h3] at h; cases h
    rw [if_neg h3] at h
    injection h with h
    subst h
    split
    · simp; omega
    · split
      · simp; omega
      · split <;> simp <;> omega
theorem wdF_more : ∀ (f : Nat) (m : Nat) (l : List Nat), con l ≤ f → wdF f m l = wdF (con l) m l
  | 0, m, l, h => by rw [show con l = 0 from by omega]
  | f + 1, m, l, h => by
    cases hs : stp m l with
    | none =>
      cases hc : con l with
      | zero => simp [wdF, hs]
      | succ n => simp [wdF, hs]
    | some x =>
      obtain ⟨h0, h1, h2, -⟩ := stp_con hs
      have hd := con_drop x.1 l h2
      obtain ⟨n, hn⟩ : ∃ n, con l = n + 1 := ⟨con l - 1, by omega⟩
      rw [hn]
      simp only [wdF, hs]
      rw [wdF_more f x.2.2 (l.drop x.1) (by omega), wdF_more n x.2.2 (l.drop x.1) (by omega)]
termination_by f => f
decreasing_by all_goals omega
theorem wd_step {m : Nat} {l : List Nat} {x : Nat × List Nat × Nat} (h : stp m l = some x) : wd m l = (x.1 + (wd x.2.2 (l.drop x.1)).1, x.2.1 ++ (wd x.2.2 (l.drop x.1)).2.1, (wd x.2.2 (l.drop x.1)).2.2) := by
  obtain ⟨h0, h1, h2, -⟩ := stp_con h
  have hl := con_le l
  have hd := con_drop x.1 l h2
  unfold wd
  rw [wdF_more _ x.2.2 (l.drop x.1) (con_le _).1]
  obtain ⟨n, hn⟩ : ∃ n, l.length = n + 1 := ⟨l.length - 1, by omega⟩
  rw [hn]
  conv => lhs; unfold wdF
  rw [h]
  simp only []
  rw [wdF_more n x.2.2 (l.drop x.1) (by omega)]
theorem wd_stop {m : Nat} {l : List Nat} (h : stp m l = none) : wd m l = (0, [], m) := by
  unfold wd
  cases l with
  | nil => rfl
  | cons c r => simp [wdF, h]
theorem wd_all (n : Nat) : ∀ (m : Nat) (l : List Nat), con l ≤ n → (m = 0 ∨ m = 39 ∨ m = 34) → (wd m l).1 ≤ con l ∧ (wd m l).2.1.length ≤ (wd m l).1 ∧ ((wd m l).2.2 = 0 ∨ (wd m l).2.2 = 39 ∨ (wd m l).2.2 = 34) ∧ ((wd m l).2.2 ≠ 0 → (wd m l).1 = con l) := by
  induction n with
  | zero =>
    intro m l h hm
    have hs : stp m l = none := by
      cases hs : stp m l with
      | none => rfl
      | some x => have := (stp_con hs).1; omega
    rw [wd_stop hs]
    exact ⟨by simp, by simp, hm, fun _ => by simp; omega⟩
  | succ n ih =>
    intro m l h hm
    cases hs : stp m l with
    | none =>
      rw [wd_stop hs]
      refine ⟨by simp, by simp, hm, fun hne => ?_⟩
      show 0 = con l
      match l, hs with
      | [], _ => rfl
      | c :: r, hs =>
        rw [stp_cons] at hs
        by_cases h0 : con (c :: r) = 0
        · exact h0.symm
        rw [if_neg h0] at hs
        have hne' : m ≠ 0 := hne
        rcases hm with rfl | rfl | rfl
        · exact absurd rfl hne'
        · rw [if_pos rfl] at hs; cases hs
        · rw [if_neg (by decide), if_pos rfl] at hs; cases hs
    | some x =>
      obtain ⟨h0, h1, h2, h3, h4⟩ := stp_con hs
      have hd := con_drop x.1 l h2
      obtain ⟨i1, i2, i3, i4⟩ := ih x.2.2 (l.drop x.1) (by omega) h4
      rw [wd_step hs]
      refine ⟨by simp only []; omega, by simp only [List.length_append]; omega, i3, fun hne => ?_⟩
      have := i4 hne
      simp only []
      omega
theorem wd_pos {l : List Nat} (h : bhd l = false) : 1 ≤ (wd 0 l).1 := by
  cases hs : stp 0 l with
  | some x =>
    have := (stp_con hs).2.1
    rw [wd_step hs]
    simp only []
    omega
  | none =>
    exfalso
    match l, hs, h with
    | [], _, h => exact absurd h (by decide)
    | c :: r, hs, h =>
      rw [stp_cons] at hs
      have h0 : con (c :: r) ≠ 0 := fun e => by unfold bhd at h; rw [e] at h; simp at h
      rw [if_neg h0, if_neg (by decide), if_neg (by decide), if_neg (by rw [h]; decide)] at hs
      cases hs

/-! The pieces. -/
structure Pc where
  kind : Nat
  a : Nat
  b : Nat
  text : List Nat
  raw : Bool
  whole : Bool
/-- The word from p on, with a mark. -/
def wpc (L : List Nat) (p m : Nat) : Pc :=
  ⟨51, p, if (wd m (L.drop p)).2.2 = 0 then p + (wd m (L.drop p)).1 else L.length, (wd m (L.drop p)).2.1 ++ (if (wd m (L.drop p)).2.2 = 0 then [] else L.drop (con L)), decide (m ≠ 0) || ((L.drop p).take (wd m (L.drop p)).1).any sgB, decide (m = 0) && decide ((wd m (L.drop p)).2.2 = 0)⟩
/-- The piece from p on, and the mark behind it. -/
def tk (L : List Nat) (p mk : Nat) : Pc × Nat :=
  if (L.drop p).head? = some 35 then (⟨53, p, con L, [], false, false⟩, mk)
  else if 0 < opL (L.drop p) then (⟨52, p, p + opL (L.drop p), [], false, false⟩, mk)
  else if L.drop p = [92, 10] then (⟨54, p, L.length, [], false, false⟩, mk)
  else (wpc L p 0, (wd 0 (L.drop p)).2.2)
def rdF (L : List Nat) : Nat → Nat → Nat → List Pc × Nat
  | 0, mk, _ => ([], mk)
  | f + 1, mk, p => if con L ≤ p then ([], mk) else if hdW (L.drop p) = true then rdF L f mk (p + 1) else ((tk L p mk).1 :: (rdF L f (tk L p mk).2 (tk L p mk).1.b).1, (rdF L f (tk L p mk).2 (tk L p mk).1.b).2)
/-- The pieces from p on, and the mark behind the line. -/
def rd (L : List Nat) (mk p : Nat) : List Pc × Nat := rdF L (con L - p) mk p
def sgM (m : Nat) : Bool := m == 39 || m == 34
/-- What Read answers. -/
def rdE (L : List Nat) (a : Int) (m : Nat) : List Pc × Nat :=
  if a < 0 ∨ (con L : Int) < a then ([], 0)
  else if sgM m = true then (wpc L a.toNat m :: (rd L (wd m (L.drop a.toNat)).2.2 (wpc L a.toNat m).b).1, (rd L (wd m (L.drop a.toNat)).2.2 (wpc L a.toNat m).b).2)
  else rd L 0 a.toNat

theorem opF_len : ∀ (os : List (List Nat)) (l : List Nat), opF os l = 0 ∨ ∃ o ∈ os, o.isPrefixOf l = true ∧ opF os l = o.length
  | [], _ => .inl rfl
  | o :: os, l => by
    unfold opF
    split
    · rename_i h; exact .inr ⟨o, by simp, h, rfl⟩
    · rcases opF_len os l with h | ⟨x, h1, h2, h3⟩
      · exact .inl h
      · exact .inr ⟨x, by simp [h1], h2, h3⟩
theorem pre_con : ∀ (o l : List Nat), 10 ∉ o → o.isPrefixOf l = true → o.length ≤ con l
  | [], _, _, _ => by simp
  | _ :: _, [], _, h => by simp [List.isPrefixOf] at h
  | a :: o, c :: r, ho, h => by
    simp only [List.isPrefixOf, Bool.and_eq_true, beq_iff_eq] at h
    obtain ⟨rfl, h2⟩ := h
    have h3 := pre_con o r (fun h => ho (by simp [h])) h2
    have ha : a ≠ 10 := fun e => ho (by simp [e])
    cases r with
    | nil =>
      have h4 : o.length ≤ 0 := h3
      rw [con, if_neg ha, List.length_cons]
      omega
    | cons d r => rw [con]; simp only [List.length_cons]; omega
theorem ops_no10 : ∀ o ∈ opsL, 10 ∉ o := by decide
theorem opL_con (l : List Nat) : opL l ≤ con l := by
  unfold opL
  rcases opF_len opsL l with h | ⟨o, h1, h2, h3⟩
  · omega
  · rw [h3]; exact pre_con o l (ops_no10 o h1) h2
end Go.Proofs.YtmeipmkiknekjaaDoor
