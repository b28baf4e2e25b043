/- A tree, its text, and the numbers of a text, in plain words: what was printed is read, what was read is what is printed. Nothing of the program stands here. -/
import Derived.Test.YtidnldchdahgeaaDoorTMath
import Derived.Lib.ItoaNum
namespace Go.Proofs.YtidnldchdahgeaaDoor

def isD (b : UInt8) : Bool := decide (48 ≤ b.toNat) && decide (b.toNat ≤ 57)
/-- The number that digits tell, and what stands behind them. -/
def rdN (v : Nat) : List UInt8 → Nat × List UInt8
  | [] => (v, [])
  | b :: t => if isD b = true then rdN (10 * v + (b.toNat - 48)) t else (v, b :: t)
theorem rdN_nil (v : Nat) : rdN v [] = (v, []) := rfl
theorem rdN_dig {v : Nat} {b : UInt8} {t : List UInt8} (h : isD b = true) : rdN v (b :: t) = rdN (10 * v + (b.toNat - 48)) t := by
  show (if isD b = true then _ else _) = _
  rw [if_pos h]
theorem rdN_end {v : Nat} {b : UInt8} {t : List UInt8} (h : isD b = false) : rdN v (b :: t) = (v, b :: t) := by
  show (if isD b = true then _ else _) = _
  rw [if_neg (by rw [h]; decide)]
theorem rdN_le : ∀ (l : List UInt8) (v : Nat), v ≤ (rdN v l).1 ∧ (rdN v l).2.length ≤ l.length
  | [], v => ⟨Nat.le_refl _, Nat.le_refl _⟩
  | b :: t, v => by
    by_cases h : isD b = true
    · rw [rdN_dig h]
      have := rdN_le t (10 * v + (b.toNat - 48))
      rw [List.length_cons]
      omega
    · rw [rdN_end (by simpa using h)]
      exact ⟨Nat.le_refl _, Nat.le_refl _⟩
/-- A number that is at most lim, with the byte e behind it; what stands behind that. -/
def numT (lim : Nat) (e : UInt8) (l : List UInt8) : Option (Nat × List UInt8) :=
  if (rdN 0 l).2.length < l.length ∧ (rdN 0 l).1 ≤ lim ∧ (l.head? = some 48 → (rdN 0 l).2.length + 1 = l.length) ∧ (rdN 0 l).2.head? = some e then some ((rdN 0 l).1, (rdN 0 l).2.tail) else none
theorem num_len {lim v : Nat} {e : UInt8} {l r : List UInt8} (h : numT lim e l = some (v, r)) : r.length < l.length ∧ v ≤ lim := by
  unfold numT at h
  split at h
  · rename_i hc
    simp only [Option.some.injEq, Prod.mk.injEq] at h
    obtain ⟨rfl, rfl⟩ := h
    rw [List.length_tail]
    omega
  · cases h
def endB (c : Nat) : UInt8 := if c = 3 then 10 else 32
def limC (c : Nat) : Nat := if c = 1 then 255 else 1099511627776
/-- A lineT: a node, and what stands behind it. -/
def lineT (l : List UInt8) : Option (Nd × List UInt8) :=
  match numT 1099511627776 32 l with
  | none => none
  | some (d, l1) => match numT 255 32 l1 with
    | none => none
    | some (k, l2) => match numT 1099511627776 32 l2 with
      | none => none
      | some (a, l3) => match numT 1099511627776 10 l3 with
        | none => none
        | some (b, l4) => some (((k : Nat), (a : Nat), (b : Nat), (d : Nat)), l4)
theorem line_len {l r : List UInt8} {x : Nd} (h : lineT l = some (x, r)) : r.length + 4 ≤ l.length := by
  unfold lineT at h
  split at h
  · cases h
  rename_i d l1 h1
  split at h
  · cases h
  rename_i k l2 h2
  split at h
  · cases h
  rename_i a l3 h3
  split at h
  · cases h
  rename_i b l4 h4
  simp only [Option.some.injEq, Prod.mk.injEq] at h
  obtain ⟨-, rfl⟩ := h
  have := num_len h1
  have := num_len h2
  have := num_len h3
  have := num_len h4
  omega
def parseG : Nat → List UInt8 → Option (List Nd)
  | 0, l => if l = [] then some [] else none
  | f + 1, l => if l = [] then some [] else match lineT l with
    | none => none
    | some (x, r) => (parseG f r).map (x :: ·)
theorem parseG_nil : ∀ f, parseG f [] = some []
  | 0 => rfl
  | _ + 1 => rfl
theorem parseG_step (f : Nat) {l r : List UInt8} {x : Nd} (h : l ≠ []) (hl : lineT l = some (x, r)) : parseG (f + 1) l = (parseG f r).map (x :: ·) := by
  show (if l = [] then some [] else match lineT l with | none => none | some (x, r) => (parseG f r).map (x :: ·)) = _
  rw [if_neg h, hl]
theorem parseG_bad (f : Nat) {l : List UInt8} (h : l ≠ []) (hl : lineT l = none) : parseG (f + 1) l = none := by
  unfold parseG
  rw [if_neg h, hl]
theorem parseG_fuel : ∀ (f g : Nat) (l : List UInt8), l.length ≤ f → l.length ≤ g → parseG f l = parseG g l
  | f, g, [], _, _ => by rw [parseG_nil, parseG_nil]
  | 0, _, _ :: _, h, _ => by simp at h
  | _ + 1, 0, _ :: _, _, h => by simp at h
  | f + 1, g + 1, b :: t, h, h' => by
    show (if b :: t = [] then _ else _) = (if b :: t = [] then _ else _)
    rw [if_neg (by simp), if_neg (by simp)]
    split
    · rfl
    · rename_i x r hl
      have := line_len hl
      rw [List.length_cons] at *
      rw [parseG_fuel f g r (by omega) (by omega)]
/-- The nodes that a text tells, lineT by lineT. -/
def parseT (l : List UInt8) : Option (List Nd) := parseG l.length l
theorem parseT_nil : parseT [] = some [] := rfl
theorem parseT_none {l : List UInt8} (h : l ≠ []) (hl : lineT l = none) : parseT l = none := by
  cases l with
  | nil => exact absurd rfl h
  | cons b t =>
    exact parseG_bad _ h hl
theorem parseT_cons {l r : List UInt8} {x : Nd} (hl : lineT l = some (x, r)) : parseT l = (parseT r).map (x :: ·) := by
  have h1 := line_len hl
  cases l with
  | nil => simp at h1
  | cons b t =>
    refine (parseG_step t.length (by simp) hl).trans ?_
    rw [parseG_fuel t.length r.length r (by rw [List.length_cons] at h1; omega) (Nat.le_refl _)]
    rfl
/-- A tree's text. -/
def dig (z : Int) : List UInt8 := Go.Lib.decDigits z.toNat
def prN (x : Nd) : List UInt8 := dig x.2.2.2 ++ 32 :: (dig x.1 ++ 32 :: (dig x.2.1 ++ 32 :: (dig x.2.2.1 ++ [10])))
def prL : List Nd → List UInt8
  | [] => []
  | x :: t => prN x ++ prL t
theorem prL_append : ∀ a b : List Nd, prL (a ++ b) = prL a ++ prL b
  | [], _ => rfl
  | x :: t, b => by show prN x ++ prL (t ++ b) = prN x ++ prL t ++ prL b; rw [prL_append t b, List.append_assoc]
theorem dec_small {u : Nat} (h : u < 10) : Go.Lib.decDigits u = [UInt8.ofNat (48 + u)] := Go.Lib.decDigits_one h
theorem dec_step {v d : Nat} (hv : 0 < v) (hd : d < 10) : Go.Lib.decDigits (10 * v + d) = Go.Lib.decDigits v ++ [UInt8.ofNat (48 + d)] := by
  rw [Go.Lib.decDigits, dif_neg (by omega), show (10 * v + d) / 10 = v from by omega, show (10 * v + d) % 10 = d from by omega]
theorem isD_dig {u : Nat} (h : u < 10) : isD (UInt8.ofNat (48 + u)) = true ∧ (UInt8.ofNat (48 + u)).toNat = 48 + u := by
  have e : (UInt8.ofNat (48 + u)).toNat = 48 + u := by
    rw [UInt8.toNat_ofNat']
    omega
  unfold isD
  rw [e]
  exact ⟨by rw [Bool.and_eq_true]; exact ⟨decide_eq_true (by omega), decide_eq_true (by omega)⟩, rfl⟩
theorem dig_isD {b : UInt8} (h : isD b = true) : ∃ u, u < 10 ∧ b = UInt8.ofNat (48 + u) ∧ b.toNat - 48 = u := by
  unfold isD at h
  rw [Bool.and_eq_true, decide_eq_true_iff, decide_eq_true_iff] at h
  refine ⟨b.toNat - 48, by omega, ?_, rfl⟩
  rw [show 48 + (b.toNat - 48) = b.toNat from by omega, UInt8.ofNat_toNat]
theorem rdN_dec : ∀ (u : Nat) (t : List UInt8), rdN 0 (Go.Lib.decDigits u ++ t) = rdN u t
  | u, t => by
    by_cases h : u < 10
    · rw [dec_small h]
      obtain ⟨h1, h2⟩ := isD_dig h
      show rdN 0 (UInt8.ofNat (48 + u) :: t) = _
      rw [rdN_dig h1, h2, show 10 * 0 + (48 + u - 48) = u from by omega]
    · have e : u = 10 * (u / 10) + u % 10 := by omega
      obtain ⟨h1, h2⟩ := isD_dig (show u % 10 < 10 by omega)
      rw [e, dec_step (by omega) (by omega), List.append_assoc, rdN_dec (u / 10)]
      show rdN _ (UInt8.ofNat (48 + u % 10) :: t) = _
      rw [rdN_dig h1, h2, show 10 * (u / 10) + (48 + u % 10 - 48) = 10 * (u / 10) + u % 10 from by omega]
termination_by u => u
decreasing_by omega
theorem dec_len_pos : ∀ (u : Nat), 0 < (Go.Lib.decDigits u).length := fun u => by
  by_cases h : u < 10
  · rw [dec_small h]; simp
  · rw [show u = 10 * (u / 10) + u % 10 from by omega, dec_step (by omega) (by omega), List.length_append]
    simp
theorem dec_head : ∀ (u : Nat), 0 < u → (Go.Lib.decDigits u).head? ≠ some 48
  | u, hu => by
    by_cases h : u < 10
    · rw [dec_small h]
      obtain ⟨-, h2⟩ := isD_dig h
      intro e
      have e2 : UInt8.ofNat (48 + u) = 48 := by simpa using e
      rw [e2] at h2
      have h3 : (48 : Nat) = 48 + u := h2
      omega
    · have ih := dec_head (u / 10) (by omega)
      rw [show u = 10 * (u / 10) + u % 10 from by omega, dec_step (by omega) (by omega)]
      rw [List.head?_append]
      cases hh : (Go.Lib.decDigits (u / 10)).head? with
      | none =>
        have h1 := dec_len_pos (u / 10)
        rw [List.head?_eq_none_iff] at hh
        rw [hh] at h1
        simp at h1
      | some c => rw [hh] at ih; exact ih
termination_by u => u
decreasing_by omega
/-- What was printed is read. -/
theorem num_dec {lim u : Nat} {e : UInt8} {t : List UInt8} (hu : u ≤ lim) (he : isD e = false) : numT lim e (Go.Lib.decDigits u ++ e :: t) = some (u, t) := by
  unfold numT
  rw [rdN_dec, rdN_end he]
  have hp := dec_len_pos u
  rw [if_pos]
  · rfl
  · refine ⟨by simp; omega, hu, fun h => ?_, rfl⟩
    by_cases h0 : 0 < u
    · exfalso
      have h1 := dec_head u h0
      rw [List.head?_append] at h
      cases hh : (Go.Lib.decDigits u).head? with
      | none =>
        rw [List.head?_eq_none_iff] at hh
        rw [hh] at hp
        simp at hp
      | some c => rw [hh] at h h1; exact h1 h
    · obtain rfl : u = 0 := by omega
      rw [dec_small (by omega)]
      simp
theorem rdN_back : ∀ (l : List UInt8) (v : Nat), 0 < v → ∃ ds, l = ds ++ (rdN v l).2 ∧ Go.Lib.decDigits (rdN v l).1 = Go.Lib.decDigits v ++ ds
  | [], v, _ => ⟨[], rfl, by rw [rdN_nil, List.append_nil]⟩
  | b :: t, v, hv => by
    by_cases h : isD b = true
    · obtain ⟨u, h1, h2, h3⟩ := dig_isD h
      rw [rdN_dig h, h3]
      obtain ⟨ds, e1, e2⟩ := rdN_back t (10 * v + u) (by omega)
      refine ⟨b :: ds, by rw [List.cons_append, ← e1], ?_⟩
      rw [e2, dec_step hv h1, ← h2, List.append_assoc]
      rfl
    · rw [rdN_end (by simpa using h)]
      exact ⟨[], rfl, by rw [List.append_nil]⟩
/-- What was read is what is printed. -/
theorem dec_num {lim v : Nat} {e : UInt8} {l r : List UInt8} (h : numT lim e l = some (v, r)) : l = Go.Lib.decDigits v ++ e :: r := by
  unfold numT at h
  split at h
  · rename_i hc
    simp only [Option.some.injEq, Prod.mk.injEq] at h
    obtain ⟨rfl, rfl⟩ := h
    obtain ⟨c1, -, c3, c4⟩ := hc
    have hr : (rdN 0 l).2 = e :: (rdN 0 l).2.tail := by
      cases hq : (rdN 0 l).2 with
      | nil => rw [hq] at c4; cases c4
      | cons x y => rw [hq] at c4; simp at c4; rw [c4]; rfl
    cases l with
    | nil => simp at c1
    | cons b t =>
      by_cases hb : isD b = true
      · obtain ⟨u, h1, h2, h3⟩ := dig_isD hb
        have hrn := rdN_dig (v := 0) (t := t) hb
        rw [h3, show 10 * 0 + u = u from by omega] at hrn
        by_cases hu : 0 < u
        · obtain ⟨ds, e1, e2⟩ := rdN_back t u hu
          rw [← hrn] at e1 e2
          rw [e2, dec_small h1, ← h2, ← hr]
          show b :: t = b :: (ds ++ (rdN 0 (b :: t)).2)
          rw [← e1]
        · obtain rfl : u = 0 := by omega
          have hb0 : b = 48 := h2
          have h5 := c3 (by rw [hb0]; rfl)
          have h6 : (rdN 0 t).2.length = t.length := by rw [← hrn]; rw [List.length_cons] at h5; omega
          have h7 : rdN 0 t = (0, t) := by
            cases t with
            | nil => rfl
            | cons x y =>
              by_cases hx : isD x = true
              · exfalso
                rw [rdN_dig hx] at h6
                have := (rdN_le y (10 * 0 + (x.toNat - 48))).2
                rw [List.length_cons] at h6
                omega
              · exact rdN_end (by simpa using hx)
          rw [hrn, h7] at hr ⊢
          rw [dec_small (by omega), ← hr]
          show b :: t = 48 :: t
          rw [hb0]
      · exfalso
        rw [rdN_end (by simpa using hb)] at c1
        exact absurd c1 (Nat.lt_irrefl _)
  · cases h
/-- Numbers that a lineT may tell. -/
def NdIn (x : Nd) : Prop := (0 ≤ x.1 ∧ x.1 ≤ 255) ∧ (0 ≤ x.2.1 ∧ x.2.1 ≤ 1099511627776) ∧ (0 ≤ x.2.2.1 ∧ x.2.2.1 ≤ 1099511627776) ∧ (0 ≤ x.2.2.2 ∧ x.2.2.2 ≤ 1099511627776)
theorem line_pr {x : Nd} (h : NdIn x) (t : List UInt8) : lineT (prN x ++ t) = some (x, t) := by
  obtain ⟨⟨a0, a1⟩, ⟨b0, b1⟩, ⟨c0, c1⟩, ⟨d0, d1⟩⟩ := h
  unfold lineT prN dig
  simp only [List.append_assoc, List.cons_append, List.nil_append]
  rw [num_dec (by omega) (by decide)]
  dsimp only
  rw [num_dec (by omega) (by decide)]
  dsimp only
  rw [num_dec (by omega) (by decide)]
  dsimp only
  rw [num_dec (by omega) (by decide)]
  dsimp only
  rw [Int.toNat_of_nonneg a0, Int.toNat_of_nonneg b0, Int.toNat_of_nonneg c0, Int.toNat_of_nonneg d0]
theorem pr_line {x : Nd} {l r : List UInt8} (h : lineT l = some (x, r)) : l = prN x ++ r ∧ NdIn x := by
  unfold lineT at h
  split at h
  · cases h
  rename_i d l1 h1
  split at h
  · cases h
  rename_i k l2 h2
  split at h
  · cases h
  rename_i a l3 h3
  split at h
  · cases h
  rename_i b l4 h4
  simp only [Option.some.injEq, Prod.mk.injEq] at h
  obtain ⟨rfl, rfl⟩ := h
  have n1 := num_len h1
  have n2 := num_len h2
  have n3 := num_len h3
  have n4 := num_len h4
  refine ⟨?_, by unfold NdIn; dsimp only; omega⟩
  unfold prN dig
  simp only [List.append_assoc, List.cons_append, List.nil_append, Int.toNat_natCast]
  rw [← dec_num h4, ← dec_num h3, ← dec_num h2, ← dec_num h1]
theorem parse_pr : ∀ {L : List Nd}, (∀ x ∈ L, NdIn x) → parseT (prL L) = some L
  | [], _ => rfl
  | x :: t, h => by
    show parseT (prN x ++ prL t) = _
    rw [parseT_cons (line_pr (h x List.mem_cons_self) (prL t)), parse_pr (fun y hy => h y (List.mem_cons_of_mem _ hy))]
    rfl
theorem pr_parse : ∀ (m : Nat) {l : List UInt8} {L : List Nd}, l.length ≤ m → parseT l = some L → prL L = l ∧ (∀ x ∈ L, NdIn x) ∧ 4 * L.length ≤ l.length
  | _, [], L, _, h => by
    rw [parseT_nil] at h
    obtain rfl : [] = L := Option.some.inj h
    exact ⟨rfl, fun x hx => by (cases hx), by simp⟩
  | 0, _ :: _, _, h, _ => by simp at h
  | m + 1, b :: t, L, hm, h => by
    cases hl : lineT (b :: t) with
    | none => rw [parseT_none (by simp) hl] at h; cases h
    | some q =>
      obtain ⟨x, r⟩ := q
      have h1 := line_len hl
      rw [parseT_cons hl] at h
      cases hr : parseT r with
      | none => rw [hr] at h; cases h
      | some M =>
        rw [hr] at h
        obtain rfl : x :: M = L := Option.some.inj h
        obtain ⟨e1, e2, e3⟩ := pr_parse m (show r.length ≤ m by omega) hr
        obtain ⟨e4, e5⟩ := pr_line hl
        refine ⟨?_, fun y hy => ?_, ?_⟩
        · show prN x ++ prL M = _
          rw [e1, ← e4]
        · rcases List.mem_cons.1 hy with e | e
          · rw [e]; exact e5
          · exact e2 y e
        · rw [List.length_cons]
          omega
/-- The numbers of a text, each with its column; whether it breaks. -/
def colsG : Nat → Nat → List UInt8 → List (Nat × Nat) × Bool
  | 0, _, _ => ([], true)
  | f + 1, c, l => if c = 0 ∧ l = [] then ([], false) else match numT (limC c) (endB c) l with
    | none => ([], true)
    | some (v, r) => ((c, v) :: (colsG f ((c + 1) % 4) r).1, (colsG f ((c + 1) % 4) r).2)
theorem colsG_fuel : ∀ (f g c : Nat) (l : List UInt8), l.length < f → l.length < g → colsG f c l = colsG g c l
  | 0, _, _, _, h, _ => absurd h (Nat.not_lt_zero _)
  | _ + 1, 0, _, _, _, h => absurd h (Nat.not_lt_zero _)
  | f + 1, g + 1, c, l, h, h' => by
    show (if c = 0 ∧ l = [] then _ else _) = (if c = 0 ∧ l = [] then _ else _)
    split
    · rfl
    · cases hn : numT (limC c) (endB c) l with
      | none => rfl
      | some q =>
        obtain ⟨v, r⟩ := q
        have := num_len hn
        show ((c, v) :: (colsG f ((c + 1) % 4) r).1, (colsG f ((c + 1) % 4) r).2) = _
        rw [colsG_fuel f g _ r (by omega) (by omega)]
def colsT (c : Nat) (l : List UInt8) : List (Nat × Nat) × Bool := colsG (l.length + 1) c l
theorem cols_nil : colsT 0 [] = ([], false) := rfl
theorem cols_bad {c : Nat} {l : List UInt8} (h : ¬ (c = 0 ∧ l = [])) (hn : numT (limC c) (endB c) l = none) : colsT c l = ([], true) := by
  unfold colsT
  show (if c = 0 ∧ l = [] then _ else _) = _
  rw [if_neg h, hn]
theorem cols_num {c v : Nat} {l r : List UInt8} (hn : numT (limC c) (endB c) l = some (v, r)) : colsT c l = ((c, v) :: (colsT ((c + 1) % 4) r).1, (colsT ((c + 1) % 4) r).2) := by
  have h1 := (num_len hn).1
  unfold colsT
  show (if c = 0 ∧ l = [] then _ else _) = _
  rw [if_neg (by rintro ⟨-, rfl⟩; simp at h1), hn]
  show ((c, v) :: (colsG l.length ((c + 1) % 4) r).1, (colsG l.length ((c + 1) % 4) r).2) = _
  rw [colsG_fuel l.length (r.length + 1) _ r h1 (by omega)]
/-- What the loop makes of a number. -/
def eatN (st : Nd × List Nd) (q : Nat × Nat) : Nd × List Nd :=
  if q.1 = 0 then ((st.1.1, st.1.2.1, st.1.2.2.1, (q.2 : Int)), st.2)
  else if q.1 = 1 then (((q.2 : Int), st.1.2), st.2)
  else if q.1 = 2 then ((st.1.1, (q.2 : Int), st.1.2.2), st.2)
  else ((st.1.1, st.1.2.1, (q.2 : Int), st.1.2.2.2), st.2 ++ [(st.1.1, st.1.2.1, (q.2 : Int), st.1.2.2.2)])
def eats (st : Nd × List Nd) (xs : List (Nat × Nat)) : Nd × List Nd := xs.foldl eatN st
theorem eats_snoc (st : Nd × List Nd) (xs : List (Nat × Nat)) (q : Nat × Nat) : eats st (xs ++ [q]) = eatN (eats st xs) q := by unfold eats; rw [List.foldl_append]; rfl
theorem eats_cons (st : Nd × List Nd) (xs : List (Nat × Nat)) (q : Nat × Nat) : eats st (q :: xs) = eats (eatN st q) xs := rfl
/-- The numbers, one by one, tell what the lines tell. -/
theorem cols_parse : ∀ (m : Nat) (l : List UInt8) (x : Nd) (O : List Nd), l.length ≤ m →
    ((colsT 0 l).2 = true ∧ parseT l = none) ∨ ((colsT 0 l).2 = false ∧ ∃ L, parseT l = some L ∧ (eats (x, O) (colsT 0 l).1).2 = O ++ L)
  | _, [], x, O, _ => .inr ⟨rfl, [], rfl, by rw [cols_nil, List.append_nil]; rfl⟩
  | 0, _ :: _, _, _, h => by simp at h
  | m + 1, c :: t, x, O, hm => by
    obtain ⟨l, hl⟩ : ∃ l, c :: t = l := ⟨_, rfl⟩
    have hne : l ≠ [] := by rw [← hl]; simp
    rw [hl] at hm ⊢
    have bad : lineT l = none → (colsT 0 l).2 = true → ((colsT 0 l).2 = true ∧ parseT l = none) ∨ ((colsT 0 l).2 = false ∧ ∃ L, parseT l = some L ∧ (eats (x, O) (colsT 0 l).1).2 = O ++ L) := fun h1 h2 => .inl ⟨h2, parseT_none hne h1⟩
    cases h0 : numT 1099511627776 32 l with
    | none => exact bad (by unfold lineT; rw [h0]) (by rw [cols_bad (c := 0) (l := l) (fun h => hne h.2) h0])
    | some q0 =>
      obtain ⟨d, l1⟩ := q0
      have c0 : colsT 0 l = ((0, d) :: (colsT 1 l1).1, (colsT 1 l1).2) := cols_num h0
      cases h1 : numT 255 32 l1 with
      | none => exact bad (by unfold lineT; rw [h0]; dsimp only; rw [h1]) (by rw [c0, cols_bad (c := 1) (l := l1) (fun h => by cases h.1) h1])
      | some q1 =>
        obtain ⟨k, l2⟩ := q1
        have c1 : colsT 1 l1 = ((1, k) :: (colsT 2 l2).1, (colsT 2 l2).2) := cols_num h1
        cases h2 : numT 1099511627776 32 l2 with
        | none => exact bad (by unfold lineT; rw [h0]; dsimp only; rw [h1]; dsimp only; rw [h2]) (by rw [c0, c1, cols_bad (c := 2) (l := l2) (fun h => by cases h.1) h2])
        | some q2 =>
          obtain ⟨a, l3⟩ := q2
          have c2 : colsT 2 l2 = ((2, a) :: (colsT 3 l3).1, (colsT 3 l3).2) := cols_num h2
          cases h3 : numT 1099511627776 10 l3 with
          | none => exact bad (by unfold lineT; rw [h0]; dsimp only; rw [h1]; dsimp only; rw [h2]; dsimp only; rw [h3]) (by rw [c0, c1, c2, cols_bad (c := 3) (l := l3) (fun h => by cases h.1) h3])
          | some q3 =>
            obtain ⟨b, l4⟩ := q3
            have c3 : colsT 3 l3 = ((3, b) :: (colsT 0 l4).1, (colsT 0 l4).2) := cols_num h3
            have hli : lineT l = some ((((k : Nat), (a : Nat), (b : Nat), (d : Nat)) : Nd), l4) := by unfold lineT; rw [h0]; dsimp only; rw [h1]; dsimp only; rw [h2]; dsimp only; rw [h3]
            have hlen := line_len hli
            rw [c0, c1, c2, c3, parseT_cons hli]
            dsimp only
            rw [eats_cons, eats_cons, eats_cons, eats_cons]
            rcases cols_parse m l4 (((k : Nat), (a : Nat), (b : Nat), (d : Nat)) : Nd) (O ++ [(((k : Nat), (a : Nat), (b : Nat), (d : Nat)) : Nd)]) (by omega) with ⟨e1, e2⟩ | ⟨e1, L, e2, e3⟩
            · exact .inl ⟨e1, by rw [e2]; rfl⟩
            · refine .inr ⟨e1, (((k : Nat), (a : Nat), (b : Nat), (d : Nat)) : Nd) :: L, by rw [e2]; rfl, ?_⟩
              have : eatN (eatN (eatN (eatN (x, O) (0, d)) (1, k)) (2, a)) (3, b) = ((((k : Nat), (a : Nat), (b : Nat), (d : Nat)) : Nd), O ++ [(((k : Nat), (a : Nat), (b : Nat), (d : Nat)) : Nd)]) := rfl
              rw [this, e3, List.append_assoc]
              rfl
end Go.Proofs.YtidnldchdahgeaaDoor
