/- The ends of ranges, sorted, and the places at which it changes whether places are kept; what comes of them is a list in form. Nothing of the program stands here. -/
import Derived.Test.YtbgdphjjepbafaaSMath3
namespace Go.Proofs.Ytbgdphjjepbafaa

abbrev Ev : Type := Int × Int × Int
/-- A range's ends, if it has places: where, of which list, how many more are open. -/
def evR (t : Int) (r : Rng) : List Ev := if clp r.1 < clp r.2 then [(clp r.1, t, 1), (clp r.2, t, -1)] else []
def evs (t : Int) (L : List Rng) : List Ev := L.flatMap (evR t)
def evAll (a b : List Rng) : List Ev := evs 0 a ++ evs 1 b
theorem evs_snoc (t : Int) (L : List Rng) (r : Rng) : evs t (L ++ [r]) = evs t L ++ evR t r := by
  unfold evs
  rw [List.flatMap_append]
  simp
theorem evR_len (t : Int) (r : Rng) : (evR t r).length ≤ 2 := by
  unfold evR
  split <;> simp
theorem evs_len (t : Int) : ∀ L : List Rng, (evs t L).length ≤ 2 * L.length
  | [] => by simp [evs]
  | r :: l => by
    have h1 := evs_len t l
    have h2 := evR_len t r
    have e : evs t (r :: l) = evR t r ++ evs t l := rfl
    rw [e, List.length_append, List.length_cons]
    omega
theorem evAll_len (a b : List Rng) : (evAll a b).length ≤ 2 * (a.length + b.length) := by
  have h1 := evs_len 0 a
  have h2 := evs_len 1 b
  unfold evAll
  rw [List.length_append]
  omega
/-- An end that may be: its place counts, its list is one of the two. -/
def EvOk (e : Ev) : Prop := 0 ≤ e.1 ∧ e.1 ≤ 1099511627776 ∧ (e.2.1 = 0 ∨ e.2.1 = 1) ∧ (e.2.2 = 1 ∨ e.2.2 = -1)
theorem evs_ok {t : Int} (ht : t = 0 ∨ t = 1) {L : List Rng} : ∀ e ∈ evs t L, EvOk e := by
  intro e he
  unfold evs at he
  obtain ⟨r, -, h⟩ := List.mem_flatMap.1 he
  have h1 := clp_in r.1
  have h2 := clp_in r.2
  unfold evR at h
  split at h
  · simp only [List.mem_cons, List.not_mem_nil, or_false] at h
    rcases h with rfl | rfl
    · exact ⟨h1.1, h1.2, ht, .inl rfl⟩
    · exact ⟨h2.1, h2.2, ht, .inr rfl⟩
  · cases h
theorem evAll_ok {a b : List Rng} : ∀ e ∈ evAll a b, EvOk e := by
  intro e he
  rcases List.mem_append.1 he with h | h
  · exact evs_ok (.inl rfl) e h
  · exact evs_ok (.inr rfl) e h
/-- How many ranges of a list are open behind the ends that lie up to a place. -/
def wt (t p : Int) (e : Ev) : Int := if e.2.1 = t ∧ e.1 ≤ p then e.2.2 else 0
def opn (t p : Int) : List Ev → Int
  | [] => 0
  | e :: r => wt t p e + opn t p r
theorem opn_append (t p : Int) : ∀ X Y : List Ev, opn t p (X ++ Y) = opn t p X + opn t p Y
  | [], Y => by simp [opn]
  | e :: r, Y => by
    show wt t p e + opn t p (r ++ Y) = wt t p e + opn t p r + opn t p Y
    rw [opn_append t p r Y]
    omega
theorem opn_perm {t p : Int} {X Y : List Ev} (h : X.Perm Y) : opn t p X = opn t p Y := by
  induction h with
  | nil => rfl
  | cons x _ ih => show wt t p x + _ = wt t p x + _; rw [ih]
  | swap x y l => show wt t p y + (wt t p x + opn t p l) = wt t p x + (wt t p y + opn t p l); omega
  | trans _ _ h1 h2 => exact h1.trans h2
theorem opn_evR (t p : Int) (r : Rng) : opn t p (evR t r) = if inR r p = true then 1 else 0 := by
  unfold evR inR
  by_cases h : clp r.1 < clp r.2
  · rw [if_pos h]
    unfold opn opn opn wt
    simp only [true_and]
    by_cases h1 : clp r.1 ≤ p
    · by_cases h2 : p < clp r.2
      · simp [h1, h2, show ¬ clp r.2 ≤ p by omega]
      · simp [h1, h2, show clp r.2 ≤ p by omega]
    · simp [h1, show ¬ clp r.2 ≤ p by omega]
  · rw [if_neg h]
    unfold opn
    by_cases h1 : clp r.1 ≤ p
    · simp [h1, show ¬ p < clp r.2 by omega]
    · simp [h1]
theorem opn_other {t u : Int} (h : t ≠ u) (p : Int) (L : List Rng) : opn u p (evs t L) = 0 := by
  induction L with
  | nil => rfl
  | cons r l ih =>
    have e : evs t (r :: l) = evR t r ++ evs t l := rfl
    rw [e, opn_append, ih]
    unfold evR
    split
    · unfold opn opn opn wt
      simp [h]
    · rfl
theorem opn_same (t p : Int) (L : List Rng) : 0 ≤ opn t p (evs t L) ∧ (0 < opn t p (evs t L) ↔ has L p = true) := by
  induction L with
  | nil => exact ⟨Int.le_refl _, by simp [evs, opn, has]⟩
  | cons r l ih =>
    have e : evs t (r :: l) = evR t r ++ evs t l := rfl
    rw [e, opn_append, opn_evR, has_cons, Bool.or_eq_true]
    obtain ⟨h1, h2⟩ := ih
    cases hb : inR r p with
    | true => simp; omega
    | false =>
      simp only [Bool.false_eq_true, if_false, false_or, Int.zero_add]
      exact ⟨h1, h2⟩
theorem opn_all {a b : List Rng} {E : List Ev} (h : E.Perm (evAll a b)) (p : Int) : decide (0 < opn 0 p E) = has a p ∧ decide (0 < opn 1 p E) = has b p := by
  rw [opn_perm h, opn_perm h]
  unfold evAll
  rw [opn_append, opn_append, opn_other (show (1 : Int) ≠ 0 by decide), opn_other (show (0 : Int) ≠ 1 by decide), Int.add_zero, Int.zero_add]
  have dec : ∀ {x : Int} {B : Bool}, (0 < x ↔ B = true) → decide (0 < x) = B := by
    intro x B h
    cases B with
    | true => exact decide_eq_true (h.2 rfl)
    | false => exact decide_eq_false (fun g => by cases h.1 g)
  exact ⟨dec (opn_same 0 p a).2, dec (opn_same 1 p b).2⟩
/-- How many are open behind some ends. -/
def oc (t : Int) : List Ev → Int
  | [] => 0
  | e :: r => (if e.2.1 = t then e.2.2 else 0) + oc t r
theorem oc_snoc (t : Int) (e : Ev) : ∀ X : List Ev, oc t (X ++ [e]) = oc t X + (if e.2.1 = t then e.2.2 else 0)
  | [] => by simp [oc]
  | f :: r => by
    show (if f.2.1 = t then f.2.2 else 0) + oc t (r ++ [e]) = (if f.2.1 = t then f.2.2 else 0) + oc t r + _
    rw [oc_snoc t e r]
    omega
theorem oc_bound (t : Int) : ∀ {X : List Ev}, (∀ e ∈ X, EvOk e) → -(X.length : Int) ≤ oc t X ∧ oc t X ≤ X.length
  | [], _ => by simp [oc]
  | f :: r, h => by
    have h1 := oc_bound t (X := r) (fun e he => h e (List.mem_cons_of_mem _ he))
    obtain ⟨-, -, -, h2⟩ := h f (List.mem_cons_self ..)
    show -((r.length + 1 : Nat) : Int) ≤ (if f.2.1 = t then f.2.2 else 0) + oc t r ∧ (if f.2.1 = t then f.2.2 else 0) + oc t r ≤ ((r.length + 1 : Nat) : Int)
    split <;> omega
theorem opn_ahead {t p : Int} : ∀ {X : List Ev}, (∀ e ∈ X, e.1 ≤ p) → opn t p X = oc t X
  | [], _ => rfl
  | f :: r, h => by
    show wt t p f + opn t p r = (if f.2.1 = t then f.2.2 else 0) + oc t r
    rw [opn_ahead (X := r) (fun e he => h e (List.mem_cons_of_mem _ he))]
    unfold wt
    have := h f (List.mem_cons_self ..)
    simp [this]
theorem opn_behind {t p : Int} : ∀ {X : List Ev}, (∀ e ∈ X, p < e.1) → opn t p X = 0
  | [], _ => rfl
  | f :: r, h => by
    show wt t p f + opn t p r = 0
    rw [opn_behind (X := r) (fun e he => h e (List.mem_cons_of_mem _ he))]
    unfold wt
    have := h f (List.mem_cons_self ..)
    rw [if_neg (by omega)]
    rfl
/-- Ends that rise. -/
def Asc : List Ev → Prop
  | [] => True
  | e :: r => (∀ f ∈ r, e.1 ≤ f.1) ∧ Asc r
/-- Whether the next end lies at the same place. -/
def nxt (e : Ev) : List Ev → Bool
  | [] => false
  | f :: _ => decide (f.1 = e.1)
theorem nxt_false {e : Ev} {r : List Ev} (h : Asc (e :: r)) (hn : nxt e r = false) : ∀ f ∈ r, e.1 < f.1 := by
  intro f hf
  match r, h, hn, hf with
  | g :: l, ⟨h1, h2, _⟩, hn, hf =>
    have hn' : ¬ g.1 = e.1 := of_decide_eq_false hn
    have hg := h1 g (List.mem_cons_self ..)
    rcases List.mem_cons.1 hf with rfl | hf
    · omega
    · have := h2 f hf
      omega
/-- The places at which it turns whether places are kept. -/
def tf (K : Bool → Bool → Bool) : List Ev → Int → Int → Bool → List Int
  | [], _, _, _ => []
  | e :: r, x, y, k =>
    if nxt e r = true then tf K r (x + if e.2.1 = 0 then e.2.2 else 0) (y + if e.2.1 = 1 then e.2.2 else 0) k
    else if K (decide (0 < x + if e.2.1 = 0 then e.2.2 else 0)) (decide (0 < y + if e.2.1 = 1 then e.2.2 else 0)) = k then tf K r (x + if e.2.1 = 0 then e.2.2 else 0) (y + if e.2.1 = 1 then e.2.2 else 0) k
    else e.1 :: tf K r (x + if e.2.1 = 0 then e.2.2 else 0) (y + if e.2.1 = 1 then e.2.2 else 0) (!k)
theorem tf_same {K : Bool → Bool → Bool} {e : Ev} {r : List Ev} {x y : Int} {k : Bool} (h : nxt e r = true) : tf K (e :: r) x y k = tf K r (x + if e.2.1 = 0 then e.2.2 else 0) (y + if e.2.1 = 1 then e.2.2 else 0) k := by
  show (if nxt e r = true then _ else _) = _
  rw [if_pos h]
theorem tf_stay {K : Bool → Bool → Bool} {e : Ev} {r : List Ev} {x y : Int} {k : Bool} (h : nxt e r = false) (h2 : K (decide (0 < x + if e.2.1 = 0 then e.2.2 else 0)) (decide (0 < y + if e.2.1 = 1 then e.2.2 else 0)) = k) : tf K (e :: r) x y k = tf K r (x + if e.2.1 = 0 then e.2.2 else 0) (y + if e.2.1 = 1 then e.2.2 else 0) k := by
  show (if nxt e r = true then _ else if _ then _ else _) = _
  rw [if_neg (by rw [h]; exact Bool.noConfusion), if_pos h2]
theorem tf_turn {K : Bool → Bool → Bool} {e : Ev} {r : List Ev} {x y : Int} {k : Bool} (h : nxt e r = false) (h2 : ¬ K (decide (0 < x + if e.2.1 = 0 then e.2.2 else 0)) (decide (0 < y + if e.2.1 = 1 then e.2.2 else 0)) = k) : tf K (e :: r) x y k = e.1 :: tf K r (x + if e.2.1 = 0 then e.2.2 else 0) (y + if e.2.1 = 1 then e.2.2 else 0) (!k) := by
  show (if nxt e r = true then _ else if _ then _ else _) = _
  rw [if_neg (by rw [h]; exact Bool.noConfusion), if_neg h2]
theorem tf_mem {K : Bool → Bool → Bool} {z : Int} : ∀ {R : List Ev} {x y : Int} {k : Bool}, z ∈ tf K R x y k → ∃ e ∈ R, z = e.1
  | [], _, _, _, h => by cases h
  | e :: r, x, y, k, h => by
    have up : ∀ {x y : Int} {k : Bool}, z ∈ tf K r x y k → ∃ f ∈ e :: r, z = f.1 := fun h => by
      obtain ⟨f, hf, e2⟩ := tf_mem (R := r) h
      exact ⟨f, List.mem_cons_of_mem _ hf, e2⟩
    by_cases hn : nxt e r = true
    · rw [tf_same hn] at h; exact up h
    · have hn := Bool.eq_false_iff.2 hn
      by_cases h2 : K (decide (0 < x + if e.2.1 = 0 then e.2.2 else 0)) (decide (0 < y + if e.2.1 = 1 then e.2.2 else 0)) = k
      · rw [tf_stay hn h2] at h; exact up h
      · rw [tf_turn hn h2] at h
        rcases List.mem_cons.1 h with rfl | h
        · exact ⟨e, List.mem_cons_self .., rfl⟩
        · exact up h
theorem tf_len {K : Bool → Bool → Bool} : ∀ {R : List Ev} {x y : Int} {k : Bool}, (tf K R x y k).length ≤ R.length
  | [], _, _, _ => Nat.le_refl _
  | e :: r, x, y, k => by
    have up : ∀ {x y : Int} {k : Bool}, (tf K r x y k).length ≤ r.length := tf_len (R := r)
    by_cases hn : nxt e r = true
    · rw [tf_same hn]; exact Nat.le_trans up (Nat.le_succ _)
    · have hn := Bool.eq_false_iff.2 hn
      by_cases h2 : K (decide (0 < x + if e.2.1 = 0 then e.2.2 else 0)) (decide (0 < y + if e.2.1 = 1 then e.2.2 else 0)) = k
      · rw [tf_stay hn h2]; exact Nat.le_trans up (Nat.le_succ _)
      · rw [tf_turn hn h2]; exact Nat.succ_le_succ up
theorem tf_up {K : Bool → Bool → Bool} : ∀ {R : List Ev} {x y : Int} {k : Bool}, Asc R → Up1 (tf K R x y k)
  | [], _, _, _, _ => trivial
  | e :: r, x, y, k, h => by
    have up : ∀ {x y : Int} {k : Bool}, Up1 (tf K r x y k) := tf_up (R := r) h.2
    by_cases hn : nxt e r = true
    · rw [tf_same hn]; exact up
    · have hn := Bool.eq_false_iff.2 hn
      by_cases h2 : K (decide (0 < x + if e.2.1 = 0 then e.2.2 else 0)) (decide (0 < y + if e.2.1 = 1 then e.2.2 else 0)) = k
      · rw [tf_stay hn h2]; exact up
      · rw [tf_turn hn h2]
        refine Up1.cons up fun z hz => ?_
        obtain ⟨f, hf, rfl⟩ := tf_mem hz
        exact nxt_false h hn f hf
/-- Whether the places that lie up to p are odd in number. -/
def par (p : Int) : List Int → Bool
  | [] => false
  | x :: r => (decide (x ≤ p)).xor (par p r)
theorem par_above {p : Int} : ∀ {X : List Int}, (∀ x ∈ X, p < x) → par p X = false
  | [], _ => rfl
  | x :: r, h => by
    show (decide (x ≤ p)).xor (par p r) = false
    rw [par_above (X := r) (fun y hy => h y (List.mem_cons_of_mem _ hy)), decide_eq_false (by have := h x (List.mem_cons_self ..); omega)]
    rfl
/-- It turns just where it is said. -/
theorem tf_par {K : Bool → Bool → Bool} {E : List Ev} {G : Int → Bool} (hG : ∀ p, G p = K (decide (0 < opn 0 p E)) (decide (0 < opn 1 p E))) :
    ∀ {R P : List Ev} {k : Bool} {lo : Int}, E = P ++ R → Asc R → (∀ f ∈ P, ∀ e ∈ R, f.1 ≤ e.1) → (∀ e ∈ R, lo ≤ e.1) → (∀ p, lo ≤ p → (∀ e ∈ R, p < e.1) → G p = k) →
      ∀ p, lo ≤ p → G p = k.xor (par p (tf K R (oc 0 P) (oc 1 P) k))
  | [], P, k, lo, _, _, _, _, h, p, hp => by
    rw [h p hp (fun e he => by cases he)]
    show k = k.xor false
    rw [Bool.xor_false]
  | e :: r, P, k, lo, hE, hA, hP, hlo, h, p, hp => by
    have hE2 : E = (P ++ [e]) ++ r := by rw [hE]; simp
    have hP2 : ∀ f ∈ P ++ [e], ∀ g ∈ r, f.1 ≤ g.1 := by
      intro f hf g hg
      rcases List.mem_append.1 hf with hf | hf
      · exact hP f hf g (List.mem_cons_of_mem _ hg)
      · rw [List.mem_singleton.1 hf]
        exact hA.1 g hg
    have o0 := oc_snoc 0 e P
    have o1 := oc_snoc 1 e P
    by_cases hn : nxt e r = true
    · rw [tf_same hn, ← o0, ← o1]
      refine tf_par hG hE2 hA.2 hP2 (fun g hg => hlo g (List.mem_cons_of_mem _ hg)) (fun q hq hall => ?_) p hp
      refine h q hq (fun g hg => ?_)
      rcases List.mem_cons.1 hg with rfl | hg
      · match r, hn, hall with
        | f :: _, hn, hall =>
          have := of_decide_eq_true hn
          have := hall f (List.mem_cons_self ..)
          omega
      · exact hall g hg
    · have hn := Bool.eq_false_iff.2 hn
      have hab := nxt_false hA hn
      have low : p < e.1 → G p = k := fun hlt => h p hp (fun g hg => by
        rcases List.mem_cons.1 hg with rfl | hg
        · exact hlt
        · have := hab g hg; omega)
      have here : ∀ q, e.1 ≤ q → (∀ g ∈ r, q < g.1) → G q = K (decide (0 < oc 0 (P ++ [e]))) (decide (0 < oc 1 (P ++ [e]))) := by
        intro q hq hall
        have hin : ∀ f ∈ P ++ [e], f.1 ≤ q := by
          intro f hf
          rcases List.mem_append.1 hf with hf | hf
          · have := hP f hf e (List.mem_cons_self ..); omega
          · rw [List.mem_singleton.1 hf]; exact hq
        rw [hG q, hE2, opn_append 0 q (P ++ [e]) r, opn_append 1 q (P ++ [e]) r, opn_behind hall, opn_behind hall, opn_ahead hin, opn_ahead hin, Int.add_zero, Int.add_zero]
      have hge : ∀ g ∈ r, e.1 ≤ g.1 := hA.1
      by_cases h2 : K (decide (0 < oc 0 P + if e.2.1 = 0 then e.2.2 else 0)) (decide (0 < oc 1 P + if e.2.1 = 1 then e.2.2 else 0)) = k
      · rw [tf_stay hn h2]
        rw [← o0, ← o1] at h2 ⊢
        by_cases hlt : p < e.1
        · rw [low hlt, par_above (fun z hz => by obtain ⟨f, hf, rfl⟩ := tf_mem hz; have := hab f hf; omega), Bool.xor_false]
        · exact tf_par hG hE2 hA.2 hP2 hge (fun q hq hall => (here q hq hall).trans h2) p (by omega)
      · rw [tf_turn hn h2]
        rw [← o0, ← o1] at h2 ⊢
        have h3 : K (decide (0 < oc 0 (P ++ [e]))) (decide (0 < oc 1 (P ++ [e]))) = !k := by
          revert h2
          cases K (decide (0 < oc 0 (P ++ [e]))) (decide (0 < oc 1 (P ++ [e]))) <;> cases k <;> simp
        by_cases hlt : p < e.1
        · rw [low hlt, par_above (fun z hz => ?_), Bool.xor_false]
          rcases List.mem_cons.1 hz with rfl | hz
          · exact hlt
          · obtain ⟨f, hf, rfl⟩ := tf_mem hz; have := hab f hf; omega
        · rw [tf_par hG hE2 hA.2 hP2 hge (k := !k) (fun q hq hall => (here q hq hall).trans h3) p (by omega)]
          show _ = k.xor ((decide (e.1 ≤ p)).xor _)
          rw [decide_eq_true (show e.1 ≤ p by omega)]
          cases k <;> simp
/-- Turn by turn: ranges. -/
def prs : List Int → List Rng
  | [] => []
  | [x] => [(x, 0)]
  | x :: y :: r => (x, y) :: prs r
theorem prs_len : ∀ T : List Int, (prs T).length ≤ T.length
  | [] => Nat.le_refl _
  | [_] => Nat.le_refl _
  | x :: y :: r => by
    have := prs_len r
    show (prs r).length + 1 ≤ r.length + 1 + 1
    omega
theorem prs_odd : ∀ {T : List Int} (z : Int), T.length % 2 = 0 → prs (T ++ [z]) = prs T ++ [(z, 0)]
  | [], _, _ => rfl
  | [_], _, h => by simp at h
  | x :: y :: r, z, h => by
    show (x, y) :: prs (r ++ [z]) = (x, y) :: (prs r ++ [(z, 0)])
    rw [prs_odd (T := r) z (by simp only [List.length_cons] at h; omega)]
theorem prs_even : ∀ {T : List Int} (z : Int), T.length % 2 = 1 → ∃ M x, prs T = M ++ [(x, 0)] ∧ prs (T ++ [z]) = M ++ [(x, z)]
  | [], _, h => by simp at h
  | [x], z, _ => ⟨[], x, rfl, rfl⟩
  | x :: y :: r, z, h => by
    obtain ⟨M, u, e1, e2⟩ := prs_even (T := r) z (by simp only [List.length_cons] at h; omega)
    refine ⟨(x, y) :: M, u, ?_, ?_⟩
    · show (x, y) :: prs r = _
      rw [e1]; rfl
    · show (x, y) :: prs (r ++ [z]) = _
      rw [e2]; rfl
theorem prs_form : ∀ {T : List Int} {lo : Int}, T.length % 2 = 0 → Up1 T → (∀ x ∈ T, lo < x ∧ x ≤ 1099511627776) → FormA lo (prs T)
  | [], _, _, _, _ => trivial
  | [_], _, h, _, _ => by simp at h
  | x :: y :: r, lo, h, hu, hb => by
    refine ⟨(hb x (List.mem_cons_self ..)).1, hu.1, (hb y (List.mem_cons_of_mem _ (List.mem_cons_self ..))).2, ?_⟩
    refine prs_form (by simp only [List.length_cons] at h; omega) hu.tail.tail (fun z hz => ⟨hu.tail.head z hz, (hb z (List.mem_cons_of_mem _ (List.mem_cons_of_mem _ hz))).2⟩)
theorem prs_has {p : Int} : ∀ {T : List Int}, T.length % 2 = 0 → Up1 T → (∀ x ∈ T, 0 ≤ x ∧ x ≤ 1099511627776) → has (prs T) p = par p T
  | [], _, _, _ => rfl
  | [_], h, _, _ => by simp at h
  | x :: y :: r, h, hu, hb => by
    have ih := prs_has (p := p) (T := r) (by simp only [List.length_cons] at h; omega) hu.tail.tail (fun z hz => hb z (List.mem_cons_of_mem _ (List.mem_cons_of_mem _ hz)))
    show (inR (x, y) p || has (prs r) p) = (decide (x ≤ p)).xor ((decide (y ≤ p)).xor (par p r))
    have hx := hb x (List.mem_cons_self ..)
    have hy := hb y (List.mem_cons_of_mem _ (List.mem_cons_self ..))
    have hxy : x < y := hu.1
    rw [ih]
    unfold inR
    simp only
    rw [clp_id hx.1 hx.2, clp_id hy.1 hy.2]
    by_cases h2 : y ≤ p
    · rw [decide_eq_true h2, decide_eq_true (show x ≤ p by omega), decide_eq_false (show ¬ p < y by omega)]
      simp
    · have ha : par p r = false := par_above (fun z hz => by have := hu.tail.head z hz; omega)
      rw [ha, decide_eq_false h2, decide_eq_true (show p < y by omega)]
      simp
theorem par_all {p : Int} : ∀ {X : List Int}, (∀ x ∈ X, x ≤ p) → par p X = decide (X.length % 2 = 1)
  | [], _ => rfl
  | x :: r, h => by
    show (decide (x ≤ p)).xor (par p r) = decide ((r.length + 1) % 2 = 1)
    rw [par_all (X := r) (fun y hy => h y (List.mem_cons_of_mem _ hy)), decide_eq_true (h x (List.mem_cons_self ..))]
    by_cases e : r.length % 2 = 1
    · rw [decide_eq_true e, decide_eq_false (by omega)]; rfl
    · rw [decide_eq_false e, decide_eq_true (by omega)]; rfl
/-- What comes of the ends of two lists, sorted. -/
def turnsOf (K : Bool → Bool → Bool) (E : List Ev) : List Int := tf K E 0 0 false
theorem turns_good {K : Bool → Bool → Bool} {a b : List Rng} {E : List Ev} (hK : K false false = false) (hp : E.Perm (evAll a b)) (hA : Asc E) :
    (turnsOf K E).length % 2 = 0 ∧ Form (prs (turnsOf K E)) ∧ (∀ p, has (prs (turnsOf K E)) p = K (has a p) (has b p)) := by
  have hok : ∀ e ∈ E, EvOk e := fun e he => evAll_ok e (hp.mem_iff.1 he)
  have hb : ∀ x ∈ turnsOf K E, 0 ≤ x ∧ x ≤ 1099511627776 := by
    intro x hx
    obtain ⟨e, he, rfl⟩ := tf_mem hx
    exact ⟨(hok e he).1, (hok e he).2.1⟩
  have hG : ∀ p, K (has a p) (has b p) = K (decide (0 < opn 0 p E)) (decide (0 < opn 1 p E)) := fun p => by
    rw [(opn_all hp p).1, (opn_all hp p).2]
  have hpar : ∀ p, K (has a p) (has b p) = par p (turnsOf K E) := by
    intro p
    have hlo : ∀ e ∈ E, (if p < 0 then p else 0) ≤ e.1 := by
      intro e he
      have := (hok e he).1
      split <;> omega
    have := tf_par (G := fun p => K (has a p) (has b p)) hG (R := E) (P := []) (k := false) (lo := if p < 0 then p else 0) rfl hA (fun f hf => by cases hf) hlo (fun q _ hall => by
      show K (has a q) (has b q) = false
      rw [hG q, opn_behind hall, opn_behind hall]
      exact hK) p (by split <;> omega)
    rw [this, Bool.false_xor]
    rfl
  have hup : Up1 (turnsOf K E) := tf_up hA
  have hev : (turnsOf K E).length % 2 = 0 := by
    have h1 := hpar 1099511627776
    rw [par_all (fun x hx => (hb x hx).2)] at h1
    have none : ∀ L : List Rng, has L 1099511627776 = false := fun L => by
      cases hc : has L 1099511627776 with
      | false => rfl
      | true => have := has_lt hc; omega
    rw [none, none, hK] at h1
    have := of_decide_eq_false h1.symm
    omega
  refine ⟨hev, prs_form hev hup (fun x hx => ?_), fun p => ?_⟩
  · have := hb x hx; omega
  · rw [prs_has hev hup hb, hpar p]
end Go.Proofs.Ytbgdphjjepbafaa
