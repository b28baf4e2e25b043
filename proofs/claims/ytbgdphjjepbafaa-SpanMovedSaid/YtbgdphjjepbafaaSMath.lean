/- Ranges of places as sets, in plain words: what a list's places are, lists in form, that two lists in form with the same places are one, how many places there are. Nothing of the program stands here. -/
import Derived.Test.YtbgdphjjepbafaaBase
namespace Go.Proofs.Ytbgdphjjepbafaa

abbrev Rng : Type := Int × Int
/-- A place that counts. -/
def clp (x : Int) : Int := if x < 0 then 0 else if 1099511627776 < x then 1099511627776 else x
theorem clp_in (x : Int) : 0 ≤ clp x ∧ clp x ≤ 1099511627776 := by
  unfold clp
  split
  · omega
  · split <;> omega
theorem clp_id {x : Int} (h0 : 0 ≤ x) (h1 : x ≤ 1099511627776) : clp x = x := by
  unfold clp
  rw [if_neg (by omega), if_neg (by omega)]
/-- Whether a place is one of a range's; of a list's. -/
def inR (r : Rng) (p : Int) : Bool := decide (clp r.1 ≤ p) && decide (p < clp r.2)
def has (L : List Rng) (p : Int) : Bool := L.any fun r => inR r p
theorem inR_iff {r : Rng} {p : Int} : inR r p = true ↔ clp r.1 ≤ p ∧ p < clp r.2 := by
  unfold inR
  rw [Bool.and_eq_true, decide_eq_true_iff, decide_eq_true_iff]
theorem has_nil (p : Int) : has [] p = false := rfl
theorem has_cons (r : Rng) (L : List Rng) (p : Int) : has (r :: L) p = (inR r p || has L p) := rfl
theorem has_append (L M : List Rng) (p : Int) : has (L ++ M) p = (has L p || has M p) := List.any_append
theorem has_lt {L : List Rng} {p : Int} (h : has L p = true) : 0 ≤ p ∧ p < 1099511627776 := by
  unfold has at h
  rw [List.any_eq_true] at h
  obtain ⟨r, -, hr⟩ := h
  rw [inR_iff] at hr
  have := clp_in r.1
  have := clp_in r.2
  omega
/-- A list in form, all above lo. -/
def FormA : Int → List Rng → Prop
  | _, [] => True
  | lo, r :: t => lo < r.1 ∧ r.1 < r.2 ∧ r.2 ≤ 1099511627776 ∧ FormA r.2 t
def Form (L : List Rng) : Prop := FormA (-1) L
theorem FormA.mono {lo lo' : Int} (h : lo' ≤ lo) : ∀ {L : List Rng}, FormA lo L → FormA lo' L
  | [], _ => trivial
  | _ :: _, ⟨h1, h2, h3, h4⟩ => ⟨by omega, h2, h3, h4⟩
theorem inR_form {r : Rng} {lo p : Int} (hl : -1 ≤ lo) (h1 : lo < r.1) (h2 : r.1 < r.2) (h3 : r.2 ≤ 1099511627776) : inR r p = true ↔ r.1 ≤ p ∧ p < r.2 := by
  rw [inR_iff, clp_id (by omega) (by omega), clp_id (by omega) h3]
theorem form_has {lo : Int} (hl : -1 ≤ lo) {p : Int} : ∀ {L : List Rng}, FormA lo L → has L p = true → lo < p
  | [], _, h => by cases h
  | r :: t, ⟨h1, h2, h3, h4⟩, h => by
    rw [has_cons, Bool.or_eq_true] at h
    rcases h with h | h
    · rw [inR_form hl h1 h2 h3] at h
      omega
    · have := form_has (lo := r.2) (by omega) h4 h
      omega
/-- Two lists in form with the same places are one. -/
theorem form_one {lo : Int} (hl : -1 ≤ lo) : ∀ {L M : List Rng}, FormA lo L → FormA lo M → (∀ p, has L p = has M p) → L = M
  | [], [], _, _, _ => rfl
  | [], m :: u, _, ⟨h1, h2, h3, _⟩, h => by
    have e := h m.1
    rw [has_cons, (inR_form hl h1 h2 h3).2 ⟨Int.le_refl _, h2⟩] at e
    cases e
  | l :: t, [], ⟨h1, h2, h3, _⟩, _, h => by
    have e := h l.1
    rw [has_cons, (inR_form hl h1 h2 h3).2 ⟨Int.le_refl _, h2⟩] at e
    cases e
  | l :: t, m :: u, ⟨h1, h2, h3, h4⟩, ⟨g1, g2, g3, g4⟩, h => by
    have low : ∀ {x y : Rng} {X Y : List Rng}, lo < x.1 → x.1 < x.2 → x.2 ≤ 1099511627776 → FormA x.2 X → lo < y.1 → y.1 < y.2 → y.2 ≤ 1099511627776 → FormA y.2 Y → (∀ p, has (x :: X) p = has (y :: Y) p) → y.1 ≤ x.1 := by
      intro x y X Y a1 a2 a3 a4 b1 b2 b3 b4 hh
      have e := hh x.1
      rw [has_cons, (inR_form hl a1 a2 a3).2 ⟨Int.le_refl _, a2⟩, Bool.true_or] at e
      have e := e.symm
      rw [has_cons, Bool.or_eq_true] at e
      rcases e with e | e
      · rw [inR_form hl b1 b2 b3] at e
        exact e.1
      · have := form_has (lo := y.2) (by omega) b4 e
        omega
    have e1 := low h1 h2 h3 h4 g1 g2 g3 g4 h
    have e2 := low g1 g2 g3 g4 h1 h2 h3 h4 (fun p => (h p).symm)
    have high : ∀ {x y : Rng} {X Y : List Rng}, lo < x.1 → x.1 < x.2 → x.2 ≤ 1099511627776 → FormA x.2 X → lo < y.1 → y.1 < y.2 → y.2 ≤ 1099511627776 → FormA y.2 Y → x.1 = y.1 → (∀ p, has (x :: X) p = has (y :: Y) p) → y.2 ≤ x.2 := by
      intro x y X Y a1 a2 a3 a4 b1 b2 b3 b4 exy hh
      by_cases hlt : x.2 < y.2
      · have e := hh x.2
        rw [has_cons y, (inR_form hl b1 b2 b3).2 ⟨by omega, hlt⟩, Bool.true_or, has_cons, Bool.or_eq_true] at e
        rcases e with e | e
        · rw [inR_form hl a1 a2 a3] at e
          omega
        · have := form_has (lo := x.2) (by omega) a4 e
          omega
      · omega
    have e3 : l.1 = m.1 := by omega
    have e4 := high h1 h2 h3 h4 g1 g2 g3 g4 e3 h
    have e5 := high g1 g2 g3 g4 h1 h2 h3 h4 e3.symm (fun p => (h p).symm)
    have e6 : l = m := Prod.ext e3 (by omega)
    subst e6
    congr 1
    refine form_one (lo := l.2) (by omega) h4 g4 fun p => ?_
    have e := h p
    rw [has_cons, has_cons] at e
    by_cases hp : l.2 < p
    · have hn : inR l p = false := by
        cases hb : inR l p with
        | false => rfl
        | true => rw [inR_form hl h1 h2 h3] at hb; omega
      rwa [hn, Bool.false_or, Bool.false_or] at e
    · have n : ∀ {X : List Rng}, FormA l.2 X → has X p = false := by
        intro X hX
        cases hb : has X p with
        | false => rfl
        | true => have := form_has (lo := l.2) (by omega) hX hb; omega
      rw [n h4, n g4]
theorem Form.one {L M : List Rng} (h : Form L) (g : Form M) (e : ∀ p, has L p = has M p) : L = M := form_one (by omega) h g e
/-- A range put behind a list in form; the last one made longer. -/
theorem formA_snoc {x y : Int} : ∀ {lo : Int} {L : List Rng}, FormA lo L → lo < x → (∀ r ∈ L, r.2 < x) → x < y → y ≤ 1099511627776 → FormA lo (L ++ [(x, y)])
  | _, [], _, h0, _, h1, h2 => ⟨h0, h1, h2, trivial⟩
  | _, r :: _, ⟨g1, g2, g3, g4⟩, _, h, h1, h2 => ⟨g1, g2, g3, formA_snoc g4 (h r (List.mem_cons_self ..)) (fun q hq => h q (List.mem_cons_of_mem _ hq)) h1 h2⟩
theorem formA_longer {x y z : Int} : ∀ {lo : Int} {L : List Rng}, FormA lo (L ++ [(x, y)]) → y < z → z ≤ 1099511627776 → FormA lo (L ++ [(x, z)])
  | lo, [], ⟨g1, g2, g3, _⟩, h1, h2 => ⟨g1, by show x < z; have : x < y := g2; omega, h2, trivial⟩
  | lo, r :: t, ⟨g1, g2, g3, g4⟩, h1, h2 => ⟨g1, g2, g3, formA_longer g4 h1 h2⟩
theorem formA_init {r : Rng} : ∀ {lo : Int} {L : List Rng}, FormA lo (L ++ [r]) → FormA lo L ∧ (∀ q ∈ L, q.2 < r.1) ∧ lo < r.1 ∧ r.1 < r.2 ∧ r.2 ≤ 1099511627776
  | lo, [], ⟨g1, g2, g3, _⟩ => ⟨trivial, fun _ h => by (cases h), g1, g2, g3⟩
  | lo, q :: t, ⟨g1, g2, g3, g4⟩ => by
    obtain ⟨h1, h2, h3, h4, h5⟩ := formA_init g4
    refine ⟨⟨g1, g2, g3, h1⟩, fun s hs => ?_, by omega, h4, h5⟩
    rcases List.mem_cons.1 hs with e | e
    · exact e ▸ h3
    · exact h2 s e
/-- How many places below n are so. -/
def cnt (f : Int → Bool) : Nat → Int
  | 0 => 0
  | n + 1 => cnt f n + (if f (n : Int) then 1 else 0)
theorem cnt_congr {f g : Int → Bool} (h : ∀ p, f p = g p) : ∀ n, cnt f n = cnt g n
  | 0 => rfl
  | n + 1 => by unfold cnt; rw [cnt_congr h n, h]
theorem cnt_two {f g : Int → Bool} : ∀ n, cnt (fun p => f p || g p) n + cnt (fun p => f p && g p) n = cnt f n + cnt g n
  | 0 => rfl
  | n + 1 => by
    have := cnt_two (f := f) (g := g) n
    unfold cnt
    cases f (n : Int) <;> cases g (n : Int) <;> simp <;> omega
theorem cnt_part {f g : Int → Bool} : ∀ n, cnt (fun p => f p && !g p) n + cnt (fun p => f p && g p) n = cnt f n
  | 0 => rfl
  | n + 1 => by
    have := cnt_part (f := f) (g := g) n
    unfold cnt
    cases f (n : Int) <;> cases g (n : Int) <;> simp <;> omega
theorem cnt_range {x y : Int} (h0 : 0 ≤ x) (h1 : x ≤ y) : ∀ n : Nat, cnt (fun p => decide (x ≤ p) && decide (p < y)) n = (if (n : Int) < x then 0 else if (n : Int) < y then n - x else y - x)
  | 0 => by
    unfold cnt
    repeat' split
    all_goals omega
  | n + 1 => by
    unfold cnt
    rw [cnt_range h0 h1 n]
    by_cases a : x ≤ (n : Int)
    · by_cases b : (n : Int) < y
      · rw [decide_eq_true a, decide_eq_true b, Bool.and_self, show (if true = true then (1 : Int) else 0) = 1 from rfl]
        repeat' split
        all_goals omega
      · rw [decide_eq_false b, Bool.and_false, show (if false = true then (1 : Int) else 0) = 0 from rfl]
        repeat' split
        all_goals omega
    · rw [decide_eq_false a, Bool.false_and, show (if false = true then (1 : Int) else 0) = 0 from rfl]
      repeat' split
      all_goals omega
/-- How many places a list in form has. -/
def sumF : List Rng → Int
  | [] => 0
  | r :: t => r.2 - r.1 + sumF t
theorem sumF_append : ∀ (L M : List Rng), sumF (L ++ M) = sumF L + sumF M
  | [], M => by simp [sumF]
  | r :: t, M => by
    show r.2 - r.1 + sumF (t ++ M) = r.2 - r.1 + sumF t + sumF M
    rw [sumF_append t M]
    omega
theorem cnt_none {f : Int → Bool} (h : ∀ p, f p = false) : ∀ n, cnt f n = 0
  | 0 => rfl
  | n + 1 => by unfold cnt; rw [cnt_none h n, h]; rfl
theorem sumF_cnt {lo : Int} (hl : -1 ≤ lo) : ∀ {L : List Rng}, FormA lo L → sumF L = cnt (has L) 1099511627776
  | [], _ => (cnt_none has_nil _).symm
  | r :: t, ⟨h1, h2, h3, h4⟩ => by
    have e := sumF_cnt (lo := r.2) (by omega) h4
    show r.2 - r.1 + sumF t = _
    rw [e]
    have e1 := cnt_two (f := inR r) (g := has t) 1099511627776
    have e2 : cnt (fun p => inR r p && has t p) 1099511627776 = 0 := cnt_none (fun p => by
      cases hb : inR r p with
      | false => rfl
      | true =>
        cases hc : has t p with
        | false => rfl
        | true =>
          rw [inR_form hl h1 h2 h3] at hb
          have := form_has (lo := r.2) (by omega) h4 hc
          omega) _
    have e3 : cnt (inR r) 1099511627776 = r.2 - r.1 := by
      have : ∀ p, inR r p = (decide (r.1 ≤ p) && decide (p < r.2)) := fun p => by unfold inR; rw [clp_id (by omega) (by omega), clp_id (by omega) h3]
      rw [cnt_congr this, cnt_range (by omega) (by omega)]
      rw [if_neg (by omega)]
      split <;> omega
    have e4 : cnt (has (r :: t)) 1099511627776 = cnt (fun p => inR r p || has t p) 1099511627776 := rfl
    omega
theorem Form.sum {L : List Rng} (h : Form L) : sumF L = cnt (has L) 1099511627776 := sumF_cnt (by omega) h
end Go.Proofs.Ytbgdphjjepbafaa
