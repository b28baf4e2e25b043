/- Where a list's places go when a text is edited: what the document says, and range by range. Nothing of the program stands here. -/
import Derived.Test.YtbgdphjjepbafaaSMath3
import Derived.Test.YtbgdphjjepbafaaEMath
namespace Go.Proofs.Ytbgdphjjepbafaa

/-- An edit whose numbers are in their bounds. -/
def EdIn (a : Int × Int × ByteArray) : Prop := 0 ≤ a.1 ∧ a.1 ≤ 1048576 ∧ 0 ≤ a.2.1 ∧ a.2.1 ≤ 1048576 ∧ (a.2.2.size : Int) ≤ 1048576
theorem mv_in {a : Int × Int × ByteArray} (h : EdIn a) {x : Int} (h0 : 0 ≤ x) (h1 : x ≤ 1099511627776) : mvP a x = if x < a.1 then x else if x < a.1 + a.2.1 then a.1 + a.2.2.size else x - a.2.1 + a.2.2.size := by
  obtain ⟨g1, g2, g3, g4, g5⟩ := h
  unfold mvP
  by_cases e : x < a.1
  · rw [if_pos (by omega), if_pos e]
  · rw [if_neg (by omega), if_neg e]
/-- Which places there are when the places of L have gone where the edit moves them. -/
def MvIn (L : List Rng) (a : Int × Int × ByteArray) (q : Int) : Prop :=
  (q < 1099511627776 ∧ ∃ x, has L x = true ∧ ¬ (a.1 ≤ x ∧ x < a.1 + a.2.1) ∧ mvP a x = q) ∨ (has L (a.1 - 1) = true ∧ has L (a.1 + a.2.1) = true ∧ a.1 ≤ q ∧ q < a.1 + a.2.2.size)
/-- A range gone: parted where the edit is put in. -/
def strad (a : Int × Int × ByteArray) (r : Rng) : Bool := decide (r.1 < a.1) && decide (a.1 < r.2)
def mvF (a : Int × Int × ByteArray) (r : Rng) : Int := if strad a r = true then a.1 else r.1
def mvR (a : Int × Int × ByteArray) (r : Rng) : List Rng := (if strad a r = true then [(r.1, a.1)] else []) ++ [(mvP a (mvF a r), mvP a (r.2 - 1) + 1)]
theorem mvR_has {a : Int × Int × ByteArray} (h : EdIn a) {r : Rng} (h1 : 0 ≤ r.1) (h2 : r.1 < r.2) (h3 : r.2 ≤ 1099511627776) (hno : ∀ x, r.1 ≤ x → x < r.2 → ¬ (a.1 ≤ x ∧ x < a.1 + a.2.1)) (q : Int) :
    has (mvR a r) q = true ↔ q < 1099511627776 ∧ ∃ x, r.1 ≤ x ∧ x < r.2 ∧ mvP a x = q := by
  obtain ⟨p, d, y⟩ := a
  obtain ⟨r1, r2⟩ := r
  have h' := h
  obtain ⟨g1, g2, g3, g4, g5⟩ := h
  simp only at g1 g2 g3 g4 g5 h1 h2 h3 hno
  have hz : 0 ≤ (y.size : Int) := Int.natCast_nonneg _
  have key : ∀ x, r1 ≤ x → x < r2 → mvP (p, d, y) x = if x < p then x else x - d + y.size := by
    intro x a1 a2
    rw [mv_in h' (by omega) (by omega)]
    simp only
    have := hno x a1 a2
    by_cases e : x < p
    · rw [if_pos e, if_pos e]
    · rw [if_neg e, if_neg e, if_neg (by omega)]
  unfold mvR mvF strad
  by_cases s : r1 < p ∧ p < r2
  · have hd : d = 0 := by
      have := hno p (by omega) s.2
      omega
    simp only [s.1, s.2, decide_true, Bool.and_self, if_true]
    rw [key p (by omega) s.2, if_neg (by omega), key (r2 - 1) (by omega) (by omega), if_neg (by omega)]
    rw [has_append, has_cons, has_cons, has_nil, Bool.or_false, Bool.or_false, Bool.or_eq_true, inR_iff, inR_iff]
    simp only
    rw [clp_id (x := r1) (by omega) (by omega), clp_id (x := p) (by omega) (by omega), clp_id (x := p - d + y.size) (by omega) (by omega)]
    have hc : clp (r2 - 1 - d + y.size + 1) = if 1099511627776 < r2 - 1 - d + y.size + 1 then 1099511627776 else r2 - 1 - d + y.size + 1 := by
      unfold clp
      rw [if_neg (by omega)]
    rw [hc]
    constructor
    · rintro (e | e)
      · exact ⟨by omega, q, by omega, by omega, by rw [key q (by omega) (by omega), if_pos (by omega)]⟩
      · have e2 := e.2
        have : q < 1099511627776 ∧ q < r2 - 1 - d + y.size + 1 := by split at e2 <;> omega
        exact ⟨this.1, q - y.size, by omega, by omega, by rw [key _ (by omega) (by omega), if_neg (by omega)]; omega⟩
    · rintro ⟨e1, x, e2, e3, e4⟩
      rw [key x e2 e3] at e4
      split at e4
      · exact .inl (by omega)
      · refine .inr ⟨by omega, ?_⟩
        split <;> omega
  · have hs : (decide (r1 < p) && decide (p < r2)) = false := by
      cases hb : (decide (r1 < p) && decide (p < r2)) with
      | false => rfl
      | true =>
        rw [Bool.and_eq_true, decide_eq_true_iff, decide_eq_true_iff] at hb
        exact absurd hb s
    simp only [hs, Bool.false_eq_true, if_false, List.nil_append]
    rw [key r1 (by omega) h2, key (r2 - 1) (by omega) (by omega), has_cons, has_nil, Bool.or_false, inR_iff]
    simp only
    by_cases e : r1 < p
    · rw [if_pos e, if_pos (by omega), clp_id (x := r1) (by omega) (by omega), clp_id (x := r2 - 1 + 1) (by omega) (by omega)]
      constructor
      · intro e1
        exact ⟨by omega, q, by omega, by omega, by rw [key q (by omega) (by omega), if_pos (by omega)]⟩
      · rintro ⟨e1, x, e2, e3, e4⟩
        rw [key x e2 e3, if_pos (by omega)] at e4
        omega
    · rw [if_neg e, if_neg (by omega)]
      have hp : p + d ≤ r1 := by
        have := hno r1 (by omega) h2
        omega
      have hc : ∀ t : Int, 0 ≤ t → clp t = if 1099511627776 < t then 1099511627776 else t := by
        intro t ht
        unfold clp
        rw [if_neg (by omega)]
      rw [hc _ (by omega), hc _ (by omega)]
      constructor
      · rintro ⟨e1, e2⟩
        have e5 : q < 1099511627776 ∧ q < r2 - 1 - d + y.size + 1 ∧ r1 - d + y.size ≤ q := by
          split at e1 <;> split at e2 <;> omega
        exact ⟨e5.1, q + d - y.size, by omega, by omega, by rw [key _ (by omega) (by omega), if_neg (by omega)]; omega⟩
      · rintro ⟨e1, x, e2, e3, e4⟩
        rw [key x e2 e3, if_neg (by omega)] at e4
        constructor <;> split <;> omega
/-- Ranges that are left, gone one by one, and what is put in between. -/
def mvL (a : Int × Int × ByteArray) (F : List Rng) : List Rng := F.flatMap (mvR a)
def gap (L : List Rng) (a : Int × Int × ByteArray) : List Rng := if (has L (a.1 - 1) && has L (a.1 + a.2.1)) = true then [(a.1, a.1 + a.2.2.size)] else []
theorem formA_mem {lo : Int} : ∀ {F : List Rng}, -1 ≤ lo → FormA lo F → ∀ r ∈ F, 0 ≤ r.1 ∧ r.1 < r.2 ∧ r.2 ≤ 1099511627776
  | [], _, _, r, hr => by cases hr
  | q :: t, hl, ⟨h1, h2, h3, h4⟩, r, hr => by
    rcases List.mem_cons.1 hr with e | e
    · subst e
      exact ⟨by omega, h2, h3⟩
    · exact formA_mem (lo := q.2) (by omega) h4 r e
theorem mvL_has {L F : List Rng} {a : Int × Int × ByteArray} (h : EdIn a) (hf : Form F) (hF : ∀ x, has F x = hasB 1 L [(a.1, a.1 + a.2.1)] x) (q : Int) : has (mvL a F ++ gap L a) q = true ↔ MvIn L a q := by
  have h' := h
  obtain ⟨g1, g2, g3, g4, g5⟩ := h
  have hz : 0 ≤ (a.2.2.size : Int) := Int.natCast_nonneg _
  have hone : ∀ x, has [((a.1, a.1 + a.2.1) : Rng)] x = (decide (a.1 ≤ x) && decide (x < a.1 + a.2.1)) := by
    intro x
    rw [has_cons, has_nil, Bool.or_false]
    unfold inR
    simp only
    rw [clp_id (by omega) (by omega), clp_id (by omega) (by omega)]
  have hFx : ∀ x, has F x = true ↔ has L x = true ∧ ¬ (a.1 ≤ x ∧ x < a.1 + a.2.1) := by
    intro x
    rw [hF x]
    unfold hasB keepB
    rw [if_neg (by decide), if_pos rfl, hone, Bool.and_eq_true, Bool.not_eq_true', Bool.and_eq_false_iff, decide_eq_false_iff_not, decide_eq_false_iff_not]
    constructor
    · rintro ⟨e1, e2⟩
      exact ⟨e1, by omega⟩
    · rintro ⟨e1, e2⟩
      exact ⟨e1, by omega⟩
  have hin : ∀ r ∈ F, ∀ x, r.1 ≤ x → x < r.2 → has F x = true := by
    intro r hr x e1 e2
    obtain ⟨b1, b2, b3⟩ := formA_mem (by omega) hf r hr
    unfold has
    rw [List.any_eq_true]
    exact ⟨r, hr, inR_iff.2 (by rw [clp_id b1 (by omega), clp_id (by omega) b3]; exact ⟨e1, e2⟩)⟩
  have hno : ∀ r ∈ F, ∀ x, r.1 ≤ x → x < r.2 → ¬ (a.1 ≤ x ∧ x < a.1 + a.2.1) := fun r hr x e1 e2 => ((hFx x).1 (hin r hr x e1 e2)).2
  have hfm : has (mvL a F) q = true ↔ q < 1099511627776 ∧ ∃ x, has F x = true ∧ mvP a x = q := by
    unfold mvL has
    rw [List.any_eq_true]
    constructor
    · rintro ⟨s, hs, h2⟩
      obtain ⟨r, hr, hsr⟩ := List.mem_flatMap.1 hs
      obtain ⟨b1, b2, b3⟩ := formA_mem (by omega) hf r hr
      have : has (mvR a r) q = true := by
        unfold has
        rw [List.any_eq_true]
        exact ⟨s, hsr, h2⟩
      obtain ⟨e1, x, e2, e3, e4⟩ := (mvR_has h' b1 b2 b3 (hno r hr) q).1 this
      exact ⟨e1, x, hin r hr x e2 e3, e4⟩
    · rintro ⟨e1, x, e2, e3⟩
      have e2' := e2
      rw [List.any_eq_true] at e2'
      obtain ⟨r, hr, h2⟩ := e2'
      obtain ⟨b1, b2, b3⟩ := formA_mem (by omega) hf r hr
      rw [inR_iff, clp_id b1 (by omega), clp_id (by omega) b3] at h2
      have := (mvR_has h' b1 b2 b3 (hno r hr) q).2 ⟨e1, x, h2.1, h2.2, e3⟩
      unfold has at this
      rw [List.any_eq_true] at this
      obtain ⟨s, hs, h4⟩ := this
      exact ⟨s, List.mem_flatMap.2 ⟨r, hr, hs⟩, h4⟩
  rw [has_append, Bool.or_eq_true, hfm]
  unfold MvIn gap
  have hgap : has (if (has L (a.1 - 1) && has L (a.1 + a.2.1)) = true then [((a.1, a.1 + a.2.2.size) : Rng)] else []) q = true ↔ has L (a.1 - 1) = true ∧ has L (a.1 + a.2.1) = true ∧ a.1 ≤ q ∧ q < a.1 + a.2.2.size := by
    by_cases e : (has L (a.1 - 1) && has L (a.1 + a.2.1)) = true
    · rw [if_pos e, has_cons, has_nil, Bool.or_false, inR_iff, clp_id (by omega) (by omega), clp_id (by show 0 ≤ a.1 + (a.2.2.size : Int); omega) (by show a.1 + (a.2.2.size : Int) ≤ _; omega)]
      rw [Bool.and_eq_true] at e
      exact ⟨fun x => ⟨e.1, e.2, x.1, x.2⟩, fun x => ⟨x.2.2.1, x.2.2.2⟩⟩
    · rw [if_neg e, has_nil]
      constructor
      · intro x; cases x
      · rintro ⟨x1, x2, -⟩
        exact absurd (by rw [x1, x2]; rfl) e
  rw [hgap]
  constructor
  · rintro (⟨e1, x, e2, e3⟩ | e)
    · exact .inl ⟨e1, x, ((hFx x).1 e2).1, ((hFx x).1 e2).2, e3⟩
    · exact .inr e
  · rintro (⟨e1, x, e2, e3, e4⟩ | e)
    · exact .inl ⟨e1, x, (hFx x).2 ⟨e2, e3⟩, e4⟩
    · exact .inr e
/-- A place that is not taken away is among those that have gone, where it goes, just if it was one. -/
theorem mvIn_at {L : List Rng} {a : Int × Int × ByteArray} (h : EdIn a) {x : Int} (h0 : 0 ≤ x) (h1 : x ≤ 549755813888) (hx : ¬ (a.1 ≤ x ∧ x < a.1 + a.2.1)) : MvIn L a (mvP a x) ↔ has L x = true := by
  have h' := h
  obtain ⟨g1, g2, g3, g4, g5⟩ := h
  have hz : 0 ≤ (a.2.2.size : Int) := Int.natCast_nonneg _
  have e0 := mv_in h' (x := x) h0 (by omega)
  constructor
  · rintro (⟨-, y, e1, e2, e3⟩ | ⟨-, -, e1, e2⟩)
    · have hy := has_lt e1
      rw [mv_in h' hy.1 (by omega), e0] at e3
      have : y = x := by
        by_cases b1 : y < a.1
        · rw [if_pos b1] at e3
          by_cases b2 : x < a.1
          · rw [if_pos b2] at e3; exact e3
          · rw [if_neg b2, if_neg (by omega)] at e3; omega
        · rw [if_neg b1, if_neg (by omega)] at e3
          by_cases b2 : x < a.1
          · rw [if_pos b2] at e3; omega
          · rw [if_neg b2, if_neg (by omega)] at e3; omega
      rw [← this]
      exact e1
    · rw [e0] at e1 e2
      by_cases b2 : x < a.1
      · rw [if_pos b2] at e1 e2; omega
      · rw [if_neg b2, if_neg (by omega)] at e1 e2; omega
  · intro e
    refine .inl ⟨?_, x, e, hx, rfl⟩
    rw [e0]
    split
    · omega
    · split <;> omega
end Go.Proofs.Ytbgdphjjepbafaa
