/- Blanks and the columns that they make, in plain mathematics. -/
import Derived.Test.YtilpfngjiolmaaaDoorBase
namespace Go.Proofs.YtilpfngjiolmaaaDoor

/-- The column behind a byte, if it is a blank or a tab. -/
def nxC (b : Nat) (col size : Int) : Option Int := if b = 32 then some (col + 1) else if b = 9 then some ((col / size + 1) * size) else none
/-- From a place and a column on, over at most f bytes, as long as the column is at most e. -/
def goF (s : ByteArray) (size e : Int) : Nat → Nat → Int → Nat × Int
  | 0, a, c => (a, c)
  | f + 1, a, c => match nxC (bt s a) c size with
    | none => (a, c)
    | some d => if e < d then (a, c) else goF s size e f (a + 1) d
/-- Where Take comes to, and Indent. -/
def tkF (s : ByteArray) (a : Nat) (c e size : Int) : Nat × Int := goF s size e (s.size - a) a c
/-- A column that no line comes to. -/
def farC : Int := 2199023255552
def mayT (s : ByteArray) (a c size : Int) : Prop := 0 ≤ a ∧ a ≤ s.size ∧ 0 ≤ c ∧ c ≤ 1099511627776 ∧ 1 ≤ size ∧ size ≤ 64
instance (s : ByteArray) (a c size : Int) : Decidable (mayT s a c size) := by unfold mayT; infer_instance
def wantC (want : Int) : Int := if want < 0 then 0 else if 1099511627776 < want then 1099511627776 else want
def tkE (s : ByteArray) (a c want size : Int) : Int × Int := if mayT s a c size then (((tkF s a.toNat c (c + wantC want) size).1 : Nat), (tkF s a.toNat c (c + wantC want) size).2) else (0, 0)
def inE (s : ByteArray) (a c size : Int) : Int × Int := if mayT s a c size then (((tkF s a.toNat c farC size).1 : Nat), (tkF s a.toNat c farC size).2) else (0, 0)
theorem tab_next {c size : Int} (h1 : 1 ≤ size) : c < (c / size + 1) * size ∧ (c / size + 1) * size ≤ c + size ∧ (c / size + 1) * size % size = 0 := by
  have e1 := Int.emod_add_mul_ediv c size
  have e2 := Int.emod_nonneg c (show size ≠ 0 by omega)
  have e3 := Int.emod_lt_of_pos c (show 0 < size by omega)
  have e4 : (c / size + 1) * size = size * (c / size) + size := by rw [Int.add_mul, Int.one_mul, Int.mul_comm]
  refine ⟨by omega, by omega, Int.mul_emod_left _ _⟩
theorem nxC_up {b : Nat} {c size d : Int} (h1 : 1 ≤ size) (h2 : size ≤ 64) (h : nxC b c size = some d) : c < d ∧ d ≤ c + 64 ∧ (b = 32 ∨ b = 9) ∧ (b = 32 → d = c + 1) ∧ (b = 9 → d % size = 0) := by
  unfold nxC at h
  split at h
  · rename_i hb
    injection h with h
    exact ⟨by omega, by omega, .inl hb, fun _ => h.symm, fun e => by omega⟩
  · split at h
    · rename_i hb
      injection h with h
      obtain ⟨k1, k2, k3⟩ := tab_next h1
      rw [h] at k1 k2 k3
      exact ⟨k1, by omega, .inr hb, fun e => by omega, fun _ => k3⟩
    · cases h
theorem nxC_none {b : Nat} {c size : Int} (h : nxC b c size = none) : b ≠ 32 ∧ b ≠ 9 := by
  unfold nxC at h
  split at h
  · cases h
  · split at h
    · cases h
    · constructor <;> assumption
theorem nxC_some {b : Nat} {c size : Int} (h : b = 32 ∨ b = 9) : ∃ d, nxC b c size = some d := by
  unfold nxC
  by_cases h1 : b = 32
  · exact ⟨_, if_pos h1⟩
  · exact ⟨_, by rw [if_neg h1, if_pos (h.resolve_left h1)]⟩
/-- Why one stops ahead of a line's end. -/
def Stops (s : ByteArray) (size e : Int) (r : Nat × Int) : Prop := (bt s r.1 ≠ 32 ∧ bt s r.1 ≠ 9) ∨ ∃ d, nxC (bt s r.1) r.2 size = some d ∧ e < d
/-- What is told of where one comes to. -/
structure Came (s : ByteArray) (size e : Int) (a : Nat) (c : Int) (f : Nat) (r : Nat × Int) : Prop where
  lo : a ≤ r.1
  hi : r.1 ≤ a + f
  c0 : c ≤ r.2
  c1 : r.2 = c ∨ r.2 ≤ e
  far : r.2 ≤ c + 64 * (r.1 - a : Nat)
  stay : r.1 = a → r.2 = c
  tab : a < r.1 → bt s (r.1 - 1) = 9 → r.2 % size = 0
  stop : r.1 < a + f → Stops s size e r
theorem goF_came {s : ByteArray} {size e : Int} (h1 : 1 ≤ size) (h2 : size ≤ 64) : ∀ (f a : Nat) (c : Int), 0 ≤ c → Came s size e a c f (goF s size e f a c)
  | 0, a, c, _ => ⟨Nat.le_refl _, Nat.le_refl _, Int.le_refl _, Or.inl rfl, by show c ≤ c + 64 * ((a - a : Nat) : Int); omega, fun _ => rfl, fun h => absurd h (Nat.lt_irrefl _), fun h => absurd h (Nat.lt_irrefl _)⟩
  | f + 1, a, c, h0 => by
    unfold goF
    cases hn : nxC (bt s a) c size with
    | none => exact ⟨Nat.le_refl _, by show a ≤ _; omega, Int.le_refl _, Or.inl rfl, by show c ≤ c + 64 * ((a - a : Nat) : Int); omega, fun _ => rfl, fun h => absurd h (Nat.lt_irrefl _), fun _ => .inl (nxC_none hn)⟩
    | some d =>
      dsimp only
      by_cases he : e < d
      · rw [if_pos he]
        exact ⟨Nat.le_refl _, by show a ≤ _; omega, Int.le_refl _, Or.inl rfl, by show c ≤ c + 64 * ((a - a : Nat) : Int); omega, fun _ => rfl, fun h => absurd h (Nat.lt_irrefl _), fun _ => .inr ⟨d, hn, he⟩⟩
      · rw [if_neg he]
        obtain ⟨k1, k2, k3, k4, k5⟩ := nxC_up h1 h2 hn
        have ih := goF_came h1 h2 (s := s) (e := e) f (a + 1) d (by omega)
        obtain ⟨i1, i2, i3, i4, i5, i8, i6, i7⟩ := ih
        refine ⟨by omega, by omega, by omega, ?_, ?_, fun h => by omega, fun _ hb => ?_, fun h => i7 (by omega)⟩
        · rcases i4 with k | k
          · exact .inr (by omega)
          · exact .inr k
        · have hx : ∀ (x : Nat) (y : Int), a + 1 ≤ x → y ≤ d + 64 * ((x - (a + 1) : Nat) : Int) → y ≤ c + 64 * ((x - a : Nat) : Int) := fun x y g1 g2 => by omega
          exact hx _ _ i1 i5
        · generalize hr : goF s size e f (a + 1) d = r at *
          by_cases hlt : a + 1 < r.1
          · exact i6 hlt hb
          · have e1 : r.1 = a + 1 := by omega
            rw [e1, Nat.add_sub_cancel] at hb
            rw [i8 e1]
            exact k5 hb
/-- How far one may come does not matter where it is far enough. -/
theorem goF_far {s : ByteArray} {size e e' : Int} (h1 : 1 ≤ size) (h2 : size ≤ 64) : ∀ (f a : Nat) (c : Int), 0 ≤ c → c + 64 * f ≤ e → c + 64 * f ≤ e' → goF s size e f a c = goF s size e' f a c
  | 0, _, _, _, _, _ => rfl
  | f + 1, a, c, h0, k1, k2 => by
    unfold goF
    cases hn : nxC (bt s a) c size with
    | none => rfl
    | some d =>
      dsimp only
      obtain ⟨j1, j2, -⟩ := nxC_up h1 h2 hn
      have hf : ((f + 1 : Nat) : Int) = (f : Int) + 1 := by omega
      rw [if_neg (by omega), if_neg (by omega)]
      exact goF_far h1 h2 f (a + 1) d (by omega) (by omega) (by omega)
/-- From where one stopped one comes to where one comes from the beginning. -/
theorem goF_split {s : ByteArray} {size e e' : Int} (h1 : 1 ≤ size) (h2 : size ≤ 64) (he : e ≤ e') : ∀ (f a : Nat) (c : Int), 0 ≤ c → goF s size e' (a + f - (goF s size e f a c).1) (goF s size e f a c).1 (goF s size e f a c).2 = goF s size e' f a c
  | 0, a, c, _ => by
    show goF s size e' (a + 0 - a) a c = goF s size e' 0 a c
    rw [show a + 0 - a = 0 from by omega]
  | f + 1, a, c, h0 => by
    have stopA : goF s size e' (a + (f + 1) - a) a c = goF s size e' (f + 1) a c := by rw [show a + (f + 1) - a = f + 1 from by omega]
    cases hn : nxC (bt s a) c size with
    | none =>
      have hg : goF s size e (f + 1) a c = (a, c) := by unfold goF; rw [hn]
      rw [hg]
      exact stopA
    | some d =>
      by_cases hd : e < d
      · have hg : goF s size e (f + 1) a c = (a, c) := by unfold goF; rw [hn]; dsimp only; rw [if_pos hd]
        rw [hg]
        exact stopA
      · have hg : goF s size e (f + 1) a c = goF s size e f (a + 1) d := by
          show (match nxC (bt s a) c size with | none => (a, c) | some d => if e < d then (a, c) else goF s size e f (a + 1) d) = _
          rw [hn]; dsimp only; rw [if_neg hd]
        have hg' : goF s size e' (f + 1) a c = goF s size e' f (a + 1) d := by
          show (match nxC (bt s a) c size with | none => (a, c) | some d => if e' < d then (a, c) else goF s size e' f (a + 1) d) = _
          rw [hn]; dsimp only; rw [if_neg (by omega)]
        obtain ⟨j1, j2, -⟩ := nxC_up h1 h2 hn
        rw [hg, hg', show a + (f + 1) = a + 1 + f from by omega]
        exact goF_split h1 h2 he f (a + 1) d (by omega)
/-- One more step is taken where there is room for it. -/
theorem goF_more {s : ByteArray} {size e : Int} {f a : Nat} {c : Int} (h0 : 0 ≤ c) (h1 : 1 ≤ size) (h2 : size ≤ 64) (hf : 0 < f) (hb : bt s a = 32 ∨ bt s a = 9) (he : c + 64 ≤ e) : a < (goF s size e f a c).1 ∧ c < (goF s size e f a c).2 := by
  obtain ⟨g, rfl⟩ : ∃ g, f = g + 1 := ⟨f - 1, by omega⟩
  obtain ⟨d, hn⟩ := nxC_some (c := c) (size := size) hb
  obtain ⟨j1, j2, -⟩ := nxC_up h1 h2 hn
  have hg : goF s size e (g + 1) a c = goF s size e g (a + 1) d := by
    show (match nxC (bt s a) c size with | none => (a, c) | some d => if e < d then (a, c) else goF s size e g (a + 1) d) = _
    rw [hn]; dsimp only; rw [if_neg (by omega)]
  have hc := goF_came h1 h2 (s := s) (e := e) g (a + 1) d (by omega)
  rw [hg]
  exact ⟨hc.lo, Int.lt_of_lt_of_le j1 hc.c0⟩
end Go.Proofs.YtilpfngjiolmaaaDoor
