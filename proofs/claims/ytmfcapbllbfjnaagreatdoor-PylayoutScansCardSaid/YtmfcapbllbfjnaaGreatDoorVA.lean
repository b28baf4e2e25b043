/- Blanks and the columns that they make, in plain mathematics. What follows of blanks and columns: taken in pieces. The document's May, Take, Indent. The document's Blank and End. What the statements ask of the program's blanks and columns; the known line. -/
import Derived.Test.YtmfcapbllbfjnaaGreatDoorBase
import Derived.Deep.LoopGhost
import Derived.Deep.QuietTactic
import Derived.Lib.Hide
namespace Go.Proofs.YtmfcapbllbfjnaaGreatDoor

/-- The column behind a byte, if it is a blank or a tab. -/
def nxC (b : Nat) (col size : Int) : Option Int := if b = 32 then some (col + 1) else if b = 9 then some ((col / size + 1) * size) else none
/-- From a place and a column on, over at most f bytes, as long as the column is at most e. -/
def goF (s : ByteArray) (size e : Int) : Nat → Nat → Int → Nat × Int
  | 0, a, c => (a, c)
  | f + 1, a, c => match nxC (bt s a) c size with
    | none => (a, c)
    | some d => if e < d then (a, c) else goF s size e f (a + 1) d
/-- Where Take comes to, and Indent. -/
def tkF (s : ByteArray) (a : Nat) (c e size : Int) : Nat × Int := goF s size e (s.size - a) a c
/-- A column that no line comes to. -/
def farC : Int := 2199023255552
def mayT (s : ByteArray) (a c size : Int) : Prop := 0 ≤ a ∧ a ≤ s.size ∧ 0 ≤ c ∧ c ≤ 1099511627776 ∧ 1 ≤ size ∧ size ≤ 64
instance (s : ByteArray) (a c size : Int) : Decidable (mayT s a c size) := by unfold mayT; infer_instance
def wantC (want : Int) : Int := if want < 0 then 0 else if 1099511627776 < want then 1099511627776 else want
def tkE (s : ByteArray) (a c want size : Int) : Int × Int := if mayT s a c size then (((tkF s a.toNat c (c + wantC want) size).1 : Nat), (tkF s a.toNat c (c + wantC want) size).2) else (0, 0)
def inE (s : ByteArray) (a c size : Int) : Int × Int := if mayT s a c size then (((tkF s a.toNat c farC size).1 : Nat), (tkF s a.toNat c farC size).2) else (0, 0)
theorem tab_next {c size : Int} (h1 : 1 ≤ size) : c < (c / size + 1) * size ∧ (c / size + 1) * size ≤ c + size ∧ (c / size + 1) * size % size = 0 := by
  have e1 := Int.emod_add_mul_ediv c size
  have e2 := Int.emod_nonneg c (show size ≠ 0 by omega)
  have e3 := Int.emod_lt_of_pos c (show 0 < size by omega)
  have e4 : (c / size + 1) * size = size * (c / size) + size := by rw [Int.add_mul, Int.one_mul, Int.mul_comm]
  refine ⟨by omega, by omega, Int.mul_emod_left _ _⟩
theorem nxC_up {b : Nat} {c size d : Int} (h1 : 1 ≤ size) (h2 : size ≤ 64) (h : nxC b c size = some d) : c < d ∧ d ≤ c + 64 ∧ (b = 32 ∨ b = 9) ∧ (b = 32 → d = c + 1) ∧ (b = 9 → d % size = 0) := by
  unfold nxC at h
  split at h
  · rename_i hb
    injection h with h
    exact ⟨by omega, by omega, .inl hb, fun _ => h.symm, fun e => by omega⟩
  · split at h
    · rename_i hb
      injection h with h
      obtain ⟨k1, k2, k3⟩ := tab_next h1
      rw [h] at k1 k2 k3
      exact ⟨k1, by omega, .inr hb, fun e => by omega, fun _ => k3⟩
    · cases h
theorem nxC_none {b : Nat} {c size : Int} (h : nxC b c size = none) : b ≠ 32 ∧ b ≠ 9 := by
  unfold nxC at h
  split at h
  · cases h
  · split at h
    · cases h
    · constructor <;> assumption
theorem nxC_some {b : Nat} {c size : Int} (h : b = 32 ∨ b = 9) : ∃ d, nxC b c size = some d := by
  unfold nxC
  by_cases h1 : b = 32
  · exact ⟨_, if_pos h1⟩
  · exact ⟨_, by rw [if_neg h1, if_pos (h.resolve_left h1)]⟩
/-- Why one stops ahead of a line's end. -/
def Stops (s : ByteArray) (size e : Int) (r : Nat × Int) : Prop := (bt s r.1 ≠ 32 ∧ bt s r.1 ≠ 9) ∨ ∃ d, nxC (bt s r.1) r.2 size = some d ∧ e < d
/-- What is told of where one comes to. -/
structure Came (s : ByteArray) (size e : Int) (a : Nat) (c : Int) (f : Nat) (r : Nat × Int) : Prop where
  lo : a ≤ r.1
  hi : r.1 ≤ a + f
  c0 : c ≤ r.2
  c1 : r.2 = c ∨ r.2 ≤ e
  far : r.2 ≤ c + 64 * (r.1 - a : Nat)
  stay : r.1 = a → r.2 = c
  tab : a < r.1 → bt s (r.1 - 1) = 9 → r.2 % size = 0
  stop : r.1 < a + f → Stops s size e r
theorem goF_came {s : ByteArray} {size e : Int} (h1 : 1 ≤ size) (h2 : size ≤ 64) : ∀ (f a : Nat) (c : Int), 0 ≤ c → Came s size e a c f (goF s size e f a c)
  | 0, a, c, _ => ⟨Nat.le_refl _, Nat.le_refl _, Int.le_refl _, Or.inl rfl, by show c ≤ c + 64 * ((a - a : Nat) : Int); omega, fun _ => rfl, fun h => absurd h (Nat.lt_irrefl _), fun h => absurd h (Nat.lt_irrefl _)⟩
  | f + 1, a, c, h0 => by
    unfold goF
    cases hn : nxC (bt s a) c size with
    | none => exact ⟨Nat.le_refl _, by show a ≤ _; omega, Int.le_refl _, Or.inl rfl, by show c ≤ c + 64 * ((a - a : Nat) : Int); omega, fun _ => rfl, fun h => absurd h (Nat.lt_irrefl _), fun _ => .inl (nxC_none hn)⟩
    | some d =>
      dsimp only
      by_cases he : e < d
      · rw [if_pos he]
        exact ⟨Nat.le_refl _, by show a ≤ _; omega, Int.le_refl _, Or.inl rfl, by show c ≤ c + 64 * ((a - a : Nat) : Int); omega, fun _ => rfl, fun h => absurd h (Nat.lt_irrefl _), fun _ => .inr ⟨d, hn, he⟩⟩
      · rw [if_neg he]
        obtain ⟨k1, k2, k3, k4, k5⟩ := nxC_up h1 h2 hn
        have ih := goF_came h1 h2 (s := s) (e := e) f (a + 1) d (by omega)
        obtain ⟨i1, i2, i3, i4, i5, i8, i6, i7⟩ := ih
        refine ⟨by omega, by omega, by omega, ?_, ?_, fun h => by omega, fun _ hb => ?_, fun h => i7 (by omega)⟩
        · rcases i4 with k | k
          · exact .inr (by omega)
          · exact .inr k
        · have hx : ∀ (x : Nat) (y : Int), a + 1 ≤ x → y ≤ d + 64 * ((x - (a + 1) : Nat) : Int) → y ≤ c + 64 * ((x - a : Nat) : Int) := fun x y g1 g2 => by omega
          exact hx _ _ i1 i5
        · generalize hr : goF s size e f (a + 1) d = r at *
          by_cases hlt : a + 1 < r.1
          · exact i6 hlt hb
          · have e1 : r.1 = a + 1 := by omega
            rw [e1, Nat.add_sub_cancel] at hb
            rw [i8 e1]
            exact k5 hb
/-- How far one may come does not matter where it is far enough. -/
theorem goF_far {s : ByteArray} {size e e' : Int} (h1 : 1 ≤ size) (h2 : size ≤ 64) : ∀ (f a : Nat) (c : Int), 0 ≤ c → c + 64 * f ≤ e → c + 64 * f ≤ e' → goF s size e f a c = goF s size e' f a c
  | 0, _, _, _, _, _ => rfl
  | f + 1, a, c, h0, k1, k2 => by
    unfold goF
    cases hn : nxC (bt s a) c size with
    | none => rfl
    | some d =>
      dsimp only
      obtain ⟨j1, j2, -⟩ := nxC_up h1 h2 hn
      have hf : ((f + 1 : Nat) : Int) = (f : Int) + 1 := by omega
      rw [if_neg (by omega), if_neg (by omega)]
      exact goF_far h1 h2 f (a + 1) d (by omega) (by omega) (by omega)
/-- From where one stopped one comes to where one comes from the beginning. -/
theorem goF_split {s : ByteArray} {size e e' : Int} (h1 : 1 ≤ size) (h2 : size ≤ 64) (he : e ≤ e') : ∀ (f a : Nat) (c : Int), 0 ≤ c → goF s size e' (a + f - (goF s size e f a c).1) (goF s size e f a c).1 (goF s size e f a c).2 = goF s size e' f a c
  | 0, a, c, _ => by
    show goF s size e' (a + 0 - a) a c = goF s size e' 0 a c
    rw [show a + 0 - a = 0 from by omega]
  | f + 1, a, c, h0 => by
    have stopA : goF s size e' (a + (f + 1) - a) a c = goF s size e' (f + 1) a c := by rw [show a + (f + 1) - a = f + 1 from by omega]
    cases hn : nxC (bt s a) c size with
    | none =>
      have hg : goF s size e (f + 1) a c = (a, c) := by unfold goF; rw [hn]
      rw [hg]
      exact stopA
    | some d =>
      by_cases hd : e < d
      · have hg : goF s size e (f + 1) a c = (a, c) := by unfold goF; rw [hn]; dsimp only; rw [if_pos hd]
        rw [hg]
        exact stopA
      · have hg : goF s size e (f + 1) a c = goF s size e f (a + 1) d := by
          show (match nxC (bt s a) c size with | none => (a, c) | some d => if e < d then (a, c) else goF s size e f (a + 1) d) = _
          rw [hn]; dsimp only; rw [if_neg hd]
        have hg' : goF s size e' (f + 1) a c = goF s size e' f (a + 1) d := by
          show (match nxC (bt s a) c size with | none => (a, c) | some d => if e' < d then (a, c) else goF s size e' f (a + 1) d) = _
          rw [hn]; dsimp only; rw [if_neg (by omega)]
        obtain ⟨j1, j2, -⟩ := nxC_up h1 h2 hn
        rw [hg, hg', show a + (f + 1) = a + 1 + f from by omega]
        exact goF_split h1 h2 he f (a + 1) d (by omega)
/-- One more step is taken where there is room for it. -/
theorem goF_more {s : ByteArray} {size e : Int} {f a : Nat} {c : Int} (h0 : 0 ≤ c) (h1 : 1 ≤ size) (h2 : size ≤ 64) (hf : 0 < f) (hb : bt s a = 32 ∨ bt s a = 9) (he : c + 64 ≤ e) : a < (goF s size e f a c).1 ∧ c < (goF s size e f a c).2 := by
  obtain ⟨g, rfl⟩ : ∃ g, f = g + 1 := ⟨f - 1, by omega⟩
  obtain ⟨d, hn⟩ := nxC_some (c := c) (size := size) hb
  obtain ⟨j1, j2, -⟩ := nxC_up h1 h2 hn
  have hg : goF s size e (g + 1) a c = goF s size e g (a + 1) d := by
    show (match nxC (bt s a) c size with | none => (a, c) | some d => if e < d then (a, c) else goF s size e g (a + 1) d) = _
    rw [hn]; dsimp only; rw [if_neg (by omega)]
  have hc := goF_came h1 h2 (s := s) (e := e) g (a + 1) d (by omega)
  rw [hg]
  exact ⟨hc.lo, Int.lt_of_lt_of_le j1 hc.c0⟩
end Go.Proofs.YtmfcapbllbfjnaaGreatDoor

namespace Go.Proofs.YtmfcapbllbfjnaaGreatDoor

theorem goF_stuck {s : ByteArray} {size e c : Int} {a : Nat} (h1 : bt s a ≠ 32) (h2 : bt s a ≠ 9) : ∀ f, goF s size e f a c = (a, c)
  | 0 => rfl
  | f + 1 => by
    have hnn : nxC (bt s a) c size = none := by
      unfold nxC
      rw [if_neg h1, if_neg h2]
    unfold goF
    rw [hnn]
theorem tk_came {s : ByteArray} {a : Nat} {c e size : Int} {r : Nat × Int} (h1 : 1 ≤ size) (h2 : size ≤ 64) (h0 : 0 ≤ c) (h : tkF s a c e size = r) : Came s size e a c (s.size - a) r := h ▸ goF_came h1 h2 _ _ _ h0
theorem tk_on {s : ByteArray} {a M : Nat} {c e e' size C : Int} (h1 : 1 ≤ size) (h2 : size ≤ 64) (h0 : 0 ≤ c) (ha : a ≤ s.size) (he : e ≤ e') (h : tkF s a c e size = (M, C)) : tkF s M C e' size = tkF s a c e' size := by
  have := goF_split (s := s) h1 h2 he (s.size - a) a c h0
  rw [show goF s size e (s.size - a) a c = (M, C) from h, show a + (s.size - a) = s.size from by omega] at this
  exact this
theorem tk_blank {s : ByteArray} {M E : Nat} {C La e size : Int} (h : tkF s M C e size = (E, La)) (hlt : M < E) : bt s M = 32 ∨ bt s M = 9 := by
  by_cases g : bt s M = 32 ∨ bt s M = 9
  · exact g
  · exfalso
    have := goF_stuck (s := s) (size := size) (e := e) (c := C) (fun k => g (.inl k)) (fun k => g (.inr k)) (s.size - M)
    rw [show goF s size e (s.size - M) M C = (E, La) from h] at this
    have h2 : E = M := congrArg Prod.fst this
    omega
theorem stops_far {s : ByteArray} {size e L : Int} {E : Nat} (h1 : 1 ≤ size) (h2 : size ≤ 64) (h : Stops s size e (E, L)) (hl : L + 64 ≤ e) : bt s E ≠ 32 ∧ bt s E ≠ 9 := by
  rcases h with k | ⟨d, hd, hlt⟩
  · exact k
  · obtain ⟨j1, j2, -⟩ := nxC_up h1 h2 hd
    exact absurd hlt (Int.not_lt.2 (Int.le_trans j2 hl))
theorem stops_near {s : ByteArray} {size e C : Int} {M : Nat} (h1 : 1 ≤ size) (h2 : size ≤ 64) (h : Stops s size e (M, C)) (hb : bt s M = 32) : e ≤ C := by
  rcases h with k | ⟨d, hd, hlt⟩
  · exact absurd hb k.1
  · obtain ⟨j1, j2, j3, j4, j5⟩ := nxC_up h1 h2 hd
    have := j4 hb
    have : e < C + 1 := by rw [← this]; exact hlt
    omega
/-- What TabWhole asks of where one comes to. -/
structure Whole (s : ByteArray) (a : Nat) (col want size : Int) (E M : Nat) (La C : Int) : Prop where
  m0 : a ≤ M
  m1 : M ≤ E
  e1 : E ≤ s.size
  c0 : col ≤ C
  c1 : C ≤ col + want
  l0 : C ≤ La
  l1 : La ≤ col + 4194304
  all : tkF s a col (col + 1099511627776) size = (E, La)
  on : tkF s M C farC size = (E, La)
  at_ : M < E → (bt s M = 32 ∨ bt s M = 9) ∧ (bt s M = 32 → col + want ≤ C)
  tab : a < M → bt s (M - 1) = 9 → C % size = 0
  fin : E < s.size → bt s E ≠ 32 ∧ bt s E ≠ 9
  more : ∀ c, 0 ≤ c → M < E → M < (tkF s M c (c + 1048576) size).1 ∧ c < (tkF s M c (c + 1048576) size).2
theorem whole_facts {s : ByteArray} {a : Nat} {col want size : Int} {E M : Nat} {La C : Int} (hn : (s.size : Int) ≤ 65536) (ha : a ≤ s.size) (hc0 : 0 ≤ col) (hc1 : col ≤ 1099511627776) (h1 : 1 ≤ size) (h2 : size ≤ 64) (hw : 0 ≤ want) (hw1 : want ≤ 1073741824)
    (hE : tkF s a col farC size = (E, La)) (hM : tkF s a col (col + want) size = (M, C)) : Whole s a col want size E M La C := by
  have hfar : farC = 2199023255552 := rfl
  obtain ⟨e1, e2, e3, e4, e5, -, e7, e8⟩ := tk_came h1 h2 hc0 hE
  obtain ⟨m1, m2, m3, m4, m5, -, m7, m8⟩ := tk_came h1 h2 hc0 hM
  dsimp only at e1 e2 e3 e4 e5 m1 m2 m3 m4 m5
  have hsp : tkF s M C farC size = (E, La) := (tk_on h1 h2 hc0 ha (by omega) hM).trans hE
  have hC0 : 0 ≤ C := Int.le_trans hc0 m3
  obtain ⟨s1, s2, s3, -, -, -, -, -⟩ := tk_came h1 h2 hC0 hsp
  dsimp only at s1 s2 s3
  have q1 : C ≤ col + want := by omega
  have q2 : La ≤ col + 4194304 := by omega
  have q3 : E ≤ s.size := by omega
  have hall : tkF s a col (col + 1099511627776) size = (E, La) := by
    refine Eq.trans ?_ hE
    exact goF_far h1 h2 (s.size - a) a col hc0 (by omega) (by omega)
  clear e4 e5 m4 m5 s2
  refine ⟨m1, s1, q3, m3, q1, s3, q2, hall, hsp, fun hlt => ⟨tk_blank hsp hlt, fun hb => stops_near h1 h2 (m8 ?_) hb⟩, m7, fun hlt => stops_far h1 h2 (e8 ?_) ?_, fun c hc hlt => ?_⟩
  · show M < a + (s.size - a)
    omega
  · show E < a + (s.size - a)
    omega
  · omega
  · exact goF_more (e := c + 1048576) (f := s.size - M) hc h1 h2 (by omega) (tk_blank hsp hlt) (by omega)
end Go.Proofs.YtmfcapbllbfjnaaGreatDoor

namespace Go.Proofs.YtmfcapbllbfjnaaGreatDoor
open Go.RowKit

abbrev I64v (x : Int) : Prop := -9223372036854775808 ≤ x ∧ x ≤ 9223372036854775807
set_option maxRecDepth 100000 in
set_option maxHeartbeats 2000000 in
theorem may_any (s : ByteArray) (a c size : Int) (w : World) : Calls Tryz.prog 30 #[.string s, .int .i64 a, .int .i64 c, .int .i64 size] w fun e w' => e = .returned (.bool (decide (mayT s a c size))) ∧ w = w' := by
  obtain ⟨Z, hZ⟩ : ∃ Z : Int, (s.size : Int) = Z := ⟨_, rfl⟩
  have hE : decide (mayT s a c size) = decide (0 ≤ a ∧ a ≤ Z ∧ 0 ≤ c ∧ c ≤ 1099511627776 ∧ 1 ≤ size ∧ size ≤ 64) := by unfold mayT; simp only [hZ]
  rw [hE]
  clear hE
  by_cases h0 : 0 ≤ a
  case neg =>
    have g : decide (0 ≤ a) = false := decide_eq_false h0
    rw [decide_eq_false (show ¬ _ by omega)]
    clear h0 
    go_enter Tryz.func30, Tryz.ntmps30
    go_wp2
    go_ret
    exact ⟨rfl, rfl⟩
  have f0 : decide (0 ≤ a) = true := decide_eq_true h0
  by_cases h1 : a ≤ Z
  case neg =>
    have g : decide (a ≤ Z) = false := decide_eq_false h1
    rw [decide_eq_false (show ¬ _ by omega)]
    clear h1 h0
    go_enter Tryz.func30, Tryz.ntmps30
    go_wp2
    go_ret
    exact ⟨rfl, rfl⟩
  have f1 : decide (a ≤ Z) = true := decide_eq_true h1
  by_cases h2 : 0 ≤ c
  case neg =>
    have g : decide (0 ≤ c) = false := decide_eq_false h2
    rw [decide_eq_false (show ¬ _ by omega)]
    clear h2 h0 h1
    go_enter Tryz.func30, Tryz.ntmps30
    go_wp2
    go_ret
    exact ⟨rfl, rfl⟩
  have f2 : decide (0 ≤ c) = true := decide_eq_true h2
  by_cases h3 : c ≤ 1099511627776
  case neg =>
    have g : decide (c ≤ 1099511627776) = false := decide_eq_false h3
    rw [decide_eq_false (show ¬ _ by omega)]
    clear h3 h0 h1 h2
    go_enter Tryz.func30, Tryz.ntmps30
    go_wp2
    go_ret
    exact ⟨rfl, rfl⟩
  have f3 : decide (c ≤ 1099511627776) = true := decide_eq_true h3
  by_cases h4 : 1 ≤ size
  case neg =>
    have g : decide (1 ≤ size) = false := decide_eq_false h4
    rw [decide_eq_false (show ¬ _ by omega)]
    clear h4 h0 h1 h2 h3
    go_enter Tryz.func30, Tryz.ntmps30
    go_wp2
    go_ret
    exact ⟨rfl, rfl⟩
  have f4 : decide (1 ≤ size) = true := decide_eq_true h4
  by_cases h5 : size ≤ 64
  case neg =>
    have g : decide (size ≤ 64) = false := decide_eq_false h5
    rw [decide_eq_false (show ¬ _ by omega)]
    clear h5 h0 h1 h2 h3 h4
    go_enter Tryz.func30, Tryz.ntmps30
    go_wp2
    go_ret
    exact ⟨rfl, rfl⟩
  have f5 : decide (size ≤ 64) = true := decide_eq_true h5
  rw [decide_eq_true (show _ by exact ⟨h0, h1, h2, h3, h4, h5⟩)]
  clear h0 h1 h2 h3 h4 h5
  go_enter Tryz.func30, Tryz.ntmps30
  go_wp2
  go_ret
  exact ⟨rfl, rfl⟩
theorem goF_zero {s : ByteArray} {size e c : Int} {p : Nat} (h : s.size ≤ p) : goF s size e (s.size - p) p c = (p, c) := by
  rw [show s.size - p = 0 from by omega]
  rfl
theorem goF_step {s : ByteArray} {size e c d : Int} {p : Nat} (h : p < s.size) (hn : nxC (bt s p) c size = some d) (he : ¬ e < d) : goF s size e (s.size - p) p c = goF s size e (s.size - (p + 1)) (p + 1) d := by
  rw [show s.size - p = (s.size - (p + 1)) + 1 from by omega]
  show (match nxC (bt s p) c size with | none => (p, c) | some d => if e < d then (p, c) else goF s size e (s.size - (p + 1)) (p + 1) d) = _
  rw [hn]
  dsimp only
  rw [if_neg he]
theorem goF_over {s : ByteArray} {size e c d : Int} {p : Nat} (h : p < s.size) (hn : nxC (bt s p) c size = some d) (he : e < d) : goF s size e (s.size - p) p c = (p, c) := by
  rw [show s.size - p = (s.size - (p + 1)) + 1 from by omega]
  show (match nxC (bt s p) c size with | none => (p, c) | some d => if e < d then (p, c) else goF s size e (s.size - (p + 1)) (p + 1) d) = _
  rw [hn]
  dsimp only
  rw [if_pos he]
theorem nxC_sp {x : Nat} {c size : Int} (h : x = 32) : nxC x c size = some (c + 1) := by unfold nxC; rw [if_pos h]
theorem nxC_tb {x : Nat} {c size : Int} (h : x = 9) : nxC x c size = some ((c / size + 1) * size) := by unfold nxC; rw [if_neg (by omega), if_pos h]
set_option maxRecDepth 100000 in
set_option maxHeartbeats 2000000 in
theorem refIndent_loop (s : ByteArray) (a : Nat) (c size : Int) (w : World) (hs : (s.size : Int) ≤ 65536) (ha : a ≤ s.size) (hc0 : 0 ≤ c) (hc1 : c ≤ 1099511627776) (h1 : 1 ≤ size) (h2 : size ≤ 64) :
    Calls Tryz.prog 17 #[.string s, .int .i64 (a : Nat), .int .i64 c, .int .i64 size] w fun en w' => en = .returned (.tuple #[.int .i64 ((tkF s a c farC size).1 : Nat), .int .i64 (tkF s a c farC size).2]) ∧ w = w' := by
  have HM := Lib.hid (fun W => may_any s (a : Int) c size W)
  have hmay : mayT s (a : Int) c size := ⟨by omega, by omega, hc0, hc1, h1, h2⟩
  rw [decide_eq_true hmay] at HM
  have HS := Lib.hid hs
  have H1 := Lib.hid (And.intro h1 h2)
  obtain ⟨P, hP⟩ : ∃ P, (tkF s a c farC size).1 = P := ⟨_, rfl⟩
  obtain ⟨Q, hQ⟩ : ∃ Q, (tkF s a c farC size).2 = Q := ⟨_, rfl⟩
  rw [hP, hQ]
  have HT := Lib.hid (show goF s size farC (s.size - a) a c = (P, Q) by rw [← hP, ← hQ]; rfl)
  have HC := Lib.hid (show 0 ≤ c ∧ c ≤ 1099511627776 + 64 * (a : Int) by omega)
  have HA := Lib.hid ha
  have hz : ¬ size = 0 := by omega
  clear hmay hP hQ hs ha hc0 hc1
  go_enter Tryz.func17, Tryz.ntmps17
  go_wp2_with (go_at_call 30; ((with_reducible refine (HM.out _).mono ?_); rintro e1 w1 ⟨rfl, rfl⟩))
  go_loopg [1, 2] (s.size - a) (fun g av cv wr => w = wr ∧ ∃ (p : Nat) (q : Int), g = s.size - p ∧ av = .int .i64 (p : Nat) ∧ cv = .int .i64 q ∧ Hid (p ≤ s.size) ∧ Hid (0 ≤ q ∧ q ≤ 1099511627776 + 64 * (p : Int)) ∧ Hid (goF s size farC (s.size - p) p q = (P, Q)))
  case atStart => exact ⟨rfl, a, c, rfl, rfl, rfl, HA, HC, HT⟩
  case round =>
    obtain ⟨rfl, p, q, hg, rfl, rfl, HPs, HQs, HR⟩ := hrel
    have HG := Lib.hid hg
    clear hg
    have hfar : farC = 2199023255552 := rfl
    by_cases hlt : p < s.size
    · obtain ⟨x, hx⟩ : ∃ x, s[p].toNat = x := ⟨_, rfl⟩
      have hbx : bt s p = x := by rw [← bt_eq hlt]; exact hx
      have hpp : (p : Int) < s.size := by omega
      have hp0 : (0 : Int) ≤ p := by omega
      have hq := HQs.out
      have hss := HS.out
      have h12 := H1.out
      have e2 : IntKind.i64.wrap ((p : Int) + 1) = (p : Int) + 1 := IntWalk.i64_in _ (by omega)
      by_cases h32 : x = 32
      · subst h32
        have hn : nxC (bt s p) q size = some (q + 1) := nxC_sp hbx
        have e1 : IntKind.i64.wrap (q + 1) = q + 1 := IntWalk.i64_in _ (by omega)
        have HR2 := Lib.hid ((goF_step hlt hn (by omega)).symm.trans HR.out)
        have HQ2 := Lib.hid (show 0 ≤ q + 1 ∧ q + 1 ≤ 1099511627776 + 64 * ((p + 1 : Nat) : Int) by omega)
        have HP2 := Lib.hid (show p + 1 ≤ s.size from hlt)
        have HLt := Lib.hid hlt
        clear hbx hn hq hss h12 hfar
        go_wp2
        go_roundg (s.size - (p + 1))
        case measure => rw [HG.out]; have := HLt.out; omega
        case rel => exact ⟨rfl, p + 1, q + 1, rfl, by go_num, rfl, HP2, HQ2, HR2⟩
      · have f32 : ((x : Int) == 32) = false := beq_false_of_ne (by omega)
        by_cases h9 : x = 9
        · subst h9
          have hn : nxC (bt s p) q size = some ((q / size + 1) * size) := nxC_tb hbx
          obtain ⟨j1, j2, -⟩ := nxC_up h12.1 h12.2 hn
          obtain ⟨d, hd⟩ : ∃ d, (q / size + 1) * size = d := ⟨_, rfl⟩
          have hqs : 0 ≤ q / size ∧ q / size ≤ q := ⟨Int.ediv_nonneg hq.1 (by omega), Int.ediv_le_self _ hq.1⟩
          have e3 : IntKind.i64.wrap (q / size + 1) = q / size + 1 := IntWalk.i64_in _ (by omega)
          rw [hd] at hn j1 j2
          have e4 : IntKind.i64.wrap ((q / size + 1) * size) = d := by rw [hd]; exact IntWalk.i64_in _ (by omega)
          have e5 : Int.tdiv q size = q / size := Int.tdiv_eq_ediv_of_nonneg hq.1
          have e6 : IntKind.i64.wrap (q / size) = q / size := IntWalk.i64_in _ (by omega)
          have HR2 := Lib.hid ((goF_step hlt hn (by omega)).symm.trans HR.out)
          have HQ2 := Lib.hid (show 0 ≤ d ∧ d ≤ 1099511627776 + 64 * ((p + 1 : Nat) : Int) by omega)
          have HP2 := Lib.hid (show p + 1 ≤ s.size from hlt)
          have HLt := Lib.hid hlt
          clear hd hbx hn hq hss h12 hqs j1 j2 hfar
          go_wp2
          go_roundg (s.size - (p + 1))
          case measure => rw [HG.out]; have := HLt.out; omega
          case rel => exact ⟨rfl, p + 1, d, rfl, by go_num, rfl, HP2, HQ2, HR2⟩
        · have f9 : ((x : Int) == 9) = false := beq_false_of_ne (by omega)
          have hR := HR.out
          have hst := goF_stuck (s := s) (size := size) (e := farC) (c := q) (a := p) (by rw [hbx]; exact h32) (by rw [hbx]; exact h9) (s.size - p)
          rw [hst] at hR
          injection hR with k1 k2
          subst k1 k2
          clear hbx hq hss h12 hst hfar
          go_wp2
          go_ret2
          exact ⟨rfl, rfl⟩
    · have hR := HR.out
      rw [goF_zero (by omega)] at hR
      injection hR with k1 k2
      subst k1 k2
      have f0 : decide (p < s.size) = false := decide_eq_false hlt
      clear hlt hfar
      go_wp2
      go_ret2
      exact ⟨rfl, rfl⟩
set_option maxRecDepth 100000 in
set_option maxHeartbeats 2000000 in
theorem refIndent_not (s : ByteArray) (a c size : Int) (w : World) (h : ¬ mayT s a c size) : Calls Tryz.prog 17 #[.string s, .int .i64 a, .int .i64 c, .int .i64 size] w fun en w' => en = .returned (.tuple #[.int .i64 0, .int .i64 0]) ∧ w = w' := by
  have HM := Lib.hid (fun W => may_any s a c size W)
  rw [decide_eq_false h] at HM
  clear h
  go_enter Tryz.func17, Tryz.ntmps17
  go_wp2_with (go_at_call 30; ((with_reducible refine (HM.out _).mono ?_); rintro e1 w1 ⟨rfl, rfl⟩))
  go_ret2
  exact ⟨rfl, rfl⟩
theorem refIndent_any (s : ByteArray) (a c size : Int) (w : World) (hs : (s.size : Int) ≤ 65536) : Calls Tryz.prog 17 #[.string s, .int .i64 a, .int .i64 c, .int .i64 size] w fun en w' => en = .returned (.tuple #[.int .i64 (inE s a c size).1, .int .i64 (inE s a c size).2]) ∧ w = w' := by
  unfold inE
  by_cases h : mayT s a c size
  · rw [if_pos h]
    obtain ⟨h0, h1, h2, h3, h4, h5⟩ := h
    obtain ⟨k, rfl⟩ : ∃ k : Nat, a = (k : Int) := ⟨a.toNat, by omega⟩
    rw [Int.toNat_natCast]
    exact refIndent_loop s k c size w hs (by omega) h2 h3 h4 h5
  · rw [if_neg h]
    exact refIndent_not s a c size w h
end Go.Proofs.YtmfcapbllbfjnaaGreatDoor

namespace Go.Proofs.YtmfcapbllbfjnaaGreatDoor
open Go.RowKit

def wh (b : Nat) : Bool := decide ((9 ≤ b ∧ b ≤ 13) ∨ b = 32)
/-- Nothing but blanks stands from p on. -/
def blF (s : ByteArray) : Nat → Nat → Bool
  | 0, _ => true
  | f + 1, p => if wh (bt s p) = true then blF s f (p + 1) else false
def blankE (s : ByteArray) (a : Int) : Bool := if 0 ≤ a ∧ a ≤ s.size then blF s (s.size - a.toNat) a.toNat else false
def endE (s : ByteArray) : Nat := if s.size = 0 ∨ bt s (s.size - 1) ≠ 10 then s.size else if 1 < s.size ∧ bt s (s.size - 2) = 13 then s.size - 2 else s.size - 1
theorem blF_zero {s : ByteArray} {p : Nat} (h : s.size ≤ p) : blF s (s.size - p) p = true := by
  rw [show s.size - p = 0 from by omega]
  rfl
theorem blF_step {s : ByteArray} {p : Nat} (h : p < s.size) : blF s (s.size - p) p = if wh (bt s p) = true then blF s (s.size - (p + 1)) (p + 1) else false := by
  rw [show s.size - p = (s.size - (p + 1)) + 1 from by omega]
  rfl
end Go.Proofs.YtmfcapbllbfjnaaGreatDoor

namespace Go.Proofs.YtmfcapbllbfjnaaGreatDoor
open Go.RowKit

end Go.Proofs.YtmfcapbllbfjnaaGreatDoor
