/- What follows of blanks and columns: taken in pieces. -/
import Derived.Test.YtilpfngjiolmaaaDoorVMath
namespace Go.Proofs.YtilpfngjiolmaaaDoor

theorem goF_stuck {s : ByteArray} {size e c : Int} {a : Nat} (h1 : bt s a ≠ 32) (h2 : bt s a ≠ 9) : ∀ f, goF s size e f a c = (a, c)
  | 0 => rfl
  | f + 1 => by
    have hnn : nxC (bt s a) c size = none := by
      unfold nxC
      rw [if_neg h1, if_neg h2]
    unfold goF
    rw [hnn]
theorem tk_came {s : ByteArray} {a : Nat} {c e size : Int} {r : Nat × Int} (h1 : 1 ≤ size) (h2 : size ≤ 64) (h0 : 0 ≤ c) (h : tkF s a c e size = r) : Came s size e a c (s.size - a) r := h ▸ goF_came h1 h2 _ _ _ h0
theorem tk_on {s : ByteArray} {a M : Nat} {c e e' size C : Int} (h1 : 1 ≤ size) (h2 : size ≤ 64) (h0 : 0 ≤ c) (ha : a ≤ s.size) (he : e ≤ e') (h : tkF s a c e size = (M, C)) : tkF s M C e' size = tkF s a c e' size := by
  have := goF_split (s := s) h1 h2 he (s.size - a) a c h0
  rw [show goF s size e (s.size - a) a c = (M, C) from h, show a + (s.size - a) = s.size from by omega] at this
  exact this
theorem tk_blank {s : ByteArray} {M E : Nat} {C La e size : Int} (h : tkF s M C e size = (E, La)) (hlt : M < E) : bt s M = 32 ∨ bt s M = 9 := by
  by_cases g : bt s M = 32 ∨ bt s M = 9
  · exact g
  · exfalso
    have := goF_stuck (s := s) (size := size) (e := e) (c := C) (fun k => g (.inl k)) (fun k => g (.inr k)) (s.size - M)
    rw [show goF s size e (s.size - M) M C = (E, La) from h] at this
    have h2 : E = M := congrArg Prod.fst this
    omega
theorem stops_far {s : ByteArray} {size e L : Int} {E : Nat} (h1 : 1 ≤ size) (h2 : size ≤ 64) (h : Stops s size e (E, L)) (hl : L + 64 ≤ e) : bt s E ≠ 32 ∧ bt s E ≠ 9 := by
  rcases h with k | ⟨d, hd, hlt⟩
  · exact k
  · obtain ⟨j1, j2, -⟩ := nxC_up h1 h2 hd
    exact absurd hlt (Int.not_lt.2 (Int.le_trans j2 hl))
theorem stops_near {s : ByteArray} {size e C : Int} {M : Nat} (h1 : 1 ≤ size) (h2 : size ≤ 64) (h : Stops s size e (M, C)) (hb : bt s M = 32) : e ≤ C := by
  rcases h with k | ⟨d, hd, hlt⟩
  · exact absurd hb k.1
  · obtain ⟨j1, j2, j3, j4, j5⟩ := nxC_up h1 h2 hd
    have := j4 hb
    have : e < C + 1 := by rw [← this]; exact hlt
    omega
/-- What TabWhole asks of where one comes to. -/
structure Whole (s : ByteArray) (a : Nat) (col want size : Int) (E M : Nat) (La C : Int) : Prop where
  m0 : a ≤ M
  m1 : M ≤ E
  e1 : E ≤ s.size
  c0 : col ≤ C
  c1 : C ≤ col + want
  l0 : C ≤ La
  l1 : La ≤ col + 4194304
  all : tkF s a col (col + 1099511627776) size = (E, La)
  on : tkF s M C farC size = (E, La)
  at_ : M < E → (bt s M = 32 ∨ bt s M = 9) ∧ (bt s M = 32 → col + want ≤ C)
  tab : a < M → bt s (M - 1) = 9 → C % size = 0
  fin : E < s.size → bt s E ≠ 32 ∧ bt s E ≠ 9
  more : ∀ c, 0 ≤ c → M < E → M < (tkF s M c (c + 1048576) size).1 ∧ c < (tkF s M c (c + 1048576) size).2
theorem whole_facts {s : ByteArray} {a : Nat} {col want size : Int} {E M : Nat} {La C : Int} (hn : (s.size : Int) ≤ 65536) (ha : a ≤ s.size) (hc0 : 0 ≤ col) (hc1 : col ≤ 1099511627776) (h1 : 1 ≤ size) (h2 : size ≤ 64) (hw : 0 ≤ want) (hw1 : want ≤ 1073741824)
    (hE : tkF s a col farC size = (E, La)) (hM : tkF s a col (col + want) size = (M, C)) : Whole s a col want size E M La C := by
  have hfar : farC = 2199023255552 := rfl
  obtain ⟨e1, e2, e3, e4, e5, -, e7, e8⟩ := tk_came h1 h2 hc0 hE
  obtain ⟨m1, m2, m3, m4, m5, -, m7, m8⟩ := tk_came h1 h2 hc0 hM
  dsimp only at e1 e2 e3 e4 e5 m1 m2 m3 m4 m5
  have hsp : tkF s M C farC size = (E, La) := (tk_on h1 h2 hc0 ha (by omega) hM).trans hE
  have hC0 : 0 ≤ C := Int.le_trans hc0 m3
  obtain ⟨s1, s2, s3, -, -, -, -, -⟩ := tk_came h1 h2 hC0 hsp
  dsimp only at s1 s2 s3
  have q1 : C ≤ col + want := by omega
  have q2 : La ≤ col + 4194304 := by omega
  have q3 : E ≤ s.size := by omega
  have hall : tkF s a col (col + 1099511627776) size = (E, La) := by
    refine Eq.trans ?_ hE
    exact goF_far h1 h2 (s.size - a) a col hc0 (by omega) (by omega)
  clear e4 e5 m4 m5 s2
  refine ⟨m1, s1, q3, m3, q1, s3, q2, hall, hsp, fun hlt => ⟨tk_blank hsp hlt, fun hb => stops_near h1 h2 (m8 ?_) hb⟩, m7, fun hlt => stops_far h1 h2 (e8 ?_) ?_, fun c hc hlt => ?_⟩
  · show M < a + (s.size - a)
    omega
  · show E < a + (s.size - a)
    omega
  · omega
  · exact goF_more (e := c + 1048576) (f := s.size - M) hc h1 h2 (by omega) (tk_blank hsp hlt) (by omega)
end Go.Proofs.YtilpfngjiolmaaaDoor
