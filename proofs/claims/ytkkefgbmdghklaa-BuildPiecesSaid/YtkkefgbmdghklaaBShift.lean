/- Events in pieces, their places counted from elsewhere: in plain words. Nothing of the program stands here. -/
import Derived.Test.YtkkefgbmdghklaaBMath
namespace Go.Proofs.Ytkkefgbmdghklaa

/-- An event, its places moved. -/
def shiftE (d : Int) (e : Ev) : Ev := (e.1, e.2.1, e.2.2.1 + d, if e.1 = 3 then e.2.2.2 + d else e.2.2.2)
theorem askE_shift {far at_ d : Int} {o : Nat} {e : Ev} : askE far o (at_ - d) (shiftE d e) = askE far o at_ e := by
  unfold askE shiftE
  dsimp only
  have c1 : (e.2.2.1 + d < far - (at_ - d) ∨ 1048576 - (at_ - d) < e.2.2.1 + d) ↔ (e.2.2.1 < far - at_ ∨ 1048576 - at_ < e.2.2.1) := by omega
  have c2 : (e.1 = 3 ∧ ((if e.1 = 3 then e.2.2.2 + d else e.2.2.2) < e.2.2.1 + d ∨ 1048576 - (at_ - d) < (if e.1 = 3 then e.2.2.2 + d else e.2.2.2))) ↔ (e.1 = 3 ∧ (e.2.2.2 < e.2.2.1 ∨ 1048576 - at_ < e.2.2.2)) := by
    by_cases h : e.1 = 3
    · rw [if_pos h]; omega
    · exact ⟨fun k => absurd k.1 h, fun k => absurd k.1 h⟩
  simp only [c1, c2]
theorem farE_shift {at_ d : Int} {e : Ev} : farE (at_ - d) (shiftE d e) = farE at_ e := by
  unfold farE shiftE
  dsimp only
  by_cases h3 : e.1 = 3
  · rw [if_pos h3, if_pos h3, if_pos h3]; omega
  · rw [if_neg h3, if_neg h3]; omega
theorem doE_shift {at_ d : Int} {b : Bs} {e : Ev} (h : e.1 = 1 ∨ e.1 = 2 ∨ e.1 = 3) : doE (at_ - d) b (shiftE d e) = doE at_ b e := by
  have h1 : at_ - d + (e.2.2.1 + d) = at_ + e.2.2.1 := by omega
  unfold doE shiftE
  dsimp only
  rw [h1]
  by_cases c1 : e.1 = 1
  · rw [if_pos c1, if_pos c1]
  rw [if_neg c1, if_neg c1]
  by_cases c2 : e.1 = 2
  · rw [if_pos c2, if_pos c2]
  rw [if_neg c2, if_neg c2]
  have c3 : e.1 = 3 := by omega
  rw [if_pos c3, show at_ - d + (e.2.2.2 + d) = at_ + e.2.2.2 from by omega]
theorem asks_shift {at_ d : Int} : ∀ {L : List Ev} {far : Int} {o : Nat}, asks (at_ - d) far o (L.map (shiftE d)) = asks at_ far o L
  | [], _, _ => rfl
  | e :: t, far, o => by
    rw [List.map_cons, asks, asks, askE_shift, farE_shift]
    have ho : opnE o (shiftE d e) = opnE o e := rfl
    rw [ho, asks_shift]
theorem dos_shift {at_ d : Int} : ∀ {L : List Ev} {b : Bs}, asks at_ b.far b.O.length L = 0 → dos (at_ - d) b (L.map (shiftE d)) = dos at_ b L
  | [], _, _ => rfl
  | e :: t, b, h => by
    obtain ⟨h1, h2⟩ := asks_cons h
    show dos (at_ - d) (doE (at_ - d) b (shiftE d e)) (t.map (shiftE d)) = dos at_ (doE at_ b e) t
    rw [doE_shift (askE_ok h1).1]
    exact dos_shift h2
theorem asks_split {at_ : Int} : ∀ {L M : List Ev} {b : Bs}, asks at_ b.far b.O.length (L ++ M) = 0 → asks at_ b.far b.O.length L = 0 ∧ asks at_ (dos at_ b L).far (dos at_ b L).O.length M = 0
  | [], _, _, h => ⟨rfl, h⟩
  | e :: t, M, b, h => by
    obtain ⟨h1, h2⟩ := asks_cons (t := t ++ M) h
    obtain ⟨h3, h4⟩ := asks_split h2
    refine ⟨?_, h4⟩
    rw [asks, if_pos h1, ← doE_far (askE_ok h1).1, ← doE_opn (askE_ok h1).1]
    exact h3
theorem dos_split {at_ : Int} {L M : List Ev} {b : Bs} : dos at_ b (L ++ M) = dos at_ (dos at_ b L) M := by unfold dos; rw [List.foldl_append]
/-- What may be put has its places where no sum goes round. -/
theorem asks_in {at_ : Int} (ha : 0 ≤ at_ ∧ at_ ≤ 1048576) : ∀ {L : List Ev} {b : Bs}, 0 ≤ b.far → asks at_ b.far b.O.length L = 0 → ∀ e ∈ L, -1048576 ≤ e.2.2.1 ∧ e.2.2.1 ≤ 1048576 ∧ (e.1 = 3 → -1048576 ≤ e.2.2.2 ∧ e.2.2.2 ≤ 1048576)
  | [], _, _, _ => fun e h => by cases h
  | x :: t, b, hb, h => by
    obtain ⟨h1, h2⟩ := asks_cons h
    obtain ⟨k1, k2, k3, k4, -⟩ := askE_ok h1
    intro e he
    rcases List.mem_cons.1 he with rfl | he
    · refine ⟨by omega, by omega, fun e3 => ?_⟩
      have := k4 e3
      omega
    · refine asks_in ha (b := doE at_ b x) ?_ h2 e he
      rw [doE_far k1]
      unfold farE
      split
      · rename_i e3; have := k4 e3; omega
      · omega
end Go.Proofs.Ytkkefgbmdghklaa
