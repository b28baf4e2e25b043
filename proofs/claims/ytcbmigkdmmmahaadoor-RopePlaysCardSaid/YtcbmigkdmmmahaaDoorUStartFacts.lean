/- The program's Start, at every input: a step begins at a place just if no character reaches over it. -/
import Derived.Test.YtcbmigkdmmmahaaDoorUCount
namespace Go.Proofs.YtcbmigkdmmmahaaDoor
open Go.RowKit

/-- Some character that begins one to three bytes ahead of a reaches over a. -/
def Covers (s : ByteArray) (a b : Nat) : Prop := 1 ≤ b ∧ b ≤ 3 ∧ b ≤ a ∧ b < (dec s (a - b)).2
open Classical in
noncomputable def startS (s : ByteArray) (x : Int) : Bool := decide (0 ≤ x ∧ x ≤ s.size ∧ ∀ b, ¬ Covers s x.toNat b)
open Classical in
theorem startS_no {s : ByteArray} {x : Int} (h : ¬ (0 ≤ x ∧ x ≤ s.size)) : startS s x = false := by
  unfold startS; exact decide_eq_false fun h' => h ⟨h'.1, h'.2.1⟩
open Classical in
theorem startS_cov {s : ByteArray} {k b : Nat} (h : Covers s k b) : startS s k = false := by
  unfold startS; exact decide_eq_false fun h' => h'.2.2 b h
open Classical in
theorem startS_yes {s : ByteArray} {k : Nat} (hk : k ≤ s.size) (h : ∀ b, ¬ Covers s k b) : startS s k = true := by
  unfold startS; exact decide_eq_true ⟨by omega, by omega, h⟩

theorem lenI_back {s : ByteArray} {k b : Nat} (hk : k ≤ s.size) (h1 : 1 ≤ b) (h2 : b ≤ k) (L : Int) (ok : Bool) (hL : lenI s ((k : Int) - b) = L) (ho : okI s ((k : Int) - b) = ok) (h3 : b ≤ 3) :
    (ok = true ∧ (b : Int) < L) ↔ Covers s k b := by
  subst hL ho
  have e : ((k : Int) - b).toNat = k - b := by omega
  unfold lenI okI Covers
  rw [e, if_pos ⟨by omega, by omega⟩, decide_eq_true (⟨by omega, by omega⟩ : (0 : Int) ≤ (k : Int) - b ∧ (k : Int) - b < s.size), Bool.true_and, decide_eq_true_eq]
  constructor
  · rintro ⟨h4, h5⟩
    rw [if_pos h4] at h5
    exact ⟨h1, h3, h2, by omega⟩
  · rintro ⟨_, _, _, h5⟩
    have h4 : 0 < (dec s (k - b)).2 := by omega
    exact ⟨h4, by rw [if_pos h4]; omega⟩

def StartSays (s : ByteArray) (x : Int) (w : World) (e : Ending) (w' : World) : Prop := e = .returned (.bool (startS s x)) ∧ Up w w'
theorem startSays {s : ByteArray} {x : Int} {b : Bool} {w w' : World} {e : Ending} (h : startS s x = b) (he : e = .returned (.bool b)) (hu : Up w w') : StartSays s x w e w' := by
  unfold StartSays; rw [h]; exact ⟨he, hu⟩

end Go.Proofs.YtcbmigkdmmmahaaDoor
