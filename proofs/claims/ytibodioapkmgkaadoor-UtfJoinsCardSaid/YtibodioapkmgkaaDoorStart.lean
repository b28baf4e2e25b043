/- The program's Start, at every input: a step begins at a place just if no character reaches over it. -/
import Derived.Test.YtibodioapkmgkaaDoorValid
namespace Go.Proofs.YtibodioapkmgkaaDoor
open Go.RowKit

/-- Some character that begins one to three bytes ahead of a reaches over a. -/
def Covers (s : ByteArray) (a b : Nat) : Prop := 1 ≤ b ∧ b ≤ 3 ∧ b ≤ a ∧ b < (dec s (a - b)).2
open Classical in
noncomputable def startS (s : ByteArray) (x : Int) : Bool := decide (0 ≤ x ∧ x ≤ s.size ∧ ∀ b, ¬ Covers s x.toNat b)
open Classical in
theorem startS_no {s : ByteArray} {x : Int} (h : ¬ (0 ≤ x ∧ x ≤ s.size)) : startS s x = false := by
  unfold startS; exact decide_eq_false fun h' => h ⟨h'.1, h'.2.1⟩
open Classical in
theorem startS_cov {s : ByteArray} {k b : Nat} (h : Covers s k b) : startS s k = false := by
  unfold startS; exact decide_eq_false fun h' => h'.2.2 b h
open Classical in
theorem startS_yes {s : ByteArray} {k : Nat} (hk : k ≤ s.size) (h : ∀ b, ¬ Covers s k b) : startS s k = true := by
  unfold startS; exact decide_eq_true ⟨by omega, by omega, h⟩

theorem lenI_back {s : ByteArray} {k b : Nat} (hk : k ≤ s.size) (h1 : 1 ≤ b) (h2 : b ≤ k) (L : Int) (ok : Bool) (hL : lenI s ((k : Int) - b) = L) (ho : okI s ((k : Int) - b) = ok) (h3 : b ≤ 3) :
    (ok = true ∧ (b : Int) < L) ↔ Covers s k b := by
  subst hL ho
  have e : ((k : Int) - b).toNat = k - b := by omega
  unfold lenI okI Covers
  rw [e, if_pos ⟨by omega, by omega⟩, decide_eq_true (⟨by omega, by omega⟩ : (0 : Int) ≤ (k : Int) - b ∧ (k : Int) - b < s.size), Bool.true_and, decide_eq_true_eq]
  constructor
  · rintro ⟨h4, h5⟩
    rw [if_pos h4] at h5
    exact ⟨h1, h3, h2, by omega⟩
  · rintro ⟨_, _, _, h5⟩
    have h4 : 0 < (dec s (k - b)).2 := by omega
    exact ⟨h4, by rw [if_pos h4]; omega⟩

def StartSays (s : ByteArray) (x : Int) (w : World) (e : Ending) (w' : World) : Prop := e = .returned (.bool (startS s x)) ∧ Up w w'
theorem startSays {s : ByteArray} {x : Int} {b : Bool} {w w' : World} {e : Ending} (h : startS s x = b) (he : e = .returned (.bool b)) (hu : Up w w') : StartSays s x w e w' := by
  unfold StartSays; rw [h]; exact ⟨he, hu⟩

set_option maxRecDepth 100000 in
set_option maxHeartbeats 1000000 in
theorem start_any (s : ByteArray) (x : Int) (hs : s.size ≤ maxLen) (w : World) (ht : Tabs w) :
    Calls Tryd.prog 16 #[.string s, .int .i64 x] w (StartSays s x w) := by
  have hs' := hs
  unfold maxLen at hs'
  by_cases h : 0 ≤ x ∧ x ≤ s.size
  · obtain ⟨k, rfl⟩ := Int.eq_ofNat_of_zero_le h.1
    have hk : k ≤ s.size := by omega
    have hk0 : decide ((k : Int) < 0) = false := by simp
    have hk1 : decide (s.size < k) = false := by simp; omega
    clear h
    go_enter Tryd.func16, Tryd.ntmps16
    go_wp2
    go_loopw [5] (fun v wr => ∃ b : Nat, 1 ≤ b ∧ b ≤ 4 ∧ v = .int .i64 b ∧ Hid (∀ c, c < b → ¬ Covers s k c) ∧ Up w wr ∧ Tabs wr)
      (fun v _ => 4 - (intOf v).toNat)
    case atStart => exact ⟨1, by omega, by omega, rfl, Lib.hid fun c h1 h2 => by have := h2.1; omega, Up.refl _, ht⟩
    case round =>
      obtain ⟨b, hb1, hb2, rfl, hno, hu, htr⟩ := hrel
      by_cases hgo : b < 4 ∧ b ≤ k
      · obtain ⟨hb3, hbk⟩ := hgo
        have hlen := len_any s ((k : Int) - b) hs wr htr
        unfold LenSays at hlen
        obtain ⟨L, hL⟩ : ∃ L, lenI s ((k : Int) - b) = L := ⟨_, rfl⟩
        obtain ⟨ok, hok⟩ : ∃ ok, okI s ((k : Int) - b) = ok := ⟨_, rfl⟩
        have hiff := lenI_back hk hb1 hbk L ok hL hok (by omega)
        rw [hL, hok] at hlen
        have Hiff := Lib.hid hiff
        have Hlen := Lib.hid hlen
        clear hiff hlen hL hok
        cases ok with
        | false =>
          go_wp2_with (go_at_call 9; refine (Hlen.out).mono ?_; rintro e w1 ⟨rfl, hu1⟩; have ht1 := htr.up hu1)
          go_roundw
          case rel => exact ⟨b + 1, by omega, by omega, by go_num, Lib.hid fun c h1 h2 => by
            by_cases e : c = b
            · subst e; exact absurd (Hiff.out.2 h2).1 (by simp)
            · exact hno.out c (by omega) h2, hu.trans hu1, ht1⟩
          case measure => simp [intOf]; omega
        | true =>
          by_cases hLb : (b : Int) < L
          · have Hcov := Lib.hid (startS_cov (Hiff.out.1 ⟨rfl, hLb⟩))
            go_wp2_with (go_at_call 9; refine (Hlen.out).mono ?_; rintro e w1 ⟨rfl, hu1⟩; have ht1 := htr.up hu1)
            go_ret
            exact startSays Hcov.out rfl (hu.trans hu1)
          · go_wp2_with (go_at_call 9; refine (Hlen.out).mono ?_; rintro e w1 ⟨rfl, hu1⟩; have ht1 := htr.up hu1)
            go_roundw
            case rel => exact ⟨b + 1, by omega, by omega, by go_num, Lib.hid fun c h1 h2 => by
              by_cases e : c = b
              · subst e; exact absurd (Hiff.out.2 h2).2 (by omega)
              · exact hno.out c (by omega) h2, hu.trans hu1, ht1⟩
            case measure => simp [intOf]; omega
      · have Hy := Lib.hid (startS_yes hk (fun c h2 => hno.out c (by have := h2.2.1; have := h2.2.2.1; omega) h2))
        by_cases h4 : b < 4
        · have h5 : (k : Int) < b := by omega
          clear hgo
          go_wp2
          go_ret
          exact startSays Hy.out rfl hu
        · clear hgo
          go_wp2
          go_ret
          exact startSays Hy.out rfl hu
  · have H := Lib.hid (startS_no h)
    by_cases h0 : 0 ≤ x
    · have h1 : (s.size : Int) < x := by omega
      clear h
      go_enter Tryd.func16, Tryd.ntmps16
      go_wp2
      go_ret
      exact startSays H.out rfl (Up.refl _)
    · clear h
      go_enter Tryd.func16, Tryd.ntmps16
      go_wp2
      go_ret
      exact startSays H.out rfl (Up.refl _)
end Go.Proofs.YtibodioapkmgkaaDoor
