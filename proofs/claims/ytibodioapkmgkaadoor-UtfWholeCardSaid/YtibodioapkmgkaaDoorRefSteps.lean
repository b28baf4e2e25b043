/- The document's own Count, Valid and Start, walked at every text. -/
import Derived.Test.YtibodioapkmgkaaDoorBound
import Derived.Test.YtibodioapkmgkaaDoorRefWalk
namespace Go.Proofs.YtibodioapkmgkaaDoor
open Go.RowKit

/-- The document's Len at a place of the text. -/
theorem refLen_at {s : ByteArray} (hs : s.size ≤ maxLen) {a L : Nat} {b : Bool} (ha : a < s.size) (hL : stepLen s a = L) (hb : stepOk s a = b) (w : World) :
    Calls Tryd.prog 10 #[.string s, .int .i64 a] w fun e w' => e = .returned (.tuple #[.int .i64 (L : Nat), .bool b]) ∧ Up w w' := by
  have h := refLen_any s a hs w
  unfold LenSays at h
  rw [lenI_nat ha, okI_nat ha, hL, hb] at h
  exact h

set_option maxRecDepth 100000 in
set_option maxHeartbeats 1000000 in
theorem refCount_any (s : ByteArray) (hs : s.size ≤ maxLen) (w : World) :
    Calls Tryd.prog 19 #[.string s] w fun e w' => e = .returned (.int .i64 (countS s : Nat)) ∧ Up w w' := by
  have hs' := hs
  have hcl := countS_le s
  unfold maxLen at hs'
  go_enter Tryd.func19, Tryd.ntmps19
  go_wp2
  go_loopw [3, 4] (fun kv iv wr => ∃ k a : Nat, kv = .int .i64 (k : Nat) ∧ iv = .int .i64 (a : Nat) ∧ a ≤ s.size ∧ k ≤ s.size ∧ Hid (k + (stepsFrom s a).length = countS s) ∧ Up w wr)
    (fun _ iv _ => s.size - (intOf iv).toNat)
  case atStart => exact ⟨0, 0, rfl, rfl, by omega, by omega, Lib.hid (by unfold countS; omega), Up.refl _⟩
  case round =>
    obtain ⟨k, a, rfl, rfl, ha, hk, hx, hu⟩ := hrel
    by_cases hlt : a < s.size
    · have hb1 := stepLen_pos s a
      have hb2 := stepLen_le s a
      have hb3 := stepLen_in hlt
      have hcons := stepsFrom_cons hlt
      obtain ⟨L, hL⟩ : ∃ L, stepLen s a = L := ⟨_, rfl⟩
      obtain ⟨b, hb⟩ : ∃ b, stepOk s a = b := ⟨_, rfl⟩
      have Hlen := Lib.hid (fun w => refLen_at hs hlt hL hb w)
      rw [hL] at hb1 hb2 hb3 hcons
      rw [hb] at hcons
      have hnew : Hid (k + 1 + (stepsFrom s (a + L)).length = countS s) := by
        have h := hx.out
        rw [hcons] at h
        simp only [List.length_cons] at h
        unfold Hid; omega
      have hk1 : k + 1 ≤ s.size := by have h := hnew; unfold Hid at h; omega
      clear hcons hL hb
      go_wp2_with (go_at_call 10; refine (Hlen.out _).mono ?_; rintro e w1 ⟨rfl, hu1⟩)
      go_roundw
      case rel => exact ⟨k + 1, a + L, by go_num, by go_num, hb3, hk1, hnew, hu.trans hu1⟩
      case measure => simp [intOf]; omega
    · have hdone : Hid (k = countS s) := by
        have h := hx.out
        rw [stepsFrom_nil hlt] at h
        exact h
      have hge : (s.size : Int) ≤ a := by omega
      go_wp2
      go_ret
      exact ⟨ret_int (by rw [hdone.out]), hu⟩

theorem valid_cons {s : ByteArray} {a : Nat} (h : a < s.size) : ((stepsFrom s a).all (·.2)) = (stepOk s a && (stepsFrom s (a + stepLen s a)).all (·.2)) := by
  rw [stepsFrom_cons h]; rfl
set_option maxRecDepth 100000 in
set_option maxHeartbeats 1000000 in
theorem refValid_any (s : ByteArray) (hs : s.size ≤ maxLen) (w : World) :
    Calls Tryd.prog 21 #[.string s] w fun e w' => e = .returned (.bool (validS s)) ∧ Up w w' := by
  have hs' := hs
  unfold maxLen at hs'
  go_enter Tryd.func21, Tryd.ntmps21
  go_wp2
  go_loopw [3] (fun iv wr => ∃ a : Nat, iv = .int .i64 (a : Nat) ∧ a ≤ s.size ∧ Hid (((stepsFrom s a).all (·.2)) = validS s) ∧ Up w wr)
    (fun iv _ => s.size - (intOf iv).toNat)
  case atStart => exact ⟨0, rfl, by omega, Lib.hid rfl, Up.refl _⟩
  case round =>
    obtain ⟨a, rfl, ha, hx, hu⟩ := hrel
    by_cases hlt : a < s.size
    · have hb1 := stepLen_pos s a
      have hb2 := stepLen_le s a
      have hb3 := stepLen_in hlt
      have hcons := valid_cons hlt
      obtain ⟨L, hL⟩ : ∃ L, stepLen s a = L := ⟨_, rfl⟩
      obtain ⟨b, hb⟩ : ∃ b, stepOk s a = b := ⟨_, rfl⟩
      have Hlen := Lib.hid (fun w => refLen_at hs hlt hL hb w)
      rw [hL] at hb1 hb2 hb3 hcons
      rw [hb] at hcons
      have Hcons := Lib.hid hcons
      clear hcons hL hb
      cases b with
      | true =>
        go_wp2_with (go_at_call 10; refine (Hlen.out _).mono ?_; rintro e w1 ⟨rfl, hu1⟩)
        go_roundw
        case rel => exact ⟨a + L, by go_num, hb3, Lib.hid (by rw [← hx.out, Hcons.out, Bool.true_and]), hu.trans hu1⟩
        case measure => simp [intOf]; omega
      | false =>
        go_wp2_with (go_at_call 10; refine (Hlen.out _).mono ?_; rintro e w1 ⟨rfl, hu1⟩)
        go_ret
        exact ⟨ret_bool (show false = validS s by rw [← hx.out, Hcons.out, Bool.false_and]), hu.trans hu1⟩
    · have hnil := Lib.hid (stepsFrom_nil hlt)
      have hge : (s.size : Int) ≤ a := by omega
      go_wp2
      go_ret
      exact ⟨ret_bool (show true = validS s by rw [← hx.out, hnil.out]; rfl), hu⟩

theorem startS_at {s : ByteArray} {x : Int} {p : Nat} (hp : Bd s p) (hprev : ∀ q, Bd s q → q < p → (q : Int) < x) (hend : ¬ ((p : Int) < x ∧ p < s.size)) : startS s x = (decide (0 ≤ x) && ((p : Int) == x)) := by
  rw [Bool.eq_iff_iff, startS_iff, Bool.and_eq_true, decide_eq_true_eq, beq_iff_eq]
  have hps := hp.le
  constructor
  · rintro ⟨h0, h1, h2⟩
    obtain ⟨k, rfl⟩ := Int.eq_ofNat_of_zero_le h0
    have h2' : Bd s k := h2
    refine ⟨h0, ?_⟩
    by_cases e : k < p
    · have := hprev k h2' e; omega
    · omega
  · rintro ⟨h0, rfl⟩
    exact ⟨h0, by omega, hp⟩
theorem startSays_of {s : ByteArray} {x : Int} {b : Bool} {w w' : World} {e : Ending} (h : startS s x = b) (he : e = .returned (.bool b)) (hu : Up w w') : StartSays s x w e w' := startSays h he hu
set_option maxRecDepth 100000 in
set_option maxHeartbeats 1000000 in
theorem refStart_any (s : ByteArray) (x : Int) (hs : s.size ≤ maxLen) (w : World) :
    Calls Tryd.prog 17 #[.string s, .int .i64 x] w (StartSays s x w) := by
  have hs' := hs
  unfold maxLen at hs'
  go_enter Tryd.func17, Tryd.ntmps17
  go_wp2
  go_loopw [5] (fun iv wr => ∃ p : Nat, iv = .int .i64 (p : Nat) ∧ p ≤ s.size ∧ Hid (Bd s p) ∧ Hid (∀ q, Bd s q → q < p → (q : Int) < x) ∧ Up w wr)
    (fun iv _ => s.size - (intOf iv).toNat)
  case atStart => exact ⟨0, rfl, by omega, Lib.hid (Bd.zero s), Lib.hid fun q _ h => by omega, Up.refl _⟩
  case round =>
    obtain ⟨p, rfl, hp, hbd, hprev, hu⟩ := hrel
    by_cases hgo : (p : Int) < x ∧ p < s.size
    · obtain ⟨hgo1, hlt⟩ := hgo
      have hb1 := stepLen_pos s p
      have hb2 := stepLen_le s p
      have hb3 := stepLen_in hlt
      have hnb := hbd.out.next hlt
      have hst : ∀ q, Bd s q → p < q → p + stepLen s p ≤ q := fun q hq h => hbd.out.step hq h
      obtain ⟨L, hL⟩ : ∃ L, stepLen s p = L := ⟨_, rfl⟩
      obtain ⟨b, hb⟩ : ∃ b, stepOk s p = b := ⟨_, rfl⟩
      have Hlen := Lib.hid (fun w => refLen_at hs hlt hL hb w)
      rw [hL] at hb1 hb2 hb3 hnb hst
      have Hnb := Lib.hid hnb
      have Hst := Lib.hid hst
      clear hL hb hnb hst
      go_wp2_with (go_at_call 10; refine (Hlen.out _).mono ?_; rintro e w1 ⟨rfl, hu1⟩)
      go_roundw
      case rel => exact ⟨p + L, by go_num, hb3, Hnb, Lib.hid fun q hq h => by
        by_cases e : p < q
        · have := Hst.out q hq e; omega
        · omega, hu.trans hu1⟩
      case measure => simp [intOf]; omega
    · have Hat := Lib.hid (startS_at hbd.out hprev.out hgo)
      by_cases h0 : 0 ≤ x
      · have H0 : Hid (decide (0 ≤ x) = true) := Lib.hid (decide_eq_true h0)
        by_cases h1 : (p : Int) < x
        · have h2 : (s.size : Int) ≤ p := by omega
          have h3 : ((p : Int) == x) = false := by simp; omega
          clear hgo
          go_wp2
          go_ret
          exact startSays_of (by rw [Hat.out, H0.out, h3]; rfl) rfl hu
        · clear hgo
          by_cases h2 : (p : Int) = x
          · have h3 : ((p : Int) == x) = true := by simp; omega
            have H2 := Lib.hid h2
            clear h2
            go_wp2
            go_ret
            exact startSays_of (by rw [Hat.out, H0.out, h3]; rfl) rfl hu
          · have h3 : ((p : Int) == x) = false := by simp; omega
            clear h2
            go_wp2
            go_ret
            exact startSays_of (by rw [Hat.out, H0.out, h3]; rfl) rfl hu
      · have H0 : Hid (decide (0 ≤ x) = false) := Lib.hid (decide_eq_false h0)
        have h1 : x ≤ (p : Int) := by omega
        clear hgo
        go_wp2
        go_ret
        exact startSays_of (by rw [Hat.out, H0.out]; rfl) rfl hu
end Go.Proofs.YtibodioapkmgkaaDoor
