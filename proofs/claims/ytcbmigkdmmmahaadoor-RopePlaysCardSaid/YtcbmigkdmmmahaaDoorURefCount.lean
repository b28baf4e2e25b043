/- The document's own Count, Valid and Start, walked at every text. -/
import Derived.Test.YtcbmigkdmmmahaaDoorUBound
import Derived.Test.YtcbmigkdmmmahaaDoorURefWalk
namespace Go.Proofs.YtcbmigkdmmmahaaDoor
open Go.RowKit

/-- The document's Len at a place of the text. -/
theorem refLen_at {s : ByteArray} (hs : s.size ≤ maxLen) {a L : Nat} {b : Bool} (ha : a < s.size) (hL : stepLen s a = L) (hb : stepOk s a = b) (w : World) :
    Calls Tryd.prog 42 #[.string s, .int .i64 a] w fun e w' => e = .returned (.tuple #[.int .i64 (L : Nat), .bool b]) ∧ Up w w' := by
  have h := refLen_any s a hs w
  unfold LenSays at h
  rw [lenI_nat ha, okI_nat ha, hL, hb] at h
  exact h

set_option maxRecDepth 100000 in
set_option maxHeartbeats 1000000 in
theorem refCount_any (s : ByteArray) (hs : s.size ≤ maxLen) (w : World) :
    Calls Tryd.prog 30 #[.string s] w fun e w' => e = .returned (.int .i64 (countS s : Nat)) ∧ Up w w' := by
  have hs' := hs
  have hcl := countS_le s
  unfold maxLen at hs'
  go_enter Tryd.func30, Tryd.ntmps30
  go_wp2
  go_loopw [3, 4] (fun kv iv wr => ∃ k a : Nat, kv = .int .i64 (k : Nat) ∧ iv = .int .i64 (a : Nat) ∧ a ≤ s.size ∧ k ≤ s.size ∧ Hid (k + (stepsFrom s a).length = countS s) ∧ Up w wr)
    (fun _ iv _ => s.size - (intOf iv).toNat)
  case atStart => exact ⟨0, 0, rfl, rfl, by omega, by omega, Lib.hid (by unfold countS; omega), Up.refl _⟩
  case round =>
    obtain ⟨k, a, rfl, rfl, ha, hk, hx, hu⟩ := hrel
    by_cases hlt : a < s.size
    · have hb1 := stepLen_pos s a
      have hb2 := stepLen_le s a
      have hb3 := stepLen_in hlt
      have hcons := stepsFrom_cons hlt
      obtain ⟨L, hL⟩ : ∃ L, stepLen s a = L := ⟨_, rfl⟩
      obtain ⟨b, hb⟩ : ∃ b, stepOk s a = b := ⟨_, rfl⟩
      have Hlen := Lib.hid (fun w => refLen_at hs hlt hL hb w)
      rw [hL] at hb1 hb2 hb3 hcons
      rw [hb] at hcons
      have hnew : Hid (k + 1 + (stepsFrom s (a + L)).length = countS s) := by
        have h := hx.out
        rw [hcons] at h
        simp only [List.length_cons] at h
        unfold Hid; omega
      have hk1 : k + 1 ≤ s.size := by have h := hnew; unfold Hid at h; omega
      clear hcons hL hb
      go_wp2_with (go_at_call 42; refine (Hlen.out _).mono ?_; rintro e w1 ⟨rfl, hu1⟩)
      go_roundw
      case rel => exact ⟨k + 1, a + L, by go_num, by go_num, hb3, hk1, hnew, hu.trans hu1⟩
      case measure => simp [intOf]; omega
    · have hdone : Hid (k = countS s) := by
        have h := hx.out
        rw [stepsFrom_nil hlt] at h
        exact h
      have hge : (s.size : Int) ≤ a := by omega
      go_wp2
      go_ret
      exact ⟨ret_int (by rw [hdone.out]), hu⟩

end Go.Proofs.YtcbmigkdmmmahaaDoor
