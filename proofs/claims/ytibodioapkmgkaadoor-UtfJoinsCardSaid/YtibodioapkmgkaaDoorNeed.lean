/- The program's count of a character's bytes, at every number. -/
import Derived.Test.YtibodioapkmgkaaDoorLen
namespace Go.Proofs.YtibodioapkmgkaaDoor
open Go.RowKit
theorem need_at (c : Nat) : (c < 128 ∧ need c = 1) ∨ (128 ≤ c ∧ c < 2048 ∧ need c = 2) ∨ (2048 ≤ c ∧ c < 65536 ∧ need c = 3) ∨ (65536 ≤ c ∧ need c = 4) := by
  unfold need; repeat' split
  all_goals omega
set_option maxRecDepth 100000 in
set_option maxHeartbeats 400000 in
theorem need_any (c : Nat) (w : World) (ht : Tabs w) :
    Calls Tryd.prog 24 #[.int .i32 c] w fun e w' => e = .returned (.int .i64 (need c)) ∧ w = w' := by
  have hz2 := ht.cLeast 2 (by omega)
  have hz3 := ht.cLeast 3 (by omega)
  have hz4 := ht.cLeast 4 (by omega)
  obtain ⟨L, hL⟩ : ∃ L, leastOf 4 = L := ⟨_, rfl⟩
  rw [hL] at hz4
  have hn : Hid ((c < 128 ∧ need c = 1) ∨ (128 ≤ c ∧ c < 2048 ∧ need c = 2) ∨ (2048 ≤ c ∧ c < L ∧ need c = 3) ∨ (L ≤ c ∧ 2048 ≤ c ∧ need c = 4)) := by
    unfold Hid; have h := need_at c; have e : L = 65536 := hL.symm; omega
  clear hL
  simp [leastOf] at hz2 hz3
  go_enter Tryd.func24, Tryd.ntmps24
  go_wp2
  go_loop [3] (fun n => ∃ q : Nat, 1 ≤ q ∧ q ≤ need c ∧ n = .int .i64 q)
     (fun i => 4 - (intOf i).toNat)
  case atStart => exact ⟨1, by omega, need_pos c, rfl⟩
  case round =>
    obtain ⟨q, hq1, hq2, rfl⟩ := hrel
    have hn4 := need_le c
    have h4 : q = 1 ∨ q = 2 ∨ q = 3 ∨ q = 4 := by omega
    rcases h4 with rfl | rfl | rfl | rfl
    · by_cases h : 128 ≤ c
      · go_wp2
        go_round
        case rel => exact ⟨2, by omega, by have h := hn; unfold Hid at h; omega, rfl⟩
        case measure => simp [intOf]
      · go_wp2
        go_ret
        exact ⟨ret_int (by have h := hn; unfold Hid at h; omega), rfl⟩
    · by_cases h : 2048 ≤ c
      · go_wp2
        go_round
        case rel => exact ⟨3, by omega, by have h := hn; unfold Hid at h; omega, rfl⟩
        case measure => simp [intOf]
      · go_wp2
        go_ret
        exact ⟨ret_int (by have h := hn; unfold Hid at h; omega), rfl⟩
    · by_cases h : L ≤ c
      · go_wp2
        go_round
        case rel => exact ⟨4, by omega, by have h := hn; unfold Hid at h; omega, rfl⟩
        case measure => simp [intOf]
      · go_wp2
        go_ret
        exact ⟨ret_int (by have h := hn; unfold Hid at h; omega), rfl⟩
    · go_wp2
      go_ret
      exact ⟨ret_int (by have h := hn; unfold Hid at h; omega), rfl⟩
end Go.Proofs.YtibodioapkmgkaaDoor
