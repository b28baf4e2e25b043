/- The known character: the call that each statement ends with returns true. -/
import Derived.Test.YtibodioapkmgkaaDoorStart
import Derived.Test.YtibodioapkmgkaaDoorRefWalk
namespace Go.Proofs.YtibodioapkmgkaaDoor
open Go.RowKit

theorem wk_e9 : Stands ⟨#[195, 169]⟩ 0 233 2 := by
  refine ⟨by decide, by omega, by decide, fun i h1 h2 => ?_, by decide, by decide, by decide⟩
  obtain rfl : i = 1 := by omega
  decide
theorem wk_ac : Stands ⟨#[226, 130, 172]⟩ 0 8364 3 := by
  refine ⟨by decide, by omega, by decide, fun i h1 h2 => ?_, by decide, by decide, by decide⟩
  have : i = 1 ∨ i = 2 := by omega
  rcases this with rfl | rfl <;> decide
theorem wk_a : Stands ⟨#[97]⟩ 0 97 1 := ⟨by decide, by omega, by decide, fun i h1 h2 => by omega, by decide, by decide, by decide⟩
theorem wk_len : lenI ⟨#[195, 169]⟩ 0 = 2 ∧ okI ⟨#[195, 169]⟩ 0 = true := by
  have h := dec_some wk_e9
  unfold lenI okI
  rw [show ((0 : Int)).toNat = 0 from rfl, h]
  decide
theorem wk_ch : chI ⟨#[226, 130, 172]⟩ 0 = 8364 ∧ okI ⟨#[226, 130, 172]⟩ 0 = true := by
  have h := dec_some wk_ac
  unfold chI okI
  rw [show ((0 : Int)).toNat = 0 from rfl, h]
  decide
theorem wk_put : putS 233 = ⟨#[195, 169]⟩ ∧ isCI 233 = true := by decide
theorem wk_valid : validS ⟨#[97]⟩ = true := by
  have h := dec_some wk_a
  have h1 : stepLen ⟨#[97]⟩ 0 = 1 := by unfold stepLen; rw [h]; rfl
  have h2 : stepOk ⟨#[97]⟩ 0 = true := by unfold stepOk; rw [h]; rfl
  unfold validS
  rw [stepsFrom_cons (by decide), h1, h2, stepsFrom_nil (by decide)]
  rfl
theorem wk_start : startS ⟨#[195, 97]⟩ ((1 : Nat) : Int) = true := by
  refine startS_yes (by decide) fun b hb => ?_
  obtain ⟨h1, h2, h3, h4⟩ := hb
  obtain rfl : b = 1 := by omega
  have h : dec ⟨#[195, 97]⟩ 0 = (0, 0) := dec_cont (i := 1) (by omega) (by decide) (by decide)
  rw [show 1 - 1 = 0 from rfl, h] at h4
  omega

set_option maxRecDepth 100000 in
set_option maxHeartbeats 1000000 in
theorem wakes_any (w : World) (ht : Tabs w) : Calls Tryd.prog 13 #[] w fun e w' => e = .returned (.bool true) ∧ Up w w' := by
  have h1 := len_any ⟨#[195, 169]⟩ 0 (by decide) w ht
  have h2 := fun w ht => char_any ⟨#[226, 130, 172]⟩ 0 (by decide) w ht
  have h3 := fun w ht => put_any 233 w ht
  have h4 := fun w ht => valid_any ⟨#[97]⟩ (by decide) w ht
  have h5 := fun w ht => start_any ⟨#[195, 97]⟩ ((1 : Nat) : Int) (by decide) w ht
  unfold LenSays at h1
  unfold CharSays at h2
  unfold PutSays at h3
  unfold StartSays at h5
  rw [wk_len.1, wk_len.2] at h1
  rw [wk_ch.1, wk_ch.2] at h2
  rw [wk_put.1, wk_put.2] at h3
  rw [wk_valid] at h4
  rw [wk_start] at h5
  have H1 := Lib.hid h1
  have H2 := Lib.hid h2
  have H3 := Lib.hid h3
  have H4 := Lib.hid h4
  have H5 := Lib.hid h5
  clear h1 h2 h3 h4 h5
  go_enter Tryd.func13, Tryd.ntmps13
  go_wp2_with (first
    | (go_at_call 9; refine (H1.out).mono ?_; rintro e w1 ⟨rfl, hu1⟩; have ht1 := ht.up hu1)
    | (go_at_call 11; refine (H2.out _ ht1).mono ?_; rintro e w2 ⟨rfl, hu2⟩; have ht2 := ht1.up hu2)
    | (go_at_call 14; refine (H3.out _ ht2).mono ?_; rintro e w3 ⟨rfl, hu3⟩; have ht3 := ht2.up hu3)
    | (go_at_call 20; refine (H4.out _ ht3).mono ?_; rintro e w4 ⟨rfl, hu4⟩; have ht4 := ht3.up hu4)
    | (go_at_call 16; refine (H5.out _ ht4).mono ?_; rintro e w5 ⟨rfl, hu5⟩))
  go_ret
  exact ⟨rfl, (((hu1.trans hu2).trans hu3).trans hu4).trans hu5⟩
end Go.Proofs.YtibodioapkmgkaaDoor
