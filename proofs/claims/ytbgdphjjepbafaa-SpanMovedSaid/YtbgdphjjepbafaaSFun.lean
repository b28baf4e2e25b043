/- The program's small functions over ranges: which place counts, which places are kept, which of two ends is ahead, whether an edit is in its bounds, whether a place is one of a list's. -/
import Derived.Test.YtbgdphjjepbafaaSHas
import Derived.Test.YtbgdphjjepbafaaSMath4
namespace Go.Proofs.Ytbgdphjjepbafaa
open Go.RowKit

set_option maxRecDepth 100000 in
set_option maxHeartbeats 1000000 in
theorem sbounded_any (a : Int × Int × ByteArray) (w : World) : Calls Try.prog 35 #[edV a] w fun e w' => e = .returned (.bool (bnd a)) ∧ Up w w' := by
  obtain ⟨p, d, x⟩ := a
  obtain ⟨z, hz⟩ : ∃ z : Int, (x.size : Int) = z := ⟨_, rfl⟩
  have hx0 : 0 ≤ z := by omega
  have hu : Up w (edW w (p, d, x)) := Up.alloc w _
  have HU := Lib.hid hu
  clear hu
  unfold edW at HU
  have hE : bnd (p, d, x) = decide (0 ≤ p ∧ p ≤ 1048576 ∧ 0 ≤ d ∧ d ≤ 1048576 ∧ z ≤ 1048576) := by unfold bnd; rw [← hz]
  rw [hE]
  clear hE
  unfold edV
  by_cases h0 : 0 ≤ p
  case neg =>
    have g0 : decide (0 ≤ p) = false := decide_eq_false h0
    rw [decide_eq_false (show ¬ _ by omega)]
    clear hx0 h0 
    go_enter Try.func35, Try.ntmps35
    go_wp2
    go_ret
    exact ⟨rfl, HU.out⟩
  have f0 : decide (0 ≤ p) = true := decide_eq_true h0
  by_cases h1 : p ≤ 1048576
  case neg =>
    have g1 : decide (p ≤ 1048576) = false := decide_eq_false h1
    rw [decide_eq_false (show ¬ _ by omega)]
    clear hx0 h1 h0
    go_enter Try.func35, Try.ntmps35
    go_wp2
    go_ret
    exact ⟨rfl, HU.out⟩
  have f1 : decide (p ≤ 1048576) = true := decide_eq_true h1
  by_cases h2 : 0 ≤ d
  case neg =>
    have g2 : decide (0 ≤ d) = false := decide_eq_false h2
    rw [decide_eq_false (show ¬ _ by omega)]
    clear hx0 h2 h0 h1
    go_enter Try.func35, Try.ntmps35
    go_wp2
    go_ret
    exact ⟨rfl, HU.out⟩
  have f2 : decide (0 ≤ d) = true := decide_eq_true h2
  by_cases h3 : d ≤ 1048576
  case neg =>
    have g3 : decide (d ≤ 1048576) = false := decide_eq_false h3
    rw [decide_eq_false (show ¬ _ by omega)]
    clear hx0 h3 h0 h1 h2
    go_enter Try.func35, Try.ntmps35
    go_wp2
    go_ret
    exact ⟨rfl, HU.out⟩
  have f3 : decide (d ≤ 1048576) = true := decide_eq_true h3
  by_cases h4 : z ≤ 1048576
  case neg =>
    have g4 : decide (z ≤ 1048576) = false := decide_eq_false h4
    rw [decide_eq_false (show ¬ _ by omega)]
    clear hx0 h4 h0 h1 h2 h3
    go_enter Try.func35, Try.ntmps35
    go_wp2
    go_ret
    exact ⟨rfl, HU.out⟩
  have f4 : decide (z ≤ 1048576) = true := decide_eq_true h4
  rw [decide_eq_true (show _ by omega)]
  clear hx0 h0 h1 h2 h3 h4
  go_enter Try.func35, Try.ntmps35
  go_wp2
  go_ret
  exact ⟨rfl, HU.out⟩

set_option maxRecDepth 100000 in
theorem bound_any (x : Int) (w : World) : Calls Try.prog 33 #[.int .i64 x] w fun e w' => e = .returned (.int .i64 (clp x)) ∧ w = w' := by
  unfold clp
  by_cases h0 : x < 0
  · rw [if_pos h0]
    go_enter Try.func33, Try.ntmps33
    go_wp2
    go_ret
    exact ⟨rfl, rfl⟩
  · rw [if_neg h0]
    by_cases h1 : 1099511627776 < x
    · rw [if_pos h1]
      go_enter Try.func33, Try.ntmps33
      go_wp2
      go_ret
      exact ⟨rfl, rfl⟩
    · rw [if_neg h1]
      go_enter Try.func33, Try.ntmps33
      go_wp2
      go_ret
      exact ⟨rfl, rfl⟩
set_option maxRecDepth 100000 in
theorem keepNorm_any (x y : Bool) (w : World) : Calls Try.prog 26 #[.bool x, .bool y] w fun e w' => e = .returned (.bool x) ∧ w = w' := by
  cases x <;> cases y <;> (go_enter Try.func26, Try.ntmps26; go_wp2; go_ret; exact ⟨rfl, rfl⟩)
set_option maxRecDepth 100000 in
theorem keepUnion_any (x y : Bool) (w : World) : Calls Try.prog 27 #[.bool x, .bool y] w fun e w' => e = .returned (.bool (x || y)) ∧ w = w' := by
  cases x <;> cases y <;> (go_enter Try.func27, Try.ntmps27; go_wp2; go_ret; exact ⟨rfl, rfl⟩)
set_option maxRecDepth 100000 in
theorem keepMinus_any (x y : Bool) (w : World) : Calls Try.prog 28 #[.bool x, .bool y] w fun e w' => e = .returned (.bool (x && !y)) ∧ w = w' := by
  cases x <;> cases y <;> (go_enter Try.func28, Try.ntmps28; go_wp2; go_ret; exact ⟨rfl, rfl⟩)
set_option maxRecDepth 100000 in
theorem keepBoth_any (x y : Bool) (w : World) : Calls Try.prog 29 #[.bool x, .bool y] w fun e w' => e = .returned (.bool (x && y)) ∧ w = w' := by
  cases x <;> cases y <;> (go_enter Try.func29, Try.ntmps29; go_wp2; go_ret; exact ⟨rfl, rfl⟩)
theorem bound_q (x : Int) (w : World) : Calls Try.prog 33 #[.int .i64 x] w fun e w' => e = .returned (.int .i64 (clp x)) ∧ w' = w := (bound_any x w).mono fun _ _ h => ⟨h.1, h.2.symm⟩
/-- Which of two places is ahead. -/
def cmpI (x y : Int) : Int := if x < y then -1 else if y < x then 1 else 0
set_option maxRecDepth 100000 in
theorem nan_any (x : Int) (w : World) : Calls Try.prog 48 #[.int .i64 x] w fun e w' => e = .returned (.bool false) ∧ w = w' := by
  go_enter Try.func48, Try.ntmps48
  go_wp2
  go_ret
  exact ⟨by simp, rfl⟩
set_option maxRecDepth 100000 in
theorem cmp_any (x y : Int) (w : World) : Calls Try.prog 45 #[.int .i64 x, .int .i64 y] w fun e w' => e = .returned (.int .i64 (cmpI x y)) ∧ w = w' := by
  have HN := Lib.hid (fun x W => nan_any x W)
  unfold cmpI
  by_cases h0 : x < y
  · rw [if_pos h0]
    go_enter Try.func45, Try.ntmps45
    go_wp2_with (go_at_call 48; ((with_reducible refine (HN.out _ _).mono ?_); rintro e w1 ⟨rfl, rfl⟩))
    go_ret
    exact ⟨rfl, rfl⟩
  · have f0 : decide (x < y) = false := decide_eq_false h0
    rw [if_neg h0]
    clear h0
    by_cases h1 : y < x
    · rw [if_pos h1]
      go_enter Try.func45, Try.ntmps45
      go_wp2_with (go_at_call 48; ((with_reducible refine (HN.out _ _).mono ?_); rintro e w1 ⟨rfl, rfl⟩))
      go_ret
      exact ⟨rfl, rfl⟩
    · have f1 : decide (y < x) = false := decide_eq_false h1
      rw [if_neg h1]
      clear h1
      go_enter Try.func45, Try.ntmps45
      go_wp2_with (go_at_call 48; ((with_reducible refine (HN.out _ _).mono ?_); rintro e w1 ⟨rfl, rfl⟩))
      go_ret
      exact ⟨rfl, rfl⟩
set_option maxRecDepth 100000 in
set_option maxHeartbeats 1000000 in
theorem pred_any (r : Rng) (p : Int) (B : Nat) (w : World) (hB : w.cell? ⟨B, 0, none⟩ = some (.int .i64 p)) :
    Calls Try.prog 32 #[.agg #[.int .i64 r.1, .int .i64 r.2], .pointer (some ⟨B, 0, none⟩)] w fun e w' => e = .returned (.bool (inR r p)) ∧ Up w w' := by
  have HC := Lib.hid (fun x W => bound_q x W)
  obtain ⟨r1, r2⟩ := r
  have hu := Up.alloc w (.cells #[.int .i64 r1, .int .i64 r2] 29)
  have c2 := cell_up hu hB
  have HU := Lib.hid hu
  unfold inR
  dsimp only
  obtain ⟨u, hu1⟩ : ∃ u, clp r1 = u := ⟨_, rfl⟩
  obtain ⟨v, hv1⟩ : ∃ v, clp r2 = v := ⟨_, rfl⟩
  rw [hu1, hv1]
  have H1 := Lib.hid (fun W => hu1 ▸ HC.out r1 W)
  have H2 := Lib.hid (fun W => hv1 ▸ HC.out r2 W)
  clear hu hu1 hv1 HC
  by_cases g1 : u ≤ p
  · obtain ⟨Q, hQ⟩ : ∃ Q, decide (p < v) = Q := ⟨_, rfl⟩
    rw [decide_eq_true g1, hQ, Bool.true_and]
    go_enter Try.func32, Try.ntmps32
    go_wp2_with fail
    go_quiet (first
      | (go_at_call 33; with_reducible exact Calls.quiet_of_same (H1.out _))
      | (go_at_call 33; with_reducible exact Calls.quiet_of_same (H2.out _)))
    go_wp2
    go_ret
    exact ⟨rfl, HU.out.trans (Up.drewN _ _)⟩
  · have f1 : decide (u ≤ p) = false := decide_eq_false g1
    rw [f1, Bool.false_and]
    clear g1
    go_enter Try.func32, Try.ntmps32
    go_wp2_with fail
    go_quiet (first
      | (go_at_call 33; with_reducible exact Calls.quiet_of_same (H1.out _))
      | (go_at_call 33; with_reducible exact Calls.quiet_of_same (H2.out _)))
    go_wp2
    go_ret
    exact ⟨rfl, HU.out.trans (Up.drewN _ _)⟩
end Go.Proofs.Ytbgdphjjepbafaa
