/- The program's Take and Indent. -/
import Derived.Test.YtmfcapbllbfjnaaGreatDoorVA
namespace Go.Proofs.YtmfcapbllbfjnaaGreatDoor
open Go.RowKit

set_option maxRecDepth 100000 in
set_option maxHeartbeats 2000000 in
theorem isPlace_any (s : ByteArray) (a : Int) (w : World) : Calls Tryz.prog 74 #[.string s, .int .i64 a] w fun e w' => e = .returned (.bool (decide (0 ≤ a ∧ a ≤ s.size))) ∧ w = w' := by
  obtain ⟨Z, hZ⟩ : ∃ Z : Int, (s.size : Int) = Z := ⟨_, rfl⟩
  rw [hZ]
  by_cases h0 : 0 ≤ a
  case neg =>
    have g : decide (0 ≤ a) = false := decide_eq_false h0
    rw [decide_eq_false (show ¬ _ by omega)]
    clear h0
    go_enter Tryz.func74, Tryz.ntmps74
    go_wp2
    go_ret
    exact ⟨rfl, rfl⟩
  have f0 : decide (0 ≤ a) = true := decide_eq_true h0
  by_cases h1 : a ≤ Z
  case neg =>
    have g : decide (a ≤ Z) = false := decide_eq_false h1
    rw [decide_eq_false (show ¬ _ by omega)]
    clear h1 h0
    go_enter Tryz.func74, Tryz.ntmps74
    go_wp2
    go_ret
    exact ⟨rfl, rfl⟩
  have f1 : decide (a ≤ Z) = true := decide_eq_true h1
  rw [decide_eq_true (show _ from ⟨h0, h1⟩)]
  clear h0 h1
  go_enter Tryz.func74, Tryz.ntmps74
  go_wp2
  go_ret
  exact ⟨rfl, rfl⟩
set_option maxRecDepth 100000 in
set_option maxHeartbeats 2000000 in
theorem mayBe_any (s : ByteArray) (a c size : Int) (w : World) : Calls Tryz.prog 63 #[.string s, .int .i64 a, .int .i64 c, .int .i64 size] w fun e w' => e = .returned (.bool (decide (mayT s a c size))) ∧ w = w' := by
  have HM := Lib.hid (fun W => isPlace_any s a W)
  have hE : decide (mayT s a c size) = decide ((0 ≤ a ∧ a ≤ s.size) ∧ 0 ≤ c ∧ c ≤ 1099511627776 ∧ 1 ≤ size ∧ size ≤ 64) := by unfold mayT; simp only [and_assoc]
  rw [hE]
  clear hE
  by_cases h0 : 0 ≤ a ∧ a ≤ (s.size : Int)
  case neg =>
    rw [decide_eq_false h0] at HM
    rw [decide_eq_false (show ¬ _ by omega)]
    clear h0 
    go_enter Tryz.func63, Tryz.ntmps63
    go_wp2_with (go_at_call 74; ((with_reducible refine (HM.out _).mono ?_); rintro e1 w1 ⟨rfl, rfl⟩))
    go_ret
    exact ⟨rfl, rfl⟩
  rw [decide_eq_true h0] at HM
  by_cases h1 : 0 ≤ c
  case neg =>
    have g : decide (0 ≤ c) = false := decide_eq_false h1
    rw [decide_eq_false (show ¬ _ by omega)]
    clear h1 h0
    go_enter Tryz.func63, Tryz.ntmps63
    go_wp2_with (go_at_call 74; ((with_reducible refine (HM.out _).mono ?_); rintro e1 w1 ⟨rfl, rfl⟩))
    go_ret
    exact ⟨rfl, rfl⟩
  have f1 : decide (0 ≤ c) = true := decide_eq_true h1
  by_cases h2 : c ≤ 1099511627776
  case neg =>
    have g : decide (c ≤ 1099511627776) = false := decide_eq_false h2
    rw [decide_eq_false (show ¬ _ by omega)]
    clear h2 h0 h1
    go_enter Tryz.func63, Tryz.ntmps63
    go_wp2_with (go_at_call 74; ((with_reducible refine (HM.out _).mono ?_); rintro e1 w1 ⟨rfl, rfl⟩))
    go_ret
    exact ⟨rfl, rfl⟩
  have f2 : decide (c ≤ 1099511627776) = true := decide_eq_true h2
  by_cases h3 : 1 ≤ size
  case neg =>
    have g : decide (1 ≤ size) = false := decide_eq_false h3
    rw [decide_eq_false (show ¬ _ by omega)]
    clear h3 h0 h1 h2
    go_enter Tryz.func63, Tryz.ntmps63
    go_wp2_with (go_at_call 74; ((with_reducible refine (HM.out _).mono ?_); rintro e1 w1 ⟨rfl, rfl⟩))
    go_ret
    exact ⟨rfl, rfl⟩
  have f3 : decide (1 ≤ size) = true := decide_eq_true h3
  by_cases h4 : size ≤ 64
  case neg =>
    have g : decide (size ≤ 64) = false := decide_eq_false h4
    rw [decide_eq_false (show ¬ _ by omega)]
    clear h4 h0 h1 h2 h3
    go_enter Tryz.func63, Tryz.ntmps63
    go_wp2_with (go_at_call 74; ((with_reducible refine (HM.out _).mono ?_); rintro e1 w1 ⟨rfl, rfl⟩))
    go_ret
    exact ⟨rfl, rfl⟩
  have f4 : decide (size ≤ 64) = true := decide_eq_true h4
  rw [decide_eq_true (show _ by exact ⟨h0, h1, h2, h3, h4⟩)]
  clear h0 h1 h2 h3 h4
  go_enter Tryz.func63, Tryz.ntmps63
  go_wp2_with (go_at_call 74; ((with_reducible refine (HM.out _).mono ?_); rintro e1 w1 ⟨rfl, rfl⟩))
  go_ret
  exact ⟨rfl, rfl⟩
theorem next_eq {q u : Int} : q - q % u + u = (q / u + 1) * u := by
  have e1 := Int.emod_add_mul_ediv q u
  have e4 : (q / u + 1) * u = u * (q / u) + u := by rw [Int.add_mul, Int.one_mul, Int.mul_comm]
  omega
theorem next_one {q : Int} : (q / 1 + 1) * 1 = q + 1 := by omega
set_option maxRecDepth 100000 in
set_option maxHeartbeats 2000000 in
theorem next_any (w : World) (B : Nat) (q u : Int) (hc : w.cell? ⟨B, 0, none⟩ = some (.int .i64 q)) (hq : 0 ≤ q ∧ q ≤ 2199023255552) (hu : 1 ≤ u ∧ u ≤ 64) :
    Calls Tryz.prog 64 #[.int .i64 u, .pointer (some ⟨B, 0, none⟩)] w fun e w' => e = .returned (.int .i64 ((q / u + 1) * u)) ∧ Up w w' := by
  rw [← next_eq]
  have r0 := Int.emod_nonneg q (show u ≠ 0 by omega)
  have r1 := Int.emod_lt_of_pos q (show 0 < u by omega)
  have r2 : q % u ≤ q := by have := Int.ediv_nonneg hq.1 (show 0 ≤ u by omega); have e1 := Int.emod_add_mul_ediv q u; have := Int.mul_nonneg (show 0 ≤ u by omega) this; omega
  have hz : ¬ u = 0 := by omega
  have r3 : Int.tmod q u = q % u := Int.tmod_eq_emod_of_nonneg hq.1
  have r4 : IntKind.i64.wrap (q % u) = q % u := IntWalk.i64_in _ (by omega)
  have r5 : IntKind.i64.wrap (q - q % u) = q - q % u := IntWalk.i64_in _ (by omega)
  have r6 : IntKind.i64.wrap (q - q % u + u) = q - q % u + u := IntWalk.i64_in _ (by omega)
  clear hq hu r0 r1 r2
  go_enter Tryz.func64, Tryz.ntmps64
  go_wp2
  go_quiet (fail)
  go_wp2
  go_ret
  exact ⟨rfl, Up.drewN _ _⟩
end Go.Proofs.YtmfcapbllbfjnaaGreatDoor
