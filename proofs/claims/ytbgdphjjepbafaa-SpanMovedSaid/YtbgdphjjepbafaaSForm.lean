/- A list in form is told to be so: the statements' own test. -/
import Derived.Test.YtbgdphjjepbafaaSSame
namespace Go.Proofs.Ytbgdphjjepbafaa
open Go.RowKit

theorem formA_at : ∀ {lo : Int} {L : List Rng}, -1 ≤ lo → FormA lo L → ∀ i (h : i < L.length), 0 ≤ (L[i]'h).1 ∧ (L[i]'h).1 < (L[i]'h).2 ∧ (L[i]'h).2 ≤ 1099511627776 ∧ (∀ j (hj : j + 1 = i), (L[j]'(by omega)).2 < (L[i]'h).1)
  | lo, r :: t, hl, ⟨h1, h2, h3, h4⟩, 0, _ => ⟨by show 0 ≤ r.1; omega, h2, h3, fun j hj => by omega⟩
  | lo, r :: t, hl, ⟨h1, h2, h3, h4⟩, i + 1, h => by
    have hi : i < t.length := by simpa using h
    obtain ⟨g1, g2, g3, g4⟩ := formA_at (lo := r.2) (by omega) h4 i hi
    refine ⟨g1, g2, g3, fun j hj => ?_⟩
    obtain rfl : j = i := by omega
    cases j with
    | zero =>
      cases t with
      | nil => exact absurd hi (Nat.not_lt_zero _)
      | cons q u => exact h4.1
    | succ k => exact g4 k rfl
set_option maxRecDepth 100000 in
set_option maxHeartbeats 2000000 in
theorem lawForm_any (w : World) (A : Option Addr) (n c : Nat) (L : List Rng) (hL : Rgs w A n L) (hf : Form L) (hn : n ≤ 1000000) :
    Calls Try.prog 22 #[.slice A n c] w fun e w' => e = .returned (.bool true) ∧ Up w w' := by
  have HL := Lib.hid hL
  have HF := Lib.hid (formA_at (by omega) hf)
  have HN := Lib.hid hL.len
  have HN2 := Lib.hid hn
  clear hL hf
  go_enter Try.func22, Try.ntmps22
  go_wp2
  go_loopg [3] n (fun g iv wr => ∃ i : Nat, g = n - i ∧ iv = .int .i64 (i : Nat) ∧ i ≤ n ∧ Hid (Up w wr))
  case atStart => exact ⟨0, rfl, rfl, Nat.zero_le _, Lib.hid (Up.refl w)⟩
  case round =>
    obtain ⟨i, hg, rfl, hi, HU⟩ := hrel
    have HG := Lib.hid hg
    clear hg
    by_cases hlt : i < n
    · have hiL : i < L.length := by have := HN.out; omega
      obtain ⟨b, o, hA, -, c0, c1⟩ := (HL.out.up HU.out).at_ i hiL
      subst hA
      obtain ⟨f1, f2, f3, f4⟩ := HF.out i hiL
      have F4 := Lib.hid f4
      clear f4
      have hii : (i : Int) < n := by omega
      obtain ⟨⟨r1, r2⟩, hr⟩ : ∃ r, L[i] = r := ⟨_, rfl⟩
      rw [hr] at c0 c1 f1 f2 f3 F4
      dsimp only at c0 c1 f1 f2 f3 F4
      have t1 : decide (r1 < 0) = false := decide_eq_false (by omega)
      have t2 : decide (r2 ≤ r1) = false := decide_eq_false (by omega)
      have t3 : decide (1099511627776 < r2) = false := decide_eq_false (by omega)
      clear f1 f2 f3
      by_cases hz : i = 0
      · have t5 : decide (0 < i) = false := decide_eq_false (by omega)
        clear F4 hr hi hz
        go_wp2
        go_quiet (fail)
        go_wp2
        go_roundg (n - (i + 1))
        case measure => rw [HG.out]; omega
        case rel => exact ⟨i + 1, rfl, by go_num, by omega, Lib.hid (HU.out.trans (Up.drewN _ _))⟩
      · obtain ⟨j, hj⟩ : ∃ j, j + 1 = i := ⟨i - 1, by omega⟩
        obtain ⟨b', o', hA, -, -, d1⟩ := (HL.out.up HU.out).at_ j (by omega)
        injection hA with hA
        injection hA with e1 e2
        subst e1 e2
        have f4 := F4.out j hj
        obtain ⟨⟨s1, s2⟩, hs⟩ : ∃ r, L[j] = r := ⟨_, rfl⟩
        rw [hs] at d1 f4
        dsimp only at d1 f4
        have t4 : decide (r1 ≤ s2) = false := decide_eq_false (by omega)
        have t5 : 0 < i := by omega
        have t6 : (j : Int) < n := by omega
        have q1 : IntKind.i64.wrap ((i : Int) - 1) = (j : Nat) := (IntWalk.i64_in _ (by have := HN2.out; omega)).trans (by omega)
        clear F4 hr hi hz hj hs f4
        go_wp2
        go_quiet (fail)
        clear q1
        go_wp2
        go_roundg (n - (i + 1))
        case measure => rw [HG.out]; omega
        case rel => exact ⟨i + 1, rfl, by go_num, by omega, Lib.hid (HU.out.trans (Up.drewN _ _))⟩
    · obtain rfl : i = n := by omega
      have f0 : decide (i < i) = false := decide_eq_false hlt
      clear hlt
      go_wp2
      go_ret
      exact ⟨rfl, HU.out⟩
end Go.Proofs.Ytbgdphjjepbafaa
