/- Whether acts are too many: the statements' great. -/
import Derived.Test.YtkkefgbmdghklaaBArgs2
namespace Go.Proofs.Ytkkefgbmdghklaa
open Go.RowKit

/-- How many events the first acts have. -/
def cntN (L : List Act) : Nat → Nat
  | 0 => 0
  | i + 1 => cntN L i + (L.getD i ⟨0, 0, none, 0, 0, []⟩).n
theorem cntN_mono {L : List Act} : ∀ {i j : Nat}, i ≤ j → cntN L i ≤ cntN L j := by
  intro i j h
  induction h with
  | refl => exact Nat.le_refl _
  | step _ ih => exact Nat.le_trans ih (Nat.le_add_right _ _)
theorem act_eq {L : List Act} {i : Nat} (h : i < L.length) : L[i] = L.getD i ⟨0, 0, none, 0, 0, []⟩ := by
  rw [List.getD_eq_getElem?_getD, List.getElem?_eq_getElem h]
  rfl
def SaysG (n : Nat) (L : List Act) (w : World) (e : Ending) (w' : World) : Prop := ∃ B, e = .returned (.bool B) ∧ (B = false → n ≤ 100 ∧ cntN L n ≤ 3000) ∧ w = w'
theorem saysG_yes (n : Nat) (L : List Act) (w : World) : SaysG n L w (.returned (.bool true)) w := ⟨true, rfl, fun e => (by cases e), rfl⟩
theorem saysG_no {n : Nat} {L : List Act} {w : World} (h : n ≤ 100 ∧ cntN L n ≤ 3000) : SaysG n L w (.returned (.bool false)) w := ⟨false, rfl, fun _ => h, rfl⟩
set_option maxRecDepth 100000 in
set_option maxHeartbeats 1000000 in
theorem great_any (w : World) (A : Option Addr) (n c : Nat) (L : List Act) (hL : AArg w A n L) :
    Calls Try.prog 12 #[.slice A n c] w (SaysG n L w) := by
  by_cases h : 100 < n
  · have hh : (100 : Int) < n := by omega
    clear hL
    go_enter Try.func12, Try.ntmps12
    go_wp2
    go_ret
    exact saysG_yes _ _ _
  have HL := Lib.hid hL
  have hn : n ≤ 100 := by omega
  have f1 : decide ((100 : Int) < n) = false := decide_eq_false (by omega)
  have HN := Lib.hid hn
  clear hL h
  go_enter Try.func12, Try.ntmps12
  go_wp2
  go_loopg [3, 4] n (fun g sv iv wr => ∃ i s : Nat, g = n - i ∧ iv = .int .i64 (i : Nat) ∧ sv = .int .i64 (s : Nat) ∧ i ≤ n ∧ Hid (s = cntN L i) ∧ s ≤ 3000 * i ∧ Hid (w = wr))
  case atStart => exact ⟨0, 0, rfl, rfl, rfl, Nat.zero_le _, Lib.hid rfl, Nat.zero_le _, Lib.hid rfl⟩
  case round =>
    obtain ⟨i, s, hg, rfl, rfl, hi, HS, hs, HW⟩ := hrel
    have HG := Lib.hid hg
    clear hg
    obtain rfl := HW.out
    by_cases hlt : i < n
    · have hil : i < L.length := by have := HL.out.len; omega
      obtain ⟨b, o, rfl, hb, d0, d1, d2⟩ := HL.out.at_ i hil
      rw [act_eq hil] at d2
      obtain ⟨X, hX⟩ : ∃ X, L.getD i ⟨0, 0, none, 0, 0, []⟩ = X := ⟨_, rfl⟩
      have HC := Lib.hid (show cntN L (i + 1) = cntN L i + X.n by rw [← hX]; rfl)
      rw [hX] at d2
      obtain ⟨xd, xa, xA, xn, xc, xL⟩ := X
      dsimp only at d2
      have hii : (i : Int) < n := by omega
      have HLT := Lib.hid hlt
      clear hX d0 d1 hb hil hlt
      by_cases h2 : 3000 < xn
      · have h3 : (3000 : Int) < xn := by omega
        clear h2
        go_wp2
        go_ret
        exact saysG_yes _ _ _
      · have f2 : decide ((3000 : Int) < xn) = false := decide_eq_false (by omega)
        have h4 : s + xn ≤ 3000 * (i + 1) := by omega
        have q1 : IntKind.i64.wrap ((s : Int) + (xn : Int)) = ((s + xn : Nat) : Int) := (IntWalk.i64_in _ (by omega)).trans (by omega)
        clear h2
        go_wp2
        go_roundg (n - (i + 1))
        case measure => rw [HG.out]; have := HLT.out; omega
        case rel => exact ⟨i + 1, s + xn, rfl, by go_num, rfl, by omega, Lib.hid (by rw [HC.out, HS.out]), h4, Lib.hid rfl⟩
    · obtain rfl : i = n := by omega
      have f0 : decide (i < i) = false := decide_eq_false hlt
      clear hlt
      by_cases h2 : 3000 < s
      · have h3 : (3000 : Int) < s := by omega
        clear h2
        go_wp2
        go_ret
        exact saysG_yes _ _ _
      · have f2 : decide ((3000 : Int) < s) = false := decide_eq_false (by omega)
        have HS2 := Lib.hid (show cntN L i ≤ 3000 by have := HS.out; omega)
        clear h2
        go_wp2
        go_ret
        exact saysG_no ⟨HN.out, HS2.out⟩
end Go.Proofs.Ytkkefgbmdghklaa
