/- Whether acts are too many: the statements' great. -/
import Derived.Test.YthiiemjbigcinaaQC
namespace Go.Proofs.Ythiiemjbigcinaa
open Go.RowKit

/-- How many items the first acts have. -/
def cntN (L : List Deed) : Nat → Nat
  | 0 => 0
  | i + 1 => cntN L i + (L.getD i act0).n
theorem cntN_mono {L : List Deed} : ∀ {i j : Nat}, i ≤ j → cntN L i ≤ cntN L j := by
  intro i j h
  induction h with
  | refl => exact Nat.le_refl _
  | step _ ih => exact Nat.le_trans ih (Nat.le_add_right _ _)
theorem act_eq {L : List Deed} {i : Nat} (h : i < L.length) : L[i] = L.getD i act0 := by
  rw [List.getD_eq_getElem?_getD, List.getElem?_eq_getElem h]
  rfl
/-- The first acts' lists are not long. -/
def bothN (L : List Deed) (i : Nat) : Prop := ∀ j, j < i → (L.getD j act0).n ≤ 2000 ∧ (L.getD j act0).m ≤ 2000
def SaysG (n : Nat) (L : List Deed) (w : World) (e : Ending) (w' : World) : Prop := ∃ B, e = .returned (.bool B) ∧ (B = false → n ≤ 80 ∧ cntN L n ≤ 2000 ∧ bothN L n) ∧ w = w'
theorem saysG_yes (n : Nat) (L : List Deed) (w : World) : SaysG n L w (.returned (.bool true)) w := ⟨true, rfl, fun e => (by cases e), rfl⟩
theorem saysG_no {n : Nat} {L : List Deed} {w : World} (h : n ≤ 80 ∧ cntN L n ≤ 2000 ∧ bothN L n) : SaysG n L w (.returned (.bool false)) w := ⟨false, rfl, fun _ => h, rfl⟩
set_option maxRecDepth 100000 in
set_option maxHeartbeats 1000000 in
theorem great_any (w : World) (A : Option Addr) (n c : Nat) (L : List Deed) (hL : AArg w A n L) :
    Calls Try.prog 16 #[.slice A n c] w (SaysG n L w) := by
  by_cases h : 80 < n
  · have hh : (80 : Int) < n := by omega
    clear hL
    go_enter Try.func16, Try.ntmps16
    go_wp2
    go_ret
    exact saysG_yes _ _ _
  have HL := Lib.hid hL
  have hn : n ≤ 80 := by omega
  have f1 : decide ((80 : Int) < n) = false := decide_eq_false (by omega)
  have HN := Lib.hid hn
  clear hL h
  go_enter Try.func16, Try.ntmps16
  go_wp2
  go_loopg [3, 4] n (fun g sv iv wr => ∃ i s : Nat, g = n - i ∧ iv = .int .i64 (i : Nat) ∧ sv = .int .i64 (s : Nat) ∧ i ≤ n ∧ Hid (s = cntN L i ∧ bothN L i) ∧ s ≤ 2000 * i ∧ Hid (w = wr))
  case atStart => exact ⟨0, 0, rfl, rfl, rfl, Nat.zero_le _, Lib.hid ⟨rfl, fun j h => absurd h (Nat.not_lt_zero _)⟩, Nat.zero_le _, Lib.hid rfl⟩
  case round =>
    obtain ⟨i, s, hg, rfl, rfl, hi, HS, hs, HW⟩ := hrel
    have HG := Lib.hid hg
    clear hg
    obtain rfl := HW.out
    by_cases hlt : i < n
    · have hil : i < L.length := by have := HL.out.len; omega
      obtain ⟨b, o, rfl, hb, d0, d1, d3, d2, d4⟩ := HL.out.at_ i hil
      rw [act_eq hil] at d2 d4
      obtain ⟨X, hX⟩ : ∃ X, L.getD i act0 = X := ⟨_, rfl⟩
      have HC := Lib.hid (show cntN L (i + 1) = cntN L i + X.n by rw [← hX]; rfl)
      have HB := Lib.hid (show X.n ≤ 2000 ∧ X.m ≤ 2000 → bothN L (i + 1) from fun k j hj => by
        by_cases e : j < i
        · exact HS.out.2 j e
        · obtain rfl : j = i := by omega
          rw [hX]; exact k)
      rw [hX] at d2 d4
      obtain ⟨xd, xa, xk, xA, xn, xc, xL, xB, xm, xe, xZ⟩ := X
      dsimp only at d2 d4 HB HC
      have hii : (i : Int) < n := by omega
      have HLT := Lib.hid hlt
      clear hX d0 d1 d3 hb hil hlt
      by_cases h2 : 2000 < xn
      · have h3 : (2000 : Int) < xn := by omega
        clear h2
        go_wp2
        go_ret
        exact saysG_yes _ _ _
      · have f2 : decide ((2000 : Int) < xn) = false := decide_eq_false (by omega)
        by_cases h5 : 2000 < xm
        · have h3 : (2000 : Int) < xm := by omega
          clear h2 h5
          go_wp2
          go_ret
          exact saysG_yes _ _ _
        have f3 : decide ((2000 : Int) < xm) = false := decide_eq_false (by omega)
        have HBn := Lib.hid (HB.out ⟨by omega, by omega⟩)
        have h4 : s + xn ≤ 2000 * (i + 1) := by omega
        have q1 : IntKind.i64.wrap ((s : Int) + (xn : Int)) = ((s + xn : Nat) : Int) := (IntWalk.i64_in _ (by omega)).trans (by omega)
        clear h2 h5
        go_wp2
        go_roundg (n - (i + 1))
        case measure => rw [HG.out]; have := HLT.out; omega
        case rel => exact ⟨i + 1, s + xn, rfl, by go_num, rfl, by omega, Lib.hid ⟨by rw [HC.out, HS.out.1], HBn.out⟩, h4, Lib.hid rfl⟩
    · obtain rfl : i = n := by omega
      have f0 : decide (i < i) = false := decide_eq_false hlt
      clear hlt
      by_cases h2 : 2000 < s
      · have h3 : (2000 : Int) < s := by omega
        clear h2
        go_wp2
        go_ret
        exact saysG_yes _ _ _
      · have f2 : decide ((2000 : Int) < s) = false := decide_eq_false (by omega)
        have HS2 := Lib.hid (show cntN L i ≤ 2000 ∧ bothN L i from ⟨by have := HS.out.1; omega, HS.out.2⟩)
        clear h2
        go_wp2
        go_ret
        exact saysG_no ⟨HN.out, HS2.out.1, HS2.out.2⟩
end Go.Proofs.Ythiiemjbigcinaa
