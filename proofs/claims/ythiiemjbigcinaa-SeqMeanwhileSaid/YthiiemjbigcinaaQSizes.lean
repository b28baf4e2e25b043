/- Sizes: which may be, and whether there is room for them. -/
import Derived.Test.YthiiemjbigcinaaQHead
namespace Go.Proofs.Ythiiemjbigcinaa
open Go.RowKit

def badZ (z : Int) : Bool := decide (z < 0 ∨ 1099511627776 < z)
set_option maxRecDepth 100000 in
set_option maxHeartbeats 1000000 in
theorem may_any (z : Int) (w : World) : Calls Try.prog 24 #[.int .i64 z] w fun e w' => e = .returned (.bool (badZ z)) ∧ Up w w' := by
  unfold badZ
  by_cases h0 : z < 0
  · rw [decide_eq_true (.inl h0)]
    go_enter Try.func24, Try.ntmps24
    go_wp2
    go_ret
    exact ⟨rfl, Up.refl w⟩
  have f0 : decide (z < 0) = false := decide_eq_false h0
  by_cases h1 : 1099511627776 < z
  · rw [decide_eq_true (.inr h1)]
    go_enter Try.func24, Try.ntmps24
    go_wp2
    go_ret
    exact ⟨rfl, Up.refl w⟩
  have f1 : decide (1099511627776 < z) = false := decide_eq_false h1
  rw [decide_eq_false (show ¬ (z < 0 ∨ 1099511627776 < z) from fun h => h.elim h0 h1)]
  go_enter Try.func24, Try.ntmps24
  go_wp2
  go_ret
  exact ⟨rfl, Up.refl w⟩
theorem zret {x y : Bool} (h : x = y) : Ending.returned (.bool x) = Ending.returned (.bool y) := by rw [h]
set_option maxRecDepth 100000 in
set_option maxHeartbeats 1000000 in
theorem qidx_any (w : World) (A : Option Addr) (n c : Nat) (L : List Int) (hL : Nums w A n L) (hn : n ≤ 1000000) :
    Calls Try.prog 31 #[.slice A n c, .func (.func 24) #[] #[]] w fun e w' => (∃ k : Int, e = .returned (.int .i64 k) ∧ (0 ≤ k ↔ szBad L)) ∧ Up w w' := by
  have HL := Lib.hid hL
  have HN := Lib.hid hL.len
  have HP := Lib.hid (fun z W => may_any z W)
  clear hL
  go_enter Try.func31, Try.ntmps31
  go_wp2
  go_loopg [5, 8] n (fun g _ iv wr => ∃ i : Nat, g = n - i ∧ iv = .int .i64 (i : Nat) ∧ i ≤ n ∧ Hid (Up w wr) ∧ Hid (∀ j (h : j < L.length), j < i → badZ (L[j]'h) = false))
  case atStart => exact ⟨0, rfl, rfl, Nat.zero_le _, Lib.hid (Up.refl _), Lib.hid (fun j _ h => absurd h (Nat.not_lt_zero _))⟩
  case round =>
    obtain ⟨i, hg, rfl, hi, HU, HF⟩ := hrel
    have HG := Lib.hid hg
    clear hg
    by_cases hlt : i < n
    · have hiL : i < L.length := by have := HN.out; omega
      obtain ⟨b, o, hA, hb, c0⟩ := (HL.out.up HU.out).at_ i hiL
      subst hA
      obtain ⟨r, hr⟩ : ∃ r, L[i] = r := ⟨_, rfl⟩
      rw [hr] at c0
      have H1 := Lib.hid (HP.out r wr)
      have hii : (i : Int) < n := by omega
      obtain ⟨Q, hQ⟩ : ∃ Q, badZ r = Q := ⟨_, rfl⟩
      have HQ := Lib.hid (show badZ (L[i]'hiL) = Q by rw [hr]; exact hQ)
      rw [hQ] at H1
      clear hQ hr hb
      cases Q with
      | true =>
        go_wp2_with (go_at_call 24; ((with_reducible refine H1.out.mono ?_); rintro e w1 ⟨rfl, hu1⟩; have HU1 := Lib.hid hu1; clear hu1))
        go_ret
        exact ⟨⟨_, rfl, ⟨fun _ => ⟨_, List.getElem_mem hiL, of_decide_eq_true HQ.out⟩, fun _ => by omega⟩⟩, HU.out.trans HU1.out⟩
      | false =>
        go_wp2_with (go_at_call 24; ((with_reducible refine H1.out.mono ?_); rintro e w1 ⟨rfl, hu1⟩; have HU1 := Lib.hid hu1; clear hu1))
        go_roundg (n - (i + 1))
        case measure => rw [HG.out]; omega
        case rel => exact ⟨i + 1, rfl, by go_num, by omega, Lib.hid (HU.out.trans HU1.out), Lib.hid (fun j hj h => by
          by_cases e : j = i
          · subst e
            exact HQ.out
          · exact HF.out j hj (by omega))⟩
    · obtain rfl : i = n := by omega
      have f0 : decide (i < i) = false := decide_eq_false hlt
      have hno := Lib.hid (show ¬ szBad L from fun ⟨z, hz, hb⟩ => by
        obtain ⟨k, hk, rfl⟩ := List.getElem_of_mem hz
        exact absurd hb (of_decide_eq_false (HF.out k hk (by have := HN.out; omega))))
      clear hlt
      go_wp2
      go_ret
      exact ⟨⟨_, rfl, ⟨fun h => absurd h (by decide), fun h => absurd h hno.out⟩⟩, HU.out⟩
set_option maxRecDepth 100000 in
set_option maxHeartbeats 1000000 in
theorem qcontains_any (w : World) (A : Option Addr) (n c : Nat) (L : List Int) (hL : Nums w A n L) (hn : n ≤ 1000000) :
    Calls Try.prog 23 #[.slice A n c, .func (.func 24) #[] #[]] w fun e w' => e = .returned (.bool (decide (szBad L))) ∧ Up w w' := by
  have H := Lib.hid (qidx_any w A n c L hL hn)
  clear hL
  go_enter Try.func23, Try.ntmps23
  go_wp2_with (go_at_call 31; ((with_reducible refine H.out.mono ?_); rintro e w1 ⟨⟨k, rfl, hk⟩, hu1⟩; have HK := Lib.hid hk; have HU1 := Lib.hid hu1; clear hk hu1))
  go_ret
  exact ⟨zret (by simp only [HK.out]), HU1.out⟩
end Go.Proofs.Ythiiemjbigcinaa
