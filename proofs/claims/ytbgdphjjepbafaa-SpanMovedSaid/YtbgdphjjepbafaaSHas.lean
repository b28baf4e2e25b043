/- Whether a place is one of a list's: the document's Has. -/
import Derived.Test.YtbgdphjjepbafaaSArg
import Derived.Test.YtbgdphjjepbafaaEMove
namespace Go.Proofs.Ytbgdphjjepbafaa
open Go.RowKit

set_option maxRecDepth 100000 in
theorem clip_any (x : Int) (w : World) : Calls Try.prog 34 #[.int .i64 x] w fun e w' => e = .returned (.int .i64 (clp x)) ∧ w = w' := by
  unfold clp
  by_cases h0 : x < 0
  · rw [if_pos h0]
    go_enter Try.func34, Try.ntmps34
    go_wp2
    go_ret
    exact ⟨rfl, rfl⟩
  · rw [if_neg h0]
    have f0 : decide (x < 0) = false := decide_eq_false h0
    by_cases h1 : 1099511627776 < x
    · rw [if_pos h1]
      clear h0
      go_enter Try.func34, Try.ntmps34
      go_wp2
      go_ret
      exact ⟨rfl, rfl⟩
    · rw [if_neg h1]
      have f1 : decide (1099511627776 < x) = false := decide_eq_false h1
      clear h0 h1
      go_enter Try.func34, Try.ntmps34
      go_wp2
      go_ret
      exact ⟨rfl, rfl⟩
theorem has_yes {L : List Rng} {p : Int} {i : Nat} (h : i < L.length) (hi : inR (L[i]'h) p = true) : has L p = true := by
  unfold has
  rw [List.any_eq_true]
  exact ⟨_, List.getElem_mem h, hi⟩
theorem has_no {L : List Rng} {p : Int} (h : ∀ i (hi : i < L.length), inR (L[i]'hi) p = false) : has L p = false := by
  cases hb : has L p with
  | false => rfl
  | true =>
    unfold has at hb
    rw [List.any_eq_true] at hb
    obtain ⟨r, hr, h2⟩ := hb
    obtain ⟨i, hi, rfl⟩ := List.getElem_of_mem hr
    rw [h i hi] at h2
    cases h2
set_option maxRecDepth 100000 in
set_option maxHeartbeats 1000000 in
theorem refHas_any (w : World) (A : Option Addr) (n c : Nat) (L : List Rng) (hL : Rgs w A n L) (hn : n ≤ 1000000) (p : Int) :
    Calls Try.prog 17 #[.slice A n c, .int .i64 p] w fun e w' => e = .returned (.bool (has L p)) ∧ w = w' := by
  have HL := Lib.hid hL
  have HC := Lib.hid (fun x W => clip_any x W)
  have HN := Lib.hid hL.len
  obtain ⟨R, hR⟩ : ∃ R, has L p = R := ⟨_, rfl⟩
  rw [hR]
  have HRR := Lib.hid hR
  clear hL hR
  go_enter Try.func17, Try.ntmps17
  go_wp2
  go_loopg [5] n (fun g iv wr => w = wr ∧ ∃ i : Nat, g = n - i ∧ iv = .int .i64 (i : Nat) ∧ i ≤ n ∧ Hid (∀ j (h : j < L.length), j < i → inR (L[j]'h) p = false))
  case atStart => exact ⟨rfl, 0, rfl, rfl, Nat.zero_le _, Lib.hid (fun j _ h => absurd h (Nat.not_lt_zero _))⟩
  case round =>
    obtain ⟨rfl, i, hg, rfl, hi, HF⟩ := hrel
    have HG := Lib.hid hg
    clear hg
    by_cases hlt : i < n
    · have hiL : i < L.length := by have := HN.out; omega
      obtain ⟨b, o, hA, hb, c0, c1⟩ := HL.out.at_ i hiL
      subst hA
      obtain ⟨r, hr⟩ : ∃ r, L[i] = r := ⟨_, rfl⟩
      rw [hr] at c0 c1
      have hii : (i : Int) < n := by omega
      obtain ⟨u, hu⟩ : ∃ u, clp r.1 = u := ⟨_, rfl⟩
      obtain ⟨v, hv⟩ : ∃ v, clp r.2 = v := ⟨_, rfl⟩
      obtain ⟨r1, r2⟩ := r
      dsimp only at c0 c1 hu hv
      have hC1 := HC.out r1 w
      have hC2 := HC.out r2 w
      rw [hu] at hC1
      rw [hv] at hC2
      have H1 := Lib.hid hC1
      have H2 := Lib.hid hC2
      have HR := Lib.hid hr
      have HUu := Lib.hid hu
      have HVv := Lib.hid hv
      clear hC1 hC2 hu hv hr hb
      have HQ := Lib.hid (show inR (L[i]'hiL) p = (decide (u ≤ p) && decide (p < v)) by rw [HR.out]; unfold inR; rw [HUu.out, HVv.out])
      by_cases g1 : u ≤ p
      · by_cases g2 : p < v
        · go_wp2_with (first
            | (go_at_call 34; ((with_reducible refine H1.out.mono ?_); rintro e w1 ⟨rfl, rfl⟩))
            | (go_at_call 34; ((with_reducible refine H2.out.mono ?_); rintro e w1 ⟨rfl, rfl⟩)))
          go_ret
          exact ⟨ret_bool ((has_yes hiL (by rw [HQ.out, decide_eq_true g1, decide_eq_true g2]; rfl)).symm.trans HRR.out), rfl⟩
        · have f2 : decide (p < v) = false := decide_eq_false g2
          go_wp2_with (first
            | (go_at_call 34; ((with_reducible refine H1.out.mono ?_); rintro e w1 ⟨rfl, rfl⟩))
            | (go_at_call 34; ((with_reducible refine H2.out.mono ?_); rintro e w1 ⟨rfl, rfl⟩)))
          go_roundg (n - (i + 1))
          case measure => rw [HG.out]; omega
          case rel => exact ⟨rfl, i + 1, rfl, by go_num, by omega, Lib.hid (fun j hj h => by
            by_cases e : j = i
            · subst e
              rw [HQ.out, f2, Bool.and_false]
            · exact HF.out j hj (by omega))⟩
      · have f1 : decide (u ≤ p) = false := decide_eq_false g1
        go_wp2_with (first
          | (go_at_call 34; ((with_reducible refine H1.out.mono ?_); rintro e w1 ⟨rfl, rfl⟩))
          | (go_at_call 34; ((with_reducible refine H2.out.mono ?_); rintro e w1 ⟨rfl, rfl⟩)))
        go_roundg (n - (i + 1))
        case measure => rw [HG.out]; omega
        case rel => exact ⟨rfl, i + 1, rfl, by go_num, by omega, Lib.hid (fun j hj h => by
          by_cases e : j = i
          · subst e
            rw [HQ.out, f1, Bool.false_and]
          · exact HF.out j hj (by omega))⟩
    · obtain rfl : i = n := by omega
      have f0 : decide (i < i) = false := decide_eq_false hlt
      have hno := Lib.hid (show has L p = false from has_no (fun j hj => HF.out j hj (by have := HN.out; omega)))
      clear hlt
      go_wp2
      go_ret
      exact ⟨ret_bool (hno.out.symm.trans HRR.out), rfl⟩
end Go.Proofs.Ytbgdphjjepbafaa
