/- Whether a place is one of a list's: the program's Has. -/
import Derived.Test.YtbgdphjjepbafaaSFun
namespace Go.Proofs.Ytbgdphjjepbafaa
open Go.RowKit

set_option maxRecDepth 100000 in
set_option maxHeartbeats 1000000 in
theorem idx_any (w : World) (A : Option Addr) (n c : Nat) (L : List Rng) (hL : Rgs w A n L) (hn : n ≤ 1000000) (p : Int) (B : Nat) (hB : w.cell? ⟨B, 0, none⟩ = some (.int .i64 p)) :
    Calls Try.prog 41 #[.slice A n c, .func (.func 32) #[] #[.pointer (some ⟨B, 0, none⟩)]] w fun e w' => (∃ k : Int, e = .returned (.int .i64 k) ∧ decide (0 ≤ k) = has L p) ∧ Up w w' := by
  have HL := Lib.hid hL
  have HBc := Lib.hid hB
  have HN := Lib.hid hL.len
  have HP := Lib.hid (fun r W (h : World.cell? W ⟨B, 0, none⟩ = some (.int .i64 p)) => pred_any r p B W h)
  clear hL hB
  go_enter Try.func41, Try.ntmps41
  go_wp2
  go_loopg [5, 8] n (fun g _ iv wr => ∃ i : Nat, g = n - i ∧ iv = .int .i64 (i : Nat) ∧ i ≤ n ∧ Hid (Up w wr) ∧ Hid (∀ j (h : j < L.length), j < i → inR (L[j]'h) p = false))
  case atStart => exact ⟨0, rfl, rfl, Nat.zero_le _, Lib.hid (Up.refl _), Lib.hid (fun j _ h => absurd h (Nat.not_lt_zero _))⟩
  case round =>
    obtain ⟨i, hg, rfl, hi, HU, HF⟩ := hrel
    have HG := Lib.hid hg
    clear hg
    by_cases hlt : i < n
    · have hiL : i < L.length := by have := HN.out; omega
      obtain ⟨b, o, hA, hb, c0, c1⟩ := (HL.out.up HU.out).at_ i hiL
      subst hA
      obtain ⟨r, hr⟩ : ∃ r, L[i] = r := ⟨_, rfl⟩
      rw [hr] at c0 c1
      obtain ⟨r1, r2⟩ := r
      dsimp only at c0 c1
      have H1 := Lib.hid (HP.out (r1, r2) wr (cell_up HU.out HBc.out))
      have hii : (i : Int) < n := by omega
      obtain ⟨Q, hQ⟩ : ∃ Q, inR (r1, r2) p = Q := ⟨_, rfl⟩
      have HQ := Lib.hid (show inR (L[i]'hiL) p = Q by rw [hr]; exact hQ)
      rw [hQ] at H1
      clear hQ hr hb
      cases Q with
      | true =>
        go_wp2_with (go_at_call 32; ((with_reducible refine H1.out.mono ?_); rintro e w1 ⟨rfl, hu1⟩; have HU1 := Lib.hid hu1; clear hu1))
        go_ret
        exact ⟨⟨_, rfl, (decide_eq_true (by omega)).trans (has_yes hiL HQ.out).symm⟩, HU.out.trans HU1.out⟩
      | false =>
        go_wp2_with (go_at_call 32; ((with_reducible refine H1.out.mono ?_); rintro e w1 ⟨rfl, hu1⟩; have HU1 := Lib.hid hu1; clear hu1))
        go_roundg (n - (i + 1))
        case measure => rw [HG.out]; omega
        case rel => exact ⟨i + 1, rfl, by go_num, by omega, Lib.hid (HU.out.trans HU1.out), Lib.hid (fun j hj h => by
          by_cases e : j = i
          · subst e
            exact HQ.out
          · exact HF.out j hj (by omega))⟩
    · obtain rfl : i = n := by omega
      have f0 : decide (i < i) = false := decide_eq_false hlt
      have hno := Lib.hid (show has L p = false from has_no (fun j hj => HF.out j hj (by have := HN.out; omega)))
      clear hlt
      go_wp2
      go_ret
      exact ⟨⟨_, rfl, by rw [hno.out]; decide⟩, HU.out⟩
set_option maxRecDepth 100000 in
set_option maxHeartbeats 1000000 in
theorem contains_any (w : World) (A : Option Addr) (n c : Nat) (L : List Rng) (hL : Rgs w A n L) (hn : n ≤ 1000000) (p : Int) (B : Nat) (hB : w.cell? ⟨B, 0, none⟩ = some (.int .i64 p)) :
    Calls Try.prog 31 #[.slice A n c, .func (.func 32) #[] #[.pointer (some ⟨B, 0, none⟩)]] w fun e w' => e = .returned (.bool (has L p)) ∧ Up w w' := by
  have H := Lib.hid (idx_any w A n c L hL hn p B hB)
  clear hL hB
  go_enter Try.func31, Try.ntmps31
  go_wp2_with (go_at_call 41; ((with_reducible refine H.out.mono ?_); rintro e w1 ⟨⟨k, rfl, hk⟩, hu1⟩; have HK := Lib.hid hk; have HU1 := Lib.hid hu1; clear hk hu1))
  go_ret
  exact ⟨ret_bool HK.out, HU1.out⟩
set_option maxRecDepth 100000 in
set_option maxHeartbeats 1000000 in
theorem pHas_any (w : World) (A : Option Addr) (n c : Nat) (L : List Rng) (hL : Rgs w A n L) (hn : n ≤ 1000000) (p : Int) :
    Calls Try.prog 16 #[.slice A n c, .int .i64 p] w fun e w' => e = .returned (.bool (has L p)) ∧ Up w w' := by
  have hu := Up.alloc w (.cells #[.int .i64 p] 3)
  have H := Lib.hid (contains_any (w.alloc (.cells #[.int .i64 p] 3)) A n c L (hL.up hu) hn p w.heap.size (cellOf (Go.heap_alloc_new _ _) rfl))
  have HU := Lib.hid hu
  clear hL hu
  go_enter Try.func16, Try.ntmps16
  go_wp2_with (go_at_call 31; ((with_reducible refine H.out.mono ?_); rintro e w1 ⟨rfl, hu1⟩; have HU1 := Lib.hid hu1; clear hu1))
  go_ret
  exact ⟨rfl, HU.out.trans HU1.out⟩
end Go.Proofs.Ytbgdphjjepbafaa
