/- Two lists of nodes that are the same are told to be so: the document's comparison. -/
import Derived.Test.YtkkefgbmdghklaaTInts
namespace Go.Proofs.Ytkkefgbmdghklaa
open Go.RowKit

set_option maxRecDepth 100000 in
set_option maxHeartbeats 1000000 in
theorem refSame_any (w : World) (A B : Option Addr) (n c c' : Nat) (L : List Nd) (hL : Nds w A n L) (hM : Nds w B n L) (hn : n ≤ 1000000) :
    Calls Try.prog 16 #[.slice A n c, .slice B n c'] w fun e w' => e = .returned (.bool true) ∧ Up w w' := by
  have HL := Lib.hid hL
  have HM := Lib.hid hM
  have HN := Lib.hid hL.len
  clear hL hM
  go_enter Try.func16, Try.ntmps16
  go_wp2
  go_loopg [5] n (fun g iv wr => ∃ i : Nat, g = n - i ∧ iv = .int .i64 (i : Nat) ∧ i ≤ n ∧ Hid (Up w wr))
  case atStart => exact ⟨0, rfl, rfl, Nat.zero_le _, Lib.hid (Up.refl w)⟩
  case round =>
    obtain ⟨i, hg, rfl, hi, HU⟩ := hrel
    have HG := Lib.hid hg
    clear hg
    by_cases hlt : i < n
    · have hiL : i < L.length := by have := HN.out; omega
      obtain ⟨b, o, hA, -, c0, c1, c2, c3⟩ := (HL.out.up HU.out).at_ i hiL
      obtain ⟨b2, o2, hB, -, d0, d1, d2, d3⟩ := (HM.out.up HU.out).at_ i hiL
      subst hA hB
      obtain ⟨⟨r1, r2, r3, r4⟩, hr⟩ : ∃ r, L[i] = r := ⟨_, rfl⟩
      rw [hr] at c0 c1 c2 c3 d0 d1 d2 d3
      dsimp only at c0 c1 c2 c3 d0 d1 d2 d3
      have hii : (i : Int) < n := by omega
      clear hr hiL
      go_wp2
      go_quiet (fail)
      go_wp2
      go_roundg (n - (i + 1))
      case measure => rw [HG.out]; omega
      case rel => exact ⟨i + 1, rfl, by go_num, by omega, Lib.hid (HU.out.trans (Up.drewN _ _))⟩
    · obtain rfl : i = n := by omega
      have f0 : decide (i < i) = false := decide_eq_false hlt
      clear hlt
      go_wp2
      go_ret
      exact ⟨rfl, HU.out⟩
end Go.Proofs.Ytkkefgbmdghklaa
