/- The document's End: where a line ends. -/
import Derived.Test.YtopdbilkpkgccaaDoorLnMath
namespace Go.Proofs.YtopdbilkpkgccaaDoor
open Go.RowKit

set_option maxRecDepth 100000 in
set_option maxHeartbeats 2000000 in
theorem end_any (s : ByteArray) (w : World) (hs : (s.size : Int) ≤ 140737488355328) : Calls Tryd.prog 13 #[.string s] w fun e w' => e = .returned (.int .i64 (endL (bl s) : Nat)) ∧ w = w' := by
  obtain ⟨V, hV⟩ : ∃ V, endL (bl s) = V := ⟨_, rfl⟩
  rw [hV]
  have HV := Lib.hid (show endF (p13 s 0) 0 ((bl s).drop 0) = V from hV)
  have HS := Lib.hid hs
  clear hV hs
  go_enter Tryd.func13, Tryd.ntmps13
  go_wp2
  go_loopg [3] s.size (fun g iv wr => w = wr ∧ ∃ p : Nat, g = s.size - p ∧ iv = .int .i64 (p : Nat) ∧ Hid (p ≤ s.size) ∧ Hid (endF (p13 s p) p ((bl s).drop p) = V))
  case atStart => exact ⟨rfl, 0, rfl, rfl, Lib.hid (Nat.zero_le _), HV⟩
  case round =>
    clear HV
    obtain ⟨rfl, p, hg, rfl, HP, HR⟩ := hrel
    have HG := Lib.hid hg
    clear hg
    by_cases hlt : p < s.size
    · obtain ⟨x, hx⟩ : ∃ x, s[p].toNat = x := ⟨_, rfl⟩
      have hbx : bt s p = x := by rw [← bt_eq hlt]; exact hx
      have hpp : (p : Int) < s.size := by omega
      have hp0 : (0 : Int) ≤ p := by omega
      have hR := HR.out
      rw [endF_step hlt, hbx] at hR
      have HLt := Lib.hid hlt
      by_cases h10 : x = 10
      · rw [if_pos h10] at hR
        subst h10
        by_cases hz : p = 0
        · subst hz
          rw [if_neg (by rw [p13_zero]; exact Bool.false_ne_true)] at hR
          subst hR
          clear hbx
          go_wp2
          go_ret
          exact ⟨rfl, rfl⟩
        · obtain ⟨q, rfl⟩ : ∃ q, p = q + 1 := ⟨p - 1, by omega⟩
          have hqlt : q < s.size := by omega
          obtain ⟨y, hy⟩ : ∃ y, s[q].toNat = y := ⟨_, rfl⟩
          have hby : bt s q = y := by rw [← bt_eq hqlt]; exact hy
          rw [p13_succ, hby] at hR
          have hqb : (q : Int) ≤ 140737488355328 := by have := HS.out; omega
          have hq0 : (0 : Int) ≤ q := by omega
          have hqq : (q : Int) < s.size := by omega
          have hpos : (0 : Int) < (q + 1 : Nat) := by omega
          by_cases h13 : y = 13
          · subst h13
            rw [if_pos (show (13 == 13) = true from rfl)] at hR
            have hR' : q = V := hR
            subst hR'
            clear hbx hby hR hz
            have e2 : wrap64 (q : Int) = (q : Nat) := IntWalk.wrap64_in _ (by omega)
            go_wp2
            go_ret
            exact ⟨rfl, rfl⟩
          · rw [if_neg (by simpa using h13)] at hR
            subst hR
            have h13' : ((y : Int) == 13) = false := beq_eq_false_iff_ne.2 (by omega)
            clear hbx hby hz h13
            have e2 : wrap64 (q : Int) = (q : Nat) := IntWalk.wrap64_in _ (by omega)
            go_wp2
            go_ret
            exact ⟨rfl, rfl⟩
      · rw [if_neg h10] at hR
        have h10' : ((x : Int) == 10) = false := beq_eq_false_iff_ne.2 (by omega)
        have e2 : IntKind.i64.wrap ((p : Int) + 1) = (p : Int) + 1 := IntWalk.i64_in _ (by have := HS.out; omega)
        have HP2 := Lib.hid (show p + 1 ≤ s.size from hlt)
        have HR2 := Lib.hid (show endF (p13 s (p + 1)) (p + 1) ((bl s).drop (p + 1)) = V by rw [p13_succ, hbx]; exact hR)
        clear hbx hR h10
        go_wp2
        go_roundg (s.size - (p + 1))
        case measure => rw [HG.out]; have := HLt.out; omega
        case rel => exact ⟨rfl, p + 1, rfl, by go_num, HP2, HR2⟩
    · have hR := HR.out
      rw [endF_last (by omega)] at hR
      have hp : p = s.size := by have := HP.out; omega
      subst hp
      subst hR
      have f0 : decide (s.size < s.size) = false := decide_eq_false (by omega)
      clear hlt
      go_wp2
      go_ret
      exact ⟨rfl, rfl⟩
end Go.Proofs.YtopdbilkpkgccaaDoor
