/- The document's Blank and End. -/
import Derived.Test.YtjlkdpnpkdchgaaDoorBase
import Derived.Deep.LoopGhost
import Derived.Deep.QuietTactic
import Derived.Lib.Hide
namespace Go.Proofs.YtjlkdpnpkdchgaaDoor
open Go.RowKit

def wh (b : Nat) : Bool := decide ((9 ≤ b ∧ b ≤ 13) ∨ b = 32)
/-- Nothing but blanks stands from p on. -/
def blF (s : ByteArray) : Nat → Nat → Bool
  | 0, _ => true
  | f + 1, p => if wh (bt s p) = true then blF s f (p + 1) else false
def blankE (s : ByteArray) (a : Int) : Bool := if 0 ≤ a ∧ a ≤ s.size then blF s (s.size - a.toNat) a.toNat else false
def endE (s : ByteArray) : Nat := if s.size = 0 ∨ bt s (s.size - 1) ≠ 10 then s.size else if 1 < s.size ∧ bt s (s.size - 2) = 13 then s.size - 2 else s.size - 1
theorem blF_zero {s : ByteArray} {p : Nat} (h : s.size ≤ p) : blF s (s.size - p) p = true := by
  rw [show s.size - p = 0 from by omega]
  rfl
theorem blF_step {s : ByteArray} {p : Nat} (h : p < s.size) : blF s (s.size - p) p = if wh (bt s p) = true then blF s (s.size - (p + 1)) (p + 1) else false := by
  rw [show s.size - p = (s.size - (p + 1)) + 1 from by omega]
  rfl
set_option maxRecDepth 100000 in
set_option maxHeartbeats 2000000 in
theorem refBlank_any (s : ByteArray) (a : Int) (w : World) (hs : (s.size : Int) ≤ 140737488355328) : Calls Tryd.prog 13 #[.string s, .int .i64 a] w fun e w' => e = .returned (.bool (blankE s a)) ∧ w = w' := by
  unfold blankE
  by_cases h0 : a < 0
  · rw [if_neg (by omega)]
    clear hs
    go_enter Tryd.func13, Tryd.ntmps13
    go_wp2
    go_ret
    exact ⟨rfl, rfl⟩
  have f0 : decide (a < 0) = false := decide_eq_false h0
  by_cases h1 : (s.size : Int) < a
  · rw [if_neg (by omega)]
    clear hs h0
    go_enter Tryd.func13, Tryd.ntmps13
    go_wp2
    go_ret
    exact ⟨rfl, rfl⟩
  rw [if_pos ⟨by omega, by omega⟩]
  obtain ⟨k, rfl⟩ : ∃ k : Nat, a = (k : Int) := ⟨a.toNat, by omega⟩
  rw [Int.toNat_natCast]
  have f1 : decide (s.size < k) = false := decide_eq_false (by omega)
  obtain ⟨V, hV⟩ : ∃ V, blF s (s.size - k) k = V := ⟨_, rfl⟩
  rw [hV]
  have HV := Lib.hid hV
  have HK := Lib.hid (show k ≤ s.size by omega)
  have HS := Lib.hid hs
  clear hV h0 h1 hs
  go_enter Tryd.func13, Tryd.ntmps13
  go_wp2
  go_loopg [5, 6] (s.size - k) (fun g iv _ wr => w = wr ∧ ∃ p : Nat, g = s.size - p ∧ iv = .int .i64 (p : Nat) ∧ Hid (p ≤ s.size) ∧ Hid (blF s (s.size - p) p = V))
  case atStart => exact ⟨rfl, k, rfl, rfl, HK, HV⟩
  case round =>
    obtain ⟨rfl, p, hg, rfl, HPs, HR⟩ := hrel
    have HG := Lib.hid hg
    clear hg
    by_cases hlt : p < s.size
    · obtain ⟨x, hx⟩ : ∃ x, s[p].toNat = x := ⟨_, rfl⟩
      have hbx : bt s p = x := by rw [← bt_eq hlt]; exact hx
      have hpp : (p : Int) < s.size := by omega
      have hp0 : (0 : Int) ≤ p := by omega
      have hR := HR.out
      rw [blF_step hlt, hbx] at hR
      have e2 : IntKind.i64.wrap ((p : Int) + 1) = (p : Int) + 1 := IntWalk.i64_in _ (by have := HS.out; omega)
      have HP2 := Lib.hid (show p + 1 ≤ s.size from hlt)
      have HLt := Lib.hid hlt
      by_cases h9 : 9 ≤ x
      · have g9 : (9 : Int) ≤ x := by omega
        by_cases h13 : x ≤ 13
        · have g13 : (x : Int) ≤ 13 := by omega
          rw [if_pos (show wh x = true from decide_eq_true (.inl ⟨h9, h13⟩))] at hR
          have HR2 := Lib.hid hR
          clear hbx hR
          go_wp2
          go_roundg (s.size - (p + 1))
          case measure => rw [HG.out]; have := HLt.out; omega
          case rel => exact ⟨rfl, p + 1, rfl, by go_num, HP2, HR2⟩
        · have g13 : decide (x ≤ 13) = false := decide_eq_false h13
          have g13b : decide ((x : Int) ≤ 13) = false := decide_eq_false (by omega)
          by_cases h32 : x = 32
          · rw [if_pos (show wh x = true from decide_eq_true (.inr h32))] at hR
            subst h32
            have HR2 := Lib.hid hR
            clear hbx hR
            go_wp2
            go_roundg (s.size - (p + 1))
            case measure => rw [HG.out]; have := HLt.out; omega
            case rel => exact ⟨rfl, p + 1, rfl, by go_num, HP2, HR2⟩
          · rw [if_neg (show ¬ wh x = true from fun k => by have := of_decide_eq_true k; omega)] at hR
            subst hR
            have g32 : ((x : Int) == 32) = false := beq_false_of_ne (by omega)
            have g32b : decide (x = 32) = false := decide_eq_false h32
            clear hbx
            go_wp2
            go_ret
            exact ⟨rfl, rfl⟩
      · have g9 : decide (9 ≤ x) = false := decide_eq_false h9
        have g9b : decide ((9 : Int) ≤ x) = false := decide_eq_false (by omega)
        rw [if_neg (show ¬ wh x = true from fun k => by have := of_decide_eq_true k; omega)] at hR
        subst hR
        have g32 : ((x : Int) == 32) = false := beq_false_of_ne (by omega)
        have g32b : decide (x = 32) = false := decide_eq_false (by omega)
        clear hbx
        go_wp2
        go_ret
        exact ⟨rfl, rfl⟩
    · have hR := HR.out
      rw [blF_zero (by omega)] at hR
      subst hR
      have f0 : decide (p < s.size) = false := decide_eq_false hlt
      clear hlt
      go_wp2
      go_ret
      exact ⟨rfl, rfl⟩
set_option maxRecDepth 100000 in
set_option maxHeartbeats 2000000 in
theorem refEnd_any (s : ByteArray) (w : World) (hs : (s.size : Int) ≤ 140737488355328) : Calls Tryd.prog 15 #[.string s] w fun e w' => e = .returned (.int .i64 (endE s : Nat)) ∧ w = w' := by
  unfold endE
  by_cases h0 : s.size = 0
  · rw [if_pos (.inl h0), h0]
    clear hs
    go_enter Tryd.func15, Tryd.ntmps15
    go_wp2
    go_ret
    exact ⟨rfl, rfl⟩
  obtain ⟨n, hn⟩ : ∃ n, s.size = n + 1 := ⟨s.size - 1, by omega⟩
  have hlt : n < s.size := by omega
  obtain ⟨x, hx⟩ : ∃ x, s[n].toNat = x := ⟨_, rfl⟩
  have hbx : bt s n = x := by rw [← bt_eq hlt]; exact hx
  have e1 : IntKind.i64.wrap ((s.size : Int) - 1) = (n : Int) := (IntWalk.i64_in _ (by omega)).trans (by omega)
  have hp : (n : Int) < s.size := by omega
  have hp0 : (0 : Int) ≤ n := by omega
  rw [show s.size - 1 = n from by omega, hbx]
  by_cases h10 : x = 10
  case neg =>
    rw [if_pos (.inr h10)]
    have f0 : ((s.size : Int) == 0) = false := beq_false_of_ne (by omega)
    have f10 : ((x : Int) == 10) = false := beq_false_of_ne (by omega)
    have f10b : decide (x = 10) = false := decide_eq_false h10
    clear hs hn hbx
    go_enter Tryd.func15, Tryd.ntmps15
    go_wp2
    go_ret
    exact ⟨rfl, rfl⟩
  rw [if_neg (by omega)]
  subst h10
  by_cases h1 : 1 < s.size
  case neg =>
    rw [if_neg (by omega)]
    have f1 : decide (1 < s.size) = false := decide_eq_false h1
    have f1b : decide ((1 : Int) < s.size) = false := decide_eq_false (by omega)
    clear hs hn hbx
    go_enter Tryd.func15, Tryd.ntmps15
    go_wp2
    go_ret
    exact ⟨rfl, rfl⟩
  obtain ⟨m, hm⟩ : ∃ m, s.size = m + 2 := ⟨s.size - 2, by omega⟩
  have hlt2 : m < s.size := by omega
  obtain ⟨y, hy⟩ : ∃ y, s[m].toNat = y := ⟨_, rfl⟩
  have hby : bt s m = y := by rw [← bt_eq hlt2]; exact hy
  have e2 : IntKind.i64.wrap ((s.size : Int) - 2) = (m : Int) := (IntWalk.i64_in _ (by omega)).trans (by omega)
  have hq : (m : Int) < s.size := by omega
  have hq0 : (0 : Int) ≤ m := by omega
  have h1b : (1 : Int) < s.size := by omega
  rw [show s.size - 2 = m from by omega, hby]
  by_cases h13 : y = 13
  · rw [if_pos ⟨h1, h13⟩]
    subst h13
    clear hs hn hm hbx hby
    go_enter Tryd.func15, Tryd.ntmps15
    go_wp2
    go_ret
    exact ⟨rfl, rfl⟩
  · rw [if_neg (fun k => h13 k.2)]
    have f13 : ((y : Int) == 13) = false := beq_false_of_ne (by omega)
    have f13b : decide (y = 13) = false := decide_eq_false h13
    clear hs hn hm hbx hby
    go_enter Tryd.func15, Tryd.ntmps15
    go_wp2
    go_ret
    exact ⟨rfl, rfl⟩
end Go.Proofs.YtjlkdpnpkdchgaaDoor
