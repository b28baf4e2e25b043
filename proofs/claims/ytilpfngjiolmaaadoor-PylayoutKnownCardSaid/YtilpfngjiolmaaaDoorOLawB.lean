/- The document's End; two rows of the same events; PylayoutEnds, walked. -/
import Derived.Test.YtilpfngjiolmaaaDoorOLawA
namespace Go.Proofs.YtilpfngjiolmaaaDoor
open Go.RowKit
attribute [local go_sem ↓] ldS_eq stS_eq elS_eq neS_eq zrS_eq bsS_eq bdS_eq
attribute [local go_sem] ldS_run stS_run elS_run neS_run zrS_run bsS_run bdS_run0 bdS_run1 g0_rule ldV_drew ldV_drewN

set_option maxRecDepth 100000 in
set_option maxHeartbeats 1000000 in
theorem lsame_any (w : World) (A B : Option Addr) (n c c' : Nat) (es : List LEv) (hL : Levs w A n es) (hM : Levs w B n es) (hn : n ≤ 1000000) :
    Calls Tryd.prog 21 #[.slice A n c, .slice B n c'] w fun e w' => e = .returned (.bool true) ∧ Up w w' := by
  have HL := Lib.hid hL
  have HM := Lib.hid hM
  have HN := Lib.hid hL.len
  clear hL hM
  go_enter Tryd.func21, Tryd.ntmps21
  go_wp2
  go_loopg [5] n (fun g iv wr => ∃ i : Nat, g = n - i ∧ iv = .int .i64 (i : Nat) ∧ i ≤ n ∧ Hid (Up w wr))
  case atStart => exact ⟨0, rfl, rfl, Nat.zero_le _, Lib.hid (Up.refl w)⟩
  case round =>
    obtain ⟨i, hg, rfl, hi, HU⟩ := hrel
    have HG := Lib.hid hg
    clear hg
    by_cases hlt : i < n
    · have hiL : i < es.length := by have := HN.out; omega
      obtain ⟨b, o, hA, -, c0, c1, c2, c3⟩ := (HL.out.up HU.out).at_ i hiL
      obtain ⟨b2, o2, hB, -, d0, d1, d2, d3⟩ := (HM.out.up HU.out).at_ i hiL
      subst hA hB
      obtain ⟨⟨r0, r1, r2, r3⟩, hr⟩ : ∃ r, es[i] = r := ⟨_, rfl⟩
      rw [hr] at c0 c1 c2 c3 d0 d1 d2 d3
      dsimp only at c0 c1 c2 c3 d0 d1 d2 d3
      have hii : (i : Int) < n := by omega
      clear hr hiL
      go_wp2
      go_quiet (fail)
      go_wp2
      go_roundg (n - (i + 1))
      case measure => rw [HG.out]; omega
      case rel => exact ⟨i + 1, rfl, by go_num, by omega, Lib.hid (HU.out.trans (Up.drewN _ _))⟩
    · obtain rfl : i = n := by omega
      have f0 : decide (i < i) = false := decide_eq_false hlt
      clear hlt
      go_wp2
      go_ret
      exact ⟨rfl, HU.out⟩
theorem endP_len (s : LSt) : (endP s).length ≤ 1 := by unfold endP; split <;> simp
end Go.Proofs.YtilpfngjiolmaaaDoor
