/- Two rows of numbers that are the same, the second one from some place of its block on: the document's comparison. -/
import Derived.Test.YtidnldchdahgeaaDoorTLook
namespace Go.Proofs.YtidnldchdahgeaaDoor
open Go.RowKit

set_option maxRecDepth 100000 in
set_option maxHeartbeats 1000000 in
theorem refIntsO_any (w : World) (B g d c : Nat) (v : Value) (o : List Int) (h : RowI w B v o) (h' : ∀ j (hj : j < o.length), w.cell? ⟨g, d + j, none⟩ = some (.int .i64 o[j])) (hn : o.length ≤ 100000) :
    Calls Tryd.prog 21 #[v, .slice (some ⟨g, d, none⟩) o.length c] w fun e w' => e = .returned (.bool true) ∧ Up w w' := by
  obtain ⟨A, c1, rfl, hA⟩ := h.form
  have H := Lib.hid hA
  have H' := Lib.hid h'
  clear h h' hA
  obtain ⟨m, hm⟩ : ∃ m, o.length = m := ⟨_, rfl⟩
  rw [hm]
  rw [hm] at hn
  have HM := Lib.hid hm
  clear hm
  go_enter Tryd.func21, Tryd.ntmps21
  go_wp2
  go_loopg [5] m (fun g iv wr => ∃ i : Nat, g = m - i ∧ iv = .int .i64 (i : Nat) ∧ i ≤ m ∧ Hid (Up w wr))
  case atStart => exact ⟨0, rfl, rfl, Nat.zero_le _, Lib.hid (Up.refl _)⟩
  case round =>
    obtain ⟨i, hg, rfl, hi, HU⟩ := hrel
    have HG := Lib.hid hg
    clear hg
    by_cases hlt : i < m
    · obtain ⟨g1, hA, -, c0⟩ := H.out i (by have := HM.out; omega)
      have c0' := H'.out i (by have := HM.out; omega)
      subst hA
      have c0 := cell_up HU.out c0
      have c0' := cell_up HU.out c0'
      have hi1 : i < o.length := by have := HM.out; omega
      obtain ⟨x, hx⟩ : ∃ x, o[i] = x := ⟨_, rfl⟩
      rw [hx] at c0 c0'
      have hii : (i : Int) < m := by omega
      clear hx
      go_wp2
      go_quiet (fail)
      go_wp2
      go_roundg (m - (i + 1))
      case measure => rw [HG.out]; omega
      case rel => exact ⟨i + 1, rfl, by go_num, by omega, Lib.hid (HU.out.trans (Up.drewN _ _))⟩
    · obtain rfl : i = m := by omega
      have f0 : decide (i < i) = false := decide_eq_false hlt
      clear hlt
      go_wp2
      go_ret
      exact ⟨rfl, HU.out⟩
end Go.Proofs.YtidnldchdahgeaaDoor
