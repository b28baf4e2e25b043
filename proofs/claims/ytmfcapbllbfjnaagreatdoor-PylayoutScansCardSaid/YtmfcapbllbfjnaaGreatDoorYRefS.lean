/- The document's Scan, whole. -/
import Derived.Test.YtmfcapbllbfjnaaGreatDoorYPre
namespace Go.Proofs.YtmfcapbllbfjnaaGreatDoor
open Go.RowKit

set_option maxRecDepth 1000000 in
set_option maxHeartbeats 8000000 in
theorem refScan11 (w : World) (line : ByteArray) (a : Int) (m : Nat) (d : Int) (hs : (line.size : Int) ≤ 100000) :
    Calls Tryz.prog 19 #[.string line, .int .i64 a, .int .u8 (m : Nat), .int .i64 d] w fun e w' => ∃ v, e = .returned (.agg (outA v (scanE (bl line) a m d).2)) ∧ RowE w' w.heap.size v (scanE (bl line) a m d).1 ∧ Up w w' := by
  have hq : ∀ R : Ending → World → Prop, (∀ v W', RowE W' w.heap.size v (scanE (bl line) a m d).1 → Up w W' → R (.returned (.agg (outA v (scanE (bl line) a m d).2))) W') → PreQ w line a m d (bodyPost Tryz.prog Tryz.f19 R) := by
    intro R hR x W' v' h8 hd hb hrow hup
    exact bodyPost_ret (results_cell_row (ty := OT) rfl _ _ w.heap.size _ _ _ _ (by rw [Array.getD_eq_getD_getElem?, h8]; rfl) hb Tryz.underlying49 rfl (by kernel_rfl)) hd (hR v' W' hrow hup)
  have hq2 := hq (fun e w' => ∃ v, e = .returned (.agg (outA v (scanE (bl line) a m d).2)) ∧ RowE w' w.heap.size v (scanE (bl line) a m d).1 ∧ Up w w') (fun v W' h1 h2 => ⟨v, rfl, h1, h2⟩)
  go_enter Tryz.func19, Tryz.ntmps19
  by_cases hm : m ≤ 4
  · by_cases hd0 : d < 0
    · have hd := hd0
      by_cases ha : 0 ≤ a
      · apply pre_aba w line a m d hs hm hd ha _ hq2
      · have ha : a < 0 := by omega
        apply pre_abb w line a m d hs hm hd ha _ hq2
    · by_cases hd1 : 1048576 < d
      · have hd := hd1
        by_cases ha : 0 ≤ a
        · apply pre_aca w line a m d hs hm hd ha _ hq2
        · have ha : a < 0 := by omega
          apply pre_acb w line a m d hs hm hd ha _ hq2
      · have hd : 0 ≤ d ∧ d ≤ 1048576 := by omega
        by_cases ha : 0 ≤ a
        · apply pre_aaa w line a m d hs hm hd ha _ hq2
        · have ha : a < 0 := by omega
          apply pre_aab w line a m d hs hm hd ha _ hq2
  · by_cases hd0 : d < 0
    · have hd := hd0
      by_cases ha : 0 ≤ a
      · apply pre_bba w line a m d hs hm hd ha _ hq2
      · have ha : a < 0 := by omega
        apply pre_bbb w line a m d hs hm hd ha _ hq2
    · by_cases hd1 : 1048576 < d
      · have hd := hd1
        by_cases ha : 0 ≤ a
        · apply pre_bca w line a m d hs hm hd ha _ hq2
        · have ha : a < 0 := by omega
          apply pre_bcb w line a m d hs hm hd ha _ hq2
      · have hd : 0 ≤ d ∧ d ≤ 1048576 := by omega
        by_cases ha : 0 ≤ a
        · apply pre_baa w line a m d hs hm hd ha _ hq2
        · have ha : a < 0 := by omega
          apply pre_bab w line a m d hs hm hd ha _ hq2
end Go.Proofs.YtmfcapbllbfjnaaGreatDoor
