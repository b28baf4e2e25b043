/- The document's State. -/
import Derived.Test.YtjdcbbleefepoaaIId
import Derived.Laws.ResultCell
namespace Go.Proofs.Ytjdcbbleefepoaa
open Go.RowKit
attribute [local go_sem ↓] ldS_eq stS_eq elS_eq neS_eq zrS_eq bsS_eq bdS_eq
attribute [local go_sem] ldS_run stS_run elS_run neS_run zrS_run bsS_run bdS_run0 bdS_run1 g0_rule ldV_drew ldV_drewN

/-- What State tells. -/
noncomputable def stT (L : List (Array Value)) (i : Int) : Array Value := if 0 ≤ i ∧ i < L.length then L.getD i.toNat z0 else z0
def stE (n : Nat) (i : Int) : Int := if 0 ≤ i ∧ i < n then 0 else 5
set_option maxRecDepth 100000 in
set_option maxHeartbeats 2000000 in
theorem refState_out (w : World) (tb : Nat) (v : Value) (L : List (Array Value)) (i : Int) (hT : RT w 0 tb v L) (hi : ¬ (0 ≤ i ∧ i < L.length)) :
    Calls Try.prog 13 #[.pointer (some ⟨tb, 0, none⟩), .int .i64 i] w fun e w' => e = .returned (.tuple #[.agg z0, .int .i64 5]) ∧ Up w w' := by
  obtain ⟨A, cap, rfl⟩ := none_form hT.own
  obtain ⟨n, hln⟩ : ∃ n, L.length = n := ⟨_, rfl⟩
  rw [hln] at hi
  have hu := Up.alloc w (.cells z0 TS)
  have hc : (w.alloc (.cells z0 TS)).cell? ⟨tb, 0, none⟩ = some (.slice A n cap) := by rw [← hln]; exact cell_up hu (cellOf hT.box rfl)
  have hst : stV (.pointer (some ⟨w.heap.size, 0, none⟩)) (.agg z0) (w.alloc (.cells z0 TS)) = some ((w.alloc (.cells z0 TS)).setCells w.heap.size 0 z0.toList) := stV_of z0_is (there_box w z0_is TS)
  have hld := set_ld z0_is (there_box w z0_is TS)
  have HU := Lib.hid (set_upS (b := w.heap.size) (o := 0) (l := z0.toList) hu (Nat.le_refl _))
  clear hT hu hln
  by_cases h0 : i < 0
  · clear hi
    go_enter Try.func13, Try.ntmps13
    go_wp2
    refine bodyPost_ret (res_S rfl _ _ _ _ rfl hld) rfl ?_
    exact ⟨rfl, HU.out⟩
  · have g0 : decide (i < 0) = false := decide_eq_false h0
    have g1 : (n : Int) ≤ i := by omega
    clear hi h0
    go_enter Try.func13, Try.ntmps13
    go_wp2
    refine bodyPost_ret (res_S rfl _ _ _ _ rfl hld) rfl ?_
    exact ⟨rfl, HU.out⟩
set_option maxRecDepth 100000 in
set_option maxHeartbeats 2000000 in
theorem refState_in (w : World) (tb : Nat) (v : Value) (L : List (Array Value)) (i : Nat) (hT : RT w 0 tb v L) (hi : i < L.length) :
    Calls Try.prog 13 #[.pointer (some ⟨tb, 0, none⟩), .int .i64 (i : Nat)] w fun e w' => e = .returned (.tuple #[.agg L[i], .int .i64 0]) ∧ Up w w' := by
  obtain ⟨g, cap, rfl, -, -, hr⟩ := row_range hT.own hT.st i hi
  obtain ⟨n, hln⟩ : ∃ n, L.length = n := ⟨_, rfl⟩
  have hy := hT.st _ (List.getElem_mem hi)
  obtain ⟨y, hyy⟩ : ∃ y, L[i] = y := ⟨_, rfl⟩
  rw [hyy] at hr hy ⊢
  have hlt : i < n := by omega
  have hu := Up.alloc w (.cells z0 TS)
  have hc : (w.alloc (.cells z0 TS)).cell? ⟨tb, 0, none⟩ = some (.slice (some ⟨g, 0, none⟩) n cap) := by rw [← hln]; exact cell_up hu (cellOf hT.box rfl)
  have hl := ldV_of hy (range_up hu hr)
  have hst : stV (.pointer (some ⟨w.heap.size, 0, none⟩)) (.agg y) (w.alloc (.cells z0 TS)) = some ((w.alloc (.cells z0 TS)).setCells w.heap.size 0 y.toList) := stV_of hy (there_box w z0_is TS)
  have hld := set_ld hy (there_box w z0_is TS)
  have HU := Lib.hid (set_upS (b := w.heap.size) (o := 0) (l := y.toList) hu (Nat.le_refl _))
  have p0 : (0 : Int) ≤ i := by omega
  have p1 : (i : Int) < n := by omega
  have g0 : decide ((i : Int) < 0) = false := decide_eq_false (by omega)
  have g1 : decide (n ≤ i) = false := decide_eq_false (by omega)
  clear hT hu hln hyy hr hy hi
  go_enter Try.func13, Try.ntmps13
  go_wp2
  refine bodyPost_ret (res_S rfl _ _ _ _ rfl hld) rfl ?_
  exact ⟨rfl, HU.out⟩
end Go.Proofs.Ytjdcbbleefepoaa
