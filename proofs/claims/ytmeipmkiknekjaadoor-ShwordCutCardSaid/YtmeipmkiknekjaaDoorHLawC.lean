/- ShwordCut walked. -/
import Derived.Test.YtmeipmkiknekjaaDoorHCut
import Derived.Test.YtmeipmkiknekjaaDoorHLawA
import Derived.Test.YtmeipmkiknekjaaDoorHLawT
import Derived.Test.YtmeipmkiknekjaaDoorHCutP
namespace Go.Proofs.YtmeipmkiknekjaaDoor
open Go.RowKit
set_option linter.unusedVariables false

set_option maxRecDepth 100000 in
set_option maxHeartbeats 4000000 in
theorem cut_far (W : World) (hT : TabH W) (line : ByteArray) (k : Int) (h : (4096 : Int) < line.size) : Calls Tryd.prog 7 #[.string line, .int .i64 k] W fun e w' => e = .returned (.bool true) ∧ Up W w' := by
  have HK := Lib.hid (wakes_any W hT)
  clear hT
  go_enter Tryd.func7, Tryd.ntmps7
  go_wp2_with (first
    | (go_at_call 8; ((with_reducible refine (HK.out).mono ?_); rintro e w3 ⟨rfl, hu⟩; have HU := Lib.hid hu; clear hu)))
  go_ret
  exact ⟨rfl, HU.out⟩
set_option maxRecDepth 100000 in
set_option maxHeartbeats 4000000 in
theorem cut_lf_neg (W : World) (hT : TabH W) (line : ByteArray) (k : Int) (hs : (line.size : Int) ≤ 4096) (h0 : 0 < line.size) (h1 : bt line (line.size - 1) = 10) (g0 : k < 0) : Calls Tryd.prog 7 #[.string line, .int .i64 k] W fun e w' => e = .returned (.bool true) ∧ Up W w' := by
  have HR := Lib.hid (show Calls Tryd.prog 9 #[.string line, .int .i64 0, .int .u8 0] W fun e w' => (∃ v, e = .returned (.tuple #[v, .int .u8 ((rdE (bl line) 0 0).2 : Nat)]) ∧ RowP w' W.heap.size v (rdE (bl line) 0 0).1) ∧ Up W w' from read_any W hT line 0 0 (by omega))
  generalize rdE (bl line) 0 0 = RR at HR
  have HK := Lib.hid (fun w (h : TabH w) => wakes_any w h)
  have HT := Lib.hid hT
  have f0 : ¬ ((4096 : Int) < line.size) := by omega
  have f1 : decide ((4096 : Int) < line.size) = false := decide_eq_false f0
  have hcon := con_lf h0 h1
  obtain ⟨z, hz⟩ : ∃ z, line.size = z + 1 := ⟨line.size - 1, by omega⟩
  rw [show line.size - 1 = z from by omega] at h1 hcon
  have hzl : z < line.size := by omega
  have hzi : (z : Int) < line.size := by omega
  have hz0 : (0 : Int) ≤ (z : Int) := by omega
  have hp0 : (0 : Int) < line.size := by omega
  have hez : IntKind.i64.wrap ((line.size : Int) - 1) = (z : Nat) := (IntWalk.i64_in _ (by omega)).trans (by omega)
  have hx : line[z].toNat = 10 := by rw [bt_eq hzl]; exact h1
  have HZ := Lib.hid hz
  clear hz
  clear hT hcon hs
  skip
  all_goals
    go_enter Tryd.func7, Tryd.ntmps7
    go_wp2_with (first
      | (go_at_call 9; ((with_reducible refine (HR.out).mono ?_); rintro e w1 ⟨⟨v, rfl, hrow⟩, hu⟩; obtain ⟨A, c, rfl⟩ := own_slice hrow; have HU := Lib.hid hu; clear hrow hu))
      | (go_at_call 8; ((with_reducible refine (HK.out _ (HT.out.up HU.out)).mono ?_); rintro e w3 ⟨rfl, hu⟩; have HU := Lib.hid (HU.out.trans hu); clear hu)))
    go_ret
    exact ⟨rfl, HU.out⟩
set_option maxRecDepth 100000 in
set_option maxHeartbeats 4000000 in
theorem cut_lf_big (W : World) (hT : TabH W) (line : ByteArray) (k : Int) (hs : (line.size : Int) ≤ 4096) (h0 : 0 < line.size) (h1 : bt line (line.size - 1) = 10) (g0 : (con (bl line) : Int) ≤ k) : Calls Tryd.prog 7 #[.string line, .int .i64 k] W fun e w' => e = .returned (.bool true) ∧ Up W w' := by
  have HR := Lib.hid (show Calls Tryd.prog 9 #[.string line, .int .i64 0, .int .u8 0] W fun e w' => (∃ v, e = .returned (.tuple #[v, .int .u8 ((rdE (bl line) 0 0).2 : Nat)]) ∧ RowP w' W.heap.size v (rdE (bl line) 0 0).1) ∧ Up W w' from read_any W hT line 0 0 (by omega))
  generalize rdE (bl line) 0 0 = RR at HR
  have HK := Lib.hid (fun w (h : TabH w) => wakes_any w h)
  have HT := Lib.hid hT
  have f0 : ¬ ((4096 : Int) < line.size) := by omega
  have f1 : decide ((4096 : Int) < line.size) = false := decide_eq_false f0
  have hcon := con_lf h0 h1
  obtain ⟨z, hz⟩ : ∃ z, line.size = z + 1 := ⟨line.size - 1, by omega⟩
  rw [show line.size - 1 = z from by omega] at h1 hcon
  have hzl : z < line.size := by omega
  have hzi : (z : Int) < line.size := by omega
  have hz0 : (0 : Int) ≤ (z : Int) := by omega
  have hp0 : (0 : Int) < line.size := by omega
  have hez : IntKind.i64.wrap ((line.size : Int) - 1) = (z : Nat) := (IntWalk.i64_in _ (by omega)).trans (by omega)
  have hx : line[z].toNat = 10 := by rw [bt_eq hzl]; exact h1
  have HZ := Lib.hid hz
  clear hz
  rw [hcon] at g0
  have g1 : ¬ k < 0 := by omega
  have g2 : decide (k < 0) = false := decide_eq_false g1
  clear hT hcon hs
  skip
  all_goals
    go_enter Tryd.func7, Tryd.ntmps7
    go_wp2_with (first
      | (go_at_call 9; ((with_reducible refine (HR.out).mono ?_); rintro e w1 ⟨⟨v, rfl, hrow⟩, hu⟩; obtain ⟨A, c, rfl⟩ := own_slice hrow; have HU := Lib.hid hu; clear hrow hu))
      | (go_at_call 8; ((with_reducible refine (HK.out _ (HT.out.up HU.out)).mono ?_); rintro e w3 ⟨rfl, hu⟩; have HU := Lib.hid (HU.out.trans hu); clear hu)))
    go_ret
    exact ⟨rfl, HU.out⟩
set_option maxRecDepth 100000 in
set_option maxHeartbeats 4000000 in
theorem cut_lf_sgn (W : World) (hT : TabH W) (line : ByteArray) (k : Int) (hs : (line.size : Int) ≤ 4096) (h0 : 0 < line.size) (h1 : bt line (line.size - 1) = 10) (j : Nat) (gj : k = (j : Nat)) (g0 : j < con (bl line)) (g1 : isW (bt line j) = false) : Calls Tryd.prog 7 #[.string line, .int .i64 k] W fun e w' => e = .returned (.bool true) ∧ Up W w' := by
  have HR := Lib.hid (show Calls Tryd.prog 9 #[.string line, .int .i64 0, .int .u8 0] W fun e w' => (∃ v, e = .returned (.tuple #[v, .int .u8 ((rdE (bl line) 0 0).2 : Nat)]) ∧ RowP w' W.heap.size v (rdE (bl line) 0 0).1) ∧ Up W w' from read_any W hT line 0 0 (by omega))
  generalize rdE (bl line) 0 0 = RR at HR
  have HK := Lib.hid (fun w (h : TabH w) => wakes_any w h)
  have HT := Lib.hid hT
  have f0 : ¬ ((4096 : Int) < line.size) := by omega
  have f1 : decide ((4096 : Int) < line.size) = false := decide_eq_false f0
  have hcon := con_lf h0 h1
  obtain ⟨z, hz⟩ : ∃ z, line.size = z + 1 := ⟨line.size - 1, by omega⟩
  rw [show line.size - 1 = z from by omega] at h1 hcon
  have hzl : z < line.size := by omega
  have hzi : (z : Int) < line.size := by omega
  have hz0 : (0 : Int) ≤ (z : Int) := by omega
  have hp0 : (0 : Int) < line.size := by omega
  have hez : IntKind.i64.wrap ((line.size : Int) - 1) = (z : Nat) := (IntWalk.i64_in _ (by omega)).trans (by omega)
  have hx : line[z].toNat = 10 := by rw [bt_eq hzl]; exact h1
  have HZ := Lib.hid hz
  clear hz
  rw [hcon] at g0
  have HJ := Lib.hid g0
  subst gj
  obtain ⟨d, hd⟩ : ∃ d, bt line j = d := ⟨_, rfl⟩
  rw [hd] at g1
  have jl : j < line.size := by have := (con_le (bl line)).1; rw [hcon, bl_len] at this; omega
  have hjx : line[j].toNat = d := by rw [bt_eq jl]; exact hd
  have j0 : ¬ ((j : Int) < 0) := by omega
  have j1 : ¬ (((z : Nat) : Int) ≤ (j : Int)) := by omega
  have j2 : (0 : Int) ≤ (j : Int) := by omega
  have j3 : (j : Int) < line.size := by omega
  have g3 : d ≠ 32 ∧ d ≠ 9 := by unfold isW at g1; simpa using g1
  have n1 : ((d : Int) == 32) = false := beq_eq_false_iff_ne.2 (by omega)
  have n2 : ((d : Int) == 9) = false := beq_eq_false_iff_ne.2 (by omega)
  have m1 : ((d : Int) != 32) = true := by rw [bne, n1]; rfl
  have m2 : ((d : Int) != 9) = true := by rw [bne, n2]; rfl
  have j4 : decide (z ≤ j) = false := decide_eq_false (by omega)
  clear hd g1 g3 g0
  clear hT hcon hs
  skip
  all_goals
    go_enter Tryd.func7, Tryd.ntmps7
    go_wp2_with (first
      | (go_at_call 9; ((with_reducible refine (HR.out).mono ?_); rintro e w1 ⟨⟨v, rfl, hrow⟩, hu⟩; obtain ⟨A, c, rfl⟩ := own_slice hrow; have HU := Lib.hid hu; clear hrow hu))
      | (go_at_call 8; ((with_reducible refine (HK.out _ (HT.out.up HU.out)).mono ?_); rintro e w3 ⟨rfl, hu⟩; have HU := Lib.hid (HU.out.trans hu); clear hu)))
    go_ret
    exact ⟨rfl, HU.out⟩
set_option maxRecDepth 100000 in
set_option maxHeartbeats 4000000 in
theorem cut_lf_lfb (W : World) (hT : TabH W) (line : ByteArray) (k : Int) (hs : (line.size : Int) ≤ 4096) (h0 : 0 < line.size) (h1 : bt line (line.size - 1) = 10) (j : Nat) (gj : k = (j : Nat) + 1) (g0 : j + 1 < con (bl line)) (g1 : isW (bt line (j + 1)) = true) (g2 : bt line j = 10) : Calls Tryd.prog 7 #[.string line, .int .i64 k] W fun e w' => e = .returned (.bool true) ∧ Up W w' := by
  have HR := Lib.hid (show Calls Tryd.prog 9 #[.string line, .int .i64 0, .int .u8 0] W fun e w' => (∃ v, e = .returned (.tuple #[v, .int .u8 ((rdE (bl line) 0 0).2 : Nat)]) ∧ RowP w' W.heap.size v (rdE (bl line) 0 0).1) ∧ Up W w' from read_any W hT line 0 0 (by omega))
  generalize rdE (bl line) 0 0 = RR at HR
  have HK := Lib.hid (fun w (h : TabH w) => wakes_any w h)
  have HT := Lib.hid hT
  have f0 : ¬ ((4096 : Int) < line.size) := by omega
  have f1 : decide ((4096 : Int) < line.size) = false := decide_eq_false f0
  have hcon := con_lf h0 h1
  obtain ⟨z, hz⟩ : ∃ z, line.size = z + 1 := ⟨line.size - 1, by omega⟩
  rw [show line.size - 1 = z from by omega] at h1 hcon
  have hzl : z < line.size := by omega
  have hzi : (z : Int) < line.size := by omega
  have hz0 : (0 : Int) ≤ (z : Int) := by omega
  have hp0 : (0 : Int) < line.size := by omega
  have hez : IntKind.i64.wrap ((line.size : Int) - 1) = (z : Nat) := (IntWalk.i64_in _ (by omega)).trans (by omega)
  have hx : line[z].toNat = 10 := by rw [bt_eq hzl]; exact h1
  have HZ := Lib.hid hz
  clear hz
  rw [hcon] at g0
  subst gj
  obtain ⟨d, hd⟩ : ∃ d, bt line (j + 1) = d := ⟨_, rfl⟩
  rw [hd] at g1
  have jl : j + 1 < line.size := by have := (con_le (bl line)).1; rw [hcon, bl_len] at this; omega
  have hjx : line[j + 1].toNat = d := by rw [bt_eq jl]; exact hd
  have jl2 : j < line.size := by omega
  have hjy : line[j].toNat = 10 := by rw [bt_eq jl2]; exact g2
  have j0 : ¬ ((j : Int) + 1 < 0) := by omega
  have j1 : ¬ (((z : Nat) : Int) ≤ (j : Int) + 1) := by omega
  have j2 : (0 : Int) ≤ (j : Int) + 1 := by omega
  have j3 : (j : Int) + 1 < line.size := by omega
  have j5 : (0 : Int) < (j : Int) + 1 := by omega
  have j6 : (0 : Int) ≤ (j : Int) := by omega
  have j7 : (j : Int) < line.size := by omega
  have j8 : IntKind.i64.wrap ((j : Int) + 1 - 1) = (j : Nat) := (IntWalk.i64_in _ (by omega)).trans (by omega)
  have g3 : d = 32 ∨ d = 9 := by unfold isW at g1; simpa using g1
  have j4 : decide (z ≤ j + 1) = false := decide_eq_false (by omega)
  clear hd g1 g0
  clear hT hcon hs
  rcases g3 with rfl | rfl
  all_goals
    go_enter Tryd.func7, Tryd.ntmps7
    go_wp2_with (first
      | (go_at_call 9; ((with_reducible refine (HR.out).mono ?_); rintro e w1 ⟨⟨v, rfl, hrow⟩, hu⟩; obtain ⟨A, c, rfl⟩ := own_slice hrow; have HU := Lib.hid hu; clear hrow hu))
      | (go_at_call 8; ((with_reducible refine (HK.out _ (HT.out.up HU.out)).mono ?_); rintro e w3 ⟨rfl, hu⟩; have HU := Lib.hid (HU.out.trans hu); clear hu)))
    go_ret
    exact ⟨rfl, HU.out⟩
set_option maxRecDepth 100000 in
set_option maxHeartbeats 4000000 in
theorem cut_no_neg (W : World) (hT : TabH W) (line : ByteArray) (k : Int) (hs : (line.size : Int) ≤ 4096) (h0 : 0 < line.size) (h1 : bt line (line.size - 1) ≠ 10) (g0 : k < 0) : Calls Tryd.prog 7 #[.string line, .int .i64 k] W fun e w' => e = .returned (.bool true) ∧ Up W w' := by
  have HR := Lib.hid (show Calls Tryd.prog 9 #[.string line, .int .i64 0, .int .u8 0] W fun e w' => (∃ v, e = .returned (.tuple #[v, .int .u8 ((rdE (bl line) 0 0).2 : Nat)]) ∧ RowP w' W.heap.size v (rdE (bl line) 0 0).1) ∧ Up W w' from read_any W hT line 0 0 (by omega))
  generalize rdE (bl line) 0 0 = RR at HR
  have HK := Lib.hid (fun w (h : TabH w) => wakes_any w h)
  have HT := Lib.hid hT
  have f0 : ¬ ((4096 : Int) < line.size) := by omega
  have f1 : decide ((4096 : Int) < line.size) = false := decide_eq_false f0
  have hcon := con_no (.inr h1)
  obtain ⟨z, hz⟩ : ∃ z, line.size = z + 1 := ⟨line.size - 1, by omega⟩
  rw [show line.size - 1 = z from by omega] at h1
  have hzl : z < line.size := by omega
  have hzi : (z : Int) < line.size := by omega
  have hz0 : (0 : Int) ≤ (z : Int) := by omega
  have hp0 : (0 : Int) < line.size := by omega
  have hez : IntKind.i64.wrap ((line.size : Int) - 1) = (z : Nat) := (IntWalk.i64_in _ (by omega)).trans (by omega)
  obtain ⟨y, hy⟩ : ∃ y, bt line z = y := ⟨_, rfl⟩
  have hx : line[z].toNat = y := by rw [bt_eq hzl]; exact hy
  rw [hy] at h1
  have hyn : ((y : Int) == 10) = false := beq_eq_false_iff_ne.2 (by omega)
  clear hy
  have HZ := Lib.hid hz
  clear hz
  clear hT hcon hs
  skip
  all_goals
    go_enter Tryd.func7, Tryd.ntmps7
    go_wp2_with (first
      | (go_at_call 9; ((with_reducible refine (HR.out).mono ?_); rintro e w1 ⟨⟨v, rfl, hrow⟩, hu⟩; obtain ⟨A, c, rfl⟩ := own_slice hrow; have HU := Lib.hid hu; clear hrow hu))
      | (go_at_call 8; ((with_reducible refine (HK.out _ (HT.out.up HU.out)).mono ?_); rintro e w3 ⟨rfl, hu⟩; have HU := Lib.hid (HU.out.trans hu); clear hu)))
    go_ret
    exact ⟨rfl, HU.out⟩
set_option maxRecDepth 100000 in
set_option maxHeartbeats 4000000 in
theorem cut_no_big (W : World) (hT : TabH W) (line : ByteArray) (k : Int) (hs : (line.size : Int) ≤ 4096) (h0 : 0 < line.size) (h1 : bt line (line.size - 1) ≠ 10) (g0 : (con (bl line) : Int) ≤ k) : Calls Tryd.prog 7 #[.string line, .int .i64 k] W fun e w' => e = .returned (.bool true) ∧ Up W w' := by
  have HR := Lib.hid (show Calls Tryd.prog 9 #[.string line, .int .i64 0, .int .u8 0] W fun e w' => (∃ v, e = .returned (.tuple #[v, .int .u8 ((rdE (bl line) 0 0).2 : Nat)]) ∧ RowP w' W.heap.size v (rdE (bl line) 0 0).1) ∧ Up W w' from read_any W hT line 0 0 (by omega))
  generalize rdE (bl line) 0 0 = RR at HR
  have HK := Lib.hid (fun w (h : TabH w) => wakes_any w h)
  have HT := Lib.hid hT
  have f0 : ¬ ((4096 : Int) < line.size) := by omega
  have f1 : decide ((4096 : Int) < line.size) = false := decide_eq_false f0
  have hcon := con_no (.inr h1)
  obtain ⟨z, hz⟩ : ∃ z, line.size = z + 1 := ⟨line.size - 1, by omega⟩
  rw [show line.size - 1 = z from by omega] at h1
  have hzl : z < line.size := by omega
  have hzi : (z : Int) < line.size := by omega
  have hz0 : (0 : Int) ≤ (z : Int) := by omega
  have hp0 : (0 : Int) < line.size := by omega
  have hez : IntKind.i64.wrap ((line.size : Int) - 1) = (z : Nat) := (IntWalk.i64_in _ (by omega)).trans (by omega)
  obtain ⟨y, hy⟩ : ∃ y, bt line z = y := ⟨_, rfl⟩
  have hx : line[z].toNat = y := by rw [bt_eq hzl]; exact hy
  rw [hy] at h1
  have hyn : ((y : Int) == 10) = false := beq_eq_false_iff_ne.2 (by omega)
  clear hy
  have HZ := Lib.hid hz
  clear hz
  rw [hcon] at g0
  have g1 : ¬ k < 0 := by omega
  have g2 : decide (k < 0) = false := decide_eq_false g1
  clear hT hcon hs
  skip
  all_goals
    go_enter Tryd.func7, Tryd.ntmps7
    go_wp2_with (first
      | (go_at_call 9; ((with_reducible refine (HR.out).mono ?_); rintro e w1 ⟨⟨v, rfl, hrow⟩, hu⟩; obtain ⟨A, c, rfl⟩ := own_slice hrow; have HU := Lib.hid hu; clear hrow hu))
      | (go_at_call 8; ((with_reducible refine (HK.out _ (HT.out.up HU.out)).mono ?_); rintro e w3 ⟨rfl, hu⟩; have HU := Lib.hid (HU.out.trans hu); clear hu)))
    go_ret
    exact ⟨rfl, HU.out⟩
set_option maxRecDepth 100000 in
set_option maxHeartbeats 4000000 in
theorem cut_no_sgn (W : World) (hT : TabH W) (line : ByteArray) (k : Int) (hs : (line.size : Int) ≤ 4096) (h0 : 0 < line.size) (h1 : bt line (line.size - 1) ≠ 10) (j : Nat) (gj : k = (j : Nat)) (g0 : j < con (bl line)) (g1 : isW (bt line j) = false) : Calls Tryd.prog 7 #[.string line, .int .i64 k] W fun e w' => e = .returned (.bool true) ∧ Up W w' := by
  have HR := Lib.hid (show Calls Tryd.prog 9 #[.string line, .int .i64 0, .int .u8 0] W fun e w' => (∃ v, e = .returned (.tuple #[v, .int .u8 ((rdE (bl line) 0 0).2 : Nat)]) ∧ RowP w' W.heap.size v (rdE (bl line) 0 0).1) ∧ Up W w' from read_any W hT line 0 0 (by omega))
  generalize rdE (bl line) 0 0 = RR at HR
  have HK := Lib.hid (fun w (h : TabH w) => wakes_any w h)
  have HT := Lib.hid hT
  have f0 : ¬ ((4096 : Int) < line.size) := by omega
  have f1 : decide ((4096 : Int) < line.size) = false := decide_eq_false f0
  have hcon := con_no (.inr h1)
  obtain ⟨z, hz⟩ : ∃ z, line.size = z + 1 := ⟨line.size - 1, by omega⟩
  rw [show line.size - 1 = z from by omega] at h1
  have hzl : z < line.size := by omega
  have hzi : (z : Int) < line.size := by omega
  have hz0 : (0 : Int) ≤ (z : Int) := by omega
  have hp0 : (0 : Int) < line.size := by omega
  have hez : IntKind.i64.wrap ((line.size : Int) - 1) = (z : Nat) := (IntWalk.i64_in _ (by omega)).trans (by omega)
  obtain ⟨y, hy⟩ : ∃ y, bt line z = y := ⟨_, rfl⟩
  have hx : line[z].toNat = y := by rw [bt_eq hzl]; exact hy
  rw [hy] at h1
  have hyn : ((y : Int) == 10) = false := beq_eq_false_iff_ne.2 (by omega)
  clear hy
  have HZ := Lib.hid hz
  clear hz
  rw [hcon] at g0
  have HJ := Lib.hid g0
  subst gj
  obtain ⟨d, hd⟩ : ∃ d, bt line j = d := ⟨_, rfl⟩
  rw [hd] at g1
  have jl : j < line.size := by have := (con_le (bl line)).1; rw [hcon, bl_len] at this; omega
  have hjx : line[j].toNat = d := by rw [bt_eq jl]; exact hd
  have j0 : ¬ ((j : Int) < 0) := by omega
  have j1 : ¬ (((line.size : Nat) : Int) ≤ (j : Int)) := by omega
  have j2 : (0 : Int) ≤ (j : Int) := by omega
  have j3 : (j : Int) < line.size := by omega
  have g3 : d ≠ 32 ∧ d ≠ 9 := by unfold isW at g1; simpa using g1
  have n1 : ((d : Int) == 32) = false := beq_eq_false_iff_ne.2 (by omega)
  have n2 : ((d : Int) == 9) = false := beq_eq_false_iff_ne.2 (by omega)
  have m1 : ((d : Int) != 32) = true := by rw [bne, n1]; rfl
  have m2 : ((d : Int) != 9) = true := by rw [bne, n2]; rfl
  have j4 : decide (line.size ≤ j) = false := decide_eq_false (by omega)
  clear hd g1 g3 g0
  clear hT hcon hs
  skip
  all_goals
    go_enter Tryd.func7, Tryd.ntmps7
    go_wp2_with (first
      | (go_at_call 9; ((with_reducible refine (HR.out).mono ?_); rintro e w1 ⟨⟨v, rfl, hrow⟩, hu⟩; obtain ⟨A, c, rfl⟩ := own_slice hrow; have HU := Lib.hid hu; clear hrow hu))
      | (go_at_call 8; ((with_reducible refine (HK.out _ (HT.out.up HU.out)).mono ?_); rintro e w3 ⟨rfl, hu⟩; have HU := Lib.hid (HU.out.trans hu); clear hu)))
    go_ret
    exact ⟨rfl, HU.out⟩
set_option maxRecDepth 100000 in
set_option maxHeartbeats 4000000 in
theorem cut_no_lfb (W : World) (hT : TabH W) (line : ByteArray) (k : Int) (hs : (line.size : Int) ≤ 4096) (h0 : 0 < line.size) (h1 : bt line (line.size - 1) ≠ 10) (j : Nat) (gj : k = (j : Nat) + 1) (g0 : j + 1 < con (bl line)) (g1 : isW (bt line (j + 1)) = true) (g2 : bt line j = 10) : Calls Tryd.prog 7 #[.string line, .int .i64 k] W fun e w' => e = .returned (.bool true) ∧ Up W w' := by
  have HR := Lib.hid (show Calls Tryd.prog 9 #[.string line, .int .i64 0, .int .u8 0] W fun e w' => (∃ v, e = .returned (.tuple #[v, .int .u8 ((rdE (bl line) 0 0).2 : Nat)]) ∧ RowP w' W.heap.size v (rdE (bl line) 0 0).1) ∧ Up W w' from read_any W hT line 0 0 (by omega))
  generalize rdE (bl line) 0 0 = RR at HR
  have HK := Lib.hid (fun w (h : TabH w) => wakes_any w h)
  have HT := Lib.hid hT
  have f0 : ¬ ((4096 : Int) < line.size) := by omega
  have f1 : decide ((4096 : Int) < line.size) = false := decide_eq_false f0
  have hcon := con_no (.inr h1)
  obtain ⟨z, hz⟩ : ∃ z, line.size = z + 1 := ⟨line.size - 1, by omega⟩
  rw [show line.size - 1 = z from by omega] at h1
  have hzl : z < line.size := by omega
  have hzi : (z : Int) < line.size := by omega
  have hz0 : (0 : Int) ≤ (z : Int) := by omega
  have hp0 : (0 : Int) < line.size := by omega
  have hez : IntKind.i64.wrap ((line.size : Int) - 1) = (z : Nat) := (IntWalk.i64_in _ (by omega)).trans (by omega)
  obtain ⟨y, hy⟩ : ∃ y, bt line z = y := ⟨_, rfl⟩
  have hx : line[z].toNat = y := by rw [bt_eq hzl]; exact hy
  rw [hy] at h1
  have hyn : ((y : Int) == 10) = false := beq_eq_false_iff_ne.2 (by omega)
  clear hy
  have HZ := Lib.hid hz
  clear hz
  rw [hcon] at g0
  subst gj
  obtain ⟨d, hd⟩ : ∃ d, bt line (j + 1) = d := ⟨_, rfl⟩
  rw [hd] at g1
  have jl : j + 1 < line.size := by have := (con_le (bl line)).1; rw [hcon, bl_len] at this; omega
  have hjx : line[j + 1].toNat = d := by rw [bt_eq jl]; exact hd
  have jl2 : j < line.size := by omega
  have hjy : line[j].toNat = 10 := by rw [bt_eq jl2]; exact g2
  have j0 : ¬ ((j : Int) + 1 < 0) := by omega
  have j1 : ¬ (((line.size : Nat) : Int) ≤ (j : Int) + 1) := by omega
  have j2 : (0 : Int) ≤ (j : Int) + 1 := by omega
  have j3 : (j : Int) + 1 < line.size := by omega
  have j5 : (0 : Int) < (j : Int) + 1 := by omega
  have j6 : (0 : Int) ≤ (j : Int) := by omega
  have j7 : (j : Int) < line.size := by omega
  have j8 : IntKind.i64.wrap ((j : Int) + 1 - 1) = (j : Nat) := (IntWalk.i64_in _ (by omega)).trans (by omega)
  have g3 : d = 32 ∨ d = 9 := by unfold isW at g1; simpa using g1
  have j4 : decide (line.size ≤ j + 1) = false := decide_eq_false (by omega)
  clear hd g1 g0
  clear hT hcon hs
  rcases g3 with rfl | rfl
  all_goals
    go_enter Tryd.func7, Tryd.ntmps7
    go_wp2_with (first
      | (go_at_call 9; ((with_reducible refine (HR.out).mono ?_); rintro e w1 ⟨⟨v, rfl, hrow⟩, hu⟩; obtain ⟨A, c, rfl⟩ := own_slice hrow; have HU := Lib.hid hu; clear hrow hu))
      | (go_at_call 8; ((with_reducible refine (HK.out _ (HT.out.up HU.out)).mono ?_); rintro e w3 ⟨rfl, hu⟩; have HU := Lib.hid (HU.out.trans hu); clear hu)))
    go_ret
    exact ⟨rfl, HU.out⟩
set_option maxRecDepth 100000 in
set_option maxHeartbeats 4000000 in
theorem cut_em_neg (W : World) (hT : TabH W) (line : ByteArray) (k : Int) (hs : (line.size : Int) ≤ 4096) (h0 : line.size = 0) (g0 : k < 0) : Calls Tryd.prog 7 #[.string line, .int .i64 k] W fun e w' => e = .returned (.bool true) ∧ Up W w' := by
  have HR := Lib.hid (show Calls Tryd.prog 9 #[.string line, .int .i64 0, .int .u8 0] W fun e w' => (∃ v, e = .returned (.tuple #[v, .int .u8 ((rdE (bl line) 0 0).2 : Nat)]) ∧ RowP w' W.heap.size v (rdE (bl line) 0 0).1) ∧ Up W w' from read_any W hT line 0 0 (by omega))
  generalize rdE (bl line) 0 0 = RR at HR
  have HK := Lib.hid (fun w (h : TabH w) => wakes_any w h)
  have HT := Lib.hid hT
  have f0 : ¬ ((4096 : Int) < line.size) := by omega
  have f1 : decide ((4096 : Int) < line.size) = false := decide_eq_false f0
  have hcon := con_no (.inl h0)
  have hp0 : ¬ ((0 : Int) < line.size) := by omega
  have hp1 : decide ((0 : Int) < line.size) = false := decide_eq_false hp0
  have hp2 : decide (0 < line.size) = false := decide_eq_false (by omega)
  have HZ := Lib.hid h0
  clear h0
  clear hT hcon hs
  skip
  all_goals
    go_enter Tryd.func7, Tryd.ntmps7
    go_wp2_with (first
      | (go_at_call 9; ((with_reducible refine (HR.out).mono ?_); rintro e w1 ⟨⟨v, rfl, hrow⟩, hu⟩; obtain ⟨A, c, rfl⟩ := own_slice hrow; have HU := Lib.hid hu; clear hrow hu))
      | (go_at_call 8; ((with_reducible refine (HK.out _ (HT.out.up HU.out)).mono ?_); rintro e w3 ⟨rfl, hu⟩; have HU := Lib.hid (HU.out.trans hu); clear hu)))
    go_ret
    exact ⟨rfl, HU.out⟩
set_option maxRecDepth 100000 in
set_option maxHeartbeats 4000000 in
theorem cut_em_big (W : World) (hT : TabH W) (line : ByteArray) (k : Int) (hs : (line.size : Int) ≤ 4096) (h0 : line.size = 0) (g0 : (con (bl line) : Int) ≤ k) : Calls Tryd.prog 7 #[.string line, .int .i64 k] W fun e w' => e = .returned (.bool true) ∧ Up W w' := by
  have HR := Lib.hid (show Calls Tryd.prog 9 #[.string line, .int .i64 0, .int .u8 0] W fun e w' => (∃ v, e = .returned (.tuple #[v, .int .u8 ((rdE (bl line) 0 0).2 : Nat)]) ∧ RowP w' W.heap.size v (rdE (bl line) 0 0).1) ∧ Up W w' from read_any W hT line 0 0 (by omega))
  generalize rdE (bl line) 0 0 = RR at HR
  have HK := Lib.hid (fun w (h : TabH w) => wakes_any w h)
  have HT := Lib.hid hT
  have f0 : ¬ ((4096 : Int) < line.size) := by omega
  have f1 : decide ((4096 : Int) < line.size) = false := decide_eq_false f0
  have hcon := con_no (.inl h0)
  have hp0 : ¬ ((0 : Int) < line.size) := by omega
  have hp1 : decide ((0 : Int) < line.size) = false := decide_eq_false hp0
  have hp2 : decide (0 < line.size) = false := decide_eq_false (by omega)
  have HZ := Lib.hid h0
  clear h0
  rw [hcon] at g0
  have g1 : ¬ k < 0 := by omega
  have g2 : decide (k < 0) = false := decide_eq_false g1
  clear hT hcon hs
  skip
  all_goals
    go_enter Tryd.func7, Tryd.ntmps7
    go_wp2_with (first
      | (go_at_call 9; ((with_reducible refine (HR.out).mono ?_); rintro e w1 ⟨⟨v, rfl, hrow⟩, hu⟩; obtain ⟨A, c, rfl⟩ := own_slice hrow; have HU := Lib.hid hu; clear hrow hu))
      | (go_at_call 8; ((with_reducible refine (HK.out _ (HT.out.up HU.out)).mono ?_); rintro e w3 ⟨rfl, hu⟩; have HU := Lib.hid (HU.out.trans hu); clear hu)))
    go_ret
    exact ⟨rfl, HU.out⟩
set_option maxRecDepth 100000 in
set_option maxHeartbeats 16000000 in
theorem cut_in_lf (W : World) (hT : TabH W) (line : ByteArray) (k : Nat) (hs : (line.size : Int) ≤ 4096) (h0 : 0 < line.size) (h1 : bt line (line.size - 1) = 10) (hc : CutAt (bl line) k) : Calls Tryd.prog 7 #[.string line, .int .i64 (k : Nat)] W fun e w' => e = .returned (.bool true) ∧ Up W w' := by
  have HR := Lib.hid (show Calls Tryd.prog 9 #[.string line, .int .i64 0, .int .u8 0] W fun e w' => (∃ v, e = .returned (.tuple #[v, .int .u8 ((rdE (bl line) 0 0).2 : Nat)]) ∧ RowP w' W.heap.size v (rdE (bl line) 0 0).1) ∧ Up W w' from read_any W hT line 0 0 (by omega))
  have HRA := Lib.hid (fun w (h : TabH w) => (show Calls Tryd.prog 9 #[.string (line.extract 0 k), .int .i64 0, .int .u8 0] w fun e w' => (∃ v, e = .returned (.tuple #[v, .int .u8 ((rdE ((bl line).take k) 0 0).2 : Nat)]) ∧ RowP w' w.heap.size v (rdE ((bl line).take k) 0 0).1) ∧ Up w w' from by
    have := read_any w h (line.extract 0 k) 0 0 (by have : (line.extract 0 k).size ≤ line.size := by rw [ByteArray.size_extract]; omega
                                                    omega)
    rw [bl_extract, List.drop_zero] at this
    exact this))
  have HRB := Lib.hid (fun w (h : TabH w) => (show Calls Tryd.prog 9 #[.string line, .int .i64 (k : Nat), .int .u8 0] w fun e w' => (∃ v, e = .returned (.tuple #[v, .int .u8 ((rdE (bl line) (k : Nat) 0).2 : Nat)]) ∧ RowP w' w.heap.size v (rdE (bl line) (k : Nat) 0).1) ∧ Up w w' from read_any w h line (k : Nat) 0 (by omega)))
  have HX := Lib.hid (rdE_cut hc)
  have hLen := rdE_len (bl line) 0 0 (Nat.zero_le _)
  have hclt := hc.lt
  have hcl := (con_le (bl line)).1
  rw [bl_len] at hcl
  have hkl : k < line.size := by omega
  have HW := Lib.hid (show isW (bt line k) = true from by
    obtain ⟨d, h1, h2⟩ := hc.at'
    rw [bl_at hkl] at h1
    rw [Option.some.inj h1]; exact h2)
  have HNO := Lib.hid (show k = 0 ∨ bt line (k - 1) ≠ 10 from by
    rcases hc.no with h | h
    · exact .inl h
    · by_cases h0 : k = 0
      · exact .inl h0
      · refine .inr fun e => h ?_
        rw [bl_at (by omega), e])
  generalize rdE (bl line) 0 0 = RR at HR HX hLen
  generalize rdE ((bl line).take k) 0 0 = RA at HRA HX
  generalize rdE (bl line) (k : Nat) 0 = RB at HRB HX
  obtain ⟨PS, M⟩ := RR
  obtain ⟨PA, MA⟩ := RA
  obtain ⟨PB, MB⟩ := RB
  simp only [] at HR HRA HRB HX hLen
  have HK := Lib.hid (fun w (h : TabH w) => wakes_any w h)
  have HT := Lib.hid hT
  have HS := Lib.hid hs
  have HLEN := Lib.hid (show PS.length ≤ 1000000 from by omega)
  have HKL := Lib.hid hkl
  have f0 : ¬ ((4096 : Int) < line.size) := by omega
  have f1 : decide ((4096 : Int) < line.size) = false := decide_eq_false f0
  have hcon := con_lf h0 h1
  obtain ⟨z, hz⟩ : ∃ z, line.size = z + 1 := ⟨line.size - 1, by omega⟩
  rw [show line.size - 1 = z from by omega] at h1 hcon
  have hzl : z < line.size := by omega
  have hzi : (z : Int) < line.size := by omega
  have hz0 : (0 : Int) ≤ (z : Int) := by omega
  have hp0 : (0 : Int) < line.size := by omega
  have hez : IntKind.i64.wrap ((line.size : Int) - 1) = (z : Nat) := (IntWalk.i64_in _ (by omega)).trans (by omega)
  have hx : line[z].toNat = 10 := by rw [bt_eq hzl]; exact h1
  have HZ := Lib.hid hz
  clear hz
  rw [hcon] at hclt
  have HCLT := Lib.hid hclt
  clear hT hcon hs hc hclt hcl hkl hLen
  go_enter Tryd.func7, Tryd.ntmps7
  go_upto_region 7 with (first
    | (go_at_call 9; ((with_reducible refine (HR.out).mono ?_); rintro e w1 ⟨⟨v, rfl, hrow⟩, hu⟩; obtain ⟨A, c, rfl⟩ := own_slice hrow; have HROW := Lib.hid hrow; have HU := Lib.hid hu; clear hrow hu)))
  clear f0 f1 HR
  refine cut7 HCLT.out HKL.out HW.out (by have := HS.out; omega) HNO.out _ ?_
  intro y36 y37 y38 y39 y40 y41 y42 y43 y44 y45 y46 y47 y48 y49 y50 y51 y52 y53 y54 y55 y56 y57 y58 y59 y60 y61 y62 y63 y64
  go_wp2
  go_loopg [8] PS.length (fun g iv wr => w1 = wr ∧ ∃ i : Nat, i ≤ PS.length ∧ g = PS.length - i ∧ iv = .int .i64 (i : Nat) ∧ Hid (∀ (j : Nat) (hj : j < PS.length), j < i → ¬ (PS[j].a ≤ k ∧ k < PS[j].b)))
  case atStart => exact ⟨rfl, 0, Nat.zero_le _, rfl, rfl, Lib.hid (fun j _ h => absurd h (Nat.not_lt_zero _))⟩
  case round =>
    obtain ⟨rfl, i, hi, hg, rfl, HQ⟩ := hrel
    have HG := Lib.hid hg
    clear hg
    by_cases hlt : i < PS.length
    · have hne : PS ≠ [] := fun e => by rw [e] at hlt; exact absurd hlt (Nat.not_lt_zero _)
      obtain ⟨g, c', hv, hg0, hg1, hc⟩ := rowP_cells HROW.out hne
      injection hv with hv1 hv2 hv3
      subst hv1
      have c1 : w1.cell? ⟨g, i * 6 + 1, none⟩ = some (.int .i64 (PS[i].a : Nat)) := hc i hlt 1 _ rfl
      have c2 : w1.cell? ⟨g, i * 6 + 2, none⟩ = some (.int .i64 (PS[i].b : Nat)) := hc i hlt 2 _ rfl
      obtain ⟨xa, hxa⟩ : ∃ xa, PS[i].a = xa := ⟨_, rfl⟩
      obtain ⟨xb, hxb⟩ : ∃ xb, PS[i].b = xb := ⟨_, rfl⟩
      rw [hxa] at c1
      rw [hxb] at c2
      have HXA := Lib.hid (And.intro hxa hxb)
      have b5 : (0 : Int) ≤ (i : Int) := by omega
      have b6 : (i : Int) < (PS.length : Int) := by omega
      have a6 : IntKind.i64.wrap ((i : Int) + 1) = (i : Int) + 1 := IntWalk.i64_in _ (by have := HLEN.out; omega)
      have HLT := Lib.hid hlt
      have hcase : ((xa ≤ k ∧ k < xb) ∨ (¬ xa ≤ k) ∨ (xa ≤ k ∧ ¬ k < xb)) := by omega
      clear hxa hxb hne hc hg0 hg1 hv2 hv3
      rcases hcase with ⟨h1, h2⟩ | h1 | ⟨h1, h2⟩
      · have d1 : (xa : Int) ≤ (k : Int) := by omega
        have d2 : (k : Int) < (xb : Int) := by omega
        clear h1 h2
        go_wp2_with (first | (go_at_call 8; ((with_reducible refine (HK.out _ (HT.out.up HU.out)).mono ?_); rintro e w3 ⟨rfl, hu⟩; have HU := Lib.hid (HU.out.trans hu); clear hu)))
        go_ret
        exact ⟨rfl, HU.out⟩
      · have d1 : ¬ ((xa : Int) ≤ (k : Int)) := by omega
        have d3 : decide (xa ≤ k) = false := decide_eq_false h1
        have HH := Lib.hid h1
        clear h1
        go_wp2
        go_roundg (PS.length - (i + 1))
        case measure => rw [HG.out]; have := HLT.out; omega
        case rel => exact ⟨rfl, i + 1, HLT.out, rfl, by go_num, Lib.hid (fun j hj h => by
          by_cases h2 : j < i
          · exact HQ.out j hj h2
          · obtain rfl : j = i := by omega
            rw [HXA.out.1]
            have := HH.out
            omega)⟩
      · have d1 : (xa : Int) ≤ (k : Int) := by omega
        have d2 : ¬ ((k : Int) < (xb : Int)) := by omega
        have d3 : decide (k < xb) = false := decide_eq_false h2
        have HH := Lib.hid h2
        clear h1 h2
        go_wp2
        go_roundg (PS.length - (i + 1))
        case measure => rw [HG.out]; have := HLT.out; omega
        case rel => exact ⟨rfl, i + 1, HLT.out, rfl, by go_num, Lib.hid (fun j hj h => by
          by_cases h2 : j < i
          · exact HQ.out j hj h2
          · obtain rfl : j = i := by omega
            rw [HXA.out.2]
            have := HH.out
            omega)⟩
    · obtain rfl : i = PS.length := by omega
      obtain ⟨hP, hM, hA⟩ := HX.out (fun x hx => by
        obtain ⟨j, hj, rfl⟩ := List.getElem_of_mem hx
        exact HQ.out j hj hj)
      subst hM
      subst hA
      have HPP := Lib.hid hP
      have hpl := congrArg List.length hP
      rw [List.length_append] at hpl
      have l1 : ¬ ((PS.length : Int) < (PS.length : Int)) := by omega
      have n1 : ((M : Int) != (M : Int)) = false := by simp
      have n2 : IntKind.i64.wrap ((PA.length : Int) + (PB.length : Int)) = (PS.length : Nat) := (IntWalk.i64_in _ (by have := HLEN.out; omega)).trans (by omega)
      have n3 : ((PS.length : Int) != (PS.length : Int)) = false := by simp
      have HPL := Lib.hid hpl
      have b1 : (0 : Int) ≤ (k : Int) := by omega
      have b2 : (k : Int) ≤ line.size := by have := HKL.out; omega
      have b3 : k ≤ line.size := Nat.le_of_lt HKL.out
      clear hlt HQ hi HG HX hP hpl
      go_wp2_with (first
        | (go_at_call 9; ((with_reducible refine (HRA.out _ (HT.out.up HU.out)).mono ?_); rintro e wa ⟨⟨v, rfl, hrow⟩, hu⟩; obtain ⟨aA, cA, rfl⟩ := own_slice hrow; have HROWA := Lib.hid hrow; have HUA := Lib.hid hu; clear hrow hu))
        | (go_at_call 9; ((with_reducible refine (HRB.out _ (HT.out.up (HU.out.trans HUA.out))).mono ?_); rintro e wb ⟨⟨v, rfl, hrow⟩, hu⟩; obtain ⟨aB, cB, rfl⟩ := own_slice hrow; have HROWB := Lib.hid hrow; have HUB := Lib.hid hu; clear hrow hu)))
      have HU3 := Lib.hid (HU.out.trans (HUA.out.trans HUB.out))
      clear l1 n1 n2 n3 b1 b2 b3
      go_loopg [13] PS.length (fun g iv wr => ∃ i : Nat, i ≤ PS.length ∧ g = PS.length - i ∧ iv = .int .i64 (i : Nat) ∧ Hid (Up wb wr))
      case atStart => exact ⟨0, Nat.zero_le _, rfl, rfl, Lib.hid (Up.refl _)⟩
      case round =>
        obtain ⟨i, hi, hg, rfl, HUR⟩ := hrel
        have HG := Lib.hid hg
        clear hg
        by_cases hlt : i < PS.length
        · have hne : PS ≠ [] := fun e => by rw [e] at hlt; exact absurd hlt (Nat.not_lt_zero _)
          obtain ⟨g, c', hv, hg0, hg1, hc⟩ := rowP_cells HROW.out hne
          injection hv with hv1 hv2 hv3
          subst hv1
          have hup := HUA.out.trans (HUB.out.trans HUR.out)
          have c0 : wr.cell? ⟨g, i * 6, none⟩ = some (.int .u8 (PS[i].kind : Nat)) := cell_up hup (hc i hlt 0 _ rfl)
          have c1 : wr.cell? ⟨g, i * 6 + 1, none⟩ = some (.int .i64 (PS[i].a : Nat)) := cell_up hup (hc i hlt 1 _ rfl)
          have c2 : wr.cell? ⟨g, i * 6 + 2, none⟩ = some (.int .i64 (PS[i].b : Nat)) := cell_up hup (hc i hlt 2 _ rfl)
          have c3 : wr.cell? ⟨g, i * 6 + 3, none⟩ = some (.string (toB PS[i].text)) := cell_up hup (hc i hlt 3 _ rfl)
          have c4 : wr.cell? ⟨g, i * 6 + 4, none⟩ = some (.bool PS[i].raw) := cell_up hup (hc i hlt 4 _ rfl)
          have c5 : wr.cell? ⟨g, i * 6 + 5, none⟩ = some (.bool PS[i].whole) := cell_up hup (hc i hlt 5 _ rfl)
          have hside : (i < PA.length ∧ ∃ ga, aA = some ⟨ga, 0, none⟩ ∧ wr.cell? ⟨ga, i * 6, none⟩ = some (.int .u8 (PS[i].kind : Nat)) ∧ wr.cell? ⟨ga, i * 6 + 1, none⟩ = some (.int .i64 (PS[i].a : Nat)) ∧ wr.cell? ⟨ga, i * 6 + 2, none⟩ = some (.int .i64 (PS[i].b : Nat)) ∧ wr.cell? ⟨ga, i * 6 + 3, none⟩ = some (.string (toB PS[i].text)) ∧ wr.cell? ⟨ga, i * 6 + 4, none⟩ = some (.bool PS[i].raw) ∧ wr.cell? ⟨ga, i * 6 + 5, none⟩ = some (.bool PS[i].whole)) ∨
              (∃ j, i = PA.length + j ∧ j < PB.length ∧ ∃ gb, aB = some ⟨gb, 0, none⟩ ∧ wr.cell? ⟨gb, j * 6, none⟩ = some (.int .u8 (PS[i].kind : Nat)) ∧ wr.cell? ⟨gb, j * 6 + 1, none⟩ = some (.int .i64 (PS[i].a : Nat)) ∧ wr.cell? ⟨gb, j * 6 + 2, none⟩ = some (.int .i64 (PS[i].b : Nat)) ∧ wr.cell? ⟨gb, j * 6 + 3, none⟩ = some (.string (toB PS[i].text)) ∧ wr.cell? ⟨gb, j * 6 + 4, none⟩ = some (.bool PS[i].raw) ∧ wr.cell? ⟨gb, j * 6 + 5, none⟩ = some (.bool PS[i].whole)) := by
            by_cases hA : i < PA.length
            · have hne : PA ≠ [] := fun e => by rw [e] at hA; exact absurd hA (Nat.not_lt_zero _)
              obtain ⟨ga, cc, hv, -, -, hcA⟩ := rowP_cells HROWA.out hne
              injection hv with hv1 hv2 hv3
              have hupA := HUB.out.trans HUR.out
              have he : PS[i] = PA[i] := by
                have h1 : PS[i]? = PA[i]? := by rw [HPP.out, List.getElem?_append_left hA]
                rw [List.getElem?_eq_getElem hlt, List.getElem?_eq_getElem hA] at h1
                exact Option.some.inj h1
              rw [he]
              exact .inl ⟨hA, ga, hv1, cell_up hupA (hcA i hA 0 _ rfl), cell_up hupA (hcA i hA 1 _ rfl), cell_up hupA (hcA i hA 2 _ rfl), cell_up hupA (hcA i hA 3 _ rfl), cell_up hupA (hcA i hA 4 _ rfl), cell_up hupA (hcA i hA 5 _ rfl)⟩
            · obtain ⟨j, hj⟩ : ∃ j, i = PA.length + j := ⟨i - PA.length, by omega⟩
              have hB : j < PB.length := by have := HPL.out; omega
              have hne : PB ≠ [] := fun e => by rw [e] at hB; exact absurd hB (Nat.not_lt_zero _)
              obtain ⟨gb, cc, hv, -, -, hcB⟩ := rowP_cells HROWB.out hne
              injection hv with hv1 hv2 hv3
              have he : PS[i] = PB[j] := by
                have h1 : PS[i]? = PB[j]? := by rw [HPP.out, hj, List.getElem?_append_right (Nat.le_add_right _ _), Nat.add_sub_cancel_left]
                rw [List.getElem?_eq_getElem hlt, List.getElem?_eq_getElem hB] at h1
                exact Option.some.inj h1
              rw [he]
              exact .inr ⟨j, hj, hB, gb, hv1, cell_up HUR.out (hcB j hB 0 _ rfl), cell_up HUR.out (hcB j hB 1 _ rfl), cell_up HUR.out (hcB j hB 2 _ rfl), cell_up HUR.out (hcB j hB 3 _ rfl), cell_up HUR.out (hcB j hB 4 _ rfl), cell_up HUR.out (hcB j hB 5 _ rfl)⟩
          generalize PS[i] = x at c0 c1 c2 c3 c4 c5 hside
          obtain ⟨kd, xa, xb, tx, rw1, wh⟩ := x
          simp only [] at c0 c1 c2 c3 c4 c5 hside
          have a6 : IntKind.i64.wrap ((i : Int) + 1) = (i : Int) + 1 := IntWalk.i64_in _ (by have := HLEN.out; omega)
          have HLT := Lib.hid hlt
          have HSIDE := Lib.hid hside
          have HC := Lib.hid (And.intro c0 (And.intro c1 (And.intro c2 (And.intro c3 (And.intro c4 c5)))))
          clear hne hc hg0 hg1 hv2 hv3 hup hside c0 c1 c2 c3 c4 c5
          go_upto_region 21 with fail
          refine cut21 HLT.out HLEN.out HC.out.1 HC.out.2.1 HC.out.2.2.1 HC.out.2.2.2.1 HC.out.2.2.2.2.1 HC.out.2.2.2.2.2 HSIDE.out _ ?_
          intro y126 y127 y128 y129 y130 y131 y132 y133 y134 y135 y136 y137 y138 y139 y140 y141 y142 y143 y144 y145 y146 y147 y148 y149 y150 y151 y152 y153 y154 y155 y156 y157 y158 y159 mm
          go_wp2
          go_roundg (PS.length - (i + 1))
          case measure => rw [HG.out]; have := HLT.out; omega
          case rel => exact ⟨i + 1, HLT.out, rfl, by go_num, Lib.hid (HUR.out.trans (Up.drewN _ _))⟩
        · obtain rfl : i = PS.length := by omega
          have l1 : ¬ ((PS.length : Int) < (PS.length : Int)) := by omega
          have HU := Lib.hid (HU3.out.trans HUR.out)
          clear hlt hi HG
          go_wp2_with (first | (go_at_call 8; ((with_reducible refine (HK.out _ (HT.out.up HU.out)).mono ?_); rintro e w3 ⟨rfl, hu⟩; have HU := Lib.hid (HU.out.trans hu); clear hu)))
          go_ret
          exact ⟨rfl, HU.out⟩
set_option maxRecDepth 100000 in
set_option maxHeartbeats 16000000 in
theorem cut_in_no (W : World) (hT : TabH W) (line : ByteArray) (k : Nat) (hs : (line.size : Int) ≤ 4096) (h0 : 0 < line.size) (h1 : bt line (line.size - 1) ≠ 10) (hc : CutAt (bl line) k) : Calls Tryd.prog 7 #[.string line, .int .i64 (k : Nat)] W fun e w' => e = .returned (.bool true) ∧ Up W w' := by
  have HR := Lib.hid (show Calls Tryd.prog 9 #[.string line, .int .i64 0, .int .u8 0] W fun e w' => (∃ v, e = .returned (.tuple #[v, .int .u8 ((rdE (bl line) 0 0).2 : Nat)]) ∧ RowP w' W.heap.size v (rdE (bl line) 0 0).1) ∧ Up W w' from read_any W hT line 0 0 (by omega))
  have HRA := Lib.hid (fun w (h : TabH w) => (show Calls Tryd.prog 9 #[.string (line.extract 0 k), .int .i64 0, .int .u8 0] w fun e w' => (∃ v, e = .returned (.tuple #[v, .int .u8 ((rdE ((bl line).take k) 0 0).2 : Nat)]) ∧ RowP w' w.heap.size v (rdE ((bl line).take k) 0 0).1) ∧ Up w w' from by
    have := read_any w h (line.extract 0 k) 0 0 (by have : (line.extract 0 k).size ≤ line.size := by rw [ByteArray.size_extract]; omega
                                                    omega)
    rw [bl_extract, List.drop_zero] at this
    exact this))
  have HRB := Lib.hid (fun w (h : TabH w) => (show Calls Tryd.prog 9 #[.string line, .int .i64 (k : Nat), .int .u8 0] w fun e w' => (∃ v, e = .returned (.tuple #[v, .int .u8 ((rdE (bl line) (k : Nat) 0).2 : Nat)]) ∧ RowP w' w.heap.size v (rdE (bl line) (k : Nat) 0).1) ∧ Up w w' from read_any w h line (k : Nat) 0 (by omega)))
  have HX := Lib.hid (rdE_cut hc)
  have hLen := rdE_len (bl line) 0 0 (Nat.zero_le _)
  have hclt := hc.lt
  have hcl := (con_le (bl line)).1
  rw [bl_len] at hcl
  have hkl : k < line.size := by omega
  have HW := Lib.hid (show isW (bt line k) = true from by
    obtain ⟨d, h1, h2⟩ := hc.at'
    rw [bl_at hkl] at h1
    rw [Option.some.inj h1]; exact h2)
  have HNO := Lib.hid (show k = 0 ∨ bt line (k - 1) ≠ 10 from by
    rcases hc.no with h | h
    · exact .inl h
    · by_cases h0 : k = 0
      · exact .inl h0
      · refine .inr fun e => h ?_
        rw [bl_at (by omega), e])
  generalize rdE (bl line) 0 0 = RR at HR HX hLen
  generalize rdE ((bl line).take k) 0 0 = RA at HRA HX
  generalize rdE (bl line) (k : Nat) 0 = RB at HRB HX
  obtain ⟨PS, M⟩ := RR
  obtain ⟨PA, MA⟩ := RA
  obtain ⟨PB, MB⟩ := RB
  simp only [] at HR HRA HRB HX hLen
  have HK := Lib.hid (fun w (h : TabH w) => wakes_any w h)
  have HT := Lib.hid hT
  have HS := Lib.hid hs
  have HLEN := Lib.hid (show PS.length ≤ 1000000 from by omega)
  have HKL := Lib.hid hkl
  have f0 : ¬ ((4096 : Int) < line.size) := by omega
  have f1 : decide ((4096 : Int) < line.size) = false := decide_eq_false f0
  have hcon := con_no (.inr h1)
  obtain ⟨z, hz⟩ : ∃ z, line.size = z + 1 := ⟨line.size - 1, by omega⟩
  rw [show line.size - 1 = z from by omega] at h1
  have hzl : z < line.size := by omega
  have hzi : (z : Int) < line.size := by omega
  have hz0 : (0 : Int) ≤ (z : Int) := by omega
  have hp0 : (0 : Int) < line.size := by omega
  have hez : IntKind.i64.wrap ((line.size : Int) - 1) = (z : Nat) := (IntWalk.i64_in _ (by omega)).trans (by omega)
  obtain ⟨y, hy⟩ : ∃ y, bt line z = y := ⟨_, rfl⟩
  have hx : line[z].toNat = y := by rw [bt_eq hzl]; exact hy
  rw [hy] at h1
  have hyn : ((y : Int) == 10) = false := beq_eq_false_iff_ne.2 (by omega)
  clear hy
  have HZ := Lib.hid hz
  clear hz
  rw [hcon] at hclt
  have HCLT := Lib.hid hclt
  clear hT hcon hs hc hclt hcl hkl hLen
  go_enter Tryd.func7, Tryd.ntmps7
  go_upto_region 7 with (first
    | (go_at_call 9; ((with_reducible refine (HR.out).mono ?_); rintro e w1 ⟨⟨v, rfl, hrow⟩, hu⟩; obtain ⟨A, c, rfl⟩ := own_slice hrow; have HROW := Lib.hid hrow; have HU := Lib.hid hu; clear hrow hu)))
  clear f0 f1 HR
  refine cut7 HCLT.out HKL.out HW.out (by have := HS.out; omega) HNO.out _ ?_
  intro y36 y37 y38 y39 y40 y41 y42 y43 y44 y45 y46 y47 y48 y49 y50 y51 y52 y53 y54 y55 y56 y57 y58 y59 y60 y61 y62 y63 y64
  go_wp2
  go_loopg [8] PS.length (fun g iv wr => w1 = wr ∧ ∃ i : Nat, i ≤ PS.length ∧ g = PS.length - i ∧ iv = .int .i64 (i : Nat) ∧ Hid (∀ (j : Nat) (hj : j < PS.length), j < i → ¬ (PS[j].a ≤ k ∧ k < PS[j].b)))
  case atStart => exact ⟨rfl, 0, Nat.zero_le _, rfl, rfl, Lib.hid (fun j _ h => absurd h (Nat.not_lt_zero _))⟩
  case round =>
    obtain ⟨rfl, i, hi, hg, rfl, HQ⟩ := hrel
    have HG := Lib.hid hg
    clear hg
    by_cases hlt : i < PS.length
    · have hne : PS ≠ [] := fun e => by rw [e] at hlt; exact absurd hlt (Nat.not_lt_zero _)
      obtain ⟨g, c', hv, hg0, hg1, hc⟩ := rowP_cells HROW.out hne
      injection hv with hv1 hv2 hv3
      subst hv1
      have c1 : w1.cell? ⟨g, i * 6 + 1, none⟩ = some (.int .i64 (PS[i].a : Nat)) := hc i hlt 1 _ rfl
      have c2 : w1.cell? ⟨g, i * 6 + 2, none⟩ = some (.int .i64 (PS[i].b : Nat)) := hc i hlt 2 _ rfl
      obtain ⟨xa, hxa⟩ : ∃ xa, PS[i].a = xa := ⟨_, rfl⟩
      obtain ⟨xb, hxb⟩ : ∃ xb, PS[i].b = xb := ⟨_, rfl⟩
      rw [hxa] at c1
      rw [hxb] at c2
      have HXA := Lib.hid (And.intro hxa hxb)
      have b5 : (0 : Int) ≤ (i : Int) := by omega
      have b6 : (i : Int) < (PS.length : Int) := by omega
      have a6 : IntKind.i64.wrap ((i : Int) + 1) = (i : Int) + 1 := IntWalk.i64_in _ (by have := HLEN.out; omega)
      have HLT := Lib.hid hlt
      have hcase : ((xa ≤ k ∧ k < xb) ∨ (¬ xa ≤ k) ∨ (xa ≤ k ∧ ¬ k < xb)) := by omega
      clear hxa hxb hne hc hg0 hg1 hv2 hv3
      rcases hcase with ⟨h1, h2⟩ | h1 | ⟨h1, h2⟩
      · have d1 : (xa : Int) ≤ (k : Int) := by omega
        have d2 : (k : Int) < (xb : Int) := by omega
        clear h1 h2
        go_wp2_with (first | (go_at_call 8; ((with_reducible refine (HK.out _ (HT.out.up HU.out)).mono ?_); rintro e w3 ⟨rfl, hu⟩; have HU := Lib.hid (HU.out.trans hu); clear hu)))
        go_ret
        exact ⟨rfl, HU.out⟩
      · have d1 : ¬ ((xa : Int) ≤ (k : Int)) := by omega
        have d3 : decide (xa ≤ k) = false := decide_eq_false h1
        have HH := Lib.hid h1
        clear h1
        go_wp2
        go_roundg (PS.length - (i + 1))
        case measure => rw [HG.out]; have := HLT.out; omega
        case rel => exact ⟨rfl, i + 1, HLT.out, rfl, by go_num, Lib.hid (fun j hj h => by
          by_cases h2 : j < i
          · exact HQ.out j hj h2
          · obtain rfl : j = i := by omega
            rw [HXA.out.1]
            have := HH.out
            omega)⟩
      · have d1 : (xa : Int) ≤ (k : Int) := by omega
        have d2 : ¬ ((k : Int) < (xb : Int)) := by omega
        have d3 : decide (k < xb) = false := decide_eq_false h2
        have HH := Lib.hid h2
        clear h1 h2
        go_wp2
        go_roundg (PS.length - (i + 1))
        case measure => rw [HG.out]; have := HLT.out; omega
        case rel => exact ⟨rfl, i + 1, HLT.out, rfl, by go_num, Lib.hid (fun j hj h => by
          by_cases h2 : j < i
          · exact HQ.out j hj h2
          · obtain rfl : j = i := by omega
            rw [HXA.out.2]
            have := HH.out
            omega)⟩
    · obtain rfl : i = PS.length := by omega
      obtain ⟨hP, hM, hA⟩ := HX.out (fun x hx => by
        obtain ⟨j, hj, rfl⟩ := List.getElem_of_mem hx
        exact HQ.out j hj hj)
      subst hM
      subst hA
      have HPP := Lib.hid hP
      have hpl := congrArg List.length hP
      rw [List.length_append] at hpl
      have l1 : ¬ ((PS.length : Int) < (PS.length : Int)) := by omega
      have n1 : ((M : Int) != (M : Int)) = false := by simp
      have n2 : IntKind.i64.wrap ((PA.length : Int) + (PB.length : Int)) = (PS.length : Nat) := (IntWalk.i64_in _ (by have := HLEN.out; omega)).trans (by omega)
      have n3 : ((PS.length : Int) != (PS.length : Int)) = false := by simp
      have HPL := Lib.hid hpl
      have b1 : (0 : Int) ≤ (k : Int) := by omega
      have b2 : (k : Int) ≤ line.size := by have := HKL.out; omega
      have b3 : k ≤ line.size := Nat.le_of_lt HKL.out
      clear hlt HQ hi HG HX hP hpl
      go_wp2_with (first
        | (go_at_call 9; ((with_reducible refine (HRA.out _ (HT.out.up HU.out)).mono ?_); rintro e wa ⟨⟨v, rfl, hrow⟩, hu⟩; obtain ⟨aA, cA, rfl⟩ := own_slice hrow; have HROWA := Lib.hid hrow; have HUA := Lib.hid hu; clear hrow hu))
        | (go_at_call 9; ((with_reducible refine (HRB.out _ (HT.out.up (HU.out.trans HUA.out))).mono ?_); rintro e wb ⟨⟨v, rfl, hrow⟩, hu⟩; obtain ⟨aB, cB, rfl⟩ := own_slice hrow; have HROWB := Lib.hid hrow; have HUB := Lib.hid hu; clear hrow hu)))
      have HU3 := Lib.hid (HU.out.trans (HUA.out.trans HUB.out))
      clear l1 n1 n2 n3 b1 b2 b3
      go_loopg [13] PS.length (fun g iv wr => ∃ i : Nat, i ≤ PS.length ∧ g = PS.length - i ∧ iv = .int .i64 (i : Nat) ∧ Hid (Up wb wr))
      case atStart => exact ⟨0, Nat.zero_le _, rfl, rfl, Lib.hid (Up.refl _)⟩
      case round =>
        obtain ⟨i, hi, hg, rfl, HUR⟩ := hrel
        have HG := Lib.hid hg
        clear hg
        by_cases hlt : i < PS.length
        · have hne : PS ≠ [] := fun e => by rw [e] at hlt; exact absurd hlt (Nat.not_lt_zero _)
          obtain ⟨g, c', hv, hg0, hg1, hc⟩ := rowP_cells HROW.out hne
          injection hv with hv1 hv2 hv3
          subst hv1
          have hup := HUA.out.trans (HUB.out.trans HUR.out)
          have c0 : wr.cell? ⟨g, i * 6, none⟩ = some (.int .u8 (PS[i].kind : Nat)) := cell_up hup (hc i hlt 0 _ rfl)
          have c1 : wr.cell? ⟨g, i * 6 + 1, none⟩ = some (.int .i64 (PS[i].a : Nat)) := cell_up hup (hc i hlt 1 _ rfl)
          have c2 : wr.cell? ⟨g, i * 6 + 2, none⟩ = some (.int .i64 (PS[i].b : Nat)) := cell_up hup (hc i hlt 2 _ rfl)
          have c3 : wr.cell? ⟨g, i * 6 + 3, none⟩ = some (.string (toB PS[i].text)) := cell_up hup (hc i hlt 3 _ rfl)
          have c4 : wr.cell? ⟨g, i * 6 + 4, none⟩ = some (.bool PS[i].raw) := cell_up hup (hc i hlt 4 _ rfl)
          have c5 : wr.cell? ⟨g, i * 6 + 5, none⟩ = some (.bool PS[i].whole) := cell_up hup (hc i hlt 5 _ rfl)
          have hside : (i < PA.length ∧ ∃ ga, aA = some ⟨ga, 0, none⟩ ∧ wr.cell? ⟨ga, i * 6, none⟩ = some (.int .u8 (PS[i].kind : Nat)) ∧ wr.cell? ⟨ga, i * 6 + 1, none⟩ = some (.int .i64 (PS[i].a : Nat)) ∧ wr.cell? ⟨ga, i * 6 + 2, none⟩ = some (.int .i64 (PS[i].b : Nat)) ∧ wr.cell? ⟨ga, i * 6 + 3, none⟩ = some (.string (toB PS[i].text)) ∧ wr.cell? ⟨ga, i * 6 + 4, none⟩ = some (.bool PS[i].raw) ∧ wr.cell? ⟨ga, i * 6 + 5, none⟩ = some (.bool PS[i].whole)) ∨
              (∃ j, i = PA.length + j ∧ j < PB.length ∧ ∃ gb, aB = some ⟨gb, 0, none⟩ ∧ wr.cell? ⟨gb, j * 6, none⟩ = some (.int .u8 (PS[i].kind : Nat)) ∧ wr.cell? ⟨gb, j * 6 + 1, none⟩ = some (.int .i64 (PS[i].a : Nat)) ∧ wr.cell? ⟨gb, j * 6 + 2, none⟩ = some (.int .i64 (PS[i].b : Nat)) ∧ wr.cell? ⟨gb, j * 6 + 3, none⟩ = some (.string (toB PS[i].text)) ∧ wr.cell? ⟨gb, j * 6 + 4, none⟩ = some (.bool PS[i].raw) ∧ wr.cell? ⟨gb, j * 6 + 5, none⟩ = some (.bool PS[i].whole)) := by
            by_cases hA : i < PA.length
            · have hne : PA ≠ [] := fun e => by rw [e] at hA; exact absurd hA (Nat.not_lt_zero _)
              obtain ⟨ga, cc, hv, -, -, hcA⟩ := rowP_cells HROWA.out hne
              injection hv with hv1 hv2 hv3
              have hupA := HUB.out.trans HUR.out
              have he : PS[i] = PA[i] := by
                have h1 : PS[i]? = PA[i]? := by rw [HPP.out, List.getElem?_append_left hA]
                rw [List.getElem?_eq_getElem hlt, List.getElem?_eq_getElem hA] at h1
                exact Option.some.inj h1
              rw [he]
              exact .inl ⟨hA, ga, hv1, cell_up hupA (hcA i hA 0 _ rfl), cell_up hupA (hcA i hA 1 _ rfl), cell_up hupA (hcA i hA 2 _ rfl), cell_up hupA (hcA i hA 3 _ rfl), cell_up hupA (hcA i hA 4 _ rfl), cell_up hupA (hcA i hA 5 _ rfl)⟩
            · obtain ⟨j, hj⟩ : ∃ j, i = PA.length + j := ⟨i - PA.length, by omega⟩
              have hB : j < PB.length := by have := HPL.out; omega
              have hne : PB ≠ [] := fun e => by rw [e] at hB; exact absurd hB (Nat.not_lt_zero _)
              obtain ⟨gb, cc, hv, -, -, hcB⟩ := rowP_cells HROWB.out hne
              injection hv with hv1 hv2 hv3
              have he : PS[i] = PB[j] := by
                have h1 : PS[i]? = PB[j]? := by rw [HPP.out, hj, List.getElem?_append_right (Nat.le_add_right _ _), Nat.add_sub_cancel_left]
                rw [List.getElem?_eq_getElem hlt, List.getElem?_eq_getElem hB] at h1
                exact Option.some.inj h1
              rw [he]
              exact .inr ⟨j, hj, hB, gb, hv1, cell_up HUR.out (hcB j hB 0 _ rfl), cell_up HUR.out (hcB j hB 1 _ rfl), cell_up HUR.out (hcB j hB 2 _ rfl), cell_up HUR.out (hcB j hB 3 _ rfl), cell_up HUR.out (hcB j hB 4 _ rfl), cell_up HUR.out (hcB j hB 5 _ rfl)⟩
          generalize PS[i] = x at c0 c1 c2 c3 c4 c5 hside
          obtain ⟨kd, xa, xb, tx, rw1, wh⟩ := x
          simp only [] at c0 c1 c2 c3 c4 c5 hside
          have a6 : IntKind.i64.wrap ((i : Int) + 1) = (i : Int) + 1 := IntWalk.i64_in _ (by have := HLEN.out; omega)
          have HLT := Lib.hid hlt
          have HSIDE := Lib.hid hside
          have HC := Lib.hid (And.intro c0 (And.intro c1 (And.intro c2 (And.intro c3 (And.intro c4 c5)))))
          clear hne hc hg0 hg1 hv2 hv3 hup hside c0 c1 c2 c3 c4 c5
          go_upto_region 21 with fail
          refine cut21 HLT.out HLEN.out HC.out.1 HC.out.2.1 HC.out.2.2.1 HC.out.2.2.2.1 HC.out.2.2.2.2.1 HC.out.2.2.2.2.2 HSIDE.out _ ?_
          intro y126 y127 y128 y129 y130 y131 y132 y133 y134 y135 y136 y137 y138 y139 y140 y141 y142 y143 y144 y145 y146 y147 y148 y149 y150 y151 y152 y153 y154 y155 y156 y157 y158 y159 mm
          go_wp2
          go_roundg (PS.length - (i + 1))
          case measure => rw [HG.out]; have := HLT.out; omega
          case rel => exact ⟨i + 1, HLT.out, rfl, by go_num, Lib.hid (HUR.out.trans (Up.drewN _ _))⟩
        · obtain rfl : i = PS.length := by omega
          have l1 : ¬ ((PS.length : Int) < (PS.length : Int)) := by omega
          have HU := Lib.hid (HU3.out.trans HUR.out)
          clear hlt hi HG
          go_wp2_with (first | (go_at_call 8; ((with_reducible refine (HK.out _ (HT.out.up HU.out)).mono ?_); rintro e w3 ⟨rfl, hu⟩; have HU := Lib.hid (HU.out.trans hu); clear hu)))
          go_ret
          exact ⟨rfl, HU.out⟩
theorem cut_walk (W : World) (hT : TabH W) (line : ByteArray) (k : Int) : Calls Tryd.prog 7 #[.string line, .int .i64 k] W fun e w' => e = .returned (.bool true) ∧ Up W w' := by
  by_cases hs : (4096 : Int) < line.size
  · exact cut_far W hT line k hs
  have hs' : (line.size : Int) ≤ 4096 := by omega
  have hcl := (con_le (bl line)).1
  rw [bl_len] at hcl
  by_cases k0 : k < 0
  · by_cases h0 : 0 < line.size
    · by_cases h1 : bt line (line.size - 1) = 10
      · exact cut_lf_neg W hT line k hs' h0 h1 k0
      · exact cut_no_neg W hT line k hs' h0 h1 k0
    · exact cut_em_neg W hT line k hs' (by omega) k0
  by_cases k1 : (con (bl line) : Int) ≤ k
  · by_cases h0 : 0 < line.size
    · by_cases h1 : bt line (line.size - 1) = 10
      · exact cut_lf_big W hT line k hs' h0 h1 k1
      · exact cut_no_big W hT line k hs' h0 h1 k1
    · exact cut_em_big W hT line k hs' (by omega) k1
  have h0 : 0 < line.size := by omega
  obtain ⟨j, rfl⟩ : ∃ j : Nat, k = (j : Nat) := ⟨k.toNat, by omega⟩
  have hj : j < con (bl line) := by omega
  cases hw : isW (bt line j) with
  | false =>
    by_cases h1 : bt line (line.size - 1) = 10
    · exact cut_lf_sgn W hT line _ hs' h0 h1 j rfl hj hw
    · exact cut_no_sgn W hT line _ hs' h0 h1 j rfl hj hw
  | true =>
    by_cases hb : j ≠ 0 ∧ bt line (j - 1) = 10
    · obtain ⟨i, rfl⟩ : ∃ i, j = i + 1 := ⟨j - 1, by omega⟩
      have hb2 : bt line i = 10 := hb.2
      by_cases h1 : bt line (line.size - 1) = 10
      · exact cut_lf_lfb W hT line _ hs' h0 h1 i rfl hj hw hb2
      · exact cut_no_lfb W hT line _ hs' h0 h1 i rfl hj hw hb2
    · have hc : CutAt (bl line) j := by
        refine ⟨hj, ⟨bt line j, bl_at (by omega), hw⟩, ?_⟩
        by_cases h00 : j = 0
        · exact .inl h00
        · refine .inr fun e => hb ⟨h00, ?_⟩
          rw [bl_at (by omega)] at e
          exact Option.some.inj e
      by_cases h1 : bt line (line.size - 1) = 10
      · exact cut_in_lf W hT line j hs' h0 h1 hc
      · exact cut_in_no W hT line j hs' h0 h1 hc
end Go.Proofs.YtmeipmkiknekjaaDoor
