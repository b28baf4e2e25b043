/- Two trees whose depths differ by two at most, made one, with an item between: the program's level, walked way by way. -/
import Derived.Test.YthiiemjbigcinaaQTie2
namespace Go.Proofs.Ythiiemjbigcinaa
open Go.RowKit

def CntC (w : World) (v : Value) (c : Nat) (s : Int) (d : Nat) : Prop := ∀ W, Up w W → Calls Try.prog 30 #[v] W fun e w' => e = .returned (.agg #[.int .i64 (c : Nat), .int .i64 s, .int .i64 (d : Nat)]) ∧ Up W w'
theorem fld2 (c s d : Int) (W : World) : (Instr.field 65 (.agg #[.int .i64 c, .int .i64 s, .int .i64 d]) 2).run Try.prog W = .ok (.int .i64 d) W := by kernel_rfl
theorem fld0 (c s d : Int) (W : World) : (Instr.field 65 (.agg #[.int .i64 c, .int .i64 s, .int .i64 d]) 0).run Try.prog W = .ok (.int .i64 c) W := by kernel_rfl
theorem fld1 (c s d : Int) (W : World) : (Instr.field 65 (.agg #[.int .i64 c, .int .i64 s, .int .i64 d]) 1).run Try.prog W = .ok (.int .i64 s) W := by kernel_rfl
theorem CntC.at_ {w W : World} {v : Value} {c d : Nat} {s : Int} (h : CntC w v c s d) (hu : Up w W) : Calls Try.prog 30 #[v] W fun e w' => e = .returned (.agg #[.int .i64 (c : Nat), .int .i64 s, .int .i64 (d : Nat)]) ∧ Up W w' := h W hu
set_option maxRecDepth 100000 in
set_option maxHeartbeats 2000000 in
theorem level_1 {G : Nat → Prop} (w : World) (ba bi : Nat) (pal pil pir pb : Option Addr) (axs ixs : ByteArray) (axz ixz : Int) (cl cr ald ard : Nat) (sl sr : Int) (t1 t2 t3 : QT) (xs : ByteArray) (xz : Int) (ca cb ad bd : Nat) (sa sb : Int)
    (c_ba_0 : w.cell? ⟨ba, 0, none⟩ = some (.string axs)) (c_ba_1 : w.cell? ⟨ba, 1, none⟩ = some (.int .i64 axz)) (c_ba_5 : w.cell? ⟨ba, 5, none⟩ = some (.pointer pal)) (c_ba_6 : w.cell? ⟨ba, 6, none⟩ = some (ptr bi)) (c_bi_0 : w.cell? ⟨bi, 0, none⟩ = some (.string ixs)) (c_bi_1 : w.cell? ⟨bi, 1, none⟩ = some (.int .i64 ixz)) (c_bi_5 : w.cell? ⟨bi, 5, none⟩ = some (.pointer pil)) (c_bi_6 : w.cell? ⟨bi, 6, none⟩ = some (.pointer pir))
    (hd1 : (bd : Int) ≤ 1048576000) (hd2 : (ad : Int) ≤ 1048576000) (h1 : (bd : Int) + 1 < ad) (h2 : ald < ard)
    (KA : CntC w (ptr ba) ca sa ad) (KB : CntC w (.pointer pb) cb sb bd)
    (KL : CntC w (.pointer pal) cl sl ald) (KR : CntC w (ptr bi) cr sr ard)
    (P1 : ∀ W, Up w W → Calls Try.prog 33 #[.pointer pal, .agg #[.string axs, .int .i64 axz], .pointer pil] W (NewQ G t1 W))
    (P2 : ∀ W, Up w W → Calls Try.prog 33 #[.pointer pir, .agg #[.string xs, .int .i64 xz], .pointer pb] W (NewQ G t2 W))
    (P3 : ∀ W v v', Up w W → Tr G W t1 v → Tr G W t2 v' → Calls Try.prog 33 #[v, .agg #[.string ixs, .int .i64 ixz], v'] W (NewQ G t3 W)) :
    Calls Try.prog 34 #[(ptr ba), .agg #[.string xs, .int .i64 xz], (.pointer pb)] w (NewQ G t3 w) := by
  have e1 : IntKind.i64.wrap ((bd : Int) + 1) = (bd : Int) + 1 := IntWalk.i64_in _ (by omega)
  have e2 : IntKind.i64.wrap ((ad : Int) + 1) = (ad : Int) + 1 := IntWalk.i64_in _ (by omega)
  have hfa := fld2 (ca : Nat) sa (ad : Nat)
  have hfb := fld2 (cb : Nat) sb (bd : Nat)
  have HKA := Lib.hid KA
  have HKB := Lib.hid KB
  have HKL := Lib.hid KL
  have HKR := Lib.hid KR
  have HP1 := Lib.hid P1
  have HP2 := Lib.hid P2
  have HP3 := Lib.hid P3
  clear KA KB KL KR P1 P2 P3
  have hU := Up.alloc w (.cells #[.string xs, .int .i64 xz] 47)
  have m0 : (w.alloc (.cells #[.string xs, .int .i64 xz] 47)).cell? ⟨w.heap.size, 0, none⟩ = some (.string xs) := cellOf (Go.heap_alloc_new _ _) rfl
  have m1 : (w.alloc (.cells #[.string xs, .int .i64 xz] 47)).cell? ⟨w.heap.size, 1, none⟩ = some (.int .i64 xz) := cellOf (Go.heap_alloc_new _ _) rfl
  have c_ba_0 := cell_up hU c_ba_0
  have c_ba_1 := cell_up hU c_ba_1
  have c_ba_5 := cell_up hU c_ba_5
  have c_ba_6 := cell_up hU c_ba_6
  have c_bi_0 := cell_up hU c_bi_0
  have c_bi_1 := cell_up hU c_bi_1
  have c_bi_5 := cell_up hU c_bi_5
  have c_bi_6 := cell_up hU c_bi_6
  have f2 : decide (ald < ard) = true := decide_eq_true h2
  clear h2 hd1 hd2
  go_enter Try.func34, Try.ntmps34
  go_wp2_with (first
    | (go_at_call 30; ((with_reducible refine (HKA.out.at_ hU).mono ?_); rintro e w1 ⟨rfl, hu1⟩; have c_ba_0 := cell_up hu1 c_ba_0; have c_ba_1 := cell_up hu1 c_ba_1; have c_ba_5 := cell_up hu1 c_ba_5; have c_ba_6 := cell_up hu1 c_ba_6; have c_bi_0 := cell_up hu1 c_bi_0; have c_bi_1 := cell_up hu1 c_bi_1; have c_bi_5 := cell_up hu1 c_bi_5; have c_bi_6 := cell_up hu1 c_bi_6; have m0 := cell_up hu1 m0; have m1 := cell_up hu1 m1; have hU := hU.trans hu1; clear hu1))
    | (go_at_call 30; ((with_reducible refine (HKB.out.at_ hU).mono ?_); rintro e w1 ⟨rfl, hu1⟩; have c_ba_0 := cell_up hu1 c_ba_0; have c_ba_1 := cell_up hu1 c_ba_1; have c_ba_5 := cell_up hu1 c_ba_5; have c_ba_6 := cell_up hu1 c_ba_6; have c_bi_0 := cell_up hu1 c_bi_0; have c_bi_1 := cell_up hu1 c_bi_1; have c_bi_5 := cell_up hu1 c_bi_5; have c_bi_6 := cell_up hu1 c_bi_6; have m0 := cell_up hu1 m0; have m1 := cell_up hu1 m1; have hU := hU.trans hu1; clear hu1)))
  have hS : Up w w1 ∧ w1.cell? ⟨ba, 0, none⟩ = some (.string axs) ∧ w1.cell? ⟨ba, 1, none⟩ = some (.int .i64 axz) ∧ w1.cell? ⟨ba, 5, none⟩ = some (.pointer pal) ∧ w1.cell? ⟨ba, 6, none⟩ = some (ptr bi) ∧ w1.cell? ⟨bi, 0, none⟩ = some (.string ixs) ∧ w1.cell? ⟨bi, 1, none⟩ = some (.int .i64 ixz) ∧ w1.cell? ⟨bi, 5, none⟩ = some (.pointer pil) ∧ w1.cell? ⟨bi, 6, none⟩ = some (.pointer pir) ∧ w1.cell? ⟨w.heap.size, 0, none⟩ = some (.string xs) ∧ w1.cell? ⟨w.heap.size, 1, none⟩ = some (.int .i64 xz) := ⟨hU, c_ba_0, c_ba_1, c_ba_5, c_ba_6, c_bi_0, c_bi_1, c_bi_5, c_bi_6, m0, m1⟩
  clear hU c_ba_0 c_ba_1 c_ba_5 c_ba_6 c_bi_0 c_bi_1 c_bi_5 c_bi_6 m0 m1
  have hfl := fld2 (cl : Nat) sl (ald : Nat)
  have hfr := fld2 (cr : Nat) sr (ard : Nat)
  go_region_held3 (fun w' => Up w w' ∧ w'.cell? ⟨ba, 0, none⟩ = some (.string axs) ∧ w'.cell? ⟨ba, 1, none⟩ = some (.int .i64 axz) ∧ w'.cell? ⟨ba, 5, none⟩ = some (.pointer pal) ∧ w'.cell? ⟨ba, 6, none⟩ = some (ptr bi) ∧ w'.cell? ⟨bi, 0, none⟩ = some (.string ixs) ∧ w'.cell? ⟨bi, 1, none⟩ = some (.int .i64 ixz) ∧ w'.cell? ⟨bi, 5, none⟩ = some (.pointer pil) ∧ w'.cell? ⟨bi, 6, none⟩ = some (.pointer pir) ∧ w'.cell? ⟨w.heap.size, 0, none⟩ = some (.string xs) ∧ w'.cell? ⟨w.heap.size, 1, none⟩ = some (.int .i64 xz))
    (first | assumption | with_reducible exact qkeep10 hu3 (by assumption) | with_reducible exact qkeep10 hu2 (by assumption) | with_reducible exact qkeep10 (Up.drew _) (by assumption))
    (first
      | (go_at_call 30; ((with_reducible refine ((HKL.out).at_ ?_).mono ?_); (first | exact hU | exact (by assumption : Up w _ ∧ _).1); rintro e w2 ⟨rfl, hu2⟩))
      | (go_at_call 30; ((with_reducible refine ((HKR.out).at_ ?_).mono ?_); (first | exact hU | exact (by assumption : Up w _ ∧ _).1); rintro e w3 ⟨rfl, hu3⟩))
      )
  have hT : Up w w2 ∧ w2.cell? ⟨ba, 0, none⟩ = some (.string axs) ∧ w2.cell? ⟨ba, 1, none⟩ = some (.int .i64 axz) ∧ w2.cell? ⟨ba, 5, none⟩ = some (.pointer pal) ∧ w2.cell? ⟨ba, 6, none⟩ = some (ptr bi) ∧ w2.cell? ⟨bi, 0, none⟩ = some (.string ixs) ∧ w2.cell? ⟨bi, 1, none⟩ = some (.int .i64 ixz) ∧ w2.cell? ⟨bi, 5, none⟩ = some (.pointer pil) ∧ w2.cell? ⟨bi, 6, none⟩ = some (.pointer pir) ∧ w2.cell? ⟨w.heap.size, 0, none⟩ = some (.string xs) ∧ w2.cell? ⟨w.heap.size, 1, none⟩ = some (.int .i64 xz) := by assumption
  clear hS hu2 hu3
  have hS := hT
  clear hT
  obtain ⟨hU, c_ba_0, c_ba_1, c_ba_5, c_ba_6, c_bi_0, c_bi_1, c_bi_5, c_bi_6, m0, m1⟩ := hS
  go_wp2
  have hS : Up w w2 ∧ w2.cell? ⟨ba, 0, none⟩ = some (.string axs) ∧ w2.cell? ⟨ba, 1, none⟩ = some (.int .i64 axz) ∧ w2.cell? ⟨ba, 5, none⟩ = some (.pointer pal) ∧ w2.cell? ⟨ba, 6, none⟩ = some (ptr bi) ∧ w2.cell? ⟨bi, 0, none⟩ = some (.string ixs) ∧ w2.cell? ⟨bi, 1, none⟩ = some (.int .i64 ixz) ∧ w2.cell? ⟨bi, 5, none⟩ = some (.pointer pil) ∧ w2.cell? ⟨bi, 6, none⟩ = some (.pointer pir) ∧ w2.cell? ⟨w.heap.size, 0, none⟩ = some (.string xs) ∧ w2.cell? ⟨w.heap.size, 1, none⟩ = some (.int .i64 xz) := ⟨hU, c_ba_0, c_ba_1, c_ba_5, c_ba_6, c_bi_0, c_bi_1, c_bi_5, c_bi_6, m0, m1⟩
  clear hU c_ba_0 c_ba_1 c_ba_5 c_ba_6 c_bi_0 c_bi_1 c_bi_5 c_bi_6 m0 m1
  go_region_held3 (fun w' => Up w w' ∧ w'.cell? ⟨ba, 0, none⟩ = some (.string axs) ∧ w'.cell? ⟨ba, 1, none⟩ = some (.int .i64 axz) ∧ w'.cell? ⟨ba, 5, none⟩ = some (.pointer pal) ∧ w'.cell? ⟨ba, 6, none⟩ = some (ptr bi) ∧ w'.cell? ⟨bi, 0, none⟩ = some (.string ixs) ∧ w'.cell? ⟨bi, 1, none⟩ = some (.int .i64 ixz) ∧ w'.cell? ⟨bi, 5, none⟩ = some (.pointer pil) ∧ w'.cell? ⟨bi, 6, none⟩ = some (.pointer pir) ∧ w'.cell? ⟨w.heap.size, 0, none⟩ = some (.string xs) ∧ w'.cell? ⟨w.heap.size, 1, none⟩ = some (.int .i64 xz))
    (first | assumption | with_reducible exact qkeep10 hu6 (by assumption) | with_reducible exact qkeep10 hu5 (by assumption) | with_reducible exact qkeep10 hu4 (by assumption) | with_reducible exact qkeep10 (Up.drew _) (by assumption))
    (first
      | (go_at_call 33; ((with_reducible refine (HP1.out _ ?_).mono ?_); (exact (by assumption : Up w _ ∧ _).1); rintro e w4 ⟨g4, rfl, hn4, hu4⟩))
      | (go_at_call 33; ((with_reducible refine (HP2.out _ ?_).mono ?_); (exact (by assumption : Up w _ ∧ _).1); rintro e w5 ⟨g5, rfl, hn5, hu5⟩))
      | (go_at_call 33; ((with_reducible refine (HP3.out _ _ _ ?_ ?_ ?_).mono ?_); (exact (by assumption : Up w _ ∧ _).1); (((first | exact hn4 | exact hn4.up hu5))); (((first | exact hn5 | exact hn5.up hu4))); rintro e w6 ⟨g6, rfl, hn6, hu6⟩))
      )
  have HF := Lib.hid (by assumption : Up w w6 ∧ _).1
  go_wp2
  go_ret
  exact ⟨g6, rfl, hn6, HF.out⟩
set_option maxRecDepth 100000 in
set_option maxHeartbeats 2000000 in
theorem level_2 {G : Nat → Prop} (w : World) (ba : Nat) (pal par pb : Option Addr) (axs : ByteArray) (axz : Int) (cl cr ald ard : Nat) (sl sr : Int) (t1 t2 : QT) (xs : ByteArray) (xz : Int) (ca cb ad bd : Nat) (sa sb : Int)
    (c_ba_0 : w.cell? ⟨ba, 0, none⟩ = some (.string axs)) (c_ba_1 : w.cell? ⟨ba, 1, none⟩ = some (.int .i64 axz)) (c_ba_5 : w.cell? ⟨ba, 5, none⟩ = some (.pointer pal)) (c_ba_6 : w.cell? ⟨ba, 6, none⟩ = some (.pointer par))
    (hd1 : (bd : Int) ≤ 1048576000) (hd2 : (ad : Int) ≤ 1048576000) (h1 : (bd : Int) + 1 < ad) (h2 : ¬ ald < ard)
    (KA : CntC w (ptr ba) ca sa ad) (KB : CntC w (.pointer pb) cb sb bd)
    (KL : CntC w (.pointer pal) cl sl ald) (KR : CntC w (.pointer par) cr sr ard)
    (P1 : ∀ W, Up w W → Calls Try.prog 33 #[.pointer par, .agg #[.string xs, .int .i64 xz], .pointer pb] W (NewQ G t1 W))
    (P2 : ∀ W v, Up w W → Tr G W t1 v → Calls Try.prog 33 #[.pointer pal, .agg #[.string axs, .int .i64 axz], v] W (NewQ G t2 W)) :
    Calls Try.prog 34 #[(ptr ba), .agg #[.string xs, .int .i64 xz], (.pointer pb)] w (NewQ G t2 w) := by
  have e1 : IntKind.i64.wrap ((bd : Int) + 1) = (bd : Int) + 1 := IntWalk.i64_in _ (by omega)
  have e2 : IntKind.i64.wrap ((ad : Int) + 1) = (ad : Int) + 1 := IntWalk.i64_in _ (by omega)
  have hfa := fld2 (ca : Nat) sa (ad : Nat)
  have hfb := fld2 (cb : Nat) sb (bd : Nat)
  have HKA := Lib.hid KA
  have HKB := Lib.hid KB
  have HKL := Lib.hid KL
  have HKR := Lib.hid KR
  have HP1 := Lib.hid P1
  have HP2 := Lib.hid P2
  clear KA KB KL KR P1 P2
  have hU := Up.alloc w (.cells #[.string xs, .int .i64 xz] 47)
  have m0 : (w.alloc (.cells #[.string xs, .int .i64 xz] 47)).cell? ⟨w.heap.size, 0, none⟩ = some (.string xs) := cellOf (Go.heap_alloc_new _ _) rfl
  have m1 : (w.alloc (.cells #[.string xs, .int .i64 xz] 47)).cell? ⟨w.heap.size, 1, none⟩ = some (.int .i64 xz) := cellOf (Go.heap_alloc_new _ _) rfl
  have c_ba_0 := cell_up hU c_ba_0
  have c_ba_1 := cell_up hU c_ba_1
  have c_ba_5 := cell_up hU c_ba_5
  have c_ba_6 := cell_up hU c_ba_6
  have f2 : decide (ald < ard) = false := decide_eq_false h2
  clear h2 hd1 hd2
  go_enter Try.func34, Try.ntmps34
  go_wp2_with (first
    | (go_at_call 30; ((with_reducible refine (HKA.out.at_ hU).mono ?_); rintro e w1 ⟨rfl, hu1⟩; have c_ba_0 := cell_up hu1 c_ba_0; have c_ba_1 := cell_up hu1 c_ba_1; have c_ba_5 := cell_up hu1 c_ba_5; have c_ba_6 := cell_up hu1 c_ba_6; have m0 := cell_up hu1 m0; have m1 := cell_up hu1 m1; have hU := hU.trans hu1; clear hu1))
    | (go_at_call 30; ((with_reducible refine (HKB.out.at_ hU).mono ?_); rintro e w1 ⟨rfl, hu1⟩; have c_ba_0 := cell_up hu1 c_ba_0; have c_ba_1 := cell_up hu1 c_ba_1; have c_ba_5 := cell_up hu1 c_ba_5; have c_ba_6 := cell_up hu1 c_ba_6; have m0 := cell_up hu1 m0; have m1 := cell_up hu1 m1; have hU := hU.trans hu1; clear hu1)))
  have hS : Up w w1 ∧ w1.cell? ⟨ba, 0, none⟩ = some (.string axs) ∧ w1.cell? ⟨ba, 1, none⟩ = some (.int .i64 axz) ∧ w1.cell? ⟨ba, 5, none⟩ = some (.pointer pal) ∧ w1.cell? ⟨ba, 6, none⟩ = some (.pointer par) ∧ w1.cell? ⟨w.heap.size, 0, none⟩ = some (.string xs) ∧ w1.cell? ⟨w.heap.size, 1, none⟩ = some (.int .i64 xz) := ⟨hU, c_ba_0, c_ba_1, c_ba_5, c_ba_6, m0, m1⟩
  clear hU c_ba_0 c_ba_1 c_ba_5 c_ba_6 m0 m1
  have hfl := fld2 (cl : Nat) sl (ald : Nat)
  have hfr := fld2 (cr : Nat) sr (ard : Nat)
  go_region_held3 (fun w' => Up w w' ∧ w'.cell? ⟨ba, 0, none⟩ = some (.string axs) ∧ w'.cell? ⟨ba, 1, none⟩ = some (.int .i64 axz) ∧ w'.cell? ⟨ba, 5, none⟩ = some (.pointer pal) ∧ w'.cell? ⟨ba, 6, none⟩ = some (.pointer par) ∧ w'.cell? ⟨w.heap.size, 0, none⟩ = some (.string xs) ∧ w'.cell? ⟨w.heap.size, 1, none⟩ = some (.int .i64 xz))
    (first | assumption | with_reducible exact qkeep6 hu3 (by assumption) | with_reducible exact qkeep6 hu2 (by assumption) | with_reducible exact qkeep6 (Up.drew _) (by assumption))
    (first
      | (go_at_call 30; ((with_reducible refine ((HKL.out).at_ ?_).mono ?_); (first | exact hU | exact (by assumption : Up w _ ∧ _).1); rintro e w2 ⟨rfl, hu2⟩))
      | (go_at_call 30; ((with_reducible refine ((HKR.out).at_ ?_).mono ?_); (first | exact hU | exact (by assumption : Up w _ ∧ _).1); rintro e w3 ⟨rfl, hu3⟩))
      )
  have hT : Up w w2 ∧ w2.cell? ⟨ba, 0, none⟩ = some (.string axs) ∧ w2.cell? ⟨ba, 1, none⟩ = some (.int .i64 axz) ∧ w2.cell? ⟨ba, 5, none⟩ = some (.pointer pal) ∧ w2.cell? ⟨ba, 6, none⟩ = some (.pointer par) ∧ w2.cell? ⟨w.heap.size, 0, none⟩ = some (.string xs) ∧ w2.cell? ⟨w.heap.size, 1, none⟩ = some (.int .i64 xz) := by assumption
  clear hS hu2 hu3
  have hS := hT
  clear hT
  go_wp2
  go_region_held3 (fun w' => Up w w' ∧ w'.cell? ⟨ba, 0, none⟩ = some (.string axs) ∧ w'.cell? ⟨ba, 1, none⟩ = some (.int .i64 axz) ∧ w'.cell? ⟨ba, 5, none⟩ = some (.pointer pal) ∧ w'.cell? ⟨ba, 6, none⟩ = some (.pointer par) ∧ w'.cell? ⟨w.heap.size, 0, none⟩ = some (.string xs) ∧ w'.cell? ⟨w.heap.size, 1, none⟩ = some (.int .i64 xz))
    (first | assumption | with_reducible exact qkeep6 hu5 (by assumption) | with_reducible exact qkeep6 hu4 (by assumption) | with_reducible exact qkeep6 (Up.drew _) (by assumption))
    (first
      | (go_at_call 33; ((with_reducible refine (HP1.out _ ?_).mono ?_); (exact (by assumption : Up w _ ∧ _).1); rintro e w4 ⟨g4, rfl, hn4, hu4⟩))
      | (go_at_call 33; ((with_reducible refine (HP2.out _ _ ?_ ?_).mono ?_); (exact (by assumption : Up w _ ∧ _).1); (exact hn4); rintro e w5 ⟨g5, rfl, hn5, hu5⟩))
      )
  have HF := Lib.hid (by assumption : Up w w5 ∧ _).1
  go_wp2
  go_ret
  exact ⟨g5, rfl, hn5, HF.out⟩
set_option maxRecDepth 100000 in
set_option maxHeartbeats 2000000 in
theorem level_3 {G : Nat → Prop} (w : World) (bb bi : Nat) (pa pbr pil pir : Option Addr) (axs ixs : ByteArray) (axz ixz : Int) (cl cr ald ard : Nat) (sl sr : Int) (t1 t2 t3 : QT) (xs : ByteArray) (xz : Int) (ca cb ad bd : Nat) (sa sb : Int)
    (c_bb_0 : w.cell? ⟨bb, 0, none⟩ = some (.string axs)) (c_bb_1 : w.cell? ⟨bb, 1, none⟩ = some (.int .i64 axz)) (c_bb_5 : w.cell? ⟨bb, 5, none⟩ = some (ptr bi)) (c_bb_6 : w.cell? ⟨bb, 6, none⟩ = some (.pointer pbr)) (c_bi_0 : w.cell? ⟨bi, 0, none⟩ = some (.string ixs)) (c_bi_1 : w.cell? ⟨bi, 1, none⟩ = some (.int .i64 ixz)) (c_bi_5 : w.cell? ⟨bi, 5, none⟩ = some (.pointer pil)) (c_bi_6 : w.cell? ⟨bi, 6, none⟩ = some (.pointer pir))
    (hd1 : (bd : Int) ≤ 1048576000) (hd2 : (ad : Int) ≤ 1048576000) (h0 : ¬ (bd : Int) + 1 < ad) (h1 : (ad : Int) + 1 < bd) (h2 : ard < ald)
    (KA : CntC w (.pointer pa) ca sa ad) (KB : CntC w (ptr bb) cb sb bd)
    (KL : CntC w (ptr bi) cl sl ald) (KR : CntC w (.pointer pbr) cr sr ard)
    (P1 : ∀ W, Up w W → Calls Try.prog 33 #[.pointer pa, .agg #[.string xs, .int .i64 xz], .pointer pil] W (NewQ G t1 W))
    (P2 : ∀ W, Up w W → Calls Try.prog 33 #[.pointer pir, .agg #[.string axs, .int .i64 axz], .pointer pbr] W (NewQ G t2 W))
    (P3 : ∀ W v v', Up w W → Tr G W t1 v → Tr G W t2 v' → Calls Try.prog 33 #[v, .agg #[.string ixs, .int .i64 ixz], v'] W (NewQ G t3 W)) :
    Calls Try.prog 34 #[(.pointer pa), .agg #[.string xs, .int .i64 xz], (ptr bb)] w (NewQ G t3 w) := by
  have e1 : IntKind.i64.wrap ((bd : Int) + 1) = (bd : Int) + 1 := IntWalk.i64_in _ (by omega)
  have e2 : IntKind.i64.wrap ((ad : Int) + 1) = (ad : Int) + 1 := IntWalk.i64_in _ (by omega)
  have hfa := fld2 (ca : Nat) sa (ad : Nat)
  have hfb := fld2 (cb : Nat) sb (bd : Nat)
  have HKA := Lib.hid KA
  have HKB := Lib.hid KB
  have HKL := Lib.hid KL
  have HKR := Lib.hid KR
  have HP1 := Lib.hid P1
  have HP2 := Lib.hid P2
  have HP3 := Lib.hid P3
  clear KA KB KL KR P1 P2 P3
  have hU := Up.alloc w (.cells #[.string xs, .int .i64 xz] 47)
  have m0 : (w.alloc (.cells #[.string xs, .int .i64 xz] 47)).cell? ⟨w.heap.size, 0, none⟩ = some (.string xs) := cellOf (Go.heap_alloc_new _ _) rfl
  have m1 : (w.alloc (.cells #[.string xs, .int .i64 xz] 47)).cell? ⟨w.heap.size, 1, none⟩ = some (.int .i64 xz) := cellOf (Go.heap_alloc_new _ _) rfl
  have c_bb_0 := cell_up hU c_bb_0
  have c_bb_1 := cell_up hU c_bb_1
  have c_bb_5 := cell_up hU c_bb_5
  have c_bb_6 := cell_up hU c_bb_6
  have c_bi_0 := cell_up hU c_bi_0
  have c_bi_1 := cell_up hU c_bi_1
  have c_bi_5 := cell_up hU c_bi_5
  have c_bi_6 := cell_up hU c_bi_6
  have f1 : decide ((bd : Int) + 1 < ad) = false := decide_eq_false h0
  have f2 : decide (ard < ald) = true := decide_eq_true h2
  clear h2 hd1 hd2
  go_enter Try.func34, Try.ntmps34
  go_wp2_with (first
    | (go_at_call 30; ((with_reducible refine (HKA.out.at_ hU).mono ?_); rintro e w1 ⟨rfl, hu1⟩; have c_bb_0 := cell_up hu1 c_bb_0; have c_bb_1 := cell_up hu1 c_bb_1; have c_bb_5 := cell_up hu1 c_bb_5; have c_bb_6 := cell_up hu1 c_bb_6; have c_bi_0 := cell_up hu1 c_bi_0; have c_bi_1 := cell_up hu1 c_bi_1; have c_bi_5 := cell_up hu1 c_bi_5; have c_bi_6 := cell_up hu1 c_bi_6; have m0 := cell_up hu1 m0; have m1 := cell_up hu1 m1; have hU := hU.trans hu1; clear hu1))
    | (go_at_call 30; ((with_reducible refine (HKB.out.at_ hU).mono ?_); rintro e w1 ⟨rfl, hu1⟩; have c_bb_0 := cell_up hu1 c_bb_0; have c_bb_1 := cell_up hu1 c_bb_1; have c_bb_5 := cell_up hu1 c_bb_5; have c_bb_6 := cell_up hu1 c_bb_6; have c_bi_0 := cell_up hu1 c_bi_0; have c_bi_1 := cell_up hu1 c_bi_1; have c_bi_5 := cell_up hu1 c_bi_5; have c_bi_6 := cell_up hu1 c_bi_6; have m0 := cell_up hu1 m0; have m1 := cell_up hu1 m1; have hU := hU.trans hu1; clear hu1)))
  go_quiet (fail)
  obtain ⟨q0, rfl⟩ : ∃ q : Nat, q = nq := ⟨_, rfl⟩
  have huq := Up.drewN w1 q0
  have c_bb_0 := cell_up huq c_bb_0
  have c_bb_1 := cell_up huq c_bb_1
  have c_bb_5 := cell_up huq c_bb_5
  have c_bb_6 := cell_up huq c_bb_6
  have c_bi_0 := cell_up huq c_bi_0
  have c_bi_1 := cell_up huq c_bi_1
  have c_bi_5 := cell_up huq c_bi_5
  have c_bi_6 := cell_up huq c_bi_6
  have m0 := cell_up huq m0
  have m1 := cell_up huq m1
  have hU := hU.trans huq
  clear huq
  generalize w1.drewN q0 = W1 at *
  go_wp2_with fail
  have hS : Up w W1 ∧ W1.cell? ⟨bb, 0, none⟩ = some (.string axs) ∧ W1.cell? ⟨bb, 1, none⟩ = some (.int .i64 axz) ∧ W1.cell? ⟨bb, 5, none⟩ = some (ptr bi) ∧ W1.cell? ⟨bb, 6, none⟩ = some (.pointer pbr) ∧ W1.cell? ⟨bi, 0, none⟩ = some (.string ixs) ∧ W1.cell? ⟨bi, 1, none⟩ = some (.int .i64 ixz) ∧ W1.cell? ⟨bi, 5, none⟩ = some (.pointer pil) ∧ W1.cell? ⟨bi, 6, none⟩ = some (.pointer pir) ∧ W1.cell? ⟨w.heap.size, 0, none⟩ = some (.string xs) ∧ W1.cell? ⟨w.heap.size, 1, none⟩ = some (.int .i64 xz) := ⟨hU, c_bb_0, c_bb_1, c_bb_5, c_bb_6, c_bi_0, c_bi_1, c_bi_5, c_bi_6, m0, m1⟩
  clear hU c_bb_0 c_bb_1 c_bb_5 c_bb_6 c_bi_0 c_bi_1 c_bi_5 c_bi_6 m0 m1
  have hfl := fld2 (cl : Nat) sl (ald : Nat)
  have hfr := fld2 (cr : Nat) sr (ard : Nat)
  go_region_held3 (fun w' => Up w w' ∧ w'.cell? ⟨bb, 0, none⟩ = some (.string axs) ∧ w'.cell? ⟨bb, 1, none⟩ = some (.int .i64 axz) ∧ w'.cell? ⟨bb, 5, none⟩ = some (ptr bi) ∧ w'.cell? ⟨bb, 6, none⟩ = some (.pointer pbr) ∧ w'.cell? ⟨bi, 0, none⟩ = some (.string ixs) ∧ w'.cell? ⟨bi, 1, none⟩ = some (.int .i64 ixz) ∧ w'.cell? ⟨bi, 5, none⟩ = some (.pointer pil) ∧ w'.cell? ⟨bi, 6, none⟩ = some (.pointer pir) ∧ w'.cell? ⟨w.heap.size, 0, none⟩ = some (.string xs) ∧ w'.cell? ⟨w.heap.size, 1, none⟩ = some (.int .i64 xz))
    (first | assumption | with_reducible exact qkeep10 hu3 (by assumption) | with_reducible exact qkeep10 hu2 (by assumption) | with_reducible exact qkeep10 (Up.drew _) (by assumption))
    (first
      | (go_at_call 30; ((with_reducible refine ((HKL.out).at_ ?_).mono ?_); (first | exact hU | exact (by assumption : Up w _ ∧ _).1); rintro e w2 ⟨rfl, hu2⟩))
      | (go_at_call 30; ((with_reducible refine ((HKR.out).at_ ?_).mono ?_); (first | exact hU | exact (by assumption : Up w _ ∧ _).1); rintro e w3 ⟨rfl, hu3⟩))
      )
  have hT : Up w w3 ∧ w3.cell? ⟨bb, 0, none⟩ = some (.string axs) ∧ w3.cell? ⟨bb, 1, none⟩ = some (.int .i64 axz) ∧ w3.cell? ⟨bb, 5, none⟩ = some (ptr bi) ∧ w3.cell? ⟨bb, 6, none⟩ = some (.pointer pbr) ∧ w3.cell? ⟨bi, 0, none⟩ = some (.string ixs) ∧ w3.cell? ⟨bi, 1, none⟩ = some (.int .i64 ixz) ∧ w3.cell? ⟨bi, 5, none⟩ = some (.pointer pil) ∧ w3.cell? ⟨bi, 6, none⟩ = some (.pointer pir) ∧ w3.cell? ⟨w.heap.size, 0, none⟩ = some (.string xs) ∧ w3.cell? ⟨w.heap.size, 1, none⟩ = some (.int .i64 xz) := by assumption
  clear hS hu2 hu3
  have hS := hT
  clear hT
  obtain ⟨hU, c_bb_0, c_bb_1, c_bb_5, c_bb_6, c_bi_0, c_bi_1, c_bi_5, c_bi_6, m0, m1⟩ := hS
  go_wp2
  have hS : Up w w3 ∧ w3.cell? ⟨bb, 0, none⟩ = some (.string axs) ∧ w3.cell? ⟨bb, 1, none⟩ = some (.int .i64 axz) ∧ w3.cell? ⟨bb, 5, none⟩ = some (ptr bi) ∧ w3.cell? ⟨bb, 6, none⟩ = some (.pointer pbr) ∧ w3.cell? ⟨bi, 0, none⟩ = some (.string ixs) ∧ w3.cell? ⟨bi, 1, none⟩ = some (.int .i64 ixz) ∧ w3.cell? ⟨bi, 5, none⟩ = some (.pointer pil) ∧ w3.cell? ⟨bi, 6, none⟩ = some (.pointer pir) ∧ w3.cell? ⟨w.heap.size, 0, none⟩ = some (.string xs) ∧ w3.cell? ⟨w.heap.size, 1, none⟩ = some (.int .i64 xz) := ⟨hU, c_bb_0, c_bb_1, c_bb_5, c_bb_6, c_bi_0, c_bi_1, c_bi_5, c_bi_6, m0, m1⟩
  clear hU c_bb_0 c_bb_1 c_bb_5 c_bb_6 c_bi_0 c_bi_1 c_bi_5 c_bi_6 m0 m1
  go_region_held3 (fun w' => Up w w' ∧ w'.cell? ⟨bb, 0, none⟩ = some (.string axs) ∧ w'.cell? ⟨bb, 1, none⟩ = some (.int .i64 axz) ∧ w'.cell? ⟨bb, 5, none⟩ = some (ptr bi) ∧ w'.cell? ⟨bb, 6, none⟩ = some (.pointer pbr) ∧ w'.cell? ⟨bi, 0, none⟩ = some (.string ixs) ∧ w'.cell? ⟨bi, 1, none⟩ = some (.int .i64 ixz) ∧ w'.cell? ⟨bi, 5, none⟩ = some (.pointer pil) ∧ w'.cell? ⟨bi, 6, none⟩ = some (.pointer pir) ∧ w'.cell? ⟨w.heap.size, 0, none⟩ = some (.string xs) ∧ w'.cell? ⟨w.heap.size, 1, none⟩ = some (.int .i64 xz))
    (first | assumption | with_reducible exact qkeep10 hu6 (by assumption) | with_reducible exact qkeep10 hu5 (by assumption) | with_reducible exact qkeep10 hu4 (by assumption) | with_reducible exact qkeep10 (Up.drew _) (by assumption))
    (first
      | (go_at_call 33; ((with_reducible refine (HP1.out _ ?_).mono ?_); (exact (by assumption : Up w _ ∧ _).1); rintro e w4 ⟨g4, rfl, hn4, hu4⟩))
      | (go_at_call 33; ((with_reducible refine (HP2.out _ ?_).mono ?_); (exact (by assumption : Up w _ ∧ _).1); rintro e w5 ⟨g5, rfl, hn5, hu5⟩))
      | (go_at_call 33; ((with_reducible refine (HP3.out _ _ _ ?_ ?_ ?_).mono ?_); (exact (by assumption : Up w _ ∧ _).1); (((first | exact hn4 | exact hn4.up hu5))); (((first | exact hn5 | exact hn5.up hu4))); rintro e w6 ⟨g6, rfl, hn6, hu6⟩))
      )
  have HF := Lib.hid (by assumption : Up w w6 ∧ _).1
  go_wp2
  go_ret
  exact ⟨g6, rfl, hn6, HF.out⟩
set_option maxRecDepth 100000 in
set_option maxHeartbeats 2000000 in
theorem level_4 {G : Nat → Prop} (w : World) (bb : Nat) (pa pbl pbr : Option Addr) (axs : ByteArray) (axz : Int) (cl cr ald ard : Nat) (sl sr : Int) (t1 t2 : QT) (xs : ByteArray) (xz : Int) (ca cb ad bd : Nat) (sa sb : Int)
    (c_bb_0 : w.cell? ⟨bb, 0, none⟩ = some (.string axs)) (c_bb_1 : w.cell? ⟨bb, 1, none⟩ = some (.int .i64 axz)) (c_bb_5 : w.cell? ⟨bb, 5, none⟩ = some (.pointer pbl)) (c_bb_6 : w.cell? ⟨bb, 6, none⟩ = some (.pointer pbr))
    (hd1 : (bd : Int) ≤ 1048576000) (hd2 : (ad : Int) ≤ 1048576000) (h0 : ¬ (bd : Int) + 1 < ad) (h1 : (ad : Int) + 1 < bd) (h2 : ¬ ard < ald)
    (KA : CntC w (.pointer pa) ca sa ad) (KB : CntC w (ptr bb) cb sb bd)
    (KL : CntC w (.pointer pbl) cl sl ald) (KR : CntC w (.pointer pbr) cr sr ard)
    (P1 : ∀ W, Up w W → Calls Try.prog 33 #[.pointer pa, .agg #[.string xs, .int .i64 xz], .pointer pbl] W (NewQ G t1 W))
    (P2 : ∀ W v, Up w W → Tr G W t1 v → Calls Try.prog 33 #[v, .agg #[.string axs, .int .i64 axz], .pointer pbr] W (NewQ G t2 W)) :
    Calls Try.prog 34 #[(.pointer pa), .agg #[.string xs, .int .i64 xz], (ptr bb)] w (NewQ G t2 w) := by
  have e1 : IntKind.i64.wrap ((bd : Int) + 1) = (bd : Int) + 1 := IntWalk.i64_in _ (by omega)
  have e2 : IntKind.i64.wrap ((ad : Int) + 1) = (ad : Int) + 1 := IntWalk.i64_in _ (by omega)
  have hfa := fld2 (ca : Nat) sa (ad : Nat)
  have hfb := fld2 (cb : Nat) sb (bd : Nat)
  have HKA := Lib.hid KA
  have HKB := Lib.hid KB
  have HKL := Lib.hid KL
  have HKR := Lib.hid KR
  have HP1 := Lib.hid P1
  have HP2 := Lib.hid P2
  clear KA KB KL KR P1 P2
  have hU := Up.alloc w (.cells #[.string xs, .int .i64 xz] 47)
  have m0 : (w.alloc (.cells #[.string xs, .int .i64 xz] 47)).cell? ⟨w.heap.size, 0, none⟩ = some (.string xs) := cellOf (Go.heap_alloc_new _ _) rfl
  have m1 : (w.alloc (.cells #[.string xs, .int .i64 xz] 47)).cell? ⟨w.heap.size, 1, none⟩ = some (.int .i64 xz) := cellOf (Go.heap_alloc_new _ _) rfl
  have c_bb_0 := cell_up hU c_bb_0
  have c_bb_1 := cell_up hU c_bb_1
  have c_bb_5 := cell_up hU c_bb_5
  have c_bb_6 := cell_up hU c_bb_6
  have f1 : decide ((bd : Int) + 1 < ad) = false := decide_eq_false h0
  have f2 : decide (ard < ald) = false := decide_eq_false h2
  clear h2 hd1 hd2
  go_enter Try.func34, Try.ntmps34
  go_wp2_with (first
    | (go_at_call 30; ((with_reducible refine (HKA.out.at_ hU).mono ?_); rintro e w1 ⟨rfl, hu1⟩; have c_bb_0 := cell_up hu1 c_bb_0; have c_bb_1 := cell_up hu1 c_bb_1; have c_bb_5 := cell_up hu1 c_bb_5; have c_bb_6 := cell_up hu1 c_bb_6; have m0 := cell_up hu1 m0; have m1 := cell_up hu1 m1; have hU := hU.trans hu1; clear hu1))
    | (go_at_call 30; ((with_reducible refine (HKB.out.at_ hU).mono ?_); rintro e w1 ⟨rfl, hu1⟩; have c_bb_0 := cell_up hu1 c_bb_0; have c_bb_1 := cell_up hu1 c_bb_1; have c_bb_5 := cell_up hu1 c_bb_5; have c_bb_6 := cell_up hu1 c_bb_6; have m0 := cell_up hu1 m0; have m1 := cell_up hu1 m1; have hU := hU.trans hu1; clear hu1)))
  go_quiet (fail)
  obtain ⟨q0, rfl⟩ : ∃ q : Nat, q = nq := ⟨_, rfl⟩
  have huq := Up.drewN w1 q0
  have c_bb_0 := cell_up huq c_bb_0
  have c_bb_1 := cell_up huq c_bb_1
  have c_bb_5 := cell_up huq c_bb_5
  have c_bb_6 := cell_up huq c_bb_6
  have m0 := cell_up huq m0
  have m1 := cell_up huq m1
  have hU := hU.trans huq
  clear huq
  generalize w1.drewN q0 = W1 at *
  go_wp2_with fail
  have hS : Up w W1 ∧ W1.cell? ⟨bb, 0, none⟩ = some (.string axs) ∧ W1.cell? ⟨bb, 1, none⟩ = some (.int .i64 axz) ∧ W1.cell? ⟨bb, 5, none⟩ = some (.pointer pbl) ∧ W1.cell? ⟨bb, 6, none⟩ = some (.pointer pbr) ∧ W1.cell? ⟨w.heap.size, 0, none⟩ = some (.string xs) ∧ W1.cell? ⟨w.heap.size, 1, none⟩ = some (.int .i64 xz) := ⟨hU, c_bb_0, c_bb_1, c_bb_5, c_bb_6, m0, m1⟩
  clear hU c_bb_0 c_bb_1 c_bb_5 c_bb_6 m0 m1
  have hfl := fld2 (cl : Nat) sl (ald : Nat)
  have hfr := fld2 (cr : Nat) sr (ard : Nat)
  go_region_held3 (fun w' => Up w w' ∧ w'.cell? ⟨bb, 0, none⟩ = some (.string axs) ∧ w'.cell? ⟨bb, 1, none⟩ = some (.int .i64 axz) ∧ w'.cell? ⟨bb, 5, none⟩ = some (.pointer pbl) ∧ w'.cell? ⟨bb, 6, none⟩ = some (.pointer pbr) ∧ w'.cell? ⟨w.heap.size, 0, none⟩ = some (.string xs) ∧ w'.cell? ⟨w.heap.size, 1, none⟩ = some (.int .i64 xz))
    (first | assumption | with_reducible exact qkeep6 hu3 (by assumption) | with_reducible exact qkeep6 hu2 (by assumption) | with_reducible exact qkeep6 (Up.drew _) (by assumption))
    (first
      | (go_at_call 30; ((with_reducible refine ((HKL.out).at_ ?_).mono ?_); (first | exact hU | exact (by assumption : Up w _ ∧ _).1); rintro e w2 ⟨rfl, hu2⟩))
      | (go_at_call 30; ((with_reducible refine ((HKR.out).at_ ?_).mono ?_); (first | exact hU | exact (by assumption : Up w _ ∧ _).1); rintro e w3 ⟨rfl, hu3⟩))
      )
  have hT : Up w w3 ∧ w3.cell? ⟨bb, 0, none⟩ = some (.string axs) ∧ w3.cell? ⟨bb, 1, none⟩ = some (.int .i64 axz) ∧ w3.cell? ⟨bb, 5, none⟩ = some (.pointer pbl) ∧ w3.cell? ⟨bb, 6, none⟩ = some (.pointer pbr) ∧ w3.cell? ⟨w.heap.size, 0, none⟩ = some (.string xs) ∧ w3.cell? ⟨w.heap.size, 1, none⟩ = some (.int .i64 xz) := by assumption
  clear hS hu2 hu3
  have hS := hT
  clear hT
  go_wp2
  go_region_held3 (fun w' => Up w w' ∧ w'.cell? ⟨bb, 0, none⟩ = some (.string axs) ∧ w'.cell? ⟨bb, 1, none⟩ = some (.int .i64 axz) ∧ w'.cell? ⟨bb, 5, none⟩ = some (.pointer pbl) ∧ w'.cell? ⟨bb, 6, none⟩ = some (.pointer pbr) ∧ w'.cell? ⟨w.heap.size, 0, none⟩ = some (.string xs) ∧ w'.cell? ⟨w.heap.size, 1, none⟩ = some (.int .i64 xz))
    (first | assumption | with_reducible exact qkeep6 hu5 (by assumption) | with_reducible exact qkeep6 hu4 (by assumption) | with_reducible exact qkeep6 (Up.drew _) (by assumption))
    (first
      | (go_at_call 33; ((with_reducible refine (HP1.out _ ?_).mono ?_); (exact (by assumption : Up w _ ∧ _).1); rintro e w4 ⟨g4, rfl, hn4, hu4⟩))
      | (go_at_call 33; ((with_reducible refine (HP2.out _ _ ?_ ?_).mono ?_); (exact (by assumption : Up w _ ∧ _).1); (exact hn4); rintro e w5 ⟨g5, rfl, hn5, hu5⟩))
      )
  have HF := Lib.hid (by assumption : Up w w5 ∧ _).1
  go_wp2
  go_ret
  exact ⟨g5, rfl, hn5, HF.out⟩
set_option maxRecDepth 100000 in
set_option maxHeartbeats 2000000 in
theorem level_5 {G : Nat → Prop} (w : World) (pa pb : Option Addr) (t1 : QT) (xs : ByteArray) (xz : Int) (ca cb ad bd : Nat) (sa sb : Int)
    
    (hd1 : (bd : Int) ≤ 1048576000) (hd2 : (ad : Int) ≤ 1048576000) (h0 : ¬ (bd : Int) + 1 < ad) (h1 : ¬ (ad : Int) + 1 < bd)
    (KA : CntC w (.pointer pa) ca sa ad) (KB : CntC w (.pointer pb) cb sb bd)
    (P1 : ∀ W, Up w W → Calls Try.prog 33 #[.pointer pa, .agg #[.string xs, .int .i64 xz], .pointer pb] W (NewQ G t1 W)) :
    Calls Try.prog 34 #[(.pointer pa), .agg #[.string xs, .int .i64 xz], (.pointer pb)] w (NewQ G t1 w) := by
  have e1 : IntKind.i64.wrap ((bd : Int) + 1) = (bd : Int) + 1 := IntWalk.i64_in _ (by omega)
  have e2 : IntKind.i64.wrap ((ad : Int) + 1) = (ad : Int) + 1 := IntWalk.i64_in _ (by omega)
  have hfa := fld2 (ca : Nat) sa (ad : Nat)
  have hfb := fld2 (cb : Nat) sb (bd : Nat)
  have HKA := Lib.hid KA
  have HKB := Lib.hid KB
  have HP1 := Lib.hid P1
  clear KA KB P1
  have hU := Up.alloc w (.cells #[.string xs, .int .i64 xz] 47)
  have m0 : (w.alloc (.cells #[.string xs, .int .i64 xz] 47)).cell? ⟨w.heap.size, 0, none⟩ = some (.string xs) := cellOf (Go.heap_alloc_new _ _) rfl
  have m1 : (w.alloc (.cells #[.string xs, .int .i64 xz] 47)).cell? ⟨w.heap.size, 1, none⟩ = some (.int .i64 xz) := cellOf (Go.heap_alloc_new _ _) rfl
  have f1 : decide ((bd : Int) + 1 < ad) = false := decide_eq_false h0
  have f2 : decide ((ad : Int) + 1 < bd) = false := decide_eq_false h1
  clear hd1 hd2
  go_enter Try.func34, Try.ntmps34
  go_wp2_with (first
    | (go_at_call 30; ((with_reducible refine (HKA.out.at_ hU).mono ?_); rintro e w1 ⟨rfl, hu1⟩; have m0 := cell_up hu1 m0; have m1 := cell_up hu1 m1; have hU := hU.trans hu1; clear hu1))
    | (go_at_call 30; ((with_reducible refine (HKB.out.at_ hU).mono ?_); rintro e w1 ⟨rfl, hu1⟩; have m0 := cell_up hu1 m0; have m1 := cell_up hu1 m1; have hU := hU.trans hu1; clear hu1)))
  go_quiet (fail)
  obtain ⟨q0, rfl⟩ : ∃ q : Nat, q = nq := ⟨_, rfl⟩
  have huq := Up.drewN w1 q0
  have m0 := cell_up huq m0
  have m1 := cell_up huq m1
  have hU := hU.trans huq
  clear huq
  generalize w1.drewN q0 = W1 at *
  go_wp2_with fail
  go_quiet (fail)
  obtain ⟨q1, rfl⟩ : ∃ q : Nat, q = nq := ⟨_, rfl⟩
  have huq := Up.drewN W1 q1
  have m0 := cell_up huq m0
  have m1 := cell_up huq m1
  have hU := hU.trans huq
  clear huq
  generalize W1.drewN q1 = W2 at *
  go_wp2_with (go_at_call 33; ((with_reducible refine (HP1.out _ hU).mono ?_);  rintro e w4 ⟨g4, rfl, hn4, hu4⟩))
  go_ret
  exact ⟨g4, rfl, hn4, hU.trans hu4⟩
end Go.Proofs.Ythiiemjbigcinaa
