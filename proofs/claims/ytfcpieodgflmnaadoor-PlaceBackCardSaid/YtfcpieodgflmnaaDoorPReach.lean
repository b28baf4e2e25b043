/- What both kinds of columns have in common, for each closure. -/
import Derived.Test.YtfcpieodgflmnaaDoorPClos
namespace Go.Proofs.YtfcpieodgflmnaaDoor
open Go.RowKit

theorem ret_iii {k l m : IntKind} {a a' b b' c c' : Int} (h : a = a') (g : b = b') (f : c = c') : Ending.returned (.tuple #[.int k a, .int l b, .int m c]) = .returned (.tuple #[.int k a', .int l b', .int m c']) := by rw [h, g, f]
set_option maxRecDepth 100000 in
set_option maxHeartbeats 1000000 in
theorem locate_none (v : Value) (i : Int) (w : World) : Calls Tryd.prog 20 #[.pointer none, .int .i64 i, v] w fun e w' => e = .returned (.tuple #[.int .i64 0, .int .i64 0, .int .i64 8]) ∧ w = w' := by
  go_enter Tryd.func20, Tryd.ntmps20
  go_wp2_with (go_at_call 38; ((with_reducible refine (find_none i _).mono ?_); rintro e w1 ⟨rfl, rfl⟩))
  go_ret3
  exact ⟨rfl, rfl⟩
set_option maxRecDepth 100000 in
set_option maxHeartbeats 1000000 in
theorem locate_out {w : World} {rb : Nat} {s : ByteArray} (hr : RopeIs w rb s) (v : Value) (i : Int) (h : ¬ (0 ≤ i ∧ i ≤ s.size)) : Calls Tryd.prog 20 #[.pointer (some ⟨rb, 0, none⟩), .int .i64 i, v] w fun e w' => e = .returned (.tuple #[.int .i64 0, .int .i64 0, .int .i64 5]) ∧ Up w w' := by
  have hf := findT hr i
  unfold fdV fdE at hf
  rw [if_neg h, if_neg h] at hf
  have HF := Lib.hid hf
  clear hf h hr
  go_enter Tryd.func20, Tryd.ntmps20
  go_wp2_with (go_at_call 38; ((with_reducible refine HF.out.mono ?_); rintro e w1 ⟨rfl, hu⟩))
  go_ret3
  exact ⟨rfl, hu⟩
/-- Where a place's line lies. -/
theorem find_at {w : World} {rb : Nat} {s : ByteArray} (hr : RopeIs w rb s) (i : Nat) (h : i ≤ s.size) : Calls Tryd.prog 38 #[.pointer (some ⟨rb, 0, none⟩), .int .i64 (i : Nat)] w fun e w' => e = .returned (.tuple #[.int .i64 (na s i : Nat), .int .i64 0]) ∧ Up w w' := by
  have hf := findT hr i
  unfold fdV fdE at hf
  rw [if_pos (by omega), if_pos (by omega), Int.toNat_natCast] at hf
  exact hf
theorem line_at {w : World} {rb : Nat} {s : ByteArray} (hr : RopeIs w rb s) (k : Nat) (h : k ≤ nl s) : Calls Tryd.prog 39 #[.pointer (some ⟨rb, 0, none⟩), .int .i64 (k : Nat)] w fun e w' => e = .returned (.tuple #[.agg #[.int .i64 (bh s k : Nat), .int .i64 (lineEnd s k : Nat)], .int .i64 0]) ∧ Up w w' := by
  have hf := lineT hr k
  unfold lnF lnT lnE at hf
  rw [if_pos (by omega), if_pos (by omega), if_pos (by omega), Int.toNat_natCast] at hf
  exact hf
set_option maxRecDepth 100000 in
set_option maxHeartbeats 1000000 in
theorem locate_of {w : World} {rb : Nat} {s : ByteArray} (hr : RopeIs w rb s) (pb i : Nat) (h : i ≤ s.size) (hp : w.cell? ⟨pb, 0, none⟩ = some (.int .i64 (i : Nat))) :
    Calls Tryd.prog 20 #[.pointer (some ⟨rb, 0, none⟩), .int .i64 (i : Nat), .func (.func 21) #[] #[.pointer (some ⟨pb, 0, none⟩)]] w fun e w' => e = .returned (.tuple #[.int .i64 (na s i : Nat), .int .i64 ((i : Int) - (bh s (na s i) : Nat)), .int .i64 0]) ∧ Up w w' := by
  have hz := hr.size
  have hbn := bh_na_le h
  have hle := lineEnd_le s (na s i)
  have HF := Lib.hid (find_at hr i h)
  have HL := Lib.hid (fun (W : World) (hu : Up w W) => line_at (hr.up hu) (na s i) (na_le_nl h))
  have HC := Lib.hid (fun (W : World) (hu : Up w W) => of1_any W pb i (bh s (na s i) : Nat) (lineEnd s (na s i) : Nat) (cell_up hu hp) (by omega) (by omega))
  generalize na s i = k at *
  generalize bh s k = x at *
  generalize lineEnd s k = y at *
  clear hr h hp hbn hle
  go_enter Tryd.func20, Tryd.ntmps20
  go_wp2_with (first
    | (go_at_call 38; ((with_reducible refine HF.out.mono ?_); rintro e w1 ⟨rfl, hu1⟩; have HU1 := Lib.hid hu1; clear hu1))
    | (go_at_call 39; ((with_reducible refine (HL.out _ HU1.out).mono ?_); rintro e w2 ⟨rfl, hu2⟩; have HU2 := Lib.hid (HU1.out.trans (hu2.trans (Up.alloc w2 (.cells #[.int .i64 (x : Nat), .int .i64 (y : Nat)] 50)))); obtain ⟨c0, c1, -⟩ := rg_cells w2 (x : Nat) (y : Nat); clear hu2))
    | (go_at_call 21; ((with_reducible refine (HC.out _ HU2.out).mono ?_); rintro e w3 ⟨rfl, hu3⟩; have HU3 := Lib.hid (HU2.out.trans hu3); clear hu3)))
  go_ret3
  exact ⟨rfl, HU3.out⟩
theorem rg_fz (W : World) (x y : Int) : (W.alloc (.cells #[.int .i64 x, .int .i64 y] 50)).frozen? ⟨W.heap.size, 1, none⟩ = false := frozenOf (Go.heap_alloc_new _ _)
theorem below_of {w W : World} (h : Up w W) : w.heap.size ≤ W.heap.size := Below.size h
theorem set_one (w : World) (g : Nat) (x1 y0 y1 : Value) (h0 : w.cell? ⟨g, 0, none⟩ = some y0) (h1 : w.cell? ⟨g, 1, none⟩ = some y1) :
    (w.setCell ⟨g, 1, none⟩ x1).cell? ⟨g, 0, none⟩ = some y0 ∧ (w.setCell ⟨g, 1, none⟩ x1).cell? ⟨g, 1, none⟩ = some x1 :=
  ⟨(World.cell?_setCell_other w ⟨g, 1, none⟩ ⟨g, 0, none⟩ x1 (fun e => by injection e with _ e2; exact absurd e2 (by decide))).trans h0, World.cell?_setCell_same' w _ x1 (by rw [h1]; rfl)⟩
theorem set_up {w W : World} {g : Nat} (h : Up w W) (hg : w.heap.size ≤ g) (v : Value) : Up w (W.setCell ⟨g, 1, none⟩ v) := Below.setCell h (p := ⟨g, 1, none⟩) hg v
set_option maxRecDepth 100000 in
set_option maxHeartbeats 1000000 in
theorem reach_o_mid_yes {w : World} {rb K k x z : Nat} {n : Int} (pb : Nat) (hk : k < K) (hK : (K : Int) ≤ 1048576) (_hx : (x : Int) ≤ 1048576) (_hz : (z : Int) ≤ 1048576) (_hn : 0 ≤ n ∧ n ≤ 1048576) (h1 : 1 ≤ z)
    (hN : ∀ W, Up w W → Calls Tryd.prog 40 #[.pointer (some ⟨rb, 0, none⟩)] W fun e w' => e = .returned (.int .i64 ((K : Int) + 1)) ∧ Up W w')
    (hL : Calls Tryd.prog 39 #[.pointer (some ⟨rb, 0, none⟩), .int .i64 (k : Nat)] w fun e w' => e = .returned (.tuple #[.agg #[.int .i64 (x : Nat), .int .i64 (z : Nat)], .int .i64 0]) ∧ Up w w')
    (hC : ∀ W, Up w W → Calls Tryd.prog 23 #[.agg #[.int .i64 (x : Nat), .int .i64 ((z : Int) - 1)], .pointer (some ⟨pb, 0, none⟩)] W fun e w' => e = .returned (.tuple #[.int .i64 n, .bool true]) ∧ Up W w') :
    Calls Tryd.prog 22 #[.pointer (some ⟨rb, 0, none⟩), .int .i64 (k : Nat), .func (.func 23) #[] #[.pointer (some ⟨pb, 0, none⟩)]] w fun e w' => e = .returned (.tuple #[.int .i64 ((x : Int) + n), .int .i64 0]) ∧ Up w w' := by
  have e1 : wrap64 (K : Int) = (K : Nat) := IntWalk.wrap64_in _ (by omega)
  have e2 : IntKind.i64.wrap ((z : Int) - 1) = (z : Int) - 1 := IntWalk.i64_in _ (by omega)
  have HN := Lib.hid hN
  have HL := Lib.hid hL
  have HC := Lib.hid hC
  clear hN hL hC
  go_enter Tryd.func22, Tryd.ntmps22
  go_wp2_with (first
    | (go_at_call 39; ((with_reducible refine HL.out.mono ?_); rintro e w2 ⟨rfl, hu2⟩; have HU2 := Lib.hid (hu2.trans (Up.alloc w2 (.cells #[.int .i64 (x : Nat), .int .i64 (z : Nat)] 50))); obtain ⟨c0, c1, l0⟩ := rg_cells w2 (x : Nat) (z : Nat); have z1 := rg_fz w2 (x : Nat) (z : Nat); have HB := Lib.hid (below_of hu2); clear hu2))
    | (go_at_call 40; ((with_reducible refine (HN.out _ HU2.out).mono ?_); rintro e w3 ⟨rfl, hu3⟩; have d0 := cell_up hu3 c0; have d1 := cell_up hu3 c1; have y1 := frozen_up hu3 c1 z1; have HU3 := Lib.hid (HU2.out.trans hu3); obtain ⟨q0, q1⟩ := set_one w3 w2.heap.size (.int .i64 ((z : Int) - 1)) _ _ d0 d1; clear hu3))
    | (go_at_call 23; ((with_reducible refine (HC.out _ (set_up HU3.out HB.out _)).mono ?_); rintro e w4 ⟨rfl, hu4⟩; have g0 := cell_up hu4 q0; have HU4 := Lib.hid ((set_up HU3.out HB.out _).trans hu4); clear hu4)))
  go_ret2
  exact ⟨rfl, HU4.out⟩
set_option maxRecDepth 100000 in
set_option maxHeartbeats 1000000 in
theorem reach_o_mid_no {w : World} {rb K k x z : Nat} {n : Int} (pb : Nat) (hk : k < K) (hK : (K : Int) ≤ 1048576) (_hx : (x : Int) ≤ 1048576) (_hz : (z : Int) ≤ 1048576)  (h1 : 1 ≤ z)
    (hN : ∀ W, Up w W → Calls Tryd.prog 40 #[.pointer (some ⟨rb, 0, none⟩)] W fun e w' => e = .returned (.int .i64 ((K : Int) + 1)) ∧ Up W w')
    (hL : Calls Tryd.prog 39 #[.pointer (some ⟨rb, 0, none⟩), .int .i64 (k : Nat)] w fun e w' => e = .returned (.tuple #[.agg #[.int .i64 (x : Nat), .int .i64 (z : Nat)], .int .i64 0]) ∧ Up w w')
    (hC : ∀ W, Up w W → Calls Tryd.prog 23 #[.agg #[.int .i64 (x : Nat), .int .i64 ((z : Int) - 1)], .pointer (some ⟨pb, 0, none⟩)] W fun e w' => e = .returned (.tuple #[.int .i64 n, .bool false]) ∧ Up W w') :
    Calls Tryd.prog 22 #[.pointer (some ⟨rb, 0, none⟩), .int .i64 (k : Nat), .func (.func 23) #[] #[.pointer (some ⟨pb, 0, none⟩)]] w fun e w' => e = .returned (.tuple #[.int .i64 0, .int .i64 5]) ∧ Up w w' := by
  have e1 : wrap64 (K : Int) = (K : Nat) := IntWalk.wrap64_in _ (by omega)
  have e2 : IntKind.i64.wrap ((z : Int) - 1) = (z : Int) - 1 := IntWalk.i64_in _ (by omega)
  have HN := Lib.hid hN
  have HL := Lib.hid hL
  have HC := Lib.hid hC
  clear hN hL hC
  go_enter Tryd.func22, Tryd.ntmps22
  go_wp2_with (first
    | (go_at_call 39; ((with_reducible refine HL.out.mono ?_); rintro e w2 ⟨rfl, hu2⟩; have HU2 := Lib.hid (hu2.trans (Up.alloc w2 (.cells #[.int .i64 (x : Nat), .int .i64 (z : Nat)] 50))); obtain ⟨c0, c1, l0⟩ := rg_cells w2 (x : Nat) (z : Nat); have z1 := rg_fz w2 (x : Nat) (z : Nat); have HB := Lib.hid (below_of hu2); clear hu2))
    | (go_at_call 40; ((with_reducible refine (HN.out _ HU2.out).mono ?_); rintro e w3 ⟨rfl, hu3⟩; have d0 := cell_up hu3 c0; have d1 := cell_up hu3 c1; have y1 := frozen_up hu3 c1 z1; have HU3 := Lib.hid (HU2.out.trans hu3); obtain ⟨q0, q1⟩ := set_one w3 w2.heap.size (.int .i64 ((z : Int) - 1)) _ _ d0 d1; clear hu3))
    | (go_at_call 23; ((with_reducible refine (HC.out _ (set_up HU3.out HB.out _)).mono ?_); rintro e w4 ⟨rfl, hu4⟩; have g0 := cell_up hu4 q0; have HU4 := Lib.hid ((set_up HU3.out HB.out _).trans hu4); clear hu4)))
  go_ret2
  exact ⟨rfl, HU4.out⟩
set_option maxRecDepth 100000 in
set_option maxHeartbeats 1000000 in
theorem reach_o_last_yes {w : World} {rb K x z : Nat} {n : Int} (pb : Nat) (hK : (K : Int) ≤ 1048576) (_hx : (x : Int) ≤ 1048576) (_hz : (z : Int) ≤ 1048576) (_hn : 0 ≤ n ∧ n ≤ 1048576)
    (hN : ∀ W, Up w W → Calls Tryd.prog 40 #[.pointer (some ⟨rb, 0, none⟩)] W fun e w' => e = .returned (.int .i64 ((K : Int) + 1)) ∧ Up W w')
    (hL : Calls Tryd.prog 39 #[.pointer (some ⟨rb, 0, none⟩), .int .i64 (K : Nat)] w fun e w' => e = .returned (.tuple #[.agg #[.int .i64 (x : Nat), .int .i64 (z : Nat)], .int .i64 0]) ∧ Up w w')
    (hC : ∀ W, Up w W → Calls Tryd.prog 23 #[.agg #[.int .i64 (x : Nat), .int .i64 (z : Nat)], .pointer (some ⟨pb, 0, none⟩)] W fun e w' => e = .returned (.tuple #[.int .i64 n, .bool true]) ∧ Up W w') :
    Calls Tryd.prog 22 #[.pointer (some ⟨rb, 0, none⟩), .int .i64 (K : Nat), .func (.func 23) #[] #[.pointer (some ⟨pb, 0, none⟩)]] w fun e w' => e = .returned (.tuple #[.int .i64 ((x : Int) + n), .int .i64 0]) ∧ Up w w' := by
  have e1 : wrap64 (K : Int) = (K : Nat) := IntWalk.wrap64_in _ (by omega)
  have f1 : decide (K < K) = false := decide_eq_false (by omega)
  have HN := Lib.hid hN
  have HL := Lib.hid hL
  have HC := Lib.hid hC
  clear hN hL hC
  go_enter Tryd.func22, Tryd.ntmps22
  go_wp2_with (first
    | (go_at_call 39; ((with_reducible refine HL.out.mono ?_); rintro e w2 ⟨rfl, hu2⟩; have HU2 := Lib.hid (hu2.trans (Up.alloc w2 (.cells #[.int .i64 (x : Nat), .int .i64 (z : Nat)] 50))); obtain ⟨c0, c1, l0⟩ := rg_cells w2 (x : Nat) (z : Nat); have z1 := rg_fz w2 (x : Nat) (z : Nat); have HB := Lib.hid (below_of hu2); clear hu2))
    | (go_at_call 40; ((with_reducible refine (HN.out _ HU2.out).mono ?_); rintro e w3 ⟨rfl, hu3⟩; have d0 := cell_up hu3 c0; have d1 := cell_up hu3 c1; have y1 := frozen_up hu3 c1 z1; have HU3 := Lib.hid (HU2.out.trans hu3); clear hu3))
    | (go_at_call 23; ((with_reducible refine (HC.out _ HU3.out).mono ?_); rintro e w4 ⟨rfl, hu4⟩; have g0 := cell_up hu4 d0; have HU4 := Lib.hid (HU3.out.trans hu4); clear hu4)))
  go_ret2
  exact ⟨rfl, HU4.out⟩
set_option maxRecDepth 100000 in
set_option maxHeartbeats 1000000 in
theorem reach_o_last_no {w : World} {rb K x z : Nat} {n : Int} (pb : Nat) (hK : (K : Int) ≤ 1048576) (_hx : (x : Int) ≤ 1048576) (_hz : (z : Int) ≤ 1048576) 
    (hN : ∀ W, Up w W → Calls Tryd.prog 40 #[.pointer (some ⟨rb, 0, none⟩)] W fun e w' => e = .returned (.int .i64 ((K : Int) + 1)) ∧ Up W w')
    (hL : Calls Tryd.prog 39 #[.pointer (some ⟨rb, 0, none⟩), .int .i64 (K : Nat)] w fun e w' => e = .returned (.tuple #[.agg #[.int .i64 (x : Nat), .int .i64 (z : Nat)], .int .i64 0]) ∧ Up w w')
    (hC : ∀ W, Up w W → Calls Tryd.prog 23 #[.agg #[.int .i64 (x : Nat), .int .i64 (z : Nat)], .pointer (some ⟨pb, 0, none⟩)] W fun e w' => e = .returned (.tuple #[.int .i64 n, .bool false]) ∧ Up W w') :
    Calls Tryd.prog 22 #[.pointer (some ⟨rb, 0, none⟩), .int .i64 (K : Nat), .func (.func 23) #[] #[.pointer (some ⟨pb, 0, none⟩)]] w fun e w' => e = .returned (.tuple #[.int .i64 0, .int .i64 5]) ∧ Up w w' := by
  have e1 : wrap64 (K : Int) = (K : Nat) := IntWalk.wrap64_in _ (by omega)
  have f1 : decide (K < K) = false := decide_eq_false (by omega)
  have HN := Lib.hid hN
  have HL := Lib.hid hL
  have HC := Lib.hid hC
  clear hN hL hC
  go_enter Tryd.func22, Tryd.ntmps22
  go_wp2_with (first
    | (go_at_call 39; ((with_reducible refine HL.out.mono ?_); rintro e w2 ⟨rfl, hu2⟩; have HU2 := Lib.hid (hu2.trans (Up.alloc w2 (.cells #[.int .i64 (x : Nat), .int .i64 (z : Nat)] 50))); obtain ⟨c0, c1, l0⟩ := rg_cells w2 (x : Nat) (z : Nat); have z1 := rg_fz w2 (x : Nat) (z : Nat); have HB := Lib.hid (below_of hu2); clear hu2))
    | (go_at_call 40; ((with_reducible refine (HN.out _ HU2.out).mono ?_); rintro e w3 ⟨rfl, hu3⟩; have d0 := cell_up hu3 c0; have d1 := cell_up hu3 c1; have y1 := frozen_up hu3 c1 z1; have HU3 := Lib.hid (HU2.out.trans hu3); clear hu3))
    | (go_at_call 23; ((with_reducible refine (HC.out _ HU3.out).mono ?_); rintro e w4 ⟨rfl, hu4⟩; have g0 := cell_up hu4 d0; have HU4 := Lib.hid (HU3.out.trans hu4); clear hu4)))
  go_ret2
  exact ⟨rfl, HU4.out⟩
set_option maxRecDepth 100000 in
set_option maxHeartbeats 1000000 in
theorem reach_c_mid_yes {w : World} {rb K k x z : Nat} {n : Int} (pb qb : Nat) (hk : k < K) (hK : (K : Int) ≤ 1048576) (_hx : (x : Int) ≤ 1048576) (_hz : (z : Int) ≤ 1048576) (_hn : 0 ≤ n ∧ n ≤ 1048576) (h1 : 1 ≤ z)
    (hN : ∀ W, Up w W → Calls Tryd.prog 40 #[.pointer (some ⟨rb, 0, none⟩)] W fun e w' => e = .returned (.int .i64 ((K : Int) + 1)) ∧ Up W w')
    (hL : Calls Tryd.prog 39 #[.pointer (some ⟨rb, 0, none⟩), .int .i64 (k : Nat)] w fun e w' => e = .returned (.tuple #[.agg #[.int .i64 (x : Nat), .int .i64 (z : Nat)], .int .i64 0]) ∧ Up w w')
    (hC : ∀ W, Up w W → Calls Tryd.prog 30 #[.agg #[.int .i64 (x : Nat), .int .i64 ((z : Int) - 1)], .pointer (some ⟨pb, 0, none⟩), .pointer (some ⟨qb, 0, none⟩)] W fun e w' => e = .returned (.tuple #[.int .i64 n, .bool true]) ∧ Up W w') :
    Calls Tryd.prog 22 #[.pointer (some ⟨rb, 0, none⟩), .int .i64 (k : Nat), .func (.func 30) #[] #[.pointer (some ⟨pb, 0, none⟩), .pointer (some ⟨qb, 0, none⟩)]] w fun e w' => e = .returned (.tuple #[.int .i64 ((x : Int) + n), .int .i64 0]) ∧ Up w w' := by
  have e1 : wrap64 (K : Int) = (K : Nat) := IntWalk.wrap64_in _ (by omega)
  have e2 : IntKind.i64.wrap ((z : Int) - 1) = (z : Int) - 1 := IntWalk.i64_in _ (by omega)
  have HN := Lib.hid hN
  have HL := Lib.hid hL
  have HC := Lib.hid hC
  clear hN hL hC
  go_enter Tryd.func22, Tryd.ntmps22
  go_wp2_with (first
    | (go_at_call 39; ((with_reducible refine HL.out.mono ?_); rintro e w2 ⟨rfl, hu2⟩; have HU2 := Lib.hid (hu2.trans (Up.alloc w2 (.cells #[.int .i64 (x : Nat), .int .i64 (z : Nat)] 50))); obtain ⟨c0, c1, l0⟩ := rg_cells w2 (x : Nat) (z : Nat); have z1 := rg_fz w2 (x : Nat) (z : Nat); have HB := Lib.hid (below_of hu2); clear hu2))
    | (go_at_call 40; ((with_reducible refine (HN.out _ HU2.out).mono ?_); rintro e w3 ⟨rfl, hu3⟩; have d0 := cell_up hu3 c0; have d1 := cell_up hu3 c1; have y1 := frozen_up hu3 c1 z1; have HU3 := Lib.hid (HU2.out.trans hu3); obtain ⟨q0, q1⟩ := set_one w3 w2.heap.size (.int .i64 ((z : Int) - 1)) _ _ d0 d1; clear hu3))
    | (go_at_call 30; ((with_reducible refine (HC.out _ (set_up HU3.out HB.out _)).mono ?_); rintro e w4 ⟨rfl, hu4⟩; have g0 := cell_up hu4 q0; have HU4 := Lib.hid ((set_up HU3.out HB.out _).trans hu4); clear hu4)))
  go_ret2
  exact ⟨rfl, HU4.out⟩
set_option maxRecDepth 100000 in
set_option maxHeartbeats 1000000 in
theorem reach_c_mid_no {w : World} {rb K k x z : Nat} {n : Int} (pb qb : Nat) (hk : k < K) (hK : (K : Int) ≤ 1048576) (_hx : (x : Int) ≤ 1048576) (_hz : (z : Int) ≤ 1048576)  (h1 : 1 ≤ z)
    (hN : ∀ W, Up w W → Calls Tryd.prog 40 #[.pointer (some ⟨rb, 0, none⟩)] W fun e w' => e = .returned (.int .i64 ((K : Int) + 1)) ∧ Up W w')
    (hL : Calls Tryd.prog 39 #[.pointer (some ⟨rb, 0, none⟩), .int .i64 (k : Nat)] w fun e w' => e = .returned (.tuple #[.agg #[.int .i64 (x : Nat), .int .i64 (z : Nat)], .int .i64 0]) ∧ Up w w')
    (hC : ∀ W, Up w W → Calls Tryd.prog 30 #[.agg #[.int .i64 (x : Nat), .int .i64 ((z : Int) - 1)], .pointer (some ⟨pb, 0, none⟩), .pointer (some ⟨qb, 0, none⟩)] W fun e w' => e = .returned (.tuple #[.int .i64 n, .bool false]) ∧ Up W w') :
    Calls Tryd.prog 22 #[.pointer (some ⟨rb, 0, none⟩), .int .i64 (k : Nat), .func (.func 30) #[] #[.pointer (some ⟨pb, 0, none⟩), .pointer (some ⟨qb, 0, none⟩)]] w fun e w' => e = .returned (.tuple #[.int .i64 0, .int .i64 5]) ∧ Up w w' := by
  have e1 : wrap64 (K : Int) = (K : Nat) := IntWalk.wrap64_in _ (by omega)
  have e2 : IntKind.i64.wrap ((z : Int) - 1) = (z : Int) - 1 := IntWalk.i64_in _ (by omega)
  have HN := Lib.hid hN
  have HL := Lib.hid hL
  have HC := Lib.hid hC
  clear hN hL hC
  go_enter Tryd.func22, Tryd.ntmps22
  go_wp2_with (first
    | (go_at_call 39; ((with_reducible refine HL.out.mono ?_); rintro e w2 ⟨rfl, hu2⟩; have HU2 := Lib.hid (hu2.trans (Up.alloc w2 (.cells #[.int .i64 (x : Nat), .int .i64 (z : Nat)] 50))); obtain ⟨c0, c1, l0⟩ := rg_cells w2 (x : Nat) (z : Nat); have z1 := rg_fz w2 (x : Nat) (z : Nat); have HB := Lib.hid (below_of hu2); clear hu2))
    | (go_at_call 40; ((with_reducible refine (HN.out _ HU2.out).mono ?_); rintro e w3 ⟨rfl, hu3⟩; have d0 := cell_up hu3 c0; have d1 := cell_up hu3 c1; have y1 := frozen_up hu3 c1 z1; have HU3 := Lib.hid (HU2.out.trans hu3); obtain ⟨q0, q1⟩ := set_one w3 w2.heap.size (.int .i64 ((z : Int) - 1)) _ _ d0 d1; clear hu3))
    | (go_at_call 30; ((with_reducible refine (HC.out _ (set_up HU3.out HB.out _)).mono ?_); rintro e w4 ⟨rfl, hu4⟩; have g0 := cell_up hu4 q0; have HU4 := Lib.hid ((set_up HU3.out HB.out _).trans hu4); clear hu4)))
  go_ret2
  exact ⟨rfl, HU4.out⟩
set_option maxRecDepth 100000 in
set_option maxHeartbeats 1000000 in
theorem reach_c_last_yes {w : World} {rb K x z : Nat} {n : Int} (pb qb : Nat) (hK : (K : Int) ≤ 1048576) (_hx : (x : Int) ≤ 1048576) (_hz : (z : Int) ≤ 1048576) (_hn : 0 ≤ n ∧ n ≤ 1048576)
    (hN : ∀ W, Up w W → Calls Tryd.prog 40 #[.pointer (some ⟨rb, 0, none⟩)] W fun e w' => e = .returned (.int .i64 ((K : Int) + 1)) ∧ Up W w')
    (hL : Calls Tryd.prog 39 #[.pointer (some ⟨rb, 0, none⟩), .int .i64 (K : Nat)] w fun e w' => e = .returned (.tuple #[.agg #[.int .i64 (x : Nat), .int .i64 (z : Nat)], .int .i64 0]) ∧ Up w w')
    (hC : ∀ W, Up w W → Calls Tryd.prog 30 #[.agg #[.int .i64 (x : Nat), .int .i64 (z : Nat)], .pointer (some ⟨pb, 0, none⟩), .pointer (some ⟨qb, 0, none⟩)] W fun e w' => e = .returned (.tuple #[.int .i64 n, .bool true]) ∧ Up W w') :
    Calls Tryd.prog 22 #[.pointer (some ⟨rb, 0, none⟩), .int .i64 (K : Nat), .func (.func 30) #[] #[.pointer (some ⟨pb, 0, none⟩), .pointer (some ⟨qb, 0, none⟩)]] w fun e w' => e = .returned (.tuple #[.int .i64 ((x : Int) + n), .int .i64 0]) ∧ Up w w' := by
  have e1 : wrap64 (K : Int) = (K : Nat) := IntWalk.wrap64_in _ (by omega)
  have f1 : decide (K < K) = false := decide_eq_false (by omega)
  have HN := Lib.hid hN
  have HL := Lib.hid hL
  have HC := Lib.hid hC
  clear hN hL hC
  go_enter Tryd.func22, Tryd.ntmps22
  go_wp2_with (first
    | (go_at_call 39; ((with_reducible refine HL.out.mono ?_); rintro e w2 ⟨rfl, hu2⟩; have HU2 := Lib.hid (hu2.trans (Up.alloc w2 (.cells #[.int .i64 (x : Nat), .int .i64 (z : Nat)] 50))); obtain ⟨c0, c1, l0⟩ := rg_cells w2 (x : Nat) (z : Nat); have z1 := rg_fz w2 (x : Nat) (z : Nat); have HB := Lib.hid (below_of hu2); clear hu2))
    | (go_at_call 40; ((with_reducible refine (HN.out _ HU2.out).mono ?_); rintro e w3 ⟨rfl, hu3⟩; have d0 := cell_up hu3 c0; have d1 := cell_up hu3 c1; have y1 := frozen_up hu3 c1 z1; have HU3 := Lib.hid (HU2.out.trans hu3); clear hu3))
    | (go_at_call 30; ((with_reducible refine (HC.out _ HU3.out).mono ?_); rintro e w4 ⟨rfl, hu4⟩; have g0 := cell_up hu4 d0; have HU4 := Lib.hid (HU3.out.trans hu4); clear hu4)))
  go_ret2
  exact ⟨rfl, HU4.out⟩
set_option maxRecDepth 100000 in
set_option maxHeartbeats 1000000 in
theorem reach_c_last_no {w : World} {rb K x z : Nat} {n : Int} (pb qb : Nat) (hK : (K : Int) ≤ 1048576) (_hx : (x : Int) ≤ 1048576) (_hz : (z : Int) ≤ 1048576) 
    (hN : ∀ W, Up w W → Calls Tryd.prog 40 #[.pointer (some ⟨rb, 0, none⟩)] W fun e w' => e = .returned (.int .i64 ((K : Int) + 1)) ∧ Up W w')
    (hL : Calls Tryd.prog 39 #[.pointer (some ⟨rb, 0, none⟩), .int .i64 (K : Nat)] w fun e w' => e = .returned (.tuple #[.agg #[.int .i64 (x : Nat), .int .i64 (z : Nat)], .int .i64 0]) ∧ Up w w')
    (hC : ∀ W, Up w W → Calls Tryd.prog 30 #[.agg #[.int .i64 (x : Nat), .int .i64 (z : Nat)], .pointer (some ⟨pb, 0, none⟩), .pointer (some ⟨qb, 0, none⟩)] W fun e w' => e = .returned (.tuple #[.int .i64 n, .bool false]) ∧ Up W w') :
    Calls Tryd.prog 22 #[.pointer (some ⟨rb, 0, none⟩), .int .i64 (K : Nat), .func (.func 30) #[] #[.pointer (some ⟨pb, 0, none⟩), .pointer (some ⟨qb, 0, none⟩)]] w fun e w' => e = .returned (.tuple #[.int .i64 0, .int .i64 5]) ∧ Up w w' := by
  have e1 : wrap64 (K : Int) = (K : Nat) := IntWalk.wrap64_in _ (by omega)
  have f1 : decide (K < K) = false := decide_eq_false (by omega)
  have HN := Lib.hid hN
  have HL := Lib.hid hL
  have HC := Lib.hid hC
  clear hN hL hC
  go_enter Tryd.func22, Tryd.ntmps22
  go_wp2_with (first
    | (go_at_call 39; ((with_reducible refine HL.out.mono ?_); rintro e w2 ⟨rfl, hu2⟩; have HU2 := Lib.hid (hu2.trans (Up.alloc w2 (.cells #[.int .i64 (x : Nat), .int .i64 (z : Nat)] 50))); obtain ⟨c0, c1, l0⟩ := rg_cells w2 (x : Nat) (z : Nat); have z1 := rg_fz w2 (x : Nat) (z : Nat); have HB := Lib.hid (below_of hu2); clear hu2))
    | (go_at_call 40; ((with_reducible refine (HN.out _ HU2.out).mono ?_); rintro e w3 ⟨rfl, hu3⟩; have d0 := cell_up hu3 c0; have d1 := cell_up hu3 c1; have y1 := frozen_up hu3 c1 z1; have HU3 := Lib.hid (HU2.out.trans hu3); clear hu3))
    | (go_at_call 30; ((with_reducible refine (HC.out _ HU3.out).mono ?_); rintro e w4 ⟨rfl, hu4⟩; have g0 := cell_up hu4 d0; have HU4 := Lib.hid (HU3.out.trans hu4); clear hu4)))
  go_ret2
  exact ⟨rfl, HU4.out⟩

set_option maxRecDepth 100000 in
set_option maxHeartbeats 1000000 in
theorem reach_none (v : Value) (i : Int) (w : World) : Calls Tryd.prog 22 #[.pointer none, .int .i64 i, v] w fun e w' => e = .returned (.tuple #[.int .i64 0, .int .i64 8]) ∧ Up w w' := by
  go_enter Tryd.func22, Tryd.ntmps22
  go_wp2_with (go_at_call 39; ((with_reducible refine (line_none i _).mono ?_); rintro e w1 ⟨rfl, hu⟩; have HU := Lib.hid (hu.trans (Up.alloc w1 (.cells #[.int .i64 0, .int .i64 0] 50)))))
  go_ret2
  exact ⟨rfl, HU.out⟩
set_option maxRecDepth 100000 in
set_option maxHeartbeats 1000000 in
theorem reach_out {w : World} {rb : Nat} {s : ByteArray} (hr : RopeIs w rb s) (v : Value) (k : Int) (h : ¬ (0 ≤ k ∧ k ≤ nl s)) : Calls Tryd.prog 22 #[.pointer (some ⟨rb, 0, none⟩), .int .i64 k, v] w fun e w' => e = .returned (.tuple #[.int .i64 0, .int .i64 5]) ∧ Up w w' := by
  have hf := lineT hr k
  unfold lnF lnT lnE at hf
  rw [if_neg h, if_neg h, if_neg h] at hf
  have HF := Lib.hid hf
  clear hf h hr
  go_enter Tryd.func22, Tryd.ntmps22
  go_wp2_with (go_at_call 39; ((with_reducible refine HF.out.mono ?_); rintro e w1 ⟨rfl, hu⟩; have HU := Lib.hid (hu.trans (Up.alloc w1 (.cells #[.int .i64 0, .int .i64 0] 50)))))
  go_ret2
  exact ⟨rfl, HU.out⟩
end Go.Proofs.YtfcpieodgflmnaaDoor
