/- The rope's Line. -/
import Derived.Test.YtcbmigkdmmmahaaDoorSplice
namespace Go.Proofs.YtcbmigkdmmmahaaDoor
open Go.RowKit

theorem set2 (w : World) (g : Nat) (x0 x1 y0 y1 : Value) (h0 : w.cell? ⟨g, 0, none⟩ = some y0) (h1 : w.cell? ⟨g, 1, none⟩ = some y1) :
    ((w.setCell ⟨g, 0, none⟩ x0).setCell ⟨g, 1, none⟩ x1).cell? ⟨g, 0, none⟩ = some x0 ∧ ((w.setCell ⟨g, 0, none⟩ x0).setCell ⟨g, 1, none⟩ x1).cell? ⟨g, 1, none⟩ = some x1 := by
  have o : ∀ (W : World) (i j : Nat) (v : Value), i ≠ j → (W.setCell ⟨g, i, none⟩ v).cell? ⟨g, j, none⟩ = W.cell? ⟨g, j, none⟩ := fun W i j v h => World.cell?_setCell_other W ⟨g, i, none⟩ ⟨g, j, none⟩ v (fun e => h (by injection e))
  have s : ∀ (W : World) (i : Nat) (v u : Value), W.cell? ⟨g, i, none⟩ = some u → (W.setCell ⟨g, i, none⟩ v).cell? ⟨g, i, none⟩ = some v := fun W i v u h => World.cell?_setCell_same' W _ v (by rw [h]; rfl)
  exact ⟨by rw [o _ _ _ _ (by decide)]; exact s _ _ _ _ h0, s _ _ _ y1 (by rw [o _ _ _ _ (by decide)]; exact h1)⟩
/-- The cell of what comes back. -/
theorem line_cells (w : World) : (w.alloc (.cells #[.int .i64 0, .int .i64 0] 45)).cell? ⟨w.heap.size, 0, none⟩ = some (.int .i64 0) ∧ (w.alloc (.cells #[.int .i64 0, .int .i64 0] 45)).cell? ⟨w.heap.size, 1, none⟩ = some (.int .i64 0) :=
  ⟨cellOf (Go.heap_alloc_new _ _) rfl, cellOf (Go.heap_alloc_new _ _) rfl⟩
theorem line_fz (w : World) : (w.alloc (.cells #[.int .i64 0, .int .i64 0] 45)).frozen? ⟨w.heap.size, 0, none⟩ = false ∧ (w.alloc (.cells #[.int .i64 0, .int .i64 0] 45)).frozen? ⟨w.heap.size, 1, none⟩ = false :=
  ⟨frozenOf (Go.heap_alloc_new _ _), frozenOf (Go.heap_alloc_new _ _)⟩
theorem Up.set2 {w W : World} (h : Up w W) (g i j : Nat) (x y : Value) (hg : w.heap.size ≤ g) : Up w ((W.setCell ⟨g, i, none⟩ x).setCell ⟨g, j, none⟩ y) :=
  (Below.setCell h (p := ⟨g, i, none⟩) hg x).setCell (p := ⟨g, j, none⟩) hg y
set_option maxRecDepth 100000 in
set_option maxHeartbeats 1000000 in
theorem line_none (k : Int) (w : World) : Calls Tryd.prog 20 #[.pointer none, .int .i64 k] w fun e w' => e = .returned (.tuple #[.agg #[.int .i64 0, .int .i64 0], .int .i64 8]) ∧ Up w w' := by
  obtain ⟨b0, b1⟩ := line_cells w
  go_enter Tryd.func20, Tryd.ntmps20
  go_wp2
  refine bodyPost_ret (v := .tuple #[.agg #[.int .i64 0, .int .i64 0], .int .i64 8]) (by simp [results, Tryd.results20, go_sem]) rfl ⟨rfl, Up.alloc w _⟩
set_option maxRecDepth 100000 in
set_option maxHeartbeats 1000000 in
theorem line_low {rb n : Nat} (k : Int) (hk : k < 0) (w : World) (hn : (n : Int) ≤ 1048576) (hL : ∀ W, Up w W → Calls Tryd.prog 22 #[.pointer (some ⟨rb, 0, none⟩)] W fun e w' => e = .returned (.int .i64 ((n : Int) + 1)) ∧ Up W w') :
    Calls Tryd.prog 20 #[.pointer (some ⟨rb, 0, none⟩), .int .i64 k] w fun e w' => e = .returned (.tuple #[.agg #[.int .i64 0, .int .i64 0], .int .i64 5]) ∧ Up w w' := by
  have HE := Lib.hid (Up.alloc w (.cells #[.int .i64 0, .int .i64 0] 45))
  have HL := Lib.hid (hL _ HE.out)
  have e1 : wrap64 (n : Int) = (n : Nat) := IntWalk.wrap64_in _ (by omega)
  clear hL hn
  go_enter Tryd.func20, Tryd.ntmps20
  go_wp2_with (go_at_call 22; ((with_reducible refine HL.out.mono ?_); rintro e' w1 ⟨rfl, hu1⟩; have c0 := cell_up hu1 (line_cells w).1; have c1 := cell_up hu1 (line_cells w).2; have z0 := frozen_up hu1 (line_cells w).1 (line_fz w).1; have z1 := frozen_up hu1 (line_cells w).2 (line_fz w).2; have hf := set2 w1 w.heap.size (.int .i64 0) (.int .i64 0) _ _ c0 c1))
  refine bodyPost_ret (v := .tuple #[.agg #[.int .i64 0, .int .i64 0], .int .i64 5]) (by simp [results, Tryd.results20, go_sem, hf]) rfl ⟨rfl, (HE.out.trans hu1).set2 _ _ _ _ _ (Nat.le_refl _)⟩
set_option maxRecDepth 100000 in
set_option maxHeartbeats 1000000 in
theorem line_past {rb n k : Nat} (hk : n < k) (w : World) (hn : (n : Int) ≤ 1048576) (hL : ∀ W, Up w W → Calls Tryd.prog 22 #[.pointer (some ⟨rb, 0, none⟩)] W fun e w' => e = .returned (.int .i64 ((n : Int) + 1)) ∧ Up W w') :
    Calls Tryd.prog 20 #[.pointer (some ⟨rb, 0, none⟩), .int .i64 (k : Nat)] w fun e w' => e = .returned (.tuple #[.agg #[.int .i64 0, .int .i64 0], .int .i64 5]) ∧ Up w w' := by
  have HE := Lib.hid (Up.alloc w (.cells #[.int .i64 0, .int .i64 0] 45))
  have HL := Lib.hid (hL _ HE.out)
  have e1 : wrap64 (n : Int) = (n : Nat) := IntWalk.wrap64_in _ (by omega)
  have f0 : decide ((k : Int) < 0) = false := decide_eq_false (by omega)
  clear hL hn
  go_enter Tryd.func20, Tryd.ntmps20
  go_wp2_with (go_at_call 22; ((with_reducible refine HL.out.mono ?_); rintro e' w1 ⟨rfl, hu1⟩; have c0 := cell_up hu1 (line_cells w).1; have c1 := cell_up hu1 (line_cells w).2; have z0 := frozen_up hu1 (line_cells w).1 (line_fz w).1; have z1 := frozen_up hu1 (line_cells w).2 (line_fz w).2; have hf := set2 w1 w.heap.size (.int .i64 0) (.int .i64 0) _ _ c0 c1))
  refine bodyPost_ret (v := .tuple #[.agg #[.int .i64 0, .int .i64 0], .int .i64 5]) (by simp [results, Tryd.results20, go_sem, hf]) rfl ⟨rfl, (HE.out.trans hu1).set2 _ _ _ _ _ (Nat.le_refl _)⟩
set_option maxRecDepth 100000 in
set_option maxHeartbeats 2000000 in
theorem line_last {rb n z a : Nat} {v : Value} (w : World) (hn : (n : Int) ≤ 1048576) (c0 : w.cell? ⟨rb, 0, none⟩ = some v)
    (hL : ∀ W, Up w W → Calls Tryd.prog 22 #[.pointer (some ⟨rb, 0, none⟩)] W fun e w' => e = .returned (.int .i64 ((n : Int) + 1)) ∧ Up W w')
    (hZ : ∀ W, Up w W → Calls Tryd.prog 17 #[.pointer (some ⟨rb, 0, none⟩)] W fun e w' => e = .returned (.int .i64 (z : Nat)) ∧ Up W w')
    (hB : ∀ W, Up w W → Calls Tryd.prog 37 #[v, .int .i64 (n : Nat)] W fun e w' => e = .returned (.int .i64 (a : Nat)) ∧ W = w') :
    Calls Tryd.prog 20 #[.pointer (some ⟨rb, 0, none⟩), .int .i64 (n : Nat)] w fun e w' => e = .returned (.tuple #[.agg #[.int .i64 (a : Nat), .int .i64 (z : Nat)], .int .i64 0]) ∧ Up w w' := by
  have HE := Lib.hid (Up.alloc w (.cells #[.int .i64 0, .int .i64 0] 45))
  have HL := Lib.hid (hL _ HE.out)
  have HZ := Lib.hid hZ
  have HB := Lib.hid hB
  have c0 := cell_up HE.out c0
  have e1 : wrap64 (n : Int) = (n : Nat) := IntWalk.wrap64_in _ (by omega)
  have f0 : decide ((n : Int) < 0) = false := decide_eq_false (by omega)
  have f1 : decide (n < n) = false := decide_eq_false (by omega)
  clear hL hn hZ hB
  go_enter Tryd.func20, Tryd.ntmps20
  go_wp2_with (first
    | (go_at_call 22; ((with_reducible refine HL.out.mono ?_); rintro e' w1 ⟨rfl, hu1⟩; have r0 := cell_up hu1 (line_cells w).1; have r1 := cell_up hu1 (line_cells w).2; have z0 := frozen_up hu1 (line_cells w).1 (line_fz w).1; have z1 := frozen_up hu1 (line_cells w).2 (line_fz w).2; have c1 := cell_up hu1 c0; have HU1 := Lib.hid (HE.out.trans hu1)))
    | (go_at_call 37; ((with_reducible refine (HB.out _ HU1.out).mono ?_); rintro e' w2 ⟨rfl, rfl⟩))
    | (go_at_call 17; ((with_reducible refine (HZ.out _ HU1.out).mono ?_); rintro e' w3 ⟨rfl, hu3⟩; have u3 := hu3.trans (Up.alloc w3 (.cells #[.int .i64 (a : Nat), .int .i64 (z : Nat)] 45)); have r2 := cell_up u3 r0; have r3 := cell_up u3 r1; have z2 := frozen_up u3 r0 z0; have z3 := frozen_up u3 r1 z1)))
  have hf := set2 (w3.alloc (.cells #[.int .i64 (a : Nat), .int .i64 (z : Nat)] 45)) w.heap.size (.int .i64 (a : Nat)) (.int .i64 (z : Nat)) _ _ r2 r3
  refine bodyPost_ret (v := .tuple #[.agg #[.int .i64 (a : Nat), .int .i64 (z : Nat)], .int .i64 0]) (by simp [results, Tryd.results20, go_sem, hf]) rfl ⟨rfl, (HU1.out.trans u3).set2 _ _ _ _ _ (Nat.le_refl _)⟩
set_option maxRecDepth 100000 in
set_option maxHeartbeats 2000000 in
theorem line_mid {rb n k z a c : Nat} {v : Value} (w : World) (hk : k < n) (hn : (n : Int) ≤ 1048576) (c0 : w.cell? ⟨rb, 0, none⟩ = some v)
    (hL : ∀ W, Up w W → Calls Tryd.prog 22 #[.pointer (some ⟨rb, 0, none⟩)] W fun e w' => e = .returned (.int .i64 ((n : Int) + 1)) ∧ Up W w')
    (hZ : ∀ W, Up w W → Calls Tryd.prog 17 #[.pointer (some ⟨rb, 0, none⟩)] W fun e w' => e = .returned (.int .i64 (z : Nat)) ∧ Up W w')
    (hB : ∀ W, Up w W → Calls Tryd.prog 37 #[v, .int .i64 (k : Nat)] W fun e w' => e = .returned (.int .i64 (a : Nat)) ∧ W = w')
    (hC : ∀ W, Up w W → Calls Tryd.prog 37 #[v, .int .i64 ((k : Int) + 1)] W fun e w' => e = .returned (.int .i64 (c : Nat)) ∧ W = w') :
    Calls Tryd.prog 20 #[.pointer (some ⟨rb, 0, none⟩), .int .i64 (k : Nat)] w fun e w' => e = .returned (.tuple #[.agg #[.int .i64 (a : Nat), .int .i64 (c : Nat)], .int .i64 0]) ∧ Up w w' := by
  have HE := Lib.hid (Up.alloc w (.cells #[.int .i64 0, .int .i64 0] 45))
  have HL := Lib.hid (hL _ HE.out)
  have HZ := Lib.hid hZ
  have HB := Lib.hid hB
  have HC := Lib.hid hC
  have c0 := cell_up HE.out c0
  have e1 : wrap64 (n : Int) = (n : Nat) := IntWalk.wrap64_in _ (by omega)
  have e2 : IntKind.i64.wrap ((k : Int) + 1) = (k : Int) + 1 := IntWalk.i64_in _ (by omega)
  have f0 : decide ((k : Int) < 0) = false := decide_eq_false (by omega)
  have f1 : decide (n < k) = false := decide_eq_false (by omega)
  clear hL hn hZ hB hC
  go_enter Tryd.func20, Tryd.ntmps20
  go_wp2_with (first
    | (go_at_call 22; ((with_reducible refine HL.out.mono ?_); rintro e' w1 ⟨rfl, hu1⟩; have r0 := cell_up hu1 (line_cells w).1; have r1 := cell_up hu1 (line_cells w).2; have z0 := frozen_up hu1 (line_cells w).1 (line_fz w).1; have z1 := frozen_up hu1 (line_cells w).2 (line_fz w).2; have c1 := cell_up hu1 c0; have HU1 := Lib.hid (HE.out.trans hu1)))
    | (go_at_call 37; ((with_reducible refine (HB.out _ HU1.out).mono ?_); rintro e' w2 ⟨rfl, rfl⟩))
    | (go_at_call 17; ((with_reducible refine (HZ.out _ HU1.out).mono ?_); rintro e' w3 ⟨rfl, hu3⟩; have u3 := hu3.trans (Up.alloc w3 (.cells #[.int .i64 (a : Nat), .int .i64 (z : Nat)] 45)); have c2 := cell_up u3 c1; have HU3 := Lib.hid (HU1.out.trans u3); have u4 := hu3.trans (Up.alloc w3 (.cells #[.int .i64 (a : Nat), .int .i64 (c : Nat)] 45)); have r4 := cell_up u4 r0; have r5 := cell_up u4 r1; have z4 := frozen_up u4 r0 z0; have z5 := frozen_up u4 r1 z1))
    | (go_at_call 37; ((with_reducible refine (HC.out _ HU3.out).mono ?_); rintro e' w4 ⟨rfl, rfl⟩)))
  have hf := set2 (w3.alloc (.cells #[.int .i64 (a : Nat), .int .i64 (c : Nat)] 45)) w.heap.size (.int .i64 (a : Nat)) (.int .i64 (c : Nat)) _ _ r4 r5
  refine bodyPost_ret (v := .tuple #[.agg #[.int .i64 (a : Nat), .int .i64 (c : Nat)], .int .i64 0]) (by simp [results, Tryd.results20, go_sem, hf]) rfl ⟨rfl, (HU1.out.trans u4).set2 _ _ _ _ _ (Nat.le_refl _)⟩

/-- Where line k ends. -/
def lineEnd (s : ByteArray) (k : Nat) : Nat := if k < nl s then bh s (k + 1) else s.size
theorem behind_ptr {w : World} {v : Value} {o : Option T} {s : ByteArray} (h2 : Ptr w v o) (h4 : otext o = s) (h5 : (s.size : Int) ≤ 1048576) (k : Nat) (hk : k ≤ nl s) (W : World) (hu : Up w W) :
    Calls Tryd.prog 37 #[v, .int .i64 (k : Nat)] W fun e w' => e = .returned (.int .i64 (bh s k : Nat)) ∧ W = w' := by
  by_cases h0 : k = 0
  · subst h0
    rw [bh_zero]
    exact behind_zero v W
  · cases o with
    | none =>
      obtain rfl : (⟨#[]⟩ : ByteArray) = s := h4
      exact absurd (Nat.le_trans hk (nl_le _)) (by show ¬ k ≤ 0; omega)
    | some t =>
      obtain ⟨b, rfl, n⟩ := h2
      obtain rfl : t.text = s := h4
      exact behind_any t b k W (n.up hu) (by omega) hk h5
theorem line_in {w : World} {rb : Nat} {s : ByteArray} (hr : RopeIs w rb s) (k : Nat) (hk : k ≤ nl s) :
    Calls Tryd.prog 20 #[.pointer (some ⟨rb, 0, none⟩), .int .i64 (k : Nat)] w fun e w' => e = .returned (.tuple #[.agg #[.int .i64 (bh s k : Nat), .int .i64 (lineEnd s k : Nat)], .int .i64 0]) ∧ Up w w' := by
  have hr' := hr
  obtain ⟨v, o, h1, h2, h3, h4, h5⟩ := hr
  have hn := nl_le s
  unfold lineEnd
  by_cases h : k < nl s
  · rw [if_pos h]
    refine line_mid (n := nl s) (z := s.size) w h (by omega) (cellOf h1 rfl) (fun W hu => rope_lines_any (hr'.up hu)) (fun W hu => rope_len_any (hr'.up hu)) (fun W hu => behind_ptr h2 h4 h5 k hk W hu) fun W hu => ?_
    have := behind_ptr h2 h4 h5 (k + 1) h W hu
    exact this
  · obtain rfl : k = nl s := by omega
    rw [if_neg h]
    exact line_last w (by omega) (cellOf h1 rfl) (fun W hu => rope_lines_any (hr'.up hu)) (fun W hu => rope_len_any (hr'.up hu)) fun W hu => behind_ptr h2 h4 h5 _ hk W hu
theorem line_out {w : World} {rb : Nat} {s : ByteArray} (hr : RopeIs w rb s) (k : Int) (hk : ¬ (0 ≤ k ∧ k ≤ nl s)) :
    Calls Tryd.prog 20 #[.pointer (some ⟨rb, 0, none⟩), .int .i64 k] w fun e w' => e = .returned (.tuple #[.agg #[.int .i64 0, .int .i64 0], .int .i64 5]) ∧ Up w w' := by
  have hn := nl_le s
  have hz := hr.size
  by_cases h0 : k < 0
  · exact line_low k h0 w (n := nl s) (by omega) fun W hu => rope_lines_any (hr.up hu)
  · obtain ⟨k, rfl⟩ := Int.eq_ofNat_of_zero_le (show 0 ≤ k by omega)
    exact line_past (by omega) w (n := nl s) (by omega) fun W hu => rope_lines_any (hr.up hu)
end Go.Proofs.YtcbmigkdmmmahaaDoor
