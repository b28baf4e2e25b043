/- The edit back: the program's Back and the document's. -/
import Derived.Test.YtkdnhdjmlinglaaEApply
namespace Go.Proofs.Ytkdnhdjmlinglaa
open Go.RowKit

/-- A world with a block of an edit's three cells, that is not frozen. -/
def zeroW (w : World) : World := w.alloc (.cells #[.int .i64 0, .int .i64 0, .string ⟨#[]⟩] 23)
structure Res (w : World) (M : Nat) : Prop where
  c0 : ∃ v, w.cell? ⟨M, 0, none⟩ = some v
  c1 : ∃ v, w.cell? ⟨M, 1, none⟩ = some v
  c2 : ∃ v, w.cell? ⟨M, 2, none⟩ = some v
  f0 : w.frozen? ⟨M, 0, none⟩ = false
  f1 : w.frozen? ⟨M, 1, none⟩ = false
  f2 : w.frozen? ⟨M, 2, none⟩ = false
theorem Res.up {w w' : World} {M : Nat} (h : Res w M) (hu : Up w w') : Res w' M := by
  obtain ⟨⟨a, h0⟩, ⟨b, h1⟩, ⟨c, h2⟩, f0, f1, f2⟩ := h
  exact ⟨⟨a, cell_up hu h0⟩, ⟨b, cell_up hu h1⟩, ⟨c, cell_up hu h2⟩, frozen_up hu h0 f0, frozen_up hu h1 f1, frozen_up hu h2 f2⟩
theorem zero_res (w : World) : Res (zeroW w) w.heap.size := ⟨⟨_, cellOf (Go.heap_alloc_new _ _) rfl⟩, ⟨_, cellOf (Go.heap_alloc_new _ _) rfl⟩, ⟨_, cellOf (Go.heap_alloc_new _ _) rfl⟩, frozenOf (Go.heap_alloc_new _ _), frozenOf (Go.heap_alloc_new _ _), frozenOf (Go.heap_alloc_new _ _)⟩
theorem zero_res' (w : World) (a : Int × Int × ByteArray) : Res (zeroW (edW w a)) (w.heap.size + 1) := by
  have h := zero_res (edW w a)
  unfold edW at h ⊢
  rwa [World.size_alloc] at h
/-- Three cells written. -/
theorem set3 {w : World} {M : Nat} (h : Res w M) (x0 x1 x2 : Value) :
    (((w.setCell ⟨M, 0, none⟩ x0).setCell ⟨M, 1, none⟩ x1).setCell ⟨M, 2, none⟩ x2).cell? ⟨M, 0, none⟩ = some x0 ∧ (((w.setCell ⟨M, 0, none⟩ x0).setCell ⟨M, 1, none⟩ x1).setCell ⟨M, 2, none⟩ x2).cell? ⟨M, 1, none⟩ = some x1 ∧ (((w.setCell ⟨M, 0, none⟩ x0).setCell ⟨M, 1, none⟩ x1).setCell ⟨M, 2, none⟩ x2).cell? ⟨M, 2, none⟩ = some x2 := by
  obtain ⟨⟨a, h0⟩, ⟨b, h1⟩, ⟨c, h2⟩, -⟩ := h
  have o : ∀ (W : World) (i j : Nat) (v : Value), i ≠ j → (W.setCell ⟨M, i, none⟩ v).cell? ⟨M, j, none⟩ = W.cell? ⟨M, j, none⟩ := fun W i j v h => World.cell?_setCell_other W ⟨M, i, none⟩ ⟨M, j, none⟩ v (fun e => h (by injection e))
  have s : ∀ (W : World) (i : Nat) (v u : Value), W.cell? ⟨M, i, none⟩ = some u → (W.setCell ⟨M, i, none⟩ v).cell? ⟨M, i, none⟩ = some v := fun W i v u h => World.cell?_setCell_same' W _ v (by rw [h]; rfl)
  refine ⟨?_, ?_, ?_⟩
  · rw [o _ _ _ _ (by decide), o _ _ _ _ (by decide)]; exact s _ _ _ _ h0
  · rw [o _ _ _ _ (by decide)]; exact s _ _ _ b (by rw [o _ _ _ _ (by decide)]; exact h1)
  · exact s _ _ _ c (by rw [o _ _ _ _ (by decide), o _ _ _ _ (by decide)]; exact h2)
theorem Up.set3 {w W : World} (h : Up w W) (M : Nat) (x y z : Value) (hg : w.heap.size ≤ M) : Up w (((W.setCell ⟨M, 0, none⟩ x).setCell ⟨M, 1, none⟩ y).setCell ⟨M, 2, none⟩ z) :=
  ((Below.setCell h (p := ⟨M, 0, none⟩) hg x).setCell (p := ⟨M, 1, none⟩) hg y).setCell (p := ⟨M, 2, none⟩) hg z
theorem keepSet {w : World} {N : Nat} {v0 v1 v2 : Value} {W : World} {x y z : Value} (hN : w.heap.size = N) (h : Up w W ∧ W.cell? ⟨N, 0, none⟩ = some v0 ∧ W.cell? ⟨N, 1, none⟩ = some v1 ∧ W.cell? ⟨N, 2, none⟩ = some v2) :
    Up w (((W.setCell ⟨N + 1, 0, none⟩ x).setCell ⟨N + 1, 1, none⟩ y).setCell ⟨N + 1, 2, none⟩ z) ∧ (((W.setCell ⟨N + 1, 0, none⟩ x).setCell ⟨N + 1, 1, none⟩ y).setCell ⟨N + 1, 2, none⟩ z).cell? ⟨N, 0, none⟩ = some v0 ∧ (((W.setCell ⟨N + 1, 0, none⟩ x).setCell ⟨N + 1, 1, none⟩ y).setCell ⟨N + 1, 2, none⟩ z).cell? ⟨N, 1, none⟩ = some v1 ∧ (((W.setCell ⟨N + 1, 0, none⟩ x).setCell ⟨N + 1, 1, none⟩ y).setCell ⟨N + 1, 2, none⟩ z).cell? ⟨N, 2, none⟩ = some v2 := by
  have o : ∀ (W : World) (i j : Nat) (v : Value), (W.setCell ⟨N + 1, i, none⟩ v).cell? ⟨N, j, none⟩ = W.cell? ⟨N, j, none⟩ := fun W i j v => World.cell?_setCell_other W ⟨N + 1, i, none⟩ ⟨N, j, none⟩ v (fun e => by injection e with e1; omega)
  refine ⟨h.1.set3 _ _ _ _ (by omega), ?_, ?_, ?_⟩ <;> rw [o, o, o]
  · exact h.2.1
  · exact h.2.2.1
  · exact h.2.2.2
set_option maxRecDepth 100000 in
set_option maxHeartbeats 1000000 in
theorem back_no (s : ByteArray) (a : Int × Int × ByteArray) (hs : s.size ≤ 9223372036854775807) (hx : a.2.2.size ≤ 9223372036854775807) (h : edErr s.size a ≠ 0) (w : World) :
    Calls Try.prog 14 #[.string s, edV a] w fun e w' => e = .returned (.tuple #[edV (0, 0, ⟨#[]⟩), .int .i64 (edErr s.size a)]) ∧ Up w w' := by
  have hC := fun W => check_any s.size a (by omega) hx W
  obtain ⟨p, d, x⟩ := a
  unfold edV at hC
  dsimp only at hC
  obtain ⟨q, hq⟩ : ∃ q, edErr s.size (p, d, x) = q := ⟨_, rfl⟩
  rw [hq] at hC h ⊢
  have fq : (q == 0) = false := beq_false_of_ne h
  have HC := Lib.hid hC
  have HU := Lib.hid (show Up w (zeroW (edW w (p, d, x))) from (Up.alloc w _).trans (Up.alloc _ _))
  have hR := zero_res' w (p, d, x)
  unfold edW zeroW at HU hR
  dsimp only at HU hR
  have HR := Lib.hid hR
  clear hC hq hs hx h hR
  unfold edV
  go_enter Try.func14, Try.ntmps14
  go_wp2_with (go_at_call 11; ((with_reducible refine (HC.out _).mono ?_); rintro e w1 ⟨rfl, hu1⟩; have HU1 := Lib.hid (HU.out.trans hu1); have HR1 := Lib.hid (HR.out.up hu1); obtain ⟨⟨y0, r0⟩, ⟨y1, r1⟩, ⟨y2, r2⟩, f0, f1, f2⟩ := HR1.out; clear hu1))
  have hf := set3 HR1.out (.int .i64 0) (.int .i64 0) (.string ⟨#[]⟩)
  refine bodyPost_ret (v := .tuple #[.agg #[.int .i64 0, .int .i64 0, .string ⟨#[]⟩], .int .i64 q]) (by simp [results, Try.results14, go_sem, hf]) rfl ⟨rfl, HU1.out.set3 _ _ _ _ (Nat.le_succ _)⟩
set_option maxRecDepth 100000 in
set_option maxHeartbeats 1000000 in
theorem back_walk (s x m : ByteArray) (p d pd z : Nat) (hC : ∀ W, Calls Try.prog 11 #[.int .i64 (s.size : Nat), .agg #[.int .i64 (p : Nat), .int .i64 (d : Nat), .string x]] W fun e W' => e = .returned (.int .i64 0) ∧ Up W W')
    (h : p + d ≤ s.size) (hs : s.size ≤ 140737488355328) (hpd : pd = p + d) (hx : x.size = z) (hm : s.extract p pd = m) (w : World) :
    Calls Try.prog 14 #[.string s, .agg #[.int .i64 (p : Nat), .int .i64 (d : Nat), .string x]] w fun e w' => e = .returned (.tuple #[.agg #[.int .i64 (p : Nat), .int .i64 (z : Nat), .string m], .int .i64 0]) ∧ Up w w' := by
  have HC := Lib.hid hC
  have HJ := Lib.hid (fun W => join_one m (by rw [← hm, size_ext]; omega) W)
  have hE := edW_cells w ((p : Nat), (d : Nat), x)
  have hu0 := Up.alloc (edW w ((p : Nat), (d : Nat), x)) (.cells #[.int .i64 0, .int .i64 0, .string ⟨#[]⟩] 23)
  have HU := Lib.hid (show Up w (zeroW (edW w ((p : Nat), (d : Nat), x))) from (Up.alloc w _).trans (Up.alloc _ _))
  have hR := zero_res' w ((p : Nat), (d : Nat), x)
  have hE2 := And.intro (cell_up hu0 hE.1) (And.intro (cell_up hu0 hE.2.1) (cell_up hu0 hE.2.2))
  unfold edW at hE2
  unfold edW zeroW at HU hR
  dsimp only at HU hR hE2
  have HR := Lib.hid hR
  have C := Lib.hid hE2
  have e1 : IntKind.i64.wrap ((p : Int) + (d : Nat)) = (pd : Nat) := (IntWalk.i64_in _ (by omega)).trans (by omega)
  have g0 : (0 : Int) ≤ (p : Nat) := by omega
  have g1 : (p : Int) ≤ (pd : Nat) := by omega
  have g3 : (pd : Int) ≤ (s.size : Nat) := by omega
  have hz : (x.size : Int) = (z : Nat) := by omega
  clear hC hpd hE hE2 hu0 hR h hs hx
  go_enter Try.func14, Try.ntmps14
  go_wp2_with (go_at_call 11; ((with_reducible refine (HC.out _).mono ?_); rintro e w1 ⟨rfl, hu1⟩; have HU1 := Lib.hid (HU.out.trans hu1); have HR1 := Lib.hid (HR.out.up hu1); obtain ⟨⟨y0, r0⟩, ⟨y1, r1⟩, ⟨y2, r2⟩, f0, f1, f2⟩ := HR1.out; have d0 := cell_up hu1 C.out.1; have d1 := cell_up hu1 C.out.2.1; have d2 := cell_up hu1 C.out.2.2; clear hu1))
  obtain ⟨N, hN⟩ : ∃ N, w.heap.size = N := ⟨_, rfl⟩
  rw [hN] at d0 d1 d2 r0 r1 r2 f0 f1 f2 HR1
  simp only [hN]
  have hS : Up w w1 ∧ w1.cell? ⟨N, 0, none⟩ = some (.int .i64 (p : Nat)) ∧ w1.cell? ⟨N, 1, none⟩ = some (.int .i64 (d : Nat)) ∧ w1.cell? ⟨N, 2, none⟩ = some (.string x) := ⟨HU1.out, d0, d1, d2⟩
  clear HU1 d0 d1 d2 HU C HC HR
  go_region_held3 (fun w' => Up w w' ∧ w'.cell? ⟨N, 0, none⟩ = some (.int .i64 (p : Nat)) ∧ w'.cell? ⟨N, 1, none⟩ = some (.int .i64 (d : Nat)) ∧ w'.cell? ⟨N, 2, none⟩ = some (.string x))
    (first | assumption | with_reducible exact keep4 hu2 (by assumption) | with_reducible exact keep4 (Up.drew _) (by assumption) | with_reducible exact keep4 (Up.alloc _ _) (by assumption) | with_reducible exact keepSet hN (by assumption))
    (first | (go_at_call 20; ((with_reducible refine (HJ.out _).mono ?_); rintro e w2 ⟨rfl, hu2⟩; have HR2 := Lib.hid (HR1.out.up hu2); clear r0 r1 r2 f0 f1 f2; obtain ⟨⟨y0, r0⟩, ⟨y1, r1⟩, ⟨y2, r2⟩, f0, f1, f2⟩ := HR2.out)))
  go_wp2
  have hf := set3 HR2.out (.int .i64 (p : Nat)) (.int .i64 (z : Nat)) (.string m)
  refine bodyPost_ret (v := .tuple #[.agg #[.int .i64 (p : Nat), .int .i64 (z : Nat), .string m], .int .i64 0]) (by simp [results, Try.results14, go_sem, hf]) rfl ⟨rfl, (hS.1.trans hu2).set3 _ _ _ _ (by omega)⟩
set_option maxRecDepth 100000 in
set_option maxHeartbeats 1000000 in
theorem refBack_no (s : ByteArray) (a : Int × Int × ByteArray) (hs : s.size ≤ 9223372036854775807) (hx : a.2.2.size ≤ 9223372036854775807) (h : edErr s.size a ≠ 0) (w : World) :
    Calls Try.prog 15 #[.string s, edV a] w fun e w' => e = .returned (.tuple #[edV (0, 0, ⟨#[]⟩), .int .i64 (edErr s.size a)]) ∧ Up w w' := by
  have hC := fun W => refCheck_any s.size a (by omega) hx W
  obtain ⟨p, d, x⟩ := a
  unfold edV at hC
  dsimp only at hC
  obtain ⟨q, hq⟩ : ∃ q, edErr s.size (p, d, x) = q := ⟨_, rfl⟩
  rw [hq] at hC h ⊢
  have fq : (q == 0) = false := beq_false_of_ne h
  have HC := Lib.hid hC
  have HU := Lib.hid (show Up w (zeroW (edW w (p, d, x))) from (Up.alloc w _).trans (Up.alloc _ _))
  have hR := zero_res' w (p, d, x)
  unfold edW zeroW at HU hR
  dsimp only at HU hR
  have HR := Lib.hid hR
  clear hC hq hs hx h hR
  unfold edV
  go_enter Try.func15, Try.ntmps15
  go_wp2_with (go_at_call 12; ((with_reducible refine (HC.out _).mono ?_); rintro e w1 ⟨rfl, hu1⟩; have HU1 := Lib.hid (HU.out.trans hu1); have HR1 := Lib.hid (HR.out.up hu1); obtain ⟨⟨y0, r0⟩, ⟨y1, r1⟩, ⟨y2, r2⟩, f0, f1, f2⟩ := HR1.out; clear hu1))
  have hf := set3 HR1.out (.int .i64 0) (.int .i64 0) (.string ⟨#[]⟩)
  refine bodyPost_ret (v := .tuple #[.agg #[.int .i64 0, .int .i64 0, .string ⟨#[]⟩], .int .i64 q]) (by simp [results, Try.results15, go_sem, hf]) rfl ⟨rfl, HU1.out.set3 _ _ _ _ (Nat.le_succ _)⟩
set_option maxRecDepth 100000 in
set_option maxHeartbeats 1000000 in
theorem refBack_walk (s x m : ByteArray) (p d pd z : Nat) (hC : ∀ W, Calls Try.prog 12 #[.int .i64 (s.size : Nat), .agg #[.int .i64 (p : Nat), .int .i64 (d : Nat), .string x]] W fun e W' => e = .returned (.int .i64 0) ∧ Up W W')
    (h : p + d ≤ s.size) (hs : s.size ≤ 140737488355328) (hpd : pd = p + d) (hx : x.size = z) (hm : s.extract p pd = m) (w : World) :
    Calls Try.prog 15 #[.string s, .agg #[.int .i64 (p : Nat), .int .i64 (d : Nat), .string x]] w fun e w' => e = .returned (.tuple #[.agg #[.int .i64 (p : Nat), .int .i64 (z : Nat), .string m], .int .i64 0]) ∧ Up w w' := by
  have HC := Lib.hid hC
  have hE := edW_cells w ((p : Nat), (d : Nat), x)
  have hu0 := Up.alloc (edW w ((p : Nat), (d : Nat), x)) (.cells #[.int .i64 0, .int .i64 0, .string ⟨#[]⟩] 23)
  have HU := Lib.hid (show Up w (zeroW (edW w ((p : Nat), (d : Nat), x))) from (Up.alloc w _).trans (Up.alloc _ _))
  have hR := zero_res' w ((p : Nat), (d : Nat), x)
  have hE2 := And.intro (cell_up hu0 hE.1) (And.intro (cell_up hu0 hE.2.1) (cell_up hu0 hE.2.2))
  unfold edW at hE2
  unfold edW zeroW at HU hR
  dsimp only at HU hR hE2
  have HR := Lib.hid hR
  have C := Lib.hid hE2
  have e1 : IntKind.i64.wrap ((p : Int) + (d : Nat)) = (pd : Nat) := (IntWalk.i64_in _ (by omega)).trans (by omega)
  have g0 : (0 : Int) ≤ (p : Nat) := by omega
  have g1 : (p : Int) ≤ (pd : Nat) := by omega
  have g3 : (pd : Int) ≤ (s.size : Nat) := by omega
  have hz : (x.size : Int) = (z : Nat) := by omega
  clear hC hpd hE hE2 hu0 hR h hs hx
  go_enter Try.func15, Try.ntmps15
  go_wp2_with (go_at_call 12; ((with_reducible refine (HC.out _).mono ?_); rintro e w1 ⟨rfl, hu1⟩; have HU1 := Lib.hid (HU.out.trans hu1); have HR1 := Lib.hid (HR.out.up hu1); obtain ⟨⟨y0, r0⟩, ⟨y1, r1⟩, ⟨y2, r2⟩, f0, f1, f2⟩ := HR1.out; have d0 := cell_up hu1 C.out.1; have d1 := cell_up hu1 C.out.2.1; have d2 := cell_up hu1 C.out.2.2; clear hu1))
  obtain ⟨N, hN⟩ : ∃ N, w.heap.size = N := ⟨_, rfl⟩
  rw [hN] at d0 d1 d2 r0 r1 r2 f0 f1 f2 HR1
  simp only [hN]
  have hS : Up w w1 ∧ w1.cell? ⟨N, 0, none⟩ = some (.int .i64 (p : Nat)) ∧ w1.cell? ⟨N, 1, none⟩ = some (.int .i64 (d : Nat)) ∧ w1.cell? ⟨N, 2, none⟩ = some (.string x) := ⟨HU1.out, d0, d1, d2⟩
  clear HU1 d0 d1 d2 HU C HC HR
  go_region_held3 (fun w' => Up w w' ∧ w'.cell? ⟨N, 0, none⟩ = some (.int .i64 (p : Nat)) ∧ w'.cell? ⟨N, 1, none⟩ = some (.int .i64 (d : Nat)) ∧ w'.cell? ⟨N, 2, none⟩ = some (.string x))
    (first | assumption | with_reducible exact keep4 (Up.drew _) (by assumption) | with_reducible exact keep4 (Up.drew _) (keepSet hN (by assumption)) | with_reducible exact keepSet hN (by assumption))
    (first | fail)
  go_wp2
  have hf := set3 HR1.out (.int .i64 (p : Nat)) (.int .i64 (z : Nat)) (.string m)
  refine bodyPost_ret (v := .tuple #[.agg #[.int .i64 (p : Nat), .int .i64 (z : Nat), .string m], .int .i64 0]) (by simp [results, Try.results15, go_sem, hf]) rfl ⟨rfl, (hS.1.set3 _ _ _ _ (by omega)).trans (Up.drew _)⟩
theorem back_any (s : ByteArray) (a : Int × Int × ByteArray) (hs : s.size ≤ 140737488355328) (hx : a.2.2.size ≤ 9223372036854775807) (w : World) :
    Calls Try.prog 14 #[.string s, edV a] w fun e w' => e = .returned (.tuple #[edV (bkE s a), .int .i64 (edErr s.size a)]) ∧ Up w w' := by
  by_cases h : edErr s.size a = 0
  · have hT : bkE s a = bkS s a := if_pos h
    have hc := fun W => check_any s.size a (by omega) hx W
    rw [hT, h]
    rw [h] at hc
    obtain ⟨p, d, ha, h1, h2⟩ := ed_nat h
    rw [ha] at hc ⊢
    have := back_walk s a.2.2 _ p d (p + d) a.2.2.size hc h1 hs rfl rfl rfl w
    unfold bkS
    simp only
    rw [Int.toNat_natCast, show ((p : Int) + (d : Nat)).toNat = p + d from by omega]
    exact this
  · have hT : bkE s a = (0, 0, ⟨#[]⟩) := if_neg h
    rw [hT]
    exact back_no s a (by omega) hx h w
theorem refBack_any (s : ByteArray) (a : Int × Int × ByteArray) (hs : s.size ≤ 140737488355328) (hx : a.2.2.size ≤ 9223372036854775807) (w : World) :
    Calls Try.prog 15 #[.string s, edV a] w fun e w' => e = .returned (.tuple #[edV (bkE s a), .int .i64 (edErr s.size a)]) ∧ Up w w' := by
  by_cases h : edErr s.size a = 0
  · have hT : bkE s a = bkS s a := if_pos h
    have hc := fun W => refCheck_any s.size a (by omega) hx W
    rw [hT, h]
    rw [h] at hc
    obtain ⟨p, d, ha, h1, h2⟩ := ed_nat h
    rw [ha] at hc ⊢
    have := refBack_walk s a.2.2 _ p d (p + d) a.2.2.size hc h1 hs rfl rfl rfl w
    unfold bkS
    simp only
    rw [Int.toNat_natCast, show ((p : Int) + (d : Nat)).toNat = p + d from by omega]
    exact this
  · have hT : bkE s a = (0, 0, ⟨#[]⟩) := if_neg h
    rw [hT]
    exact refBack_no s a (by omega) hx h w
end Go.Proofs.Ytkdnhdjmlinglaa
