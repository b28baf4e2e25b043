/- What comes of an edit: the program's Apply and the document's. -/
import Derived.Test.YtkdnhdjmlinglaaEJoin
namespace Go.Proofs.Ytkdnhdjmlinglaa
open Go.RowKit

/-- Three parts in a block just laid, and one. -/
def xs3 (a b c : ByteArray) : Nat → ByteArray := fun | 0 => a | 1 => b | _ => c
theorem empty_append (x : ByteArray) : (⟨#[]⟩ : ByteArray) ++ x = x := by
  refine ext_bt (by rw [ByteArray.size_append]; show 0 + x.size = _; omega) fun i hi => ?_
  rw [ByteArray.size_append] at hi
  have hi' : i < x.size := by have : (⟨#[]⟩ : ByteArray).size = 0 := rfl; omega
  have := bt_append_right (a := (⟨#[]⟩ : ByteArray)) (b := x) hi'
  rw [show (⟨#[]⟩ : ByteArray).size + i = i from by show 0 + i = i; omega] at this
  exact this
theorem join_three (a b c : ByteArray) (hz : a.size + b.size + c.size ≤ 140737488355328) (w : World) :
    Calls Try.prog 20 #[.slice (some ⟨w.heap.size, 0, none⟩) 3 3] (w.alloc (.cells #[.string a, .string b, .string c] 9)).drew fun e w' => e = .returned (.string (a ++ b ++ c)) ∧ Up w w' := by
  refine (join_any (xs3 a b c) 3 w.heap.size 3 _ ?_ (by omega) ?_).mono ?_
  · intro j hj
    match j, hj with
    | 0, _ => exact cellOf (Go.heap_alloc_new _ _) rfl
    | 1, _ => exact cellOf (Go.heap_alloc_new _ _) rfl
    | 2, _ => exact cellOf (Go.heap_alloc_new _ _) rfl
  · show 0 + a.size + b.size + c.size ≤ _
    omega
  · rintro e w' ⟨rfl, hu⟩
    refine ⟨?_, (Up.alloc _ _).trans ((Up.drew _).trans hu)⟩
    show Ending.returned (.string ((⟨#[]⟩ : ByteArray) ++ a ++ b ++ c)) = _
    rw [empty_append]
theorem join_one (a : ByteArray) (hz : a.size ≤ 140737488355328) (w : World) :
    Calls Try.prog 20 #[.slice (some ⟨w.heap.size, 0, none⟩) 1 1] (w.alloc (.cells #[.string a] 9)).drew fun e w' => e = .returned (.string a) ∧ Up w w' := by
  refine (join_any (fun _ => a) 1 w.heap.size 1 _ ?_ (by omega) ?_).mono ?_
  · intro j hj
    obtain rfl : j = 0 := by omega
    exact cellOf (Go.heap_alloc_new _ _) rfl
  · show 0 + a.size ≤ _
    omega
  · rintro e w' ⟨rfl, hu⟩
    refine ⟨?_, (Up.alloc _ _).trans ((Up.drew _).trans hu)⟩
    show Ending.returned (.string ((⟨#[]⟩ : ByteArray) ++ a)) = _
    rw [empty_append]
theorem keep3 {N : Nat} {v0 v1 v2 : Value} {W W' : World} (hu : Up W W') (h : W.cell? ⟨N, 0, none⟩ = some v0 ∧ W.cell? ⟨N, 1, none⟩ = some v1 ∧ W.cell? ⟨N, 2, none⟩ = some v2) : W'.cell? ⟨N, 0, none⟩ = some v0 ∧ W'.cell? ⟨N, 1, none⟩ = some v1 ∧ W'.cell? ⟨N, 2, none⟩ = some v2 :=
  ⟨cell_up hu h.1, cell_up hu h.2.1, cell_up hu h.2.2⟩
theorem keep4 {w : World} {N : Nat} {v0 v1 v2 : Value} {W W' : World} (hu : Up W W') (h : Up w W ∧ W.cell? ⟨N, 0, none⟩ = some v0 ∧ W.cell? ⟨N, 1, none⟩ = some v1 ∧ W.cell? ⟨N, 2, none⟩ = some v2) : Up w W' ∧ W'.cell? ⟨N, 0, none⟩ = some v0 ∧ W'.cell? ⟨N, 1, none⟩ = some v1 ∧ W'.cell? ⟨N, 2, none⟩ = some v2 :=
  ⟨h.1.trans hu, cell_up hu h.2.1, cell_up hu h.2.2.1, cell_up hu h.2.2.2⟩
set_option maxRecDepth 100000 in
set_option maxHeartbeats 1000000 in
theorem apply_no (s : ByteArray) (a : Int × Int × ByteArray) (hs : s.size ≤ 9223372036854775807) (hx : a.2.2.size ≤ 9223372036854775807) (h : edErr s.size a ≠ 0) (w : World) :
    Calls Try.prog 9 #[.string s, edV a] w fun e w' => e = .returned (.tuple #[.string ⟨#[]⟩, .int .i64 (edErr s.size a)]) ∧ Up w w' := by
  have hC := check_any s.size a (by omega) hx (edW w a)
  obtain ⟨p, d, x⟩ := a
  unfold edV edW at hC
  dsimp only at hC
  obtain ⟨q, hq⟩ : ∃ q, edErr s.size (p, d, x) = q := ⟨_, rfl⟩
  rw [hq] at hC h ⊢
  have fq : (q == 0) = false := beq_false_of_ne h
  have HC := Lib.hid hC
  have HU := Lib.hid (show Up w (edW w (p, d, x)) from Up.alloc w _)
  unfold edW at HU
  dsimp only at HU
  clear hC hq hs hx h
  unfold edV
  go_enter Try.func9, Try.ntmps9
  go_wp2_with (go_at_call 11; ((with_reducible refine HC.out.mono ?_); rintro e w1 ⟨rfl, hu1⟩; have HU1 := Lib.hid (HU.out.trans hu1); clear hu1))
  go_ret2
  exact ⟨rfl, HU1.out⟩
set_option maxRecDepth 100000 in
set_option maxHeartbeats 1000000 in
theorem apply_walk (s x l r : ByteArray) (p d pd : Nat) (hs : s.size ≤ 9223372036854775807) (hC : ∀ W, Calls Try.prog 11 #[.int .i64 (s.size : Nat), .agg #[.int .i64 (p : Nat), .int .i64 (d : Nat), .string x]] W fun e w' => e = .returned (.int .i64 0) ∧ Up W w')
    (h : p + d ≤ s.size) (hpd : pd = p + d) (hz : l.size + x.size + r.size ≤ 1048576) (hl : s.extract 0 p = l) (hr : s.extract pd s.size = r) (w : World) :
    Calls Try.prog 9 #[.string s, .agg #[.int .i64 (p : Nat), .int .i64 (d : Nat), .string x]] w fun e w' => e = .returned (.tuple #[.string (l ++ x ++ r), .int .i64 0]) ∧ Up w w' := by
  have HC := Lib.hid hC
  have HJ := Lib.hid (fun W => join_three l x r (by omega) W)
  have hE := edW_cells w ((p : Nat), (d : Nat), x)
  have HU := Lib.hid (show Up w (edW w ((p : Nat), (d : Nat), x)) from Up.alloc w _)
  unfold edW at HU hE
  dsimp only at HU hE
  have C := Lib.hid hE
  have e1 : IntKind.i64.wrap ((p : Int) + (d : Nat)) = (pd : Nat) := (IntWalk.i64_in _ (by omega)).trans (by omega)
  have g0 : (0 : Int) ≤ (p : Nat) := by omega
  have g1 : (p : Int) ≤ (s.size : Nat) := by omega
  have g2 : (0 : Int) ≤ (pd : Nat) := by omega
  have g3 : (pd : Int) ≤ (s.size : Nat) := by omega
  clear hC hpd hz hE h hs
  go_enter Try.func9, Try.ntmps9
  go_wp2_with (go_at_call 11; ((with_reducible refine (HC.out _).mono ?_); rintro e w1 ⟨rfl, hu1⟩; have d0 := cell_up hu1 C.out.1; have d1 := cell_up hu1 C.out.2.1; have d2 := cell_up hu1 C.out.2.2; have HU1 := Lib.hid (HU.out.trans hu1); clear hu1))
  obtain ⟨N, hN⟩ : ∃ N, w.heap.size = N := ⟨_, rfl⟩
  rw [hN] at d0 d1 d2
  simp only [hN]
  have hS : Up w w1 ∧ w1.cell? ⟨N, 0, none⟩ = some (.int .i64 (p : Nat)) ∧ w1.cell? ⟨N, 1, none⟩ = some (.int .i64 (d : Nat)) ∧ w1.cell? ⟨N, 2, none⟩ = some (.string x) := ⟨HU1.out, d0, d1, d2⟩
  clear HU1 d0 d1 d2 HU C HC
  go_region_held3 (fun w' => Up w w' ∧ w'.cell? ⟨N, 0, none⟩ = some (.int .i64 (p : Nat)) ∧ w'.cell? ⟨N, 1, none⟩ = some (.int .i64 (d : Nat)) ∧ w'.cell? ⟨N, 2, none⟩ = some (.string x))
    (first | assumption | with_reducible exact keep4 hu2 (by assumption) | with_reducible exact keep4 (Up.drew _) (by assumption) | with_reducible exact keep4 (Up.alloc _ _) (by assumption))
    (first | (go_at_call 20; ((with_reducible refine (HJ.out _).mono ?_); rintro e w2 ⟨rfl, hu2⟩)))
  have hH : Up w w2 ∧ w2.cell? ⟨N, 0, none⟩ = some (.int .i64 (p : Nat)) ∧ w2.cell? ⟨N, 1, none⟩ = some (.int .i64 (d : Nat)) ∧ w2.cell? ⟨N, 2, none⟩ = some (.string x) := by assumption
  go_wp2
  go_ret2
  exact ⟨rfl, hH.1⟩
set_option maxRecDepth 100000 in
set_option maxHeartbeats 1000000 in
theorem refApply_no (s : ByteArray) (a : Int × Int × ByteArray) (hs : s.size ≤ 9223372036854775807) (hx : a.2.2.size ≤ 9223372036854775807) (h : edErr s.size a ≠ 0) (w : World) :
    Calls Try.prog 10 #[.string s, edV a] w fun e w' => e = .returned (.tuple #[.string ⟨#[]⟩, .int .i64 (edErr s.size a)]) ∧ Up w w' := by
  have hC := refCheck_any s.size a (by omega) hx (edW w a)
  obtain ⟨p, d, x⟩ := a
  unfold edV edW at hC
  dsimp only at hC
  obtain ⟨q, hq⟩ : ∃ q, edErr s.size (p, d, x) = q := ⟨_, rfl⟩
  rw [hq] at hC h ⊢
  have fq : (q == 0) = false := beq_false_of_ne h
  have HC := Lib.hid hC
  have HU := Lib.hid (show Up w (edW w (p, d, x)) from Up.alloc w _)
  unfold edW at HU
  dsimp only at HU
  clear hC hq hs hx h
  unfold edV
  go_enter Try.func10, Try.ntmps10
  go_wp2_with (go_at_call 12; ((with_reducible refine HC.out.mono ?_); rintro e w1 ⟨rfl, hu1⟩; have HU1 := Lib.hid (HU.out.trans hu1); clear hu1))
  go_ret2
  exact ⟨rfl, HU1.out⟩
set_option maxRecDepth 100000 in
set_option maxHeartbeats 1000000 in
theorem refApply_walk (s x l r : ByteArray) (p d pd : Nat) (hs : s.size ≤ 9223372036854775807) (hC : ∀ W, Calls Try.prog 12 #[.int .i64 (s.size : Nat), .agg #[.int .i64 (p : Nat), .int .i64 (d : Nat), .string x]] W fun e W' => e = .returned (.int .i64 0) ∧ Up W W')
    (h : p + d ≤ s.size) (hpd : pd = p + d) (hz : l.size + x.size + r.size ≤ 1048576) (hl : s.extract 0 p = l) (hr : s.extract pd s.size = r) (w : World) :
    Calls Try.prog 10 #[.string s, .agg #[.int .i64 (p : Nat), .int .i64 (d : Nat), .string x]] w fun e w' => e = .returned (.tuple #[.string (l ++ x ++ r), .int .i64 0]) ∧ Up w w' := by
  have HC := Lib.hid hC
  have hE := edW_cells w ((p : Nat), (d : Nat), x)
  have HU := Lib.hid (show Up w (edW w ((p : Nat), (d : Nat), x)) from Up.alloc w _)
  unfold edW at HU hE
  dsimp only at HU hE
  have C := Lib.hid hE
  have e1 : IntKind.i64.wrap ((p : Int) + (d : Nat)) = (pd : Nat) := (IntWalk.i64_in _ (by omega)).trans (by omega)
  have g0 : (0 : Int) ≤ (p : Nat) := by omega
  have g1 : (p : Int) ≤ (s.size : Nat) := by omega
  have g2 : (0 : Int) ≤ (pd : Nat) := by omega
  have g3 : (pd : Int) ≤ (s.size : Nat) := by omega
  have q1 : ∀ W : World, (Op.stringOp .add l x).run Try.prog W = .ok (.string (l ++ x)) W := fun W => run_string_add_sum W _ _ (by omega)
  have q2 : ∀ W : World, (Op.stringOp .add (l ++ x) r).run Try.prog W = .ok (.string (l ++ x ++ r)) W := fun W => run_string_add_sum W _ _ (by simp only [ByteArray.size_append]; omega)
  clear hC hpd hz hE h hs
  go_enter Try.func10, Try.ntmps10
  go_wp2_with (go_at_call 12; ((with_reducible refine (HC.out _).mono ?_); rintro e w1 ⟨rfl, hu1⟩; have d0 := cell_up hu1 C.out.1; have d1 := cell_up hu1 C.out.2.1; have d2 := cell_up hu1 C.out.2.2; have HU1 := Lib.hid (HU.out.trans hu1); clear hu1))
  obtain ⟨N, hN⟩ : ∃ N, w.heap.size = N := ⟨_, rfl⟩
  rw [hN] at d0 d1 d2
  simp only [hN]
  clear HU C HC
  go_quiet (fail)
  clear q1 q2 g0 g1 g2 g3
  go_wp2
  go_ret2
  exact ⟨rfl, HU1.out.trans (Up.drewN _ _)⟩
/-- An edit that may be, in natural numbers. -/
theorem ed_nat {s : ByteArray} {a : Int × Int × ByteArray} (h : edErr s.size a = 0) : ∃ p d : Nat, a = ((p : Int), (d : Int), a.2.2) ∧ p + d ≤ s.size ∧ s.size - d + a.2.2.size ≤ 1048576 := by
  obtain ⟨h0, h1, h2, h3, h4⟩ := edErr_zero h
  obtain ⟨i, j, x⟩ := a
  obtain ⟨p, rfl⟩ : ∃ p : Nat, i = p := ⟨i.toNat, by simp only at h0; omega⟩
  obtain ⟨d, rfl⟩ : ∃ d : Nat, j = d := ⟨j.toNat, by simp only at h1; omega⟩
  simp only at h2 h3 h4
  exact ⟨p, d, rfl, by omega, by simp only; omega⟩
theorem edS_nat (s x : ByteArray) (p d : Nat) : edS s ((p : Int), (d : Int), x) = s.extract 0 p ++ x ++ s.extract (p + d) s.size := by
  unfold edS
  simp only
  rw [Int.toNat_natCast, show ((p : Int) + (d : Nat)).toNat = p + d from by omega]
theorem apply_any (s : ByteArray) (a : Int × Int × ByteArray) (hs : s.size ≤ 9223372036854775807) (hx : a.2.2.size ≤ 9223372036854775807) (w : World) :
    Calls Try.prog 9 #[.string s, edV a] w fun e w' => e = .returned (.tuple #[.string (edT s a), .int .i64 (edErr s.size a)]) ∧ Up w w' := by
  by_cases h : edErr s.size a = 0
  · have hT : edT s a = edS s a := if_pos h
    have hc := fun W => check_any s.size a (by omega) hx W
    rw [hT, h]
    rw [h] at hc
    obtain ⟨p, d, ha, h1, h2⟩ := ed_nat h
    rw [ha] at hc ⊢
    rw [edS_nat]
    exact apply_walk s a.2.2 _ _ p d (p + d) hs hc h1 rfl (by rw [size_ext, size_ext]; omega) rfl rfl w
  · have hT : edT s a = ⟨#[]⟩ := if_neg h
    rw [hT]
    exact apply_no s a hs hx h w
theorem refApply_any (s : ByteArray) (a : Int × Int × ByteArray) (hs : s.size ≤ 9223372036854775807) (hx : a.2.2.size ≤ 9223372036854775807) (w : World) :
    Calls Try.prog 10 #[.string s, edV a] w fun e w' => e = .returned (.tuple #[.string (edT s a), .int .i64 (edErr s.size a)]) ∧ Up w w' := by
  by_cases h : edErr s.size a = 0
  · have hT : edT s a = edS s a := if_pos h
    have hc := fun W => refCheck_any s.size a (by omega) hx W
    rw [hT, h]
    rw [h] at hc
    obtain ⟨p, d, ha, h1, h2⟩ := ed_nat h
    rw [ha] at hc ⊢
    rw [edS_nat]
    exact refApply_walk s a.2.2 _ _ p d (p + d) hs hc h1 rfl (by rw [size_ext, size_ext]; omega) rfl rfl w
  · have hT : edT s a = ⟨#[]⟩ := if_neg h
    rw [hT]
    exact refApply_no s a hs hx h w
end Go.Proofs.Ytkdnhdjmlinglaa
