/- The law EditBack walked: what an edit does is taken back. -/
import Derived.Test.YtkdnhdjmlinglaaELawA
namespace Go.Proofs.Ytkdnhdjmlinglaa
open Go.RowKit

set_option maxRecDepth 100000 in
set_option maxHeartbeats 1000000 in
theorem backlaw_no (w : World) (s : ByteArray) (a : Int × Int × ByteArray) (hs : s.size ≤ 140737488355328) (hx : a.2.2.size ≤ 9223372036854775807) (h : edErr s.size a ≠ 0) :
    Calls Try.prog 6 #[.string s, edV a] w fun e w' => e = .returned (.bool true) ∧ Up w w' := by
  have h1 := fun W => apply_any s a (by omega) hx W
  have h2 := fun W => back_any s a hs hx W
  have h5 := edW_cells w a
  have h6 := Up.alloc w (.cells #[.int .i64 a.1, .int .i64 a.2.1, .string a.2.2] 23)
  unfold edW at h5
  rw [show edT s a = ⟨#[]⟩ from if_neg h] at h1
  rw [show bkE s a = (0, 0, ⟨#[]⟩) from if_neg h] at h2
  obtain ⟨q, hq⟩ : ∃ q, edErr s.size a = q := ⟨_, rfl⟩
  rw [hq] at h1 h2 h
  have fq : (q == 0) = false := beq_false_of_ne h
  obtain ⟨p, d, x⟩ := a
  unfold edV at h1 h2 ⊢
  dsimp only at h1 h2 h5 h6 ⊢
  have H1 := Lib.hid h1
  have H2 := Lib.hid h2
  have HK := Lib.hid (fun W => wakes_any W)
  have C := Lib.hid h5
  have HU := Lib.hid h6
  clear h1 h2 h5 h6 hq hs hx h
  go_enter Try.func6, Try.ntmps6
  go_wp2_with (first
    | (go_at_call 9; ((with_reducible refine (H1.out _).mono ?_); rintro e w1 ⟨rfl, hu⟩; have HU := Lib.hid (HU.out.trans hu); have d0 := cell_up hu C.out.1; have d1 := cell_up hu C.out.2.1; have d2 := cell_up hu C.out.2.2; clear hu))
    | (go_at_call 14; ((with_reducible refine (H2.out _).mono ?_); rintro e w2 ⟨rfl, hu⟩; have HU := Lib.hid (HU.out.trans (hu.trans (Up.alloc w2 (.cells #[.int .i64 0, .int .i64 0, .string ⟨#[]⟩] 23)))); obtain ⟨e0, e1, e2⟩ := tri (Go.heap_alloc_new w2 (.cells #[.int .i64 0, .int .i64 0, .string ⟨#[]⟩] 23)); clear hu d0 d1 d2))
    | (go_at_call 13; ((with_reducible refine (HK.out _).mono ?_); rintro e w3 ⟨rfl, hu⟩; have HU := Lib.hid (HU.out.trans hu); clear hu)))
  go_ret
  exact ⟨rfl, HU.out⟩
set_option maxRecDepth 100000 in
set_option maxHeartbeats 1000000 in
theorem backlaw_big (w : World) (s : ByteArray) (a : Int × Int × ByteArray) (hs : s.size ≤ 140737488355328) (hx : a.2.2.size ≤ 9223372036854775807) (h : edErr s.size a = 0) (hb : 1048576 < s.size) :
    Calls Try.prog 6 #[.string s, edV a] w fun e w' => e = .returned (.bool true) ∧ Up w w' := by
  have h1 := fun W => apply_any s a (by omega) hx W
  have h2 := fun W => back_any s a hs hx W
  have h5 := edW_cells w a
  have h6 := Up.alloc w (.cells #[.int .i64 a.1, .int .i64 a.2.1, .string a.2.2] 23)
  unfold edW at h5
  have hz := edS_size h
  obtain ⟨g0, g1, g2, g3, g4⟩ := edErr_zero h
  rw [show edT s a = edS s a from if_pos h, h] at h1
  rw [h] at h2
  obtain ⟨⟨i, j, m⟩, hT⟩ : ∃ T, bkE s a = T := ⟨_, rfl⟩
  obtain ⟨S, hS⟩ : ∃ S, edS s a = S := ⟨_, rfl⟩
  rw [hS] at h1 hz
  rw [hT] at h2
  obtain ⟨p, d, x⟩ := a
  unfold edV at h1 h2 ⊢
  dsimp only at h1 h2 h5 h6 hz g0 g1 g2 g3 g4 ⊢
  obtain ⟨e1, e2⟩ : IntKind.i64.wrap ((s.size : Int) - d) = (s.size : Int) - d ∧ IntKind.i64.wrap ((s.size : Int) - d + (x.size : Nat)) = (S.size : Nat) :=
    ⟨IntWalk.i64_in _ (by omega), (IntWalk.i64_in _ (by omega)).trans (by omega)⟩
  have hbi : (1048576 : Int) < (s.size : Nat) := Int.ofNat_lt.2 hb
  have H1 := Lib.hid h1
  have H2 := Lib.hid h2
  have HK := Lib.hid (fun W => wakes_any W)
  have C := Lib.hid h5
  have HU := Lib.hid h6
  clear h1 h2 h5 h6 hT hS hs hx h hb hz g0 g1 g2 g3 g4
  go_enter Try.func6, Try.ntmps6
  go_wp2_with (first
    | (go_at_call 9; ((with_reducible refine (H1.out _).mono ?_); rintro e w1 ⟨rfl, hu⟩; have HU := Lib.hid (HU.out.trans hu); have d0 := cell_up hu C.out.1; have d1 := cell_up hu C.out.2.1; have d2 := cell_up hu C.out.2.2; have C := Lib.hid (And.intro d0 (And.intro d1 d2)); clear hu))
    | (go_at_call 14; ((with_reducible refine (H2.out _).mono ?_); rintro e w2 ⟨rfl, hu⟩; have hu := hu.trans (Up.alloc w2 (.cells #[.int .i64 i, .int .i64 j, .string m] 23)); have HU := Lib.hid (HU.out.trans hu); clear d0 d1 d2; obtain ⟨d0, d1, d2⟩ := keep3 hu C.out; clear hu))
    | (go_at_call 13; ((with_reducible refine (HK.out _).mono ?_); rintro e w3 ⟨rfl, hu⟩; have HU := Lib.hid (HU.out.trans hu); clear hu)))
  go_ret
  exact ⟨rfl, HU.out⟩
theorem edOk_df {a b : ByteArray} (hb : b.size ≤ 1048576) : (dfE a b).2.2.size ≤ 9223372036854775807 := by
  simp only [dfE]
  rw [size_ext]
  omega
set_option maxRecDepth 100000 in
set_option maxHeartbeats 2000000 in
theorem backlaw_in (w : World) (s : ByteArray) (a : Int × Int × ByteArray) (hs : s.size ≤ 1048576) (hx : a.2.2.size ≤ 9223372036854775807) (h : edErr s.size a = 0) :
    Calls Try.prog 6 #[.string s, edV a] w fun e w' => e = .returned (.bool true) ∧ Up w w' := by
  have hz := edS_size h
  obtain ⟨g0, g1, g2, g3, g4⟩ := edErr_zero h
  have hk : (s.extract a.1.toNat (a.1 + a.2.1).toNat).size ≤ 1048576 := by rw [size_ext]; omega
  have hSz : (edS s a).size ≤ 1048576 := by omega
  have h1 := fun W => apply_any s a (by omega) hx W
  have h2 := fun W => back_any s a (by omega) hx W
  have h3 := fun W => apply_any (edS s a) (bkS s a) (by omega) (by simp only [bkS]; omega) W
  have h4 := fun W => diff_any (edS s a) s (by omega) (by omega) W
  have h7 := fun W => apply_any (edS s a) (dfE (edS s a) s) (by omega) (edOk_df hs) W
  have h8 := fun W => back_any (edS s a) (bkS s a) (by omega) (by simp only [bkS]; omega) W
  have h5 := edW_cells w a
  have h6 := Up.alloc w (.cells #[.int .i64 a.1, .int .i64 a.2.1, .string a.2.2] 23)
  unfold edW at h5
  have hb := bk_ok h hs
  have hd := df_ok (a := edS s a) hs
  rw [show edT s a = edS s a from if_pos h, h] at h1
  rw [show bkE s a = bkS s a from if_pos h, h] at h2
  rw [show edT (edS s a) (bkS s a) = s from (if_pos hb).trans (bk_text h hs), hb] at h3
  rw [show edT (edS s a) (dfE (edS s a) s) = s from (if_pos hd).trans (df_text hs), hd] at h7
  rw [show bkE (edS s a) (bkS s a) = a from (if_pos hb).trans (bk_back h), hb] at h8
  obtain ⟨⟨i, j, m⟩, hT⟩ : ∃ T, bkS s a = T := ⟨_, rfl⟩
  obtain ⟨S, hS⟩ : ∃ S, edS s a = S := ⟨_, rfl⟩
  rw [hS] at h1 h3 h4 h7 h8 hz
  rw [hT] at h2 h3 h8
  obtain ⟨⟨i2, j2, m2⟩, hD⟩ : ∃ D, dfE S s = D := ⟨_, rfl⟩
  rw [hD] at h4 h7
  obtain ⟨p, d, x⟩ := a
  unfold edV at h1 h2 h3 h4 h7 h8 ⊢
  dsimp only at h1 h2 h3 h4 h7 h8 h5 h6 hz g0 g1 g2 g3 g4 ⊢
  obtain ⟨e1, e2⟩ : IntKind.i64.wrap ((s.size : Int) - d) = (s.size : Int) - d ∧ IntKind.i64.wrap ((s.size : Int) - d + (x.size : Nat)) = (S.size : Nat) :=
    ⟨IntWalk.i64_in _ (by omega), (IntWalk.i64_in _ (by omega)).trans (by omega)⟩
  have hbi : decide ((1048576 : Int) < (s.size : Nat)) = false := decide_eq_false (by omega)
  have H1 := Lib.hid h1
  have H2 := Lib.hid h2
  have H3 := Lib.hid h3
  have H4 := Lib.hid h4
  have H7 := Lib.hid h7
  have H8 := Lib.hid h8
  have HK := Lib.hid (fun W => wakes_any W)
  have C := Lib.hid h5
  have HU := Lib.hid h6
  clear h1 h2 h3 h4 h7 h8 h5 h6 hT hS hD hs hx h hz g0 g1 g2 g3 g4 hk hSz hb hd
  go_enter Try.func6, Try.ntmps6
  go_wp2_with (first
    | (go_at_call 9; ((with_reducible refine (H1.out _).mono ?_); rintro e w1 ⟨rfl, hu⟩; have HU := Lib.hid (HU.out.trans hu); have C := Lib.hid (keep3 hu C.out); obtain ⟨d0, d1, d2⟩ := C.out; clear hu))
    | (go_at_call 14; ((with_reducible refine (H2.out _).mono ?_); rintro e w2 ⟨rfl, hu⟩; have hu := hu.trans (Up.alloc w2 (.cells #[.int .i64 i, .int .i64 j, .string m] 23)); have HU := Lib.hid (HU.out.trans hu); have C := Lib.hid (keep3 hu C.out); have D := Lib.hid (tri (Go.heap_alloc_new w2 (.cells #[.int .i64 i, .int .i64 j, .string m] 23))); clear d0 d1 d2; obtain ⟨d0, d1, d2⟩ := C.out; obtain ⟨f0, f1, f2⟩ := D.out; clear hu))
    | (go_at_call 9; ((with_reducible refine (H3.out _).mono ?_); rintro e w3 ⟨rfl, hu⟩; have HU := Lib.hid (HU.out.trans hu); have C := Lib.hid (keep3 hu C.out); have D := Lib.hid (keep3 hu D.out); clear d0 d1 d2 f0 f1 f2; obtain ⟨d0, d1, d2⟩ := C.out; obtain ⟨f0, f1, f2⟩ := D.out; clear hu))
    | (go_at_call 18; ((with_reducible refine (H4.out _).mono ?_); rintro e w4 ⟨rfl, hu⟩; have HU := Lib.hid (HU.out.trans hu); have C := Lib.hid (keep3 hu C.out); have D := Lib.hid (keep3 hu D.out); clear d0 d1 d2 f0 f1 f2; obtain ⟨d0, d1, d2⟩ := C.out; obtain ⟨f0, f1, f2⟩ := D.out; clear hu))
    | (go_at_call 9; ((with_reducible refine (H7.out _).mono ?_); rintro e w5 ⟨rfl, hu⟩; have HU := Lib.hid (HU.out.trans hu); have C := Lib.hid (keep3 hu C.out); have D := Lib.hid (keep3 hu D.out); clear d0 d1 d2 f0 f1 f2; obtain ⟨d0, d1, d2⟩ := C.out; obtain ⟨f0, f1, f2⟩ := D.out; clear hu))
    | (go_at_call 14; ((with_reducible refine (H8.out _).mono ?_); rintro e w6 ⟨rfl, hu⟩; have hu := hu.trans (Up.alloc w6 (.cells #[.int .i64 p, .int .i64 d, .string x] 23)); have HU := Lib.hid (HU.out.trans hu); have C := Lib.hid (keep3 hu C.out); clear d0 d1 d2 f0 f1 f2; obtain ⟨d0, d1, d2⟩ := C.out; clear hu))
    | (go_at_call 13; ((with_reducible refine (HK.out _).mono ?_); rintro e w7 ⟨rfl, hu⟩; have HU := Lib.hid (HU.out.trans hu); clear hu)))
  go_ret
  exact ⟨rfl, HU.out⟩
theorem back_walk_law (w : World) (s : ByteArray) (a : Int × Int × ByteArray) (hs : s.size ≤ 140737488355328) (hx : a.2.2.size ≤ 9223372036854775807) :
    Calls Try.prog 6 #[.string s, edV a] w fun e w' => e = .returned (.bool true) ∧ Up w w' := by
  by_cases h : edErr s.size a = 0
  · by_cases hb : 1048576 < s.size
    · exact backlaw_big w s a hs hx h hb
    · exact backlaw_in w s a (by omega) hx h
  · exact backlaw_no w s a hs hx h
end Go.Proofs.Ytkdnhdjmlinglaa
