/- The known edit; the laws EditApplies, EditMoves and EditDiffs walked. -/
import Derived.Test.YtkdnhdjmlinglaaEDiff
namespace Go.Proofs.Ytkdnhdjmlinglaa
open Go.RowKit

theorem wf64 {a : Int} (h : (Lit.int .i64 a).wf = true) : -9223372036854775808 ≤ a ∧ a ≤ 9223372036854775807 := by
  simpa [Lit.wf, IntKind.min, IntKind.max, IntKind.signed, IntKind.bits] using h
theorem known_text : edT ⟨#[97, 98, 99, 100]⟩ (1, 2, ⟨#[88]⟩) = ⟨#[97, 88, 100]⟩ := by kernel_rfl
theorem known_err : edErr ((⟨#[97, 98, 99, 100]⟩ : ByteArray).size : Nat) (1, 2, ⟨#[88]⟩) = 0 := by kernel_rfl
theorem known_move : mvP (1, 2, ⟨#[88]⟩) 3 = 2 := by kernel_rfl
theorem known_check : edErr 3 (4, 0, ⟨#[]⟩) = 5 := by kernel_rfl
set_option maxRecDepth 100000 in
set_option maxHeartbeats 1000000 in
theorem wakes_any (w : World) : Calls Try.prog 13 #[] w fun e w' => e = .returned (.bool true) ∧ Up w w' := by
  have h1 := fun W => apply_any ⟨#[97, 98, 99, 100]⟩ (1, 2, ⟨#[88]⟩) (by decide) (by decide) W
  have h2 := fun W => move_any (1, 2, ⟨#[88]⟩) 3 (by decide) W
  have h3 := fun W => check_any 3 (4, 0, ⟨#[]⟩) (by decide) (by decide) W
  rw [known_text, known_err] at h1
  rw [known_move] at h2
  rw [known_check] at h3
  unfold edV at h1 h2 h3
  dsimp only at h1 h2 h3
  have H1 := Lib.hid h1
  have H2 := Lib.hid h2
  have H3 := Lib.hid h3
  clear h1 h2 h3
  go_enter Try.func13, Try.ntmps13
  go_wp2_with (first
    | (go_at_call 9; ((with_reducible refine (H1.out _).mono ?_); rintro e w1 ⟨rfl, hu1⟩; have HU := Lib.hid hu1; clear hu1))
    | (go_at_call 16; ((with_reducible refine (H2.out _).mono ?_); rintro e w2 ⟨rfl, hu2⟩; have HU := Lib.hid (HU.out.trans hu2); clear hu2))
    | (go_at_call 11; ((with_reducible refine (H3.out _).mono ?_); rintro e w3 ⟨rfl, hu3⟩; have HU := Lib.hid (HU.out.trans hu3); clear hu3)))
  go_ret
  exact ⟨rfl, HU.out⟩
set_option maxRecDepth 100000 in
set_option maxHeartbeats 1000000 in
theorem applies_walk (w : World) (n : Int) (s : ByteArray) (a : Int × Int × ByteArray) (hn : -9223372036854775808 ≤ n ∧ n ≤ 9223372036854775807) (hs : s.size ≤ 9223372036854775807) (hx : a.2.2.size ≤ 9223372036854775807) :
    Calls Try.prog 3 #[.int .i64 n, .string s, edV a] w fun e w' => e = .returned (.bool true) ∧ Up w w' := by
  have h1 := fun W => apply_any s a hs hx W
  have h2 := fun W => refApply_any s a hs hx W
  have h3 := fun W => check_any n a hn hx W
  have h4 := fun W => refCheck_any n a hn hx W
  have h5 := edW_cells w a
  have h6 := Up.alloc w (.cells #[.int .i64 a.1, .int .i64 a.2.1, .string a.2.2] 23)
  unfold edW at h5
  obtain ⟨T, hT⟩ : ∃ T, edT s a = T := ⟨_, rfl⟩
  obtain ⟨q, hq⟩ : ∃ q, edErr s.size a = q := ⟨_, rfl⟩
  obtain ⟨r, hr⟩ : ∃ r, edErr n a = r := ⟨_, rfl⟩
  rw [hT, hq] at h1 h2
  rw [hr] at h3 h4
  obtain ⟨p, d, x⟩ := a
  unfold edV at h1 h2 h3 h4 ⊢
  dsimp only at h1 h2 h3 h4 h5 h6 ⊢
  have H1 := Lib.hid h1
  have H2 := Lib.hid h2
  have H3 := Lib.hid h3
  have H4 := Lib.hid h4
  have C := Lib.hid h5
  have HU := Lib.hid h6
  clear h1 h2 h3 h4 h5 h6 hT hq hr hn hs hx
  go_enter Try.func3, Try.ntmps3
  go_wp2_with (first
    | (go_at_call 9; ((with_reducible refine (H1.out _).mono ?_); rintro e w1 ⟨rfl, hu⟩; have HU := Lib.hid (HU.out.trans hu); have d0 := cell_up hu C.out.1; have d1 := cell_up hu C.out.2.1; have d2 := cell_up hu C.out.2.2; have C := Lib.hid (And.intro d0 (And.intro d1 d2)); clear hu))
    | (go_at_call 10; ((with_reducible refine (H2.out _).mono ?_); rintro e w2 ⟨rfl, hu⟩; have HU := Lib.hid (HU.out.trans hu); clear d0 d1 d2; have d0 := cell_up hu C.out.1; have d1 := cell_up hu C.out.2.1; have d2 := cell_up hu C.out.2.2; have C := Lib.hid (And.intro d0 (And.intro d1 d2)); clear hu)))
  obtain ⟨N, hN⟩ : ∃ N, w.heap.size = N := ⟨_, rfl⟩
  rw [hN] at d0 d1 d2
  simp only [hN]
  have hS : Up w w2 ∧ w2.cell? ⟨N, 0, none⟩ = some (.int .i64 p) ∧ w2.cell? ⟨N, 1, none⟩ = some (.int .i64 d) ∧ w2.cell? ⟨N, 2, none⟩ = some (.string x) := ⟨HU.out, d0, d1, d2⟩
  have HK := Lib.hid (fun W => wakes_any W)
  clear d0 d1 d2 C HU H1 H2
  go_region_held3 (fun w' => Up w w' ∧ w'.cell? ⟨N, 0, none⟩ = some (.int .i64 p) ∧ w'.cell? ⟨N, 1, none⟩ = some (.int .i64 d) ∧ w'.cell? ⟨N, 2, none⟩ = some (.string x))
    (first | assumption | with_reducible exact keep4 hu3 (by assumption) | with_reducible exact keep4 (Up.drew _) (by assumption))
    (first
      | (go_at_call 11; ((with_reducible refine (H3.out _).mono ?_); rintro e w3 ⟨rfl, hu3⟩))
      | (go_at_call 12; ((with_reducible refine (H4.out _).mono ?_); rintro e w3 ⟨rfl, hu3⟩))
      | (go_at_call 13; ((with_reducible refine (HK.out _).mono ?_); rintro e w3 ⟨rfl, hu3⟩)))
  have hH : Up w w3 ∧ w3.cell? ⟨N, 0, none⟩ = some (.int .i64 p) ∧ w3.cell? ⟨N, 1, none⟩ = some (.int .i64 d) ∧ w3.cell? ⟨N, 2, none⟩ = some (.string x) := by assumption
  go_wp2
  go_ret
  exact ⟨rfl, hH.1⟩
/-- Three cells of a block. -/
theorem tri {W : World} {M : Nat} {u v x : Value} {T : TypeId} (h : W.heap[M]? = some (.cells #[u, v, x] T)) : W.cell? ⟨M, 0, none⟩ = some u ∧ W.cell? ⟨M, 1, none⟩ = some v ∧ W.cell? ⟨M, 2, none⟩ = some x := ⟨cellOf h rfl, cellOf h rfl, cellOf h rfl⟩
theorem keep10 {w W W' : World} {L M N : Nat} {a0 a1 a2 b0 b1 b2 c0 c1 c2 : Value} (hu : Up W W')
    (h : Up w W ∧ (W.cell? ⟨L, 0, none⟩ = some a0 ∧ W.cell? ⟨L, 1, none⟩ = some a1 ∧ W.cell? ⟨L, 2, none⟩ = some a2) ∧ (W.cell? ⟨M, 0, none⟩ = some b0 ∧ W.cell? ⟨M, 1, none⟩ = some b1 ∧ W.cell? ⟨M, 2, none⟩ = some b2) ∧ (W.cell? ⟨N, 0, none⟩ = some c0 ∧ W.cell? ⟨N, 1, none⟩ = some c1 ∧ W.cell? ⟨N, 2, none⟩ = some c2)) :
    Up w W' ∧ (W'.cell? ⟨L, 0, none⟩ = some a0 ∧ W'.cell? ⟨L, 1, none⟩ = some a1 ∧ W'.cell? ⟨L, 2, none⟩ = some a2) ∧ (W'.cell? ⟨M, 0, none⟩ = some b0 ∧ W'.cell? ⟨M, 1, none⟩ = some b1 ∧ W'.cell? ⟨M, 2, none⟩ = some b2) ∧ (W'.cell? ⟨N, 0, none⟩ = some c0 ∧ W'.cell? ⟨N, 1, none⟩ = some c1 ∧ W'.cell? ⟨N, 2, none⟩ = some c2) := by
  obtain ⟨h0, h1, h2, h3⟩ := h
  exact ⟨h0.trans hu, keep3 hu h1, keep3 hu h2, keep3 hu h3⟩
set_option maxRecDepth 100000 in
set_option maxHeartbeats 1000000 in
theorem moves_walk (w : World) (s : ByteArray) (a : Int × Int × ByteArray) (k : Int) (hk : -9223372036854775808 ≤ k ∧ k ≤ 9223372036854775807) (hs : s.size ≤ 140737488355328) (hx : a.2.2.size ≤ 9223372036854775807) :
    Calls Try.prog 4 #[.string s, edV a, .int .i64 k] w fun e w' => e = .returned (.bool true) ∧ Up w w' := by
  have h1 := fun W => back_any s a hs hx W
  have h2 := fun W => refBack_any s a hs hx W
  have h3 := fun W => move_any a k hk W
  have h4 := fun W => refMove_any a k hk W
  have h5 := edW_cells w a
  have h6 := Up.alloc w (.cells #[.int .i64 a.1, .int .i64 a.2.1, .string a.2.2] 23)
  unfold edW at h5
  obtain ⟨⟨i, j, m⟩, hT⟩ : ∃ T, bkE s a = T := ⟨_, rfl⟩
  obtain ⟨q, hq⟩ : ∃ q, edErr s.size a = q := ⟨_, rfl⟩
  obtain ⟨r, hr⟩ : ∃ r, mvP a k = r := ⟨_, rfl⟩
  rw [hT, hq] at h1 h2
  rw [hr] at h3 h4
  obtain ⟨p, d, x⟩ := a
  unfold edV at h1 h2 h3 h4 ⊢
  dsimp only at h1 h2 h3 h4 h5 h6 ⊢
  have H1 := Lib.hid h1
  have H2 := Lib.hid h2
  have H3 := Lib.hid h3
  have H4 := Lib.hid h4
  have C := Lib.hid h5
  have HU := Lib.hid h6
  clear h1 h2 h3 h4 h5 h6 hT hq hr hk hs hx
  go_enter Try.func4, Try.ntmps4
  go_wp2_with (first
    | (go_at_call 14; ((with_reducible refine (H1.out _).mono ?_); rintro e w1 ⟨rfl, hu⟩; have hu := hu.trans (Up.alloc w1 (.cells #[.int .i64 i, .int .i64 j, .string m] 23)); have HU := Lib.hid (HU.out.trans hu); obtain ⟨d0, d1, d2⟩ := keep3 hu C.out; have D := Lib.hid (tri (Go.heap_alloc_new w1 (.cells #[.int .i64 i, .int .i64 j, .string m] 23))); have C := Lib.hid (keep3 hu C.out); clear hu))
    | (go_at_call 15; ((with_reducible refine (H2.out _).mono ?_); rintro e w2 ⟨rfl, hu⟩)))
  have hu2 := hu.trans (Up.alloc w2 (.cells #[.int .i64 i, .int .i64 j, .string m] 23))
  have hS := And.intro (HU.out.trans hu2) (And.intro (keep3 hu2 C.out) (And.intro (keep3 hu2 D.out) (tri (Go.heap_alloc_new w2 (.cells #[.int .i64 i, .int .i64 j, .string m] 23)))))
  clear hu hu2 d0 d1 d2 C D HU H1 H2
  obtain ⟨W, hW⟩ : ∃ W, w2.alloc (.cells #[.int .i64 i, .int .i64 j, .string m] 23) = W := ⟨_, rfl⟩
  obtain ⟨L, hL⟩ : ∃ L, w.heap.size = L := ⟨_, rfl⟩
  obtain ⟨M, hM⟩ : ∃ M, w1.heap.size = M := ⟨_, rfl⟩
  obtain ⟨N, hN⟩ : ∃ N, w2.heap.size = N := ⟨_, rfl⟩
  simp only [hW, hL, hM, hN] at hS ⊢
  have HK := Lib.hid (fun W => wakes_any W)
  clear hW hL hM hN
  go_region_held3 (fun w' => Up w w' ∧ (w'.cell? ⟨L, 0, none⟩ = some (.int .i64 p) ∧ w'.cell? ⟨L, 1, none⟩ = some (.int .i64 d) ∧ w'.cell? ⟨L, 2, none⟩ = some (.string x)) ∧ (w'.cell? ⟨M, 0, none⟩ = some (.int .i64 i) ∧ w'.cell? ⟨M, 1, none⟩ = some (.int .i64 j) ∧ w'.cell? ⟨M, 2, none⟩ = some (.string m)) ∧ (w'.cell? ⟨N, 0, none⟩ = some (.int .i64 i) ∧ w'.cell? ⟨N, 1, none⟩ = some (.int .i64 j) ∧ w'.cell? ⟨N, 2, none⟩ = some (.string m)))
    (first | assumption | with_reducible exact keep10 hu3 (by assumption) | with_reducible exact keep10 (Up.drew _) (by assumption))
    (first
      | (go_at_call 16; ((with_reducible refine (H3.out _).mono ?_); rintro e w3 ⟨rfl, hu3⟩))
      | (go_at_call 17; ((with_reducible refine (H4.out _).mono ?_); rintro e w3 ⟨rfl, hu3⟩))
      | (go_at_call 13; ((with_reducible refine (HK.out _).mono ?_); rintro e w3 ⟨rfl, hu3⟩)))
  have hH : Up w w3 ∧ (w3.cell? ⟨L, 0, none⟩ = some (.int .i64 p) ∧ w3.cell? ⟨L, 1, none⟩ = some (.int .i64 d) ∧ w3.cell? ⟨L, 2, none⟩ = some (.string x)) ∧ (w3.cell? ⟨M, 0, none⟩ = some (.int .i64 i) ∧ w3.cell? ⟨M, 1, none⟩ = some (.int .i64 j) ∧ w3.cell? ⟨M, 2, none⟩ = some (.string m)) ∧ (w3.cell? ⟨N, 0, none⟩ = some (.int .i64 i) ∧ w3.cell? ⟨N, 1, none⟩ = some (.int .i64 j) ∧ w3.cell? ⟨N, 2, none⟩ = some (.string m)) := by assumption
  go_wp2
  go_ret
  exact ⟨rfl, hH.1⟩
set_option maxRecDepth 100000 in
set_option maxHeartbeats 1000000 in
theorem diffs_walk (w : World) (a b : ByteArray) (ha : a.size ≤ 140737488355328) (hb : b.size ≤ 140737488355328) :
    Calls Try.prog 5 #[.string a, .string b] w fun e w' => e = .returned (.bool true) ∧ Up w w' := by
  have h1 := fun W => diff_any a b ha hb W
  have h2 := fun W => refDiff_any a b ha hb W
  obtain ⟨⟨i, j, m⟩, hT⟩ : ∃ T, dfE a b = T := ⟨_, rfl⟩
  rw [hT] at h1 h2
  unfold edV at h1 h2
  dsimp only at h1 h2
  have H1 := Lib.hid h1
  have H2 := Lib.hid h2
  have HK := Lib.hid (fun W => wakes_any W)
  clear h1 h2 hT ha hb
  go_enter Try.func5, Try.ntmps5
  go_wp2_with (first
    | (go_at_call 18; ((with_reducible refine (H1.out _).mono ?_); rintro e w1 ⟨rfl, hu⟩; have HU := Lib.hid hu; clear hu))
    | (go_at_call 19; ((with_reducible refine (H2.out _).mono ?_); rintro e w2 ⟨rfl, hu⟩; have HU := Lib.hid (HU.out.trans hu); clear hu))
    | (go_at_call 13; ((with_reducible refine (HK.out _).mono ?_); rintro e w3 ⟨rfl, hu⟩; have HU := Lib.hid (HU.out.trans hu); clear hu)))
  go_ret
  exact ⟨rfl, HU.out⟩
end Go.Proofs.Ytkdnhdjmlinglaa
