/- The program's Under. -/
import Derived.Test.YtopdbilkpkgccaaDoorMkP4
namespace Go.Proofs.YtopdbilkpkgccaaDoor
open Go.RowKit Go.Shelf

set_option maxRecDepth 100000 in
set_option maxHeartbeats 4000000 in
theorem pUnder_any (s : ByteArray) (a : Int) (w : World) (hs : (s.size : Int) ≤ 1000000) :
    Calls Tryd.prog 9 #[.string s, .int .i64 a] w fun e w' => e = .returned (mkV (underL a.toNat (restL (bl s) a))) ∧ Up w w' := by
  have HRe0 := (fun W => rest_any s a W hs)
  have HW := Lib.hid (NewM.new w 23)
  have hbl := restB_bl s a
  have hsz := restB_size s a
  rw [← hbl]
  obtain ⟨o, ho⟩ : ∃ o, restB s a = o := ⟨_, rfl⟩
  rw [ho] at HRe0 hbl hsz ⊢
  have HRe := Lib.hid HRe0
  rcases Nat.eq_zero_or_pos o.size with ho0 | ho0
  · have hoe : o = ⟨#[]⟩ := by
      apply ByteArray.ext
      exact Array.eq_empty_of_size_eq_zero ho0
    clear HRe0 hbl ho hsz hs ho0
    subst hoe
    go_enter Tryd.func9, Tryd.ntmps9
    go_wp2_with (first
      | (go_at_call 15; ((with_reducible refine (HRe.out _).mono ?_); rintro e1 w1 ⟨rfl, h1⟩; have HW1 := Lib.hid (HW.out.more h1.up); clear h1 HW; obtain ⟨r0, r1, r2, r3, r4, r5⟩ := mk_cells HW1.out.box; obtain ⟨f0, f1, f2, f3, f4, f5⟩ := mk_frz HW1.out.box)))
    have hx := mk_box HW1.out.box (.int .u8 0) (.int .i64 0) (.int .i64 0) (.int .i64 0) (.int .i64 0) (.int .i64 0)
    obtain ⟨g0, g1, g2, g3, g4, g5⟩ := mk_cells hx
    try simp only [Exit.inBlock, Exit.then]
    refine bodyPost_ret (v := .tuple #[.agg #[.int .u8 0, .int .i64 0, .int .i64 0, .int .i64 0, .int .i64 0, .int .i64 0], .bool false]) (by simp [results, Tryd.results9, go_sem, g0, g1, g2, g3, g4, g5]) rfl ⟨?_, (mk_up HW1.out.up (Nat.le_refl _) _ _ _ _ _ _)⟩
    rfl
  obtain ⟨p, hap, hps⟩ : ∃ p : Nat, a = (p : Int) ∧ p < s.size := by
    cases hout : outE s a with
    | true =>
      rw [rest_out hout] at hbl
      have := congrArg List.length hbl
      rw [bl_len, List.length_nil] at this
      omega
    | false =>
      obtain ⟨p, h1, h2⟩ := out_in hout
      exact ⟨p, h1, by have := own_le s; omega⟩
  subst hap
  rw [Int.toNat_natCast]
  obtain ⟨c, hc⟩ : ∃ c, bt o 0 = c := ⟨_, rfl⟩
  have hx0 : o[0].toNat = c := by rw [bt_eq ho0]; exact hc
  have hc256 : c < 256 := by rw [← hc]; exact bt_lt o 0
  have hd : bl o = c :: (bl o).drop 1 := by
    have := bl_drop ho0
    rw [List.drop_zero, hc] at this
    exact this
  have p1 : (0 : Int) < o.size := by omega
  have hne : o.toList.isEmpty = false := by
    rw [Lib.toList_data]
    cases hq : o.data.toList with
    | nil => have := Lib.size_eq o; rw [hq, List.length_nil] at this; omega
    | cons x r => rfl
  have hl := rwL_le (· == c) (bl o)
  rw [bl_len] at hl
  obtain ⟨n, hn⟩ : ∃ n, rwL (· == c) (bl o) = n := ⟨_, rfl⟩
  rw [hn] at hl
  have HLa0 := (fun W => last_any o n W (by omega) hl)
  obtain ⟨L, hL⟩ : ∃ L, laL ((bl o).drop n) = L := ⟨_, rfl⟩
  rw [hL] at HLa0
  have HSm := Lib.hid (fun W => same_any c W)
  have HRw := Lib.hid (fun (W : World) (b : Nat) (hc : W.cell? ⟨b, 0, none⟩ = some (.int .u8 (c : Nat))) => by
    have h := rowSm_any o c b W (by omega) hc
    rw [hn] at h
    exact h)
  have hD : underL p (bl o) = if (c = 61 ∨ c = 45) ∧ L = 0 then (⟨c, n, 0, 0, 0, p + n⟩, true) else (noM, false) := by
    rw [← hL]
    rw [hd] at hn ⊢
    exact underL_cons hn
  rw [hD]
  have HIx0 := (fun W => idx_any ⟨#[61, 45]⟩ c hc256 W)
  rw [show bl ⟨#[61, 45]⟩ = [61, 45] from rfl] at HIx0
  have HE := Lib.hid (show IntKind.i64.wrap ((p : Int) + (n : Nat)) = ((p + n : Nat) : Int) from (IntWalk.i64_in _ (by omega)).trans (by omega))
  obtain ⟨V, hV⟩ : ∃ V, p + n = V := ⟨_, rfl⟩
  rw [hV] at HE ⊢
  clear hD hd hn hL hc HRe0 hbl ho hsz hs hps hl hV
  by_cases hcc : c = 61 ∨ c = 45
  case neg =>
    have HIx := Lib.hid (fun W => (HIx0 W).mono fun e w' ⟨r, h1, h2, h3⟩ => (⟨r, h1, h2.2 (by simp; omega), h3⟩ : ∃ r : Int, e = Ending.returned (.int .i64 r) ∧ r < 0 ∧ W = w'))
    rw [if_neg (fun h => hcc h.1)]
    clear HIx0 hcc HLa0 HE
    go_enter Tryd.func9, Tryd.ntmps9
    go_wp2_with (first
      | (go_at_call 15; ((with_reducible refine (HRe.out _).mono ?_); rintro e1 w1 ⟨rfl, h1⟩; have HW1 := Lib.hid (HW.out.more h1.up); clear h1 HW; obtain ⟨r0, r1, r2, r3, r4, r5⟩ := mk_cells HW1.out.box; obtain ⟨f0, f1, f2, f3, f4, f5⟩ := mk_frz HW1.out.box))
      | (go_at_call 16; ((with_reducible refine (HIx.out _).mono ?_); rintro e1 w2 ⟨r, rfl, hr, rfl⟩)))
    have hx := mk_box HW1.out.box (.int .u8 0) (.int .i64 0) (.int .i64 0) (.int .i64 0) (.int .i64 0) (.int .i64 0)
    obtain ⟨g0, g1, g2, g3, g4, g5⟩ := mk_cells hx
    try simp only [Exit.inBlock, Exit.then]
    refine bodyPost_ret (v := .tuple #[.agg #[.int .u8 0, .int .i64 0, .int .i64 0, .int .i64 0, .int .i64 0, .int .i64 0], .bool false]) (by simp [results, Tryd.results9, go_sem, g0, g1, g2, g3, g4, g5]) rfl ⟨?_, (mk_up HW1.out.up (Nat.le_refl _) _ _ _ _ _ _)⟩
    rfl
  have HIx := Lib.hid (fun W => (HIx0 W).mono fun e w' ⟨r, h1, h2, h3⟩ => (⟨r, h1, fun k => h2.1 k (by simp; omega), h3⟩ : ∃ r : Int, e = Ending.returned (.int .i64 r) ∧ ¬ (r < 0) ∧ W = w'))
  by_cases hL0 : L = 0
  case neg =>
    obtain ⟨M, hM⟩ : ∃ M, n + L = M := ⟨_, rfl⟩
    have t3 : (n : Int) < (M : Int) := by omega
    rw [hM] at HLa0
    have HLa := Lib.hid HLa0
    rw [if_neg (fun h => hL0 h.2)]
    clear HIx0 hcc HLa0 hM hL0 HE
    go_enter Tryd.func9, Tryd.ntmps9
    go_wp2_with (first
      | (go_at_call 15; ((with_reducible refine (HRe.out _).mono ?_); rintro e1 w1 ⟨rfl, h1⟩; have HW1 := Lib.hid (HW.out.more h1.up); clear h1 HW; obtain ⟨r0, r1, r2, r3, r4, r5⟩ := mk_cells HW1.out.box; obtain ⟨f0, f1, f2, f3, f4, f5⟩ := mk_frz HW1.out.box))
      | (go_at_call 16; ((with_reducible refine (HIx.out _).mono ?_); rintro e1 w2 ⟨r, rfl, hr, rfl⟩))
      | (go_at_call 17; ((with_reducible refine (HSm.out _).mono ?_); rintro e1 w3 ⟨b, rfl, hb0, hb, hu3⟩; have HBx := Lib.hid hb; have HW2 := Lib.hid (HW1.out.more hu3); clear HW1 r0 r1 r2 r3 r4 r5 f0 f1 f2 f3 f4 f5; have HW1 := HW2; clear HW2; obtain ⟨r0, r1, r2, r3, r4, r5⟩ := mk_cells HW1.out.box; obtain ⟨f0, f1, f2, f3, f4, f5⟩ := mk_frz HW1.out.box; clear hb hb0 hu3))
      | (go_at_call 18; ((with_reducible refine (HRw.out _ _ HBx.out).mono ?_); rintro e1 w4 ⟨rfl, rfl⟩))
      | (go_at_call 21; ((with_reducible refine (HLa.out _).mono ?_); rintro e1 w5 ⟨rfl, hu5⟩; have HW2 := Lib.hid (HW1.out.more hu5); clear HW1 r0 r1 r2 r3 r4 r5 f0 f1 f2 f3 f4 f5; have HW1 := HW2; clear HW2; obtain ⟨r0, r1, r2, r3, r4, r5⟩ := mk_cells HW1.out.box; obtain ⟨f0, f1, f2, f3, f4, f5⟩ := mk_frz HW1.out.box; clear hu5)))
    have hx := mk_box HW1.out.box (.int .u8 0) (.int .i64 0) (.int .i64 0) (.int .i64 0) (.int .i64 0) (.int .i64 0)
    obtain ⟨g0, g1, g2, g3, g4, g5⟩ := mk_cells hx
    try simp only [Exit.inBlock, Exit.then]
    refine bodyPost_ret (v := .tuple #[.agg #[.int .u8 0, .int .i64 0, .int .i64 0, .int .i64 0, .int .i64 0, .int .i64 0], .bool false]) (by simp [results, Tryd.results9, go_sem, g0, g1, g2, g3, g4, g5]) rfl ⟨?_, (mk_up HW1.out.up (Nat.le_refl _) _ _ _ _ _ _)⟩
    rfl
  subst hL0
  rw [Nat.add_zero] at HLa0
  have HLa := Lib.hid HLa0
  rw [if_pos ⟨hcc, rfl⟩]
  clear HIx0 hcc HLa0
  have e1 := HE.out
  go_enter Tryd.func9, Tryd.ntmps9
  go_wp2_with (first
    | (go_at_call 15; ((with_reducible refine (HRe.out _).mono ?_); rintro e1 w1 ⟨rfl, h1⟩; have HW1 := Lib.hid (HW.out.more h1.up); clear h1 HW; obtain ⟨r0, r1, r2, r3, r4, r5⟩ := mk_cells HW1.out.box; obtain ⟨f0, f1, f2, f3, f4, f5⟩ := mk_frz HW1.out.box))
    | (go_at_call 16; ((with_reducible refine (HIx.out _).mono ?_); rintro e1 w2 ⟨r, rfl, hr, rfl⟩))
    | (go_at_call 17; ((with_reducible refine (HSm.out _).mono ?_); rintro e1 w3 ⟨b, rfl, hb0, hb, hu3⟩; have HBx := Lib.hid hb; have HW2 := Lib.hid (HW1.out.more hu3); clear HW1 r0 r1 r2 r3 r4 r5 f0 f1 f2 f3 f4 f5; have HW1 := HW2; clear HW2; obtain ⟨r0, r1, r2, r3, r4, r5⟩ := mk_cells HW1.out.box; obtain ⟨f0, f1, f2, f3, f4, f5⟩ := mk_frz HW1.out.box; clear hb hb0 hu3))
    | (go_at_call 18; ((with_reducible refine (HRw.out _ _ HBx.out).mono ?_); rintro e1 w4 ⟨rfl, rfl⟩))
    | (go_at_call 21; ((with_reducible refine (HLa.out _).mono ?_); rintro e1 w5 ⟨rfl, hu5⟩; have HW2 := Lib.hid (HW1.out.more hu5); clear HW1 r0 r1 r2 r3 r4 r5 f0 f1 f2 f3 f4 f5; have HW1 := HW2; clear HW2; obtain ⟨r0, r1, r2, r3, r4, r5⟩ := mk_cells HW1.out.box; obtain ⟨f0, f1, f2, f3, f4, f5⟩ := mk_frz HW1.out.box; clear hu5)))
  have hx := mk_box HW1.out.box (.int .u8 (c : Nat)) (.int .i64 (n : Nat)) (.int .i64 0) (.int .i64 0) (.int .i64 0) (.int .i64 (V : Nat))
  obtain ⟨g0, g1, g2, g3, g4, g5⟩ := mk_cells hx
  try simp only [Exit.inBlock, Exit.then]
  refine bodyPost_ret (v := .tuple #[.agg #[.int .u8 (c : Nat), .int .i64 (n : Nat), .int .i64 0, .int .i64 0, .int .i64 0, .int .i64 (V : Nat)], .bool true]) (by simp [results, Tryd.results9, go_sem, g0, g1, g2, g3, g4, g5]) rfl ⟨?_, (mk_up HW1.out.up (Nat.le_refl _) _ _ _ _ _ _)⟩
  rfl
end Go.Proofs.YtopdbilkpkgccaaDoor
