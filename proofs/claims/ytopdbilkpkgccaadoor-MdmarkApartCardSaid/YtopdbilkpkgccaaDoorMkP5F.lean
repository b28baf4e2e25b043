/- The program's Fence. -/
import Derived.Test.YtopdbilkpkgccaaDoorMkP4
namespace Go.Proofs.YtopdbilkpkgccaaDoor
open Go.RowKit Go.Shelf

set_option maxRecDepth 100000 in
set_option maxHeartbeats 4000000 in
theorem pFence_any (s : ByteArray) (a : Int) (w : World) (hs : (s.size : Int) ≤ 1000000) :
    Calls Tryd.prog 10 #[.string s, .int .i64 a] w fun e w' => e = .returned (mkV (fenceL a.toNat (restL (bl s) a))) ∧ Up w w' := by
  have HRe0 := (fun W => rest_any s a W hs)
  have HW := Lib.hid (NewM.new w 23)
  have hbl := restB_bl s a
  have hsz := restB_size s a
  rw [← hbl]
  obtain ⟨o, ho⟩ : ∃ o, restB s a = o := ⟨_, rfl⟩
  rw [ho] at HRe0 hbl hsz ⊢
  have HRe := Lib.hid HRe0
  rcases Nat.eq_zero_or_pos o.size with ho0 | ho0
  · have hoe : o = ⟨#[]⟩ := by
      apply ByteArray.ext
      exact Array.eq_empty_of_size_eq_zero ho0
    clear HRe0 hbl ho hsz hs ho0
    subst hoe
    go_enter Tryd.func10, Tryd.ntmps10
    go_wp2_with (first
      | (go_at_call 15; ((with_reducible refine (HRe.out _).mono ?_); rintro e1 w1 ⟨rfl, h1⟩; have HW1 := Lib.hid (HW.out.more h1.up); clear h1 HW; obtain ⟨r0, r1, r2, r3, r4, r5⟩ := mk_cells HW1.out.box; obtain ⟨f0, f1, f2, f3, f4, f5⟩ := mk_frz HW1.out.box)))
    have hx := mk_box HW1.out.box (.int .u8 0) (.int .i64 0) (.int .i64 0) (.int .i64 0) (.int .i64 0) (.int .i64 0)
    obtain ⟨g0, g1, g2, g3, g4, g5⟩ := mk_cells hx
    try simp only [Exit.inBlock, Exit.then]
    refine bodyPost_ret (v := .tuple #[.agg #[.int .u8 0, .int .i64 0, .int .i64 0, .int .i64 0, .int .i64 0, .int .i64 0], .bool false]) (by simp [results, Tryd.results10, go_sem, g0, g1, g2, g3, g4, g5]) rfl ⟨?_, (mk_up HW1.out.up (Nat.le_refl _) _ _ _ _ _ _)⟩
    rfl
  obtain ⟨p, hap, hps⟩ : ∃ p : Nat, a = (p : Int) ∧ p < s.size := by
    cases hout : outE s a with
    | true =>
      rw [rest_out hout] at hbl
      have := congrArg List.length hbl
      rw [bl_len, List.length_nil] at this
      omega
    | false =>
      obtain ⟨p, h1, h2⟩ := out_in hout
      exact ⟨p, h1, by have := own_le s; omega⟩
  subst hap
  rw [Int.toNat_natCast]
  obtain ⟨c, hc⟩ : ∃ c, bt o 0 = c := ⟨_, rfl⟩
  have hx0 : o[0].toNat = c := by rw [bt_eq ho0]; exact hc
  have hc256 : c < 256 := by rw [← hc]; exact bt_lt o 0
  have hd : bl o = c :: (bl o).drop 1 := by
    have := bl_drop ho0
    rw [List.drop_zero, hc] at this
    exact this
  have p1 : (0 : Int) < o.size := by omega
  have hne : o.toList.isEmpty = false := by
    rw [Lib.toList_data]
    cases hq : o.data.toList with
    | nil => have := Lib.size_eq o; rw [hq, List.length_nil] at this; omega
    | cons x r => rfl
  have hl := rwL_le (· == c) (bl o)
  rw [bl_len] at hl
  obtain ⟨n, hn⟩ : ∃ n, rwL (· == c) (bl o) = n := ⟨_, rfl⟩
  rw [hn] at hl
  have HLa0 := (fun W => last_any o n W (by omega) hl)
  obtain ⟨L, hL⟩ : ∃ L, laL ((bl o).drop n) = L := ⟨_, rfl⟩
  have hLl := laL_le ((bl o).drop n)
  rw [List.length_drop, bl_len, hL] at hLl
  rw [hL] at HLa0
  have HSm := Lib.hid (fun W => same_any c W)
  have HRw := Lib.hid (fun (W : World) (b : Nat) (hc : W.cell? ⟨b, 0, none⟩ = some (.int .u8 (c : Nat))) => by
    have h := rowSm_any o c b W (by omega) hc
    rw [hn] at h
    exact h)
  have HCo0 := (fun W => con_any (o.extract n o.size) W)
  rw [← drop_bytes] at HCo0
  have hD : fenceL p (bl o) = if (c = 126 ∨ c = 96) ∧ 3 ≤ n ∧ (c = 96 → 96 ∉ (bl o).drop n) then (⟨c, n, p + n, 0, 0, p + n + L⟩, true) else (noM, false) := by
    rw [← hL]
    rw [hd] at hn ⊢
    exact fenceL_cons hn
  rw [hD]
  have HIx0 := (fun W => idx_any ⟨#[126, 96]⟩ c hc256 W)
  rw [show bl ⟨#[126, 96]⟩ = [126, 96] from rfl] at HIx0
  obtain ⟨G, hG⟩ : ∃ G, decide (96 ∈ (bl o).drop n) = G := ⟨_, rfl⟩
  rw [hG] at HCo0
  have HCo := Lib.hid HCo0
  obtain ⟨M, hM⟩ : ∃ M, n + L = M := ⟨_, rfl⟩
  rw [hM] at HLa0
  have HLa := Lib.hid HLa0
  obtain ⟨V, hV⟩ : ∃ V, p + n = V := ⟨_, rfl⟩
  obtain ⟨Y, hY⟩ : ∃ Y, p + n + L = Y := ⟨_, rfl⟩
  have HE := Lib.hid (show IntKind.i64.wrap ((p : Int) + (n : Nat)) = (V : Nat) from (IntWalk.i64_in _ (by omega)).trans (by omega))
  have HE2 := Lib.hid (show IntKind.i64.wrap ((p : Int) + (M : Nat)) = (Y : Nat) from (IntWalk.i64_in _ (by omega)).trans (by omega))
  rw [hY, hV]
  have q0 : (0 : Int) ≤ (n : Int) := by omega
  have q1 : (n : Int) ≤ (o.size : Int) := by omega
  clear hD hd hn hL hc HRe0 hbl ho hsz hs hps hl hV hLl hM hY HLa0 HCo0
  by_cases hcc : c = 126 ∨ c = 96
  case neg =>
    have HIx := Lib.hid (fun W => (HIx0 W).mono fun e w' ⟨r, h1, h2, h3⟩ => (⟨r, h1, h2.2 (by simp; omega), h3⟩ : ∃ r : Int, e = Ending.returned (.int .i64 r) ∧ r < 0 ∧ W = w'))
    rw [if_neg (fun h => hcc h.1)]
    clear HIx0 hcc HE HE2 hG
    go_enter Tryd.func10, Tryd.ntmps10
    go_wp2_with (first
      | (go_at_call 15; ((with_reducible refine (HRe.out _).mono ?_); rintro e1 w1 ⟨rfl, h1⟩; have HW1 := Lib.hid (HW.out.more h1.up); clear h1 HW; obtain ⟨r0, r1, r2, r3, r4, r5⟩ := mk_cells HW1.out.box; obtain ⟨f0, f1, f2, f3, f4, f5⟩ := mk_frz HW1.out.box))
      | (go_at_call 16; ((with_reducible refine (HIx.out _).mono ?_); rintro e1 w2 ⟨r, rfl, hr, rfl⟩)))
    have hx := mk_box HW1.out.box (.int .u8 0) (.int .i64 0) (.int .i64 0) (.int .i64 0) (.int .i64 0) (.int .i64 0)
    obtain ⟨g0, g1, g2, g3, g4, g5⟩ := mk_cells hx
    try simp only [Exit.inBlock, Exit.then]
    refine bodyPost_ret (v := .tuple #[.agg #[.int .u8 0, .int .i64 0, .int .i64 0, .int .i64 0, .int .i64 0, .int .i64 0], .bool false]) (by simp [results, Tryd.results10, go_sem, g0, g1, g2, g3, g4, g5]) rfl ⟨?_, (mk_up HW1.out.up (Nat.le_refl _) _ _ _ _ _ _)⟩
    rfl
  have HIx := Lib.hid (fun W => (HIx0 W).mono fun e w' ⟨r, h1, h2, h3⟩ => (⟨r, h1, fun k => h2.1 k (by simp; omega), h3⟩ : ∃ r : Int, e = Ending.returned (.int .i64 r) ∧ ¬ (r < 0) ∧ W = w'))
  by_cases h3 : 3 ≤ n
  case neg =>
    have t3 : (n : Int) < 3 := by omega
    rw [if_neg (fun h => h3 h.2.1)]
    clear HIx0 hcc h3 HE HE2 hG
    go_enter Tryd.func10, Tryd.ntmps10
    go_wp2_with (first
      | (go_at_call 15; ((with_reducible refine (HRe.out _).mono ?_); rintro e1 w1 ⟨rfl, h1⟩; have HW1 := Lib.hid (HW.out.more h1.up); clear h1 HW; obtain ⟨r0, r1, r2, r3, r4, r5⟩ := mk_cells HW1.out.box; obtain ⟨f0, f1, f2, f3, f4, f5⟩ := mk_frz HW1.out.box))
      | (go_at_call 16; ((with_reducible refine (HIx.out _).mono ?_); rintro e1 w2 ⟨r, rfl, hr, rfl⟩))
      | (go_at_call 17; ((with_reducible refine (HSm.out _).mono ?_); rintro e1 w3 ⟨b, rfl, hb0, hb, hu3⟩; have HBx := Lib.hid hb; have HW2 := Lib.hid (HW1.out.more hu3); clear HW1 r0 r1 r2 r3 r4 r5 f0 f1 f2 f3 f4 f5; have HW1 := HW2; clear HW2; obtain ⟨r0, r1, r2, r3, r4, r5⟩ := mk_cells HW1.out.box; obtain ⟨f0, f1, f2, f3, f4, f5⟩ := mk_frz HW1.out.box; clear hb hb0 hu3))
      | (go_at_call 18; ((with_reducible refine (HRw.out _ _ HBx.out).mono ?_); rintro e1 w4 ⟨rfl, rfl⟩)))
    have hx := mk_box HW1.out.box (.int .u8 0) (.int .i64 0) (.int .i64 0) (.int .i64 0) (.int .i64 0) (.int .i64 0)
    obtain ⟨g0, g1, g2, g3, g4, g5⟩ := mk_cells hx
    try simp only [Exit.inBlock, Exit.then]
    refine bodyPost_ret (v := .tuple #[.agg #[.int .u8 0, .int .i64 0, .int .i64 0, .int .i64 0, .int .i64 0, .int .i64 0], .bool false]) (by simp [results, Tryd.results10, go_sem, g0, g1, g2, g3, g4, g5]) rfl ⟨?_, (mk_up HW1.out.up (Nat.le_refl _) _ _ _ _ _ _)⟩
    rfl
  have t3 : ¬ ((n : Int) < 3) := by omega
  by_cases h96 : c = 96
  · have t4 : ((c : Int) == 96) = true := by rw [h96]; rfl
    cases G with
    | true =>
      rw [if_neg (fun h => h.2.2 h96 (of_decide_eq_true hG))]
      clear HIx0 hcc h3 h96 HE HE2 hG
      go_enter Tryd.func10, Tryd.ntmps10
      go_wp2_with (first
        | (go_at_call 15; ((with_reducible refine (HRe.out _).mono ?_); rintro e1 w1 ⟨rfl, h1⟩; have HW1 := Lib.hid (HW.out.more h1.up); clear h1 HW; obtain ⟨r0, r1, r2, r3, r4, r5⟩ := mk_cells HW1.out.box; obtain ⟨f0, f1, f2, f3, f4, f5⟩ := mk_frz HW1.out.box))
        | (go_at_call 16; ((with_reducible refine (HIx.out _).mono ?_); rintro e1 w2 ⟨r, rfl, hr, rfl⟩))
        | (go_at_call 17; ((with_reducible refine (HSm.out _).mono ?_); rintro e1 w3 ⟨b, rfl, hb0, hb, hu3⟩; have HBx := Lib.hid hb; have HW2 := Lib.hid (HW1.out.more hu3); clear HW1 r0 r1 r2 r3 r4 r5 f0 f1 f2 f3 f4 f5; have HW1 := HW2; clear HW2; obtain ⟨r0, r1, r2, r3, r4, r5⟩ := mk_cells HW1.out.box; obtain ⟨f0, f1, f2, f3, f4, f5⟩ := mk_frz HW1.out.box; clear hb hb0 hu3))
        | (go_at_call 18; ((with_reducible refine (HRw.out _ _ HBx.out).mono ?_); rintro e1 w4 ⟨rfl, rfl⟩))
        | (go_at_call 24; ((with_reducible refine (HCo.out _).mono ?_); rintro e1 w6 ⟨rfl, rfl⟩)))
      have hx := mk_box HW1.out.box (.int .u8 0) (.int .i64 0) (.int .i64 0) (.int .i64 0) (.int .i64 0) (.int .i64 0)
      obtain ⟨g0, g1, g2, g3, g4, g5⟩ := mk_cells hx
      try simp only [Exit.inBlock, Exit.then]
      refine bodyPost_ret (v := .tuple #[.agg #[.int .u8 0, .int .i64 0, .int .i64 0, .int .i64 0, .int .i64 0, .int .i64 0], .bool false]) (by simp [results, Tryd.results10, go_sem, g0, g1, g2, g3, g4, g5]) rfl ⟨?_, (mk_up HW1.out.up (Nat.le_refl _) _ _ _ _ _ _)⟩
      rfl
    | false =>
      rw [if_pos ⟨hcc, h3, fun _ => of_decide_eq_false hG⟩]
      clear HIx0 hcc h3 h96 hG
      have e1 := HE.out
      have e2 := HE2.out
      go_enter Tryd.func10, Tryd.ntmps10
      go_wp2_with (first
        | (go_at_call 15; ((with_reducible refine (HRe.out _).mono ?_); rintro e1 w1 ⟨rfl, h1⟩; have HW1 := Lib.hid (HW.out.more h1.up); clear h1 HW; obtain ⟨r0, r1, r2, r3, r4, r5⟩ := mk_cells HW1.out.box; obtain ⟨f0, f1, f2, f3, f4, f5⟩ := mk_frz HW1.out.box))
        | (go_at_call 16; ((with_reducible refine (HIx.out _).mono ?_); rintro e1 w2 ⟨r, rfl, hr, rfl⟩))
        | (go_at_call 17; ((with_reducible refine (HSm.out _).mono ?_); rintro e1 w3 ⟨b, rfl, hb0, hb, hu3⟩; have HBx := Lib.hid hb; have HW2 := Lib.hid (HW1.out.more hu3); clear HW1 r0 r1 r2 r3 r4 r5 f0 f1 f2 f3 f4 f5; have HW1 := HW2; clear HW2; obtain ⟨r0, r1, r2, r3, r4, r5⟩ := mk_cells HW1.out.box; obtain ⟨f0, f1, f2, f3, f4, f5⟩ := mk_frz HW1.out.box; clear hb hb0 hu3))
        | (go_at_call 18; ((with_reducible refine (HRw.out _ _ HBx.out).mono ?_); rintro e1 w4 ⟨rfl, rfl⟩))
        | (go_at_call 24; ((with_reducible refine (HCo.out _).mono ?_); rintro e1 w6 ⟨rfl, rfl⟩)))
      go_region_law (first | (go_simp; (go_at_call 21; ((with_reducible refine (HLa.out _).mono ?_); rintro e1 w5 ⟨rfl, hu5⟩; have HW2 := Lib.hid (HW1.out.more ((Up.drew _).trans hu5)); clear HW1 r0 r1 r2 r3 r4 r5 f0 f1 f2 f3 f4 f5; have HW1 := HW2; clear HW2; obtain ⟨r0, r1, r2, r3, r4, r5⟩ := mk_cells HW1.out.box; obtain ⟨f0, f1, f2, f3, f4, f5⟩ := mk_frz HW1.out.box; clear hu5))))
      all_goals
        go_wp2
        have hx := mk_box HW1.out.box (.int .u8 (c : Nat)) (.int .i64 (n : Nat)) (.int .i64 (V : Nat)) (.int .i64 0) (.int .i64 0) (.int .i64 (Y : Nat))
        obtain ⟨g0, g1, g2, g3, g4, g5⟩ := mk_cells hx
        try simp only [Exit.inBlock, Exit.then]
        refine bodyPost_ret (v := .tuple #[.agg #[.int .u8 (c : Nat), .int .i64 (n : Nat), .int .i64 (V : Nat), .int .i64 0, .int .i64 0, .int .i64 (Y : Nat)], .bool true]) (by simp [results, Tryd.results10, go_sem, g0, g1, g2, g3, g4, g5]) rfl ⟨?_, (mk_up HW1.out.up (Nat.le_refl _) _ _ _ _ _ _)⟩
        rfl
  · have t4 : ((c : Int) == 96) = false := beq_eq_false_iff_ne.2 (by omega)
    rw [if_pos ⟨hcc, h3, fun h => absurd h h96⟩]
    clear HIx0 hcc h3 h96 hG
    have e1 := HE.out
    have e2 := HE2.out
    go_enter Tryd.func10, Tryd.ntmps10
    go_wp2_with (first
      | (go_at_call 15; ((with_reducible refine (HRe.out _).mono ?_); rintro e1 w1 ⟨rfl, h1⟩; have HW1 := Lib.hid (HW.out.more h1.up); clear h1 HW; obtain ⟨r0, r1, r2, r3, r4, r5⟩ := mk_cells HW1.out.box; obtain ⟨f0, f1, f2, f3, f4, f5⟩ := mk_frz HW1.out.box))
      | (go_at_call 16; ((with_reducible refine (HIx.out _).mono ?_); rintro e1 w2 ⟨r, rfl, hr, rfl⟩))
      | (go_at_call 17; ((with_reducible refine (HSm.out _).mono ?_); rintro e1 w3 ⟨b, rfl, hb0, hb, hu3⟩; have HBx := Lib.hid hb; have HW2 := Lib.hid (HW1.out.more hu3); clear HW1 r0 r1 r2 r3 r4 r5 f0 f1 f2 f3 f4 f5; have HW1 := HW2; clear HW2; obtain ⟨r0, r1, r2, r3, r4, r5⟩ := mk_cells HW1.out.box; obtain ⟨f0, f1, f2, f3, f4, f5⟩ := mk_frz HW1.out.box; clear hb hb0 hu3))
      | (go_at_call 18; ((with_reducible refine (HRw.out _ _ HBx.out).mono ?_); rintro e1 w4 ⟨rfl, rfl⟩))
      | (go_at_call 24; ((with_reducible refine (HCo.out _).mono ?_); rintro e1 w6 ⟨rfl, rfl⟩)))
    go_region_law (first | (go_simp; (go_at_call 21; ((with_reducible refine (HLa.out _).mono ?_); rintro e1 w5 ⟨rfl, hu5⟩; have HW2 := Lib.hid (HW1.out.more ((Up.drew _).trans hu5)); clear HW1 r0 r1 r2 r3 r4 r5 f0 f1 f2 f3 f4 f5; have HW1 := HW2; clear HW2; obtain ⟨r0, r1, r2, r3, r4, r5⟩ := mk_cells HW1.out.box; obtain ⟨f0, f1, f2, f3, f4, f5⟩ := mk_frz HW1.out.box; clear hu5))))
    all_goals
      go_wp2
      have hx := mk_box HW1.out.box (.int .u8 (c : Nat)) (.int .i64 (n : Nat)) (.int .i64 (V : Nat)) (.int .i64 0) (.int .i64 0) (.int .i64 (Y : Nat))
      obtain ⟨g0, g1, g2, g3, g4, g5⟩ := mk_cells hx
      try simp only [Exit.inBlock, Exit.then]
      refine bodyPost_ret (v := .tuple #[.agg #[.int .u8 (c : Nat), .int .i64 (n : Nat), .int .i64 (V : Nat), .int .i64 0, .int .i64 0, .int .i64 (Y : Nat)], .bool true]) (by simp [results, Tryd.results10, go_sem, g0, g1, g2, g3, g4, g5]) rfl ⟨?_, (mk_up HW1.out.up (Nat.le_refl _) _ _ _ _ _ _)⟩
      rfl
end Go.Proofs.YtopdbilkpkgccaaDoor
