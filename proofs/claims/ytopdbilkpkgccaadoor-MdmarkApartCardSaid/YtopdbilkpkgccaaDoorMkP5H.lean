/- The program's Head. -/
import Derived.Test.YtopdbilkpkgccaaDoorMkP4
namespace Go.Proofs.YtopdbilkpkgccaaDoor
open Go.RowKit Go.Shelf

theorem rw_all35 (l : List Nat) : ∀ x ∈ l.take (rwL (· == 35) l), x = 35 := by
  intro x hx
  obtain ⟨i, hi, e⟩ := List.mem_iff_getElem.1 hx
  rw [List.length_take] at hi
  obtain ⟨c, hc, hp⟩ := rwL_mem (· == 35) l i (by omega)
  rw [List.getElem_take] at e
  rw [List.getElem?_eq_getElem (by omega)] at hc
  injection hc with hc
  rw [← e, hc]
  simpa using hp
set_option maxRecDepth 100000 in
set_option maxHeartbeats 4000000 in
theorem pHead_any (s : ByteArray) (a : Int) (w : World) (hs : (s.size : Int) ≤ 1000000) :
    Calls Tryd.prog 8 #[.string s, .int .i64 a] w fun e w' => e = .returned (mkV (headL a.toNat (restL (bl s) a))) ∧ Up w w' := by
  have HRe0 := (fun W => rest_any s a W hs)
  have HW := Lib.hid (NewM.new w 23)
  have hbl := restB_bl s a
  have hsz := restB_size s a
  rw [← hbl]
  obtain ⟨o, ho⟩ : ∃ o, restB s a = o := ⟨_, rfl⟩
  rw [ho] at HRe0 hbl hsz ⊢
  have HRe := Lib.hid HRe0
  have hl := rwL_le (· == 35) (bl o)
  rw [bl_len] at hl
  have h35 := rw_all35 (bl o)
  obtain ⟨n, hn⟩ : ∃ n, rwL (· == 35) (bl o) = n := ⟨_, rfl⟩
  rw [hn] at hl h35
  have HSm := Lib.hid (fun W => by have h := same_any 35 W; rw [show ((35 : Nat) : Int) = 35 from rfl] at h; exact h)
  have HRw := Lib.hid (fun (W : World) (b : Nat) (hc : W.cell? ⟨b, 0, none⟩ = some (.int .u8 35)) => by
    have h := rowSm_any o 35 b W (by omega) hc
    rw [hn] at h
    exact h)
  have hD := headL_eq (a := a.toNat) hn
  by_cases hn0 : n = 0
  · rw [hD, if_pos (.inl hn0)]
    clear hD hn HRe0 hbl ho hsz hs hl h35
    subst hn0
    rw [show ((0 : Nat) : Int) = 0 from rfl] at HRw
    go_enter Tryd.func8, Tryd.ntmps8
    go_wp2_with (first
      | (go_at_call 15; ((with_reducible refine (HRe.out _).mono ?_); rintro e1 w1 ⟨rfl, h1⟩; have HW1 := Lib.hid (HW.out.more h1.up); clear h1 HW; obtain ⟨r0, r1, r2, r3, r4, r5⟩ := mk_cells HW1.out.box; obtain ⟨f0, f1, f2, f3, f4, f5⟩ := mk_frz HW1.out.box))
      | (go_at_call 17; ((with_reducible refine (HSm.out _).mono ?_); rintro e1 w3 ⟨b, rfl, hb0, hb, hu3⟩; have HBx := Lib.hid hb; have HW2 := Lib.hid (HW1.out.more hu3); clear HW1 r0 r1 r2 r3 r4 r5 f0 f1 f2 f3 f4 f5; have HW1 := HW2; clear HW2; obtain ⟨r0, r1, r2, r3, r4, r5⟩ := mk_cells HW1.out.box; obtain ⟨f0, f1, f2, f3, f4, f5⟩ := mk_frz HW1.out.box; clear hb hb0 hu3))
      | (go_at_call 18; ((with_reducible refine (HRw.out _ _ HBx.out).mono ?_); rintro e1 w4 ⟨rfl, rfl⟩)))
    have hx := mk_box HW1.out.box (.int .u8 0) (.int .i64 0) (.int .i64 0) (.int .i64 0) (.int .i64 0) (.int .i64 0)
    obtain ⟨g0, g1, g2, g3, g4, g5⟩ := mk_cells hx
    try simp only [Exit.inBlock, Exit.then]
    refine bodyPost_ret (v := .tuple #[.agg #[.int .u8 0, .int .i64 0, .int .i64 0, .int .i64 0, .int .i64 0, .int .i64 0], .bool false]) (by simp [results, Tryd.results8, go_sem, g0, g1, g2, g3, g4, g5]) rfl ⟨?_, (mk_up HW1.out.up (Nat.le_refl _) _ _ _ _ _ _)⟩
    rfl
  obtain ⟨p, hap, hps⟩ : ∃ p : Nat, a = (p : Int) ∧ p < s.size := by
    cases hout : outE s a with
    | true =>
      rw [rest_out hout] at hbl
      have := congrArg List.length hbl
      rw [bl_len, List.length_nil] at this
      omega
    | false =>
      obtain ⟨p, h1, h2⟩ := out_in hout
      exact ⟨p, h1, by have := own_le s; omega⟩
  subst hap
  rw [Int.toNat_natCast] at hD
  rw [Int.toNat_natCast]
  have t0 : ((n : Int) == 0) = false := beq_eq_false_iff_ne.2 (by omega)
  by_cases h6 : 6 < n
  · rw [hD, if_pos (.inr (.inl h6))]
    have t1 : (6 : Int) < (n : Int) := by omega
    clear hD hn HRe0 hbl ho hsz hs hl h35 hn0 h6 hps
    go_enter Tryd.func8, Tryd.ntmps8
    go_wp2_with (first
      | (go_at_call 15; ((with_reducible refine (HRe.out _).mono ?_); rintro e1 w1 ⟨rfl, h1⟩; have HW1 := Lib.hid (HW.out.more h1.up); clear h1 HW; obtain ⟨r0, r1, r2, r3, r4, r5⟩ := mk_cells HW1.out.box; obtain ⟨f0, f1, f2, f3, f4, f5⟩ := mk_frz HW1.out.box))
      | (go_at_call 17; ((with_reducible refine (HSm.out _).mono ?_); rintro e1 w3 ⟨b, rfl, hb0, hb, hu3⟩; have HBx := Lib.hid hb; have HW2 := Lib.hid (HW1.out.more hu3); clear HW1 r0 r1 r2 r3 r4 r5 f0 f1 f2 f3 f4 f5; have HW1 := HW2; clear HW2; obtain ⟨r0, r1, r2, r3, r4, r5⟩ := mk_cells HW1.out.box; obtain ⟨f0, f1, f2, f3, f4, f5⟩ := mk_frz HW1.out.box; clear hb hb0 hu3))
      | (go_at_call 18; ((with_reducible refine (HRw.out _ _ HBx.out).mono ?_); rintro e1 w4 ⟨rfl, rfl⟩)))
    have hx := mk_box HW1.out.box (.int .u8 0) (.int .i64 0) (.int .i64 0) (.int .i64 0) (.int .i64 0) (.int .i64 0)
    obtain ⟨g0, g1, g2, g3, g4, g5⟩ := mk_cells hx
    try simp only [Exit.inBlock, Exit.then]
    refine bodyPost_ret (v := .tuple #[.agg #[.int .u8 0, .int .i64 0, .int .i64 0, .int .i64 0, .int .i64 0, .int .i64 0], .bool false]) (by simp [results, Tryd.results8, go_sem, g0, g1, g2, g3, g4, g5]) rfl ⟨?_, (mk_up HW1.out.up (Nat.le_refl _) _ _ _ _ _ _)⟩
    rfl
  have t1 : ¬ ((6 : Int) < (n : Int)) := by omega
  have HPt0 := (fun W => isPart_any o n W hl)
  obtain ⟨B, hB⟩ : ∃ B, ptL ((bl o).drop n) = B := ⟨_, rfl⟩
  rw [hB] at HPt0 hD
  have HPt := Lib.hid HPt0
  cases B with
  | false =>
    rw [hD, if_pos (.inr (.inr rfl))]
    clear hD hn HRe0 hbl ho hsz hs hl h35 hn0 h6 hps hB HPt0
    go_enter Tryd.func8, Tryd.ntmps8
    go_wp2_with (first
      | (go_at_call 15; ((with_reducible refine (HRe.out _).mono ?_); rintro e1 w1 ⟨rfl, h1⟩; have HW1 := Lib.hid (HW.out.more h1.up); clear h1 HW; obtain ⟨r0, r1, r2, r3, r4, r5⟩ := mk_cells HW1.out.box; obtain ⟨f0, f1, f2, f3, f4, f5⟩ := mk_frz HW1.out.box))
      | (go_at_call 17; ((with_reducible refine (HSm.out _).mono ?_); rintro e1 w3 ⟨b, rfl, hb0, hb, hu3⟩; have HBx := Lib.hid hb; have HW2 := Lib.hid (HW1.out.more hu3); clear HW1 r0 r1 r2 r3 r4 r5 f0 f1 f2 f3 f4 f5; have HW1 := HW2; clear HW2; obtain ⟨r0, r1, r2, r3, r4, r5⟩ := mk_cells HW1.out.box; obtain ⟨f0, f1, f2, f3, f4, f5⟩ := mk_frz HW1.out.box; clear hb hb0 hu3))
      | (go_at_call 18; ((with_reducible refine (HRw.out _ _ HBx.out).mono ?_); rintro e1 w4 ⟨rfl, rfl⟩))
      | (go_at_call 22; ((with_reducible refine (HPt.out _).mono ?_); rintro e1 w6 ⟨rfl, rfl⟩)))
    have hx := mk_box HW1.out.box (.int .u8 0) (.int .i64 0) (.int .i64 0) (.int .i64 0) (.int .i64 0) (.int .i64 0)
    obtain ⟨g0, g1, g2, g3, g4, g5⟩ := mk_cells hx
    try simp only [Exit.inBlock, Exit.then]
    refine bodyPost_ret (v := .tuple #[.agg #[.int .u8 0, .int .i64 0, .int .i64 0, .int .i64 0, .int .i64 0, .int .i64 0], .bool false]) (by simp [results, Tryd.results8, go_sem, g0, g1, g2, g3, g4, g5]) rfl ⟨?_, (mk_up HW1.out.up (Nat.le_refl _) _ _ _ _ _ _)⟩
    rfl
  | true =>
    rw [hD, if_neg (by rintro (h | h | h) <;> first | omega | cases h)]
    have HLa0 := (fun W => last_any o n W (by omega) hl)
    have hLl := laL_le ((bl o).drop n)
    obtain ⟨L, hL⟩ : ∃ L, laL ((bl o).drop n) = L := ⟨_, rfl⟩
    rw [List.length_drop, bl_len, hL] at hLl
    rw [hL] at HLa0
    obtain ⟨h, hh⟩ : ∃ h, ((bl o).drop n).take L = h := ⟨_, rfl⟩
    have hhl : h.length = L := by rw [← hh, List.length_take, List.length_drop, bl_len]; omega
    have hpt : ptL h = true := by
      rw [← hh]
      cases hq : (bl o).drop n with
      | nil => rw [List.take_nil]; rfl
      | cons x r =>
        rw [hq] at hB
        cases L with
        | zero => rfl
        | succ L => exact hB
    have hcon : bl (o.extract 0 (n + L)) = (bl o).take n ++ h := by
      rw [← take_bytes, List.take_add, hh]
    have HCt0 := (fun W => content_any (o.extract 0 (n + L)) ((bl o).take n) h n W (by rw [ByteArray.size_extract]; omega) hcon h35 hpt (by rw [List.length_take, bl_len]; omega))
    have hc1 : (cnL h).1 ≤ L ∧ (cnL h).2 ≤ L := by
      rw [cn_eq]
      have h2 : laL (h.take (ccL h)) ≤ L := by
        refine Nat.le_trans (laL_le _) ?_
        rw [List.length_take]
        omega
      refine ⟨?_, h2⟩
      dsimp only
      split
      · omega
      · have := skL_le h; omega
    rw [hL, hh]
    obtain ⟨F, hF⟩ : ∃ F, n + (cnL h).1 = F := ⟨_, rfl⟩
    obtain ⟨E, hE⟩ : ∃ E, n + (cnL h).2 = E := ⟨_, rfl⟩
    obtain ⟨M, hM⟩ : ∃ M, n + L = M := ⟨_, rfl⟩
    rw [hF, hE, hM] at HCt0
    rw [hM] at HLa0
    have HLa := Lib.hid HLa0
    have HCt := Lib.hid HCt0
    obtain ⟨V, hV⟩ : ∃ V, p + n = V := ⟨_, rfl⟩
    obtain ⟨V1, hV1⟩ : ∃ V1, p + n + (cnL h).1 = V1 := ⟨_, rfl⟩
    obtain ⟨V2, hV2⟩ : ∃ V2, p + n + (cnL h).2 = V2 := ⟨_, rfl⟩
    obtain ⟨V3, hV3⟩ : ∃ V3, p + n + L = V3 := ⟨_, rfl⟩
    rw [hV1, hV2, hV3, hV]
    have HE0 := Lib.hid (show IntKind.i64.wrap ((p : Int) + (n : Nat)) = (V : Nat) from (IntWalk.i64_in _ (by omega)).trans (by omega))
    have HE1 := Lib.hid (show IntKind.i64.wrap ((p : Int) + (F : Nat)) = (V1 : Nat) from (IntWalk.i64_in _ (by omega)).trans (by omega))
    have HE2 := Lib.hid (show IntKind.i64.wrap ((p : Int) + (E : Nat)) = (V2 : Nat) from (IntWalk.i64_in _ (by omega)).trans (by omega))
    have HE3 := Lib.hid (show IntKind.i64.wrap ((p : Int) + (M : Nat)) = (V3 : Nat) from (IntWalk.i64_in _ (by omega)).trans (by omega))
    have q0 : (0 : Int) ≤ (M : Int) := by omega
    have q1 : (M : Int) ≤ (o.size : Int) := by omega
    clear hD hn HRe0 hbl ho hsz hs hl h35 hn0 h6 hps hB HPt0 hL hh hhl hpt hcon hc1 hF hE hM hV hV1 hV2 hV3 HLa0 HCt0 hLl
    have e0 := HE0.out
    have e1 := HE1.out
    have e2 := HE2.out
    have e3 := HE3.out
    go_enter Tryd.func8, Tryd.ntmps8
    go_wp2_with (first
      | (go_at_call 15; ((with_reducible refine (HRe.out _).mono ?_); rintro e1 w1 ⟨rfl, h1⟩; have HW1 := Lib.hid (HW.out.more h1.up); clear h1 HW; obtain ⟨r0, r1, r2, r3, r4, r5⟩ := mk_cells HW1.out.box; obtain ⟨f0, f1, f2, f3, f4, f5⟩ := mk_frz HW1.out.box))
      | (go_at_call 17; ((with_reducible refine (HSm.out _).mono ?_); rintro e1 w3 ⟨b, rfl, hb0, hb, hu3⟩; have HBx := Lib.hid hb; have HW2 := Lib.hid (HW1.out.more hu3); clear HW1 r0 r1 r2 r3 r4 r5 f0 f1 f2 f3 f4 f5; have HW1 := HW2; clear HW2; obtain ⟨r0, r1, r2, r3, r4, r5⟩ := mk_cells HW1.out.box; obtain ⟨f0, f1, f2, f3, f4, f5⟩ := mk_frz HW1.out.box; clear hb hb0 hu3))
      | (go_at_call 18; ((with_reducible refine (HRw.out _ _ HBx.out).mono ?_); rintro e1 w4 ⟨rfl, rfl⟩))
      | (go_at_call 22; ((with_reducible refine (HPt.out _).mono ?_); rintro e1 w6 ⟨rfl, rfl⟩))
      | (go_at_call 21; ((with_reducible refine (HLa.out _).mono ?_); rintro e1 w5 ⟨rfl, hu5⟩; have HW2 := Lib.hid (HW1.out.more hu5); clear HW1 r0 r1 r2 r3 r4 r5 f0 f1 f2 f3 f4 f5; have HW1 := HW2; clear HW2; obtain ⟨r0, r1, r2, r3, r4, r5⟩ := mk_cells HW1.out.box; obtain ⟨f0, f1, f2, f3, f4, f5⟩ := mk_frz HW1.out.box; clear hu5))
      | (go_at_call 23; ((with_reducible refine (HCt.out _).mono ?_); rintro e1 w5 ⟨rfl, hu5⟩; have HW2 := Lib.hid (HW1.out.more hu5); clear HW1 r0 r1 r2 r3 r4 r5 f0 f1 f2 f3 f4 f5; have HW1 := HW2; clear HW2; obtain ⟨r0, r1, r2, r3, r4, r5⟩ := mk_cells HW1.out.box; obtain ⟨f0, f1, f2, f3, f4, f5⟩ := mk_frz HW1.out.box; clear hu5)))
    have hx := mk_box HW1.out.box (.int .u8 0) (.int .i64 (n : Nat)) (.int .i64 (V : Nat)) (.int .i64 (V1 : Nat)) (.int .i64 (V2 : Nat)) (.int .i64 (V3 : Nat))
    obtain ⟨g0, g1, g2, g3, g4, g5⟩ := mk_cells hx
    try simp only [Exit.inBlock, Exit.then]
    refine bodyPost_ret (v := .tuple #[.agg #[.int .u8 0, .int .i64 (n : Nat), .int .i64 (V : Nat), .int .i64 (V1 : Nat), .int .i64 (V2 : Nat), .int .i64 (V3 : Nat)], .bool true]) (by simp [results, Tryd.results8, go_sem, g0, g1, g2, g3, g4, g5]) rfl ⟨?_, (mk_up HW1.out.up (Nat.le_refl _) _ _ _ _ _ _)⟩
    rfl
end Go.Proofs.YtopdbilkpkgccaaDoor
