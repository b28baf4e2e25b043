/- The document's Under. -/
import Derived.Test.YtiamanaiineglaaDoorMkBox
namespace Go.Proofs.YtiamanaiineglaaDoor
open Go.RowKit

set_option maxRecDepth 100000 in
set_option maxHeartbeats 4000000 in
theorem rUnder_any (s : ByteArray) (a : Int) (w : World) (hs : (s.size : Int) ≤ 1000000) :
    Calls Tryd.prog 19 #[.string s, .int .i64 a] w fun e w' => e = .returned (mkV (underL a.toNat (restL (bl s) a))) ∧ Up w w' := by
  have HO := Lib.hid (fun W => rOut_any s a W hs)
  have HW := Lib.hid (NewM.new w 26)
  cases ho : outE s a with
  | true =>
    rw [rest_out ho]
    rw [ho] at HO
    clear ho hs
    go_enter Tryd.func19, Tryd.ntmps19
    go_wp2_with (first
      | (go_at_call 33; ((with_reducible refine (HO.out _).mono ?_); rintro e1 w1 ⟨rfl, h1⟩; have HW1 := Lib.hid (HW.out.same h1); clear h1 HW; obtain ⟨r0, r1, r2, r3, r4, r5⟩ := mk_cells HW1.out.box; obtain ⟨f0, f1, f2, f3, f4, f5⟩ := mk_frz HW1.out.box)))
    have hx := mk_box HW1.out.box (.int .u8 0) (.int .i64 0) (.int .i64 0) (.int .i64 0) (.int .i64 0) (.int .i64 0)
    obtain ⟨g0, g1, g2, g3, g4, g5⟩ := mk_cells hx
    try simp only [Exit.inBlock, Exit.then]
    refine bodyPost_ret (v := .tuple #[.agg #[.int .u8 0, .int .i64 0, .int .i64 0, .int .i64 0, .int .i64 0, .int .i64 0], .bool false]) (by simp [results, Tryd.results19, go_sem, g0, g1, g2, g3, g4, g5]) rfl ⟨?_, (mk_up HW1.out.up (Nat.le_refl _) _ _ _ _ _ _)⟩
    rfl
  | false =>
    obtain ⟨p, rfl, hp⟩ := out_in ho
    have hO := own_le s
    have hps : p < s.size := by omega
    obtain ⟨c, hc⟩ : ∃ c, bt s p = c := ⟨_, rfl⟩
    have hx0 : s[p].toNat = c := by rw [bt_eq hps]; exact hc
    have p0 : (0 : Int) ≤ (p : Int) := by omega
    have p1 : (p : Int) < s.size := by omega
    rw [ho] at HO
    rw [rest_in, Int.toNat_natCast]
    clear ho
    have HBe0 := (fun W => rBehind_any s p c W hs hp hc)
    have hl := rwL_le (· == c) ((bl (ownB s)).drop p)
    rw [List.length_drop, bl_len] at hl
    obtain ⟨n, hn⟩ : ∃ n, rwL (· == c) ((bl (ownB s)).drop p) = n := ⟨_, rfl⟩
    obtain ⟨V, hV⟩ : ∃ V, p + n = V := ⟨_, rfl⟩
    rw [hn, hV] at HBe0
    have HBe := Lib.hid HBe0
    rw [hn] at hl
    have HLa0 := (fun W => rLast_any s V W hs (by omega))
    have hd := blo_drop (s := s) rfl hp
    rw [hc] at hd
    obtain ⟨L, hL⟩ : ∃ L, laL ((bl (ownB s)).drop V) = L := ⟨_, rfl⟩
    rw [hL] at HLa0
    have hD : underL p ((bl (ownB s)).drop p) = if (c = 61 ∨ c = 45) ∧ L = 0 then (⟨c, n, 0, 0, 0, V⟩, true) else (noM, false) := by
      rw [← hL, ← hV, ← List.drop_drop]
      rw [hd] at hn ⊢
      exact underL_cons hn
    rw [hD]
    have HN := Lib.hid (show IntKind.i64.wrap ((V : Int) - (p : Int)) = (n : Nat) from (IntWalk.i64_in _ (by omega)).trans (by omega))
    have HLs := Lib.hid (show V + L ≤ s.size by have := laL_le ((bl (ownB s)).drop V); rw [List.length_drop, bl_len, hL] at this; omega)
    clear HBe0 hD hd hn hL
    by_cases hcc : c = 61 ∨ c = 45
    case neg =>
      have n1 : ((c : Int) != 61) = true := bne_iff_ne.2 (by omega)
      have n2 : ((c : Int) != 45) = true := bne_iff_ne.2 (by omega)
      rw [if_neg (fun h => hcc h.1)]
      clear hcc hc hp hO hl HLa0 hV hs
      go_enter Tryd.func19, Tryd.ntmps19
      go_wp2_with (first
        | (go_at_call 33; ((with_reducible refine (HO.out _).mono ?_); rintro e1 w1 ⟨rfl, h1⟩; have HW1 := Lib.hid (HW.out.same h1); clear h1 HW; obtain ⟨r0, r1, r2, r3, r4, r5⟩ := mk_cells HW1.out.box; obtain ⟨f0, f1, f2, f3, f4, f5⟩ := mk_frz HW1.out.box)))
      have hx := mk_box HW1.out.box (.int .u8 0) (.int .i64 0) (.int .i64 0) (.int .i64 0) (.int .i64 0) (.int .i64 0)
      obtain ⟨g0, g1, g2, g3, g4, g5⟩ := mk_cells hx
      try simp only [Exit.inBlock, Exit.then]
      refine bodyPost_ret (v := .tuple #[.agg #[.int .u8 0, .int .i64 0, .int .i64 0, .int .i64 0, .int .i64 0, .int .i64 0], .bool false]) (by simp [results, Tryd.results19, go_sem, g0, g1, g2, g3, g4, g5]) rfl ⟨?_, (mk_up HW1.out.up (Nat.le_refl _) _ _ _ _ _ _)⟩
      rfl
    have hcB : (c = 61 ∧ ((c : Int) != 61) = false) ∨ (c = 45 ∧ ((c : Int) != 61) = true ∧ ((c : Int) != 45) = false) := by
      rcases hcc with h | h
      · exact .inl ⟨h, by rw [h]; rfl⟩
      · exact .inr ⟨h, by rw [h]; rfl, by rw [h]; rfl⟩
    by_cases hL0 : L = 0
    case neg =>
      have HLa := Lib.hid (fun W => HLa0 W)
      have t1 : decide (V < V + L) = true := decide_eq_true (by omega)
      have t2 : decide ((V : Int) < ((V + L : Nat) : Int)) = true := decide_eq_true (by omega)
      obtain ⟨M, hM⟩ : ∃ M, V + L = M := ⟨_, rfl⟩
      have t3 : (V : Int) < (M : Int) := by omega
      rw [hM] at HLa
      clear t1 t2
      rw [if_neg (fun h => hL0 h.2)]
      clear hc hp hO hl HLa0 hV hs hcc hL0
      rcases hcB with ⟨hce, n1⟩ | ⟨hce, n1, n2⟩
      all_goals
        clear hce
        go_enter Tryd.func19, Tryd.ntmps19
        go_wp2_with (first
          | (go_at_call 33; ((with_reducible refine (HO.out _).mono ?_); rintro e1 w1 ⟨rfl, h1⟩; have HW1 := Lib.hid (HW.out.same h1); clear h1 HW; obtain ⟨r0, r1, r2, r3, r4, r5⟩ := mk_cells HW1.out.box; obtain ⟨f0, f1, f2, f3, f4, f5⟩ := mk_frz HW1.out.box))
          | (go_at_call 37; ((with_reducible refine (HBe.out _).mono ?_); rintro e1 w2 ⟨rfl, h2⟩; have HW2 := Lib.hid (HW1.out.more h2.up); clear h2 HW1 r0 r1 r2 r3 r4 r5 f0 f1 f2 f3 f4 f5; have HW1 := HW2; clear HW2; obtain ⟨r0, r1, r2, r3, r4, r5⟩ := mk_cells HW1.out.box; obtain ⟨f0, f1, f2, f3, f4, f5⟩ := mk_frz HW1.out.box))
          | (go_at_call 34; ((with_reducible refine (HLa.out _).mono ?_); rintro e1 w1 ⟨rfl, rfl⟩)))
        have hx := mk_box HW1.out.box (.int .u8 0) (.int .i64 0) (.int .i64 0) (.int .i64 0) (.int .i64 0) (.int .i64 0)
        obtain ⟨g0, g1, g2, g3, g4, g5⟩ := mk_cells hx
        try simp only [Exit.inBlock, Exit.then]
        refine bodyPost_ret (v := .tuple #[.agg #[.int .u8 0, .int .i64 0, .int .i64 0, .int .i64 0, .int .i64 0, .int .i64 0], .bool false]) (by simp [results, Tryd.results19, go_sem, g0, g1, g2, g3, g4, g5]) rfl ⟨?_, (mk_up HW1.out.up (Nat.le_refl _) _ _ _ _ _ _)⟩
        rfl
    subst hL0
    have HLa := Lib.hid (fun W => HLa0 W)
    rw [Nat.add_zero] at HLa
    rw [if_pos ⟨hcc, rfl⟩]
    have e1 := HN.out
    clear hc hp hO hl HLa0 hV hs hcc
    rcases hcB with ⟨hce, n1⟩ | ⟨hce, n1, n2⟩
    all_goals
      clear hce
      go_enter Tryd.func19, Tryd.ntmps19
      go_wp2_with (first
        | (go_at_call 33; ((with_reducible refine (HO.out _).mono ?_); rintro e1 w1 ⟨rfl, h1⟩; have HW1 := Lib.hid (HW.out.same h1); clear h1 HW; obtain ⟨r0, r1, r2, r3, r4, r5⟩ := mk_cells HW1.out.box; obtain ⟨f0, f1, f2, f3, f4, f5⟩ := mk_frz HW1.out.box))
        | (go_at_call 37; ((with_reducible refine (HBe.out _).mono ?_); rintro e1 w2 ⟨rfl, h2⟩; have HW2 := Lib.hid (HW1.out.more h2.up); clear h2 HW1 r0 r1 r2 r3 r4 r5 f0 f1 f2 f3 f4 f5; have HW1 := HW2; clear HW2; obtain ⟨r0, r1, r2, r3, r4, r5⟩ := mk_cells HW1.out.box; obtain ⟨f0, f1, f2, f3, f4, f5⟩ := mk_frz HW1.out.box))
        | (go_at_call 34; ((with_reducible refine (HLa.out _).mono ?_); rintro e1 w1 ⟨rfl, rfl⟩)))
      have hx := mk_box HW1.out.box (.int .u8 (c : Nat)) (.int .i64 (n : Nat)) (.int .i64 0) (.int .i64 0) (.int .i64 0) (.int .i64 (V : Nat))
      obtain ⟨g0, g1, g2, g3, g4, g5⟩ := mk_cells hx
      try simp only [Exit.inBlock, Exit.then]
      refine bodyPost_ret (v := .tuple #[.agg #[.int .u8 (c : Nat), .int .i64 (n : Nat), .int .i64 0, .int .i64 0, .int .i64 0, .int .i64 (V : Nat)], .bool true]) (by simp [results, Tryd.results19, go_sem, g0, g1, g2, g3, g4, g5]) rfl ⟨?_, (mk_up HW1.out.up (Nat.le_refl _) _ _ _ _ _ _)⟩
      rfl
end Go.Proofs.YtiamanaiineglaaDoor
