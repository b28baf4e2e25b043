/- The document's Fence. -/
import Derived.Test.YtiamanaiineglaaDoorMkBox
namespace Go.Proofs.YtiamanaiineglaaDoor
open Go.RowKit

theorem mem_step {X : List Nat} {c q x : Nat} (h : X.drop q = x :: X.drop (q + 1)) : (c = 96 ∧ 96 ∈ X.drop q) ↔ (c = 96 ∧ x = 96) ∨ (c = 96 ∧ 96 ∈ X.drop (q + 1)) := by
  rw [h, List.mem_cons]
  constructor
  · rintro ⟨h1, h2 | h2⟩
    · exact .inl ⟨h1, h2.symm⟩
    · exact .inr ⟨h1, h2⟩
  · rintro (⟨h1, h2⟩ | ⟨h1, h2⟩)
    · exact ⟨h1, .inl h2.symm⟩
    · exact ⟨h1, .inr h2⟩
set_option maxRecDepth 100000 in
set_option maxHeartbeats 4000000 in
theorem rFence_any (s : ByteArray) (a : Int) (w : World) (hs : (s.size : Int) ≤ 1000000) :
    Calls Tryd.prog 21 #[.string s, .int .i64 a] w fun e w' => e = .returned (mkV (fenceL a.toNat (restL (bl s) a))) ∧ Up w w' := by
  have HO := Lib.hid (fun W => rOut_any s a W hs)
  have HW := Lib.hid (NewM.new w 26)
  cases ho : outE s a with
  | true =>
    rw [rest_out ho]
    rw [ho] at HO
    clear ho hs
    go_enter Tryd.func21, Tryd.ntmps21
    go_wp2_with (first
      | (go_at_call 33; ((with_reducible refine (HO.out _).mono ?_); rintro e1 w1 ⟨rfl, h1⟩; have HW1 := Lib.hid (HW.out.same h1); clear h1 HW; obtain ⟨r0, r1, r2, r3, r4, r5⟩ := mk_cells HW1.out.box; obtain ⟨f0, f1, f2, f3, f4, f5⟩ := mk_frz HW1.out.box)))
    have hx := mk_box HW1.out.box (.int .u8 0) (.int .i64 0) (.int .i64 0) (.int .i64 0) (.int .i64 0) (.int .i64 0)
    obtain ⟨g0, g1, g2, g3, g4, g5⟩ := mk_cells hx
    try simp only [Exit.inBlock, Exit.then]
    refine bodyPost_ret (v := .tuple #[.agg #[.int .u8 0, .int .i64 0, .int .i64 0, .int .i64 0, .int .i64 0, .int .i64 0], .bool false]) (by simp [results, Tryd.results21, go_sem, g0, g1, g2, g3, g4, g5]) rfl ⟨?_, (mk_up HW1.out.up (Nat.le_refl _) _ _ _ _ _ _)⟩
    rfl
  | false =>
    obtain ⟨p, rfl, hp⟩ := out_in ho
    have hO := own_le s
    have hps : p < s.size := by omega
    obtain ⟨c, hc⟩ : ∃ c, bt s p = c := ⟨_, rfl⟩
    have hx0 : s[p].toNat = c := by rw [bt_eq hps]; exact hc
    have p0 : (0 : Int) ≤ (p : Int) := by omega
    have p1 : (p : Int) < s.size := by omega
    rw [ho] at HO
    rw [rest_in, Int.toNat_natCast]
    clear ho
    have HBe0 := (fun W => rBehind_any s p c W hs hp hc)
    have hl := rwL_le (· == c) ((bl (ownB s)).drop p)
    rw [List.length_drop, bl_len] at hl
    obtain ⟨n, hn⟩ : ∃ n, rwL (· == c) ((bl (ownB s)).drop p) = n := ⟨_, rfl⟩
    obtain ⟨V, hV⟩ : ∃ V, p + n = V := ⟨_, rfl⟩
    rw [hn, hV] at HBe0
    have HBe := Lib.hid HBe0
    rw [hn] at hl
    have HLa0 := (fun W => rLast_any s V W hs (by omega))
    have hd := blo_drop (s := s) rfl hp
    rw [hc] at hd
    obtain ⟨L, hL⟩ : ∃ L, laL ((bl (ownB s)).drop V) = L := ⟨_, rfl⟩
    rw [hL] at HLa0
    have hD : fenceL p ((bl (ownB s)).drop p) = if (c = 126 ∨ c = 96) ∧ 3 ≤ n ∧ (c = 96 → 96 ∉ (bl (ownB s)).drop V) then (⟨c, n, V, 0, 0, V + L⟩, true) else (noM, false) := by
      rw [← hL, ← hV, ← List.drop_drop]
      rw [hd] at hn ⊢
      exact fenceL_cons hn
    rw [hD]
    have HN := Lib.hid (show IntKind.i64.wrap ((V : Int) - (p : Int)) = (n : Nat) from (IntWalk.i64_in _ (by omega)).trans (by omega))
    obtain ⟨M, hM⟩ : ∃ M, V + L = M := ⟨_, rfl⟩
    rw [hM] at HLa0 ⊢
    have HLa := Lib.hid (fun W => HLa0 W)
    clear HBe0 hD hd hn hL hM HLa0
    have HE := Lib.hid (fun W => endO_any s W hs)
    obtain ⟨E, hE⟩ : ∃ E, (ownB s).size = E := ⟨_, rfl⟩
    have HD := Lib.hid (fun i (h : i < E) => blo_drop hE h)
    have HX0 := Lib.hid (show (bl (ownB s)).drop E = [] from bl_end (by omega))
    rw [hE] at HE hp hO hl
    obtain ⟨X, hX⟩ : ∃ X, bl (ownB s) = X := ⟨_, rfl⟩
    rw [hX] at HD HX0 ⊢
    have HS := Lib.hid (And.intro hs hO)
    have HP := Lib.hid (show V ≤ E by omega)
    clear hX hE hl hV hO
    by_cases hcc : c = 126 ∨ c = 96
    case neg =>
      have n1 : ((c : Int) != 126) = true := bne_iff_ne.2 (by omega)
      have n2 : ((c : Int) != 96) = true := bne_iff_ne.2 (by omega)
      rw [if_neg (fun h => hcc h.1)]
      clear hcc hc hp hs
      go_enter Tryd.func21, Tryd.ntmps21
      go_wp2_with (first
        | (go_at_call 33; ((with_reducible refine (HO.out _).mono ?_); rintro e1 w1 ⟨rfl, h1⟩; have HW1 := Lib.hid (HW.out.same h1); clear h1 HW; obtain ⟨r0, r1, r2, r3, r4, r5⟩ := mk_cells HW1.out.box; obtain ⟨f0, f1, f2, f3, f4, f5⟩ := mk_frz HW1.out.box)))
      have hx := mk_box HW1.out.box (.int .u8 0) (.int .i64 0) (.int .i64 0) (.int .i64 0) (.int .i64 0) (.int .i64 0)
      obtain ⟨g0, g1, g2, g3, g4, g5⟩ := mk_cells hx
      try simp only [Exit.inBlock, Exit.then]
      refine bodyPost_ret (v := .tuple #[.agg #[.int .u8 0, .int .i64 0, .int .i64 0, .int .i64 0, .int .i64 0, .int .i64 0], .bool false]) (by simp [results, Tryd.results21, go_sem, g0, g1, g2, g3, g4, g5]) rfl ⟨?_, (mk_up HW1.out.up (Nat.le_refl _) _ _ _ _ _ _)⟩
      rfl
    obtain ⟨A, hA⟩ : ∃ A, (if (c = 126 ∨ c = 96) ∧ 3 ≤ n ∧ (c = 96 → 96 ∉ X.drop V) then ((⟨c, n, V, 0, 0, M⟩, true) : Mk × Bool) else (noM, false)) = A := ⟨_, rfl⟩
    rw [hA]
    have HA1 := Lib.hid (show 3 ≤ n → ¬ (c = 96 ∧ 96 ∈ X.drop V) → (⟨c, n, V, 0, 0, M⟩, true) = A from fun h k => by rw [← hA, if_pos ⟨hcc, h, fun e m => k ⟨e, m⟩⟩])
    have HA2 := Lib.hid (show ¬ (3 ≤ n) ∨ (c = 96 ∧ 96 ∈ X.drop V) → (noM, false) = A from fun h => by rw [← hA, if_neg (fun k => h.elim (fun h => h k.2.1) (fun h => k.2.2 h.1 h.2))])
    have hcB : (((c : Int) != 126) = false ∧ ((c : Int) == 96) = false ∧ ¬ c = 96) ∨ (((c : Int) != 126) = true ∧ ((c : Int) != 96) = false ∧ ((c : Int) == 96) = true ∧ c = 96) := by
      rcases hcc with h | h
      · exact .inl ⟨by rw [h]; rfl, by rw [h]; rfl, by omega⟩
      · exact .inr ⟨by rw [h]; rfl, by rw [h]; rfl, by rw [h]; rfl, h⟩
    clear hA hcc hc hp hs
    have en := HN.out
    rcases hcB with ⟨n1, n2, hce⟩ | ⟨n1, n3, n2, hce⟩
    all_goals
      have HCE := Lib.hid hce
      clear hce
      go_enter Tryd.func21, Tryd.ntmps21
      go_wp2_with (first
        | (go_at_call 33; ((with_reducible refine (HO.out _).mono ?_); rintro e1 w1 ⟨rfl, h1⟩; have HW1 := Lib.hid (HW.out.same h1); clear h1 HW; obtain ⟨r0, r1, r2, r3, r4, r5⟩ := mk_cells HW1.out.box; obtain ⟨f0, f1, f2, f3, f4, f5⟩ := mk_frz HW1.out.box))
        | (go_at_call 37; ((with_reducible refine (HBe.out _).mono ?_); rintro e1 w2 ⟨rfl, h2⟩; have HW2 := Lib.hid (HW1.out.more h2.up); clear h2 HW1 r0 r1 r2 r3 r4 r5 f0 f1 f2 f3 f4 f5; have HW1 := HW2; clear HW2; obtain ⟨r0, r1, r2, r3, r4, r5⟩ := mk_cells HW1.out.box; obtain ⟨f0, f1, f2, f3, f4, f5⟩ := mk_frz HW1.out.box)))
      go_loopg [7] (E - V) (fun g iv wr => ∃ q : Nat, Hid (DrN w2 wr) ∧ g = E - q ∧ iv = .int .i64 (q : Nat) ∧ Hid (V ≤ q ∧ q ≤ E) ∧ Hid ((c = 96 ∧ 96 ∈ X.drop q) ↔ (c = 96 ∧ 96 ∈ X.drop V)))
      case atStart => exact ⟨V, Lib.hid (DrN.refl _), rfl, rfl, Lib.hid ⟨Nat.le_refl _, HP.out⟩, Lib.hid Iff.rfl⟩
      case round =>
        obtain ⟨q, HDr, hg, rfl, HQ, HR⟩ := hrel
        have HW3 := Lib.hid (HW1.out.more HDr.out.up)
        have HD2 := Lib.hid HDr.out
        clear HDr r0 r1 r2 r3 r4 r5 f0 f1 f2 f3 f4 f5
        have HG := Lib.hid hg
        clear hg
        obtain ⟨r0, r1, r2, r3, r4, r5⟩ := mk_cells HW3.out.box
        obtain ⟨f0, f1, f2, f3, f4, f5⟩ := mk_frz HW3.out.box
        by_cases hlt : q < E
        · have hks : q < s.size := by have := HS.out.2; omega
          obtain ⟨x, hx1⟩ : ∃ x, bt s q = x := ⟨_, rfl⟩
          have hx : s[q].toNat = x := by rw [bt_eq hks]; exact hx1
          have hd := HD.out q hlt
          rw [hx1] at hd
          have hR := (mem_step hd).symm.trans HR.out
          have k0 : (0 : Int) ≤ (q : Int) := by omega
          have k1 : (q : Int) < s.size := by omega
          have k2 : (q : Int) < (E : Int) := by omega
          have HBk := Lib.hid hlt
          have e1 : IntKind.i64.wrap ((q : Int) + 1) = (q : Int) + 1 := IntWalk.i64_in _ (by have := HS.out.1; omega)
          by_cases hxc : c = 96 ∧ x = 96
          · have HF := Lib.hid (show (noM, false) = A from HA2.out (.inr (hR.1 (.inl hxc))))
            have g2 : ((x : Int) == 96) = true := by rw [hxc.2]; rfl
            have n9 : ((c : Int) == 96) = true := by rw [hxc.1]; rfl
            first
              | (exact absurd hxc.1 HCE.out)
              | skip
            all_goals clear hR hx1 hxc hlt hd
            all_goals
              go_wp2_with (go_at_call 25; ((with_reducible refine (HE.out _).mono ?_); rintro e1 w3 ⟨rfl, rfl⟩))
              have hx := mk_box HW3.out.box (.int .u8 0) (.int .i64 0) (.int .i64 0) (.int .i64 0) (.int .i64 0) (.int .i64 0)
              obtain ⟨g0, g1, g2, g3, g4, g5⟩ := mk_cells hx
              try simp only [Exit.inBlock, Exit.then]
              refine bodyPost_ret (v := .tuple #[.agg #[.int .u8 0, .int .i64 0, .int .i64 0, .int .i64 0, .int .i64 0, .int .i64 0], .bool false]) (by simp [results, Tryd.results21, go_sem, g0, g1, g2, g3, g4, g5]) rfl ⟨?_, (mk_up HW3.out.up (Nat.le_refl _) _ _ _ _ _ _)⟩
              rw [← HF.out]; rfl
          · have HR2 := Lib.hid (show (c = 96 ∧ 96 ∈ X.drop (q + 1)) ↔ (c = 96 ∧ 96 ∈ X.drop V) from ⟨fun h => hR.1 (.inr h), fun h => (hR.2 h).resolve_left hxc⟩)
            have g2 : c = 96 → ((x : Int) == 96) = false := fun h => beq_eq_false_iff_ne.2 (fun e => hxc ⟨h, by omega⟩)
            first
              | (have g3 := g2 HCE.out)
              | skip
            clear hR hx1 hxc hlt hd g2
            go_wp2_with (go_at_call 25; ((with_reducible refine (HE.out _).mono ?_); rintro e1 w3 ⟨rfl, rfl⟩))
            go_roundg (E - (q + 1))
            case measure => rw [HG.out]; have := HBk.out; omega
            case rel => exact ⟨q + 1, HD2, rfl, by go_num, Lib.hid (by have := HQ.out; have := HBk.out; omega), HR2⟩
        · have hq : q = E := by have := HQ.out; omega
          have hR := HR.out
          rw [hq, HX0.out] at hR
          have f2' : decide ((q : Int) < (E : Int)) = false := decide_eq_false (by omega)
          have f3' : decide (q < E) = false := decide_eq_false hlt
          have hno : ¬ (c = 96 ∧ 96 ∈ X.drop V) := fun h => by have := (hR.2 h).2; cases this
          by_cases h3 : 3 ≤ n
          · have HF := Lib.hid (show (⟨c, n, V, 0, 0, M⟩, true) = A from HA1.out h3 hno)
            have g3 : ¬ ((n : Int) < 3) := by omega
            clear hR hq hlt h3 hno
            go_wp2_with (go_at_call 25; ((with_reducible refine (HE.out _).mono ?_); rintro e1 w3 ⟨rfl, rfl⟩))
            go_region_law (first | (go_simp; go_at_call 34; ((with_reducible refine (HLa.out _).mono ?_); rintro e1 w4 ⟨rfl, rfl⟩)))
            all_goals
              go_wp2
              have hx := mk_box HW3.out.box (.int .u8 (c : Nat)) (.int .i64 (n : Nat)) (.int .i64 (V : Nat)) (.int .i64 0) (.int .i64 0) (.int .i64 (M : Nat))
              obtain ⟨g0, g1, g2, g3, g4, g5⟩ := mk_cells hx
              try simp only [Exit.inBlock, Exit.then]
              refine bodyPost_ret (v := .tuple #[.agg #[.int .u8 (c : Nat), .int .i64 (n : Nat), .int .i64 (V : Nat), .int .i64 0, .int .i64 0, .int .i64 (M : Nat)], .bool true]) (by simp [results, Tryd.results21, go_sem, g0, g1, g2, g3, g4, g5]) rfl ⟨?_, (mk_up HW3.out.up (Nat.le_refl _) _ _ _ _ _ _).trans (Up.drew _)⟩
              rw [← HF.out]; rfl
          · have HF := Lib.hid (show (noM, false) = A from HA2.out (.inl h3))
            have g3 : (n : Int) < 3 := by omega
            clear hR hq hlt h3 hno
            go_wp2_with (go_at_call 25; ((with_reducible refine (HE.out _).mono ?_); rintro e1 w3 ⟨rfl, rfl⟩))
            have hx := mk_box HW3.out.box (.int .u8 0) (.int .i64 0) (.int .i64 0) (.int .i64 0) (.int .i64 0) (.int .i64 0)
            obtain ⟨g0, g1, g2, g3, g4, g5⟩ := mk_cells hx
            try simp only [Exit.inBlock, Exit.then]
            refine bodyPost_ret (v := .tuple #[.agg #[.int .u8 0, .int .i64 0, .int .i64 0, .int .i64 0, .int .i64 0, .int .i64 0], .bool false]) (by simp [results, Tryd.results21, go_sem, g0, g1, g2, g3, g4, g5]) rfl ⟨?_, (mk_up HW3.out.up (Nat.le_refl _) _ _ _ _ _ _)⟩
            rw [← HF.out]; rfl
end Go.Proofs.YtiamanaiineglaaDoor
