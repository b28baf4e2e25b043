/- The document's Rule. -/
import Derived.Test.YtiamanaiineglaaDoorMkBox
namespace Go.Proofs.YtiamanaiineglaaDoor
open Go.RowKit

theorem ruleL_cons {a c K C : Nat} {r : List Nat} (hK : rwL (fun x => x == c || bk x) (c :: r) = K) (hC : (c :: r).count c = C) : ruleL a (c :: r) = if okR c = true ∧ K = (c :: r).length ∧ 3 ≤ C then (⟨c, C, 0, 0, 0, a + laL (c :: r)⟩, true) else (noM, false) := by subst hK hC; rfl
set_option maxRecDepth 100000 in
set_option maxHeartbeats 4000000 in
theorem rRule_any (s : ByteArray) (a : Int) (w : World) (hs : (s.size : Int) ≤ 1000000) :
    Calls Tryd.prog 13 #[.string s, .int .i64 a] w fun e w' => e = .returned (mkV (ruleL a.toNat (restL (bl s) a))) ∧ Up w w' := by
  have HO := Lib.hid (fun W => rOut_any s a W hs)
  have HW := Lib.hid (NewM.new w 26)
  cases ho : outE s a with
  | true =>
    rw [rest_out ho]
    rw [ho] at HO
    clear ho hs
    go_enter Tryd.func13, Tryd.ntmps13
    go_wp2_with (first
      | (go_at_call 33; ((with_reducible refine (HO.out _).mono ?_); rintro e1 w1 ⟨rfl, h1⟩; have HW1 := Lib.hid (HW.out.same h1); clear h1 HW; obtain ⟨r0, r1, r2, r3, r4, r5⟩ := mk_cells HW1.out.box; obtain ⟨f0, f1, f2, f3, f4, f5⟩ := mk_frz HW1.out.box)))
    have hx := mk_box HW1.out.box (.int .u8 0) (.int .i64 0) (.int .i64 0) (.int .i64 0) (.int .i64 0) (.int .i64 0)
    obtain ⟨g0, g1, g2, g3, g4, g5⟩ := mk_cells hx
    try simp only [Exit.inBlock, Exit.then]
    refine bodyPost_ret (v := .tuple #[.agg #[.int .u8 0, .int .i64 0, .int .i64 0, .int .i64 0, .int .i64 0, .int .i64 0], .bool false]) (by simp [results, Tryd.results13, go_sem, g0, g1, g2, g3, g4, g5]) rfl ⟨?_, (mk_up HW1.out.up (Nat.le_refl _) _ _ _ _ _ _)⟩
    rfl
  | false =>
    obtain ⟨p, rfl, hp⟩ := out_in ho
    have hO := own_le s
    have hps : p < s.size := by omega
    obtain ⟨c, hc⟩ : ∃ c, bt s p = c := ⟨_, rfl⟩
    have hx0 : s[p].toNat = c := by rw [bt_eq hps]; exact hc
    have p0 : (0 : Int) ≤ (p : Int) := by omega
    have p1 : (p : Int) < s.size := by omega
    rw [ho] at HO
    rw [rest_in, Int.toNat_natCast]
    clear ho
    have HLa0 := (fun W => rLast_any s p W hs (by omega))
    have hd := blo_drop (s := s) rfl hp
    rw [hc] at hd
    obtain ⟨L, hL⟩ : ∃ L, p + laL ((bl (ownB s)).drop p) = L := ⟨_, rfl⟩
    rw [hL] at HLa0
    have HLa := Lib.hid HLa0
    obtain ⟨K, hK⟩ : ∃ K, rwL (fun x => x == c || bk x) ((bl (ownB s)).drop p) = K := ⟨_, rfl⟩
    obtain ⟨C, hC⟩ : ∃ C, ((bl (ownB s)).drop p).count c = C := ⟨_, rfl⟩
    have hCl : C ≤ s.size := by
      have := List.count_le_length (a := c) (l := (bl (ownB s)).drop p)
      rw [List.length_drop, bl_len, hC] at this
      omega
    have hlen : ((bl (ownB s)).drop p).length = (ownB s).size - p := by rw [List.length_drop, bl_len]
    have hD : ruleL p ((bl (ownB s)).drop p) = if okR c = true ∧ K = (ownB s).size - p ∧ 3 ≤ C then (⟨c, C, 0, 0, 0, L⟩, true) else (noM, false) := by
      rw [← hL, ← hlen]
      rw [hd] at hK hC ⊢
      exact ruleL_cons hK hC
    rw [hD]
    clear hD hlen hd hL HLa0
    have HE := Lib.hid (fun W => endO_any s W hs)
    obtain ⟨E, hE⟩ : ∃ E, (ownB s).size = E := ⟨_, rfl⟩
    have HD := Lib.hid (fun i (h : i < E) => blo_drop hE h)
    have HN := Lib.hid (show (bl (ownB s)).drop E = [] from bl_end (by omega))
    rw [hE] at HE hp hO ⊢
    obtain ⟨X, hX⟩ : ∃ X, bl (ownB s) = X := ⟨_, rfl⟩
    rw [hX] at HD HN hK hC
    have HBl := Lib.hid (fun x W => rbk_any x W)
    have HK := Lib.hid hK
    have HC := Lib.hid hC
    have HS := Lib.hid (And.intro hs (And.intro hO hCl))
    have HP := Lib.hid hp
    clear hX hE hK hC hCl hO
    cases hok : okR c with
    | false =>
      have hne : c ≠ 42 ∧ c ≠ 45 ∧ c ≠ 95 := by
        unfold okR at hok
        simp only [Bool.or_eq_false_iff, beq_eq_false_iff_ne] at hok
        exact ⟨hok.1.1, hok.1.2, hok.2⟩
      have n1 : ((c : Int) != 42) = true := bne_iff_ne.2 (by omega)
      have n2 : ((c : Int) != 45) = true := bne_iff_ne.2 (by omega)
      have n3 : ((c : Int) != 95) = true := bne_iff_ne.2 (by omega)
      rw [if_neg (fun h => Bool.false_ne_true h.1)]
      clear hok hne hc hp hs HK HC
      go_enter Tryd.func13, Tryd.ntmps13
      go_wp2_with (first
        | (go_at_call 33; ((with_reducible refine (HO.out _).mono ?_); rintro e1 w1 ⟨rfl, h1⟩; have HW1 := Lib.hid (HW.out.same h1); clear h1 HW; obtain ⟨r0, r1, r2, r3, r4, r5⟩ := mk_cells HW1.out.box; obtain ⟨f0, f1, f2, f3, f4, f5⟩ := mk_frz HW1.out.box)))
      have hx := mk_box HW1.out.box (.int .u8 0) (.int .i64 0) (.int .i64 0) (.int .i64 0) (.int .i64 0) (.int .i64 0)
      obtain ⟨g0, g1, g2, g3, g4, g5⟩ := mk_cells hx
      try simp only [Exit.inBlock, Exit.then]
      refine bodyPost_ret (v := .tuple #[.agg #[.int .u8 0, .int .i64 0, .int .i64 0, .int .i64 0, .int .i64 0, .int .i64 0], .bool false]) (by simp [results, Tryd.results13, go_sem, g0, g1, g2, g3, g4, g5]) rfl ⟨?_, (mk_up HW1.out.up (Nat.le_refl _) _ _ _ _ _ _)⟩
      rfl
    | true =>
      have hcB : (((c : Int) != 42) = false) ∨ (((c : Int) != 42) = true ∧ ((c : Int) != 45) = false) ∨ (((c : Int) != 42) = true ∧ ((c : Int) != 45) = true ∧ ((c : Int) != 95) = false) := by
        unfold okR at hok
        simp only [Bool.or_eq_true, beq_iff_eq] at hok
        rcases hok with (h | h) | h
        · exact .inl (by rw [h]; rfl)
        · exact .inr (.inl ⟨by rw [h]; rfl, by rw [h]; rfl⟩)
        · exact .inr (.inr ⟨by rw [h]; rfl, by rw [h]; rfl, by rw [h]; rfl⟩)
      obtain ⟨A, hA⟩ : ∃ A, (if true = true ∧ K = E - p ∧ 3 ≤ C then ((⟨c, C, 0, 0, 0, L⟩, true) : Mk × Bool) else (noM, false)) = A := ⟨_, rfl⟩
      rw [hA]
      have HA1 := Lib.hid (show K = E - p ∧ 3 ≤ C → (⟨c, C, 0, 0, 0, L⟩, true) = A from fun h => by rw [← hA, if_pos ⟨rfl, h⟩])
      have HA2 := Lib.hid (show ¬ (K = E - p ∧ 3 ≤ C) → (noM, false) = A from fun h => by rw [← hA, if_neg (fun k => h k.2)])
      clear hA hok hc hp hs
      rcases hcB with n1 | ⟨n1, n2⟩ | ⟨n1, n2, n3⟩
      all_goals
        go_enter Tryd.func13, Tryd.ntmps13
        go_wp2_with (first
          | (go_at_call 33; ((with_reducible refine (HO.out _).mono ?_); rintro e1 w1 ⟨rfl, h1⟩; have HW1 := Lib.hid (HW.out.same h1); clear h1 HW; obtain ⟨r0, r1, r2, r3, r4, r5⟩ := mk_cells HW1.out.box; obtain ⟨f0, f1, f2, f3, f4, f5⟩ := mk_frz HW1.out.box)))
        go_loopg [6, 7] (E - p) (fun g nv iv wr => ∃ q k : Nat, Hid (DrN w1 wr) ∧ g = E - q ∧ nv = .int .i64 (k : Nat) ∧ iv = .int .i64 (q : Nat) ∧ Hid (p ≤ q ∧ q ≤ E) ∧ Hid ((q - p) + rwL (fun x => x == c || bk x) (X.drop q) = K) ∧ Hid (k + (X.drop q).count c = C))
        case atStart => exact ⟨p, 0, Lib.hid (DrN.refl _), rfl, rfl, rfl, Lib.hid ⟨Nat.le_refl _, Nat.le_of_lt HP.out⟩, Lib.hid (by have := HK.out; omega), Lib.hid (by have := HC.out; omega)⟩
        case round =>
          clear HK HC
          obtain ⟨q, k, HDr, hg, rfl, rfl, HQ, HR, HT⟩ := hrel
          have HW3 := Lib.hid (HW1.out.more HDr.out.up)
          have HD2 := Lib.hid HDr.out.drew
          have HW4 := Lib.hid (HW1.out.more HDr.out.drew.up)
          clear HDr r0 r1 r2 r3 r4 r5 f0 f1 f2 f3 f4 f5
          have HG := Lib.hid hg
          clear hg
          by_cases hlt : q < E
          · have hks : q < s.size := by have := HS.out.2.1; omega
            obtain ⟨x, hx1⟩ : ∃ x, bt s q = x := ⟨_, rfl⟩
            have hx : s[q].toNat = x := by rw [bt_eq hks]; exact hx1
            have hR := HR.out
            have hT := HT.out
            rw [HD.out q hlt, rwL_cons, hx1] at hR
            rw [HD.out q hlt, hx1] at hT
            have k0 : (0 : Int) ≤ (q : Int) := by omega
            have k1 : (q : Int) < s.size := by omega
            have k2 : (q : Int) < (E : Int) := by omega
            have HBk := Lib.hid hlt
            have e1 : IntKind.i64.wrap ((q : Int) + 1) = (q : Int) + 1 := IntWalk.i64_in _ (by have := HS.out.1; omega)
            have hkC : k ≤ C := by omega
            have e2 : IntKind.i64.wrap ((k : Int) + 1) = (k : Int) + 1 := IntWalk.i64_in _ (by have := HS.out; omega)
            by_cases hxc : x = c
            · rw [if_pos (by simp [hxc])] at hR
              rw [hxc, List.count_cons_self] at hT
              have hqq : ((x : Int) == (c : Int)) = true := by rw [hxc]; exact beq_self_eq_true _
              have HR2 := Lib.hid (show (q + 1 - p) + rwL (fun x => x == c || bk x) (X.drop (q + 1)) = K by have := HQ.out; omega)
              have HT2 := Lib.hid (show k + 1 + (X.drop (q + 1)).count c = C by omega)
              clear hR hT hx1 hxc hlt hkC
              go_wp2_with (go_at_call 25; ((with_reducible refine (HE.out _).mono ?_); rintro e1 w1 ⟨rfl, rfl⟩))
              go_region
              go_wp2
              go_roundg (E - (q + 1))
              case measure => rw [HG.out]; have := HBk.out; omega
              case rel => exact ⟨q + 1, k + 1, HD2, rfl, by go_num, by go_num, Lib.hid (by have := HQ.out; have := HBk.out; omega), HR2, HT2⟩
            · have hqq : ((x : Int) == (c : Int)) = false := beq_eq_false_iff_ne.2 (by omega)
              have hbq : (x == c) = false := beq_eq_false_iff_ne.2 hxc
              rw [List.count_cons_of_ne hxc] at hT
              cases hb : bk x with
              | true =>
                rw [if_pos (by rw [hb, Bool.or_true])] at hR
                have HR2 := Lib.hid (show (q + 1 - p) + rwL (fun x => x == c || bk x) (X.drop (q + 1)) = K by have := HQ.out; omega)
                have HT2 := Lib.hid hT
                have HB1 := Lib.hid (fun W => by have h := HBl.out x W; rw [hb] at h; exact h)
                clear hR hT hx1 hxc hlt hb hbq hkC
                go_wp2_with (go_at_call 25; ((with_reducible refine (HE.out _).mono ?_); rintro e1 w1 ⟨rfl, rfl⟩))
                go_region
                go_wp2_with (first
                  | (go_at_call 24; ((with_reducible refine (HB1.out _).mono ?_); rintro e3 w3 ⟨rfl, rfl⟩)))
                go_roundg (E - (q + 1))
                case measure => rw [HG.out]; have := HBk.out; omega
                case rel => exact ⟨q + 1, k, HD2, rfl, rfl, by go_num, Lib.hid (by have := HQ.out; have := HBk.out; omega), HR2, HT2⟩
              | false =>
                rw [if_neg (by rw [hb, hbq]; decide)] at hR
                have HF := Lib.hid (show (noM, false) = A from HA2.out (fun h => by have := HQ.out; omega))
                have HB1 := Lib.hid (fun W => by have h := HBl.out x W; rw [hb] at h; exact h)
                clear hR hT hx1 hxc hlt hb hbq hkC
                obtain ⟨r0, r1, r2, r3, r4, r5⟩ := mk_cells HW3.out.box
                obtain ⟨f0, f1, f2, f3, f4, f5⟩ := mk_frz HW3.out.box
                go_wp2_with (go_at_call 25; ((with_reducible refine (HE.out _).mono ?_); rintro e1 w1 ⟨rfl, rfl⟩))
                go_region
                go_wp2_with (first
                  | (go_at_call 24; ((with_reducible refine (HB1.out _).mono ?_); rintro e3 w3 ⟨rfl, rfl⟩)))
                have hx := mk_box HW3.out.box (.int .u8 0) (.int .i64 0) (.int .i64 0) (.int .i64 0) (.int .i64 0) (.int .i64 0)
                obtain ⟨g0, g1, g2, g3, g4, g5⟩ := mk_cells hx
                try simp only [Exit.inBlock, Exit.then]
                refine bodyPost_ret (v := .tuple #[.agg #[.int .u8 0, .int .i64 0, .int .i64 0, .int .i64 0, .int .i64 0, .int .i64 0], .bool false]) (by simp [results, Tryd.results13, go_sem, g0, g1, g2, g3, g4, g5]) rfl ⟨?_, (mk_up HW3.out.up (Nat.le_refl _) _ _ _ _ _ _).trans (Up.drew _)⟩
                rw [← HF.out]; rfl
          · have hq : q = E := by have := HQ.out; omega
            obtain ⟨r0, r1, r2, r3, r4, r5⟩ := mk_cells HW3.out.box
            obtain ⟨f0, f1, f2, f3, f4, f5⟩ := mk_frz HW3.out.box
            have hR := HR.out
            have hT := HT.out
            rw [hq, HN.out] at hR hT
            have hKE : K = E - p := by have : rwL (fun x => x == c || bk x) ([] : List Nat) = 0 := rfl; omega
            have hkC : k = C := by simpa using hT
            have f2 : decide ((q : Int) < (E : Int)) = false := decide_eq_false (by omega)
            have f3 : decide (q < E) = false := decide_eq_false hlt
            by_cases h3 : k < 3
            · have HF := Lib.hid (show (noM, false) = A from HA2.out (fun h => by omega))
              have g3 : (k : Int) < 3 := by omega
              clear hR hT hq hlt hKE hkC h3
              go_wp2_with (go_at_call 25; ((with_reducible refine (HE.out _).mono ?_); rintro e1 w1 ⟨rfl, rfl⟩))
              have hx := mk_box HW3.out.box (.int .u8 0) (.int .i64 0) (.int .i64 0) (.int .i64 0) (.int .i64 0) (.int .i64 0)
              obtain ⟨g0, g1, g2, g3, g4, g5⟩ := mk_cells hx
              try simp only [Exit.inBlock, Exit.then]
              refine bodyPost_ret (v := .tuple #[.agg #[.int .u8 0, .int .i64 0, .int .i64 0, .int .i64 0, .int .i64 0, .int .i64 0], .bool false]) (by simp [results, Tryd.results13, go_sem, g0, g1, g2, g3, g4, g5]) rfl ⟨?_, (mk_up HW3.out.up (Nat.le_refl _) _ _ _ _ _ _)⟩
              rw [← HF.out]; rfl
            · have HF := Lib.hid (show (⟨c, k, 0, 0, 0, L⟩, true) = A from by rw [hkC]; exact HA1.out ⟨hKE, by omega⟩)
              have g3 : ¬ ((k : Int) < 3) := by omega
              clear hR hT hq hlt hKE hkC h3
              go_wp2_with (go_at_call 25; ((with_reducible refine (HE.out _).mono ?_); rintro e1 w1 ⟨rfl, rfl⟩))
              go_region_law (first | (go_simp; go_at_call 34; ((with_reducible refine (HLa.out _).mono ?_); rintro e1 w1 ⟨rfl, rfl⟩)))
              all_goals
                go_wp2
                have hx := mk_box HW3.out.box (.int .u8 (c : Nat)) (.int .i64 (k : Nat)) (.int .i64 0) (.int .i64 0) (.int .i64 0) (.int .i64 (L : Nat))
                obtain ⟨g0, g1, g2, g3, g4, g5⟩ := mk_cells hx
                try simp only [Exit.inBlock, Exit.then]
                refine bodyPost_ret (v := .tuple #[.agg #[.int .u8 (c : Nat), .int .i64 (k : Nat), .int .i64 0, .int .i64 0, .int .i64 0, .int .i64 (L : Nat)], .bool true]) (by simp [results, Tryd.results13, go_sem, g0, g1, g2, g3, g4, g5]) rfl ⟨?_, (mk_up HW3.out.up (Nat.le_refl _) _ _ _ _ _ _).trans (Up.drew _)⟩
                rw [← HF.out]; rfl
end Go.Proofs.YtiamanaiineglaaDoor
