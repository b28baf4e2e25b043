/- The document's Head. -/
import Derived.Test.YtiamanaiineglaaDoorMkBox
import Derived.Test.YtiamanaiineglaaDoorMkMath2
namespace Go.Proofs.YtiamanaiineglaaDoor
open Go.RowKit

theorem la_step {h : List Nat} {k x : Nat} (hx : h[k]? = some x) : laL (h.take (k + 1)) = if bk x = true then laL (h.take k) else k + 1 := by
  rw [List.take_add_one, hx, Option.toList_some, laL_snoc, List.length_take, Nat.min_eq_left (Nat.le_of_lt (List.getElem?_eq_some_iff.1 hx).1)]
theorem cc_zero {h : List Nat} (h0 : h.length - tlL 35 h = 0) : ccL h = 0 := by
  unfold ccL
  rw [if_neg (fun k => by omega), h0]
theorem cc_pos {h : List Nat} {k x : Nat} (h0 : h.length - tlL 35 h = k + 1) (hx : h[k]? = some x) : ccL h = if bk x = true then k + 1 else h.length := by
  unfold ccL
  rw [h0, Nat.add_sub_cancel, List.getD_eq_getElem?_getD, hx]
  cases hb : bk x with
  | true => rw [if_neg (fun k => by have := k.2; rw [Option.getD_some, hb] at this; cases this), if_pos rfl]
  | false => rw [if_pos ⟨by omega, by rw [Option.getD_some, hb]⟩, if_neg (by decide)]
theorem sk_step {h : List Nat} {j x : Nat} (hx : h[j]? = some x) : skL (h.drop j) = if bk x = true then skL (h.drop (j + 1)) + 1 else 0 := by
  have hj := (List.getElem?_eq_some_iff.1 hx).1
  rw [List.drop_eq_getElem_cons hj, (List.getElem?_eq_some_iff.1 hx).2]
  rfl
set_option maxRecDepth 100000 in
set_option maxHeartbeats 4000000 in
theorem rHead_any (s : ByteArray) (a : Int) (w : World) (hs : (s.size : Int) ≤ 1000000) :
    Calls Tryd.prog 17 #[.string s, .int .i64 a] w fun e w' => e = .returned (mkV (headL a.toNat (restL (bl s) a))) ∧ Up w w' := by
  have HO := Lib.hid (fun W => rOut_any s a W hs)
  have HW := Lib.hid (NewM.new w 26)
  cases ho : outE s a with
  | true =>
    rw [rest_out ho]
    rw [ho] at HO
    clear ho hs
    go_enter Tryd.func17, Tryd.ntmps17
    go_wp2_with (first
      | (go_at_call 33; ((with_reducible refine (HO.out _).mono ?_); rintro e1 w1 ⟨rfl, h1⟩; have HW1 := Lib.hid (HW.out.same h1); clear h1 HW; obtain ⟨r0, r1, r2, r3, r4, r5⟩ := mk_cells HW1.out.box; obtain ⟨f0, f1, f2, f3, f4, f5⟩ := mk_frz HW1.out.box)))
    have hx := mk_box HW1.out.box (.int .u8 0) (.int .i64 0) (.int .i64 0) (.int .i64 0) (.int .i64 0) (.int .i64 0)
    obtain ⟨g0, g1, g2, g3, g4, g5⟩ := mk_cells hx
    try simp only [Exit.inBlock, Exit.then]
    refine bodyPost_ret (v := .tuple #[.agg #[.int .u8 0, .int .i64 0, .int .i64 0, .int .i64 0, .int .i64 0, .int .i64 0], .bool false]) (by simp [results, Tryd.results17, go_sem, g0, g1, g2, g3, g4, g5]) rfl ⟨?_, (mk_up HW1.out.up (Nat.le_refl _) _ _ _ _ _ _)⟩
    rfl
  | false =>
    obtain ⟨p, rfl, hp⟩ := out_in ho
    have hO := own_le s
    have hps : p < s.size := by omega
    obtain ⟨c, hc⟩ : ∃ c, bt s p = c := ⟨_, rfl⟩
    have hx0 : s[p].toNat = c := by rw [bt_eq hps]; exact hc
    have p0 : (0 : Int) ≤ (p : Int) := by omega
    have p1 : (p : Int) < s.size := by omega
    rw [ho] at HO
    rw [rest_in, Int.toNat_natCast]
    clear ho
    by_cases hcc : c = 35
    case neg =>
      have n1 : ((c : Int) != 35) = true := bne_iff_ne.2 (by omega)
      have hn0 : rwL (· == 35) ((bl (ownB s)).drop p) = 0 := by
        rw [blo_drop rfl hp, hc, rwL_cons, if_neg (by simpa using hcc)]
      rw [headL_eq hn0, if_pos (.inl rfl)]
      clear hn0 hcc hc hp hO hs
      go_enter Tryd.func17, Tryd.ntmps17
      go_wp2_with (first
        | (go_at_call 33; ((with_reducible refine (HO.out _).mono ?_); rintro e1 w1 ⟨rfl, h1⟩; have HW1 := Lib.hid (HW.out.same h1); clear h1 HW; obtain ⟨r0, r1, r2, r3, r4, r5⟩ := mk_cells HW1.out.box; obtain ⟨f0, f1, f2, f3, f4, f5⟩ := mk_frz HW1.out.box)))
      have hx := mk_box HW1.out.box (.int .u8 0) (.int .i64 0) (.int .i64 0) (.int .i64 0) (.int .i64 0) (.int .i64 0)
      obtain ⟨g0, g1, g2, g3, g4, g5⟩ := mk_cells hx
      try simp only [Exit.inBlock, Exit.then]
      refine bodyPost_ret (v := .tuple #[.agg #[.int .u8 0, .int .i64 0, .int .i64 0, .int .i64 0, .int .i64 0, .int .i64 0], .bool false]) (by simp [results, Tryd.results17, go_sem, g0, g1, g2, g3, g4, g5]) rfl ⟨?_, (mk_up HW1.out.up (Nat.le_refl _) _ _ _ _ _ _)⟩
      rfl
    have n1 : ((c : Int) != 35) = false := by rw [hcc]; rfl
    have HBe0 := (fun W => rBehind_any s p c W hs hp hc)
    have hl := rwL_le (· == c) ((bl (ownB s)).drop p)
    rw [List.length_drop, bl_len] at hl
    obtain ⟨n, hn⟩ : ∃ n, rwL (· == c) ((bl (ownB s)).drop p) = n := ⟨_, rfl⟩
    obtain ⟨V, hV⟩ : ∃ V, p + n = V := ⟨_, rfl⟩
    rw [hn, hV] at HBe0
    have HBe := Lib.hid HBe0
    rw [hn] at hl
    have hnp : 0 < n := by rw [← hn, blo_drop rfl hp, hc, rwL_cons, if_pos (by simp)]; omega
    have hVE : V ≤ (ownB s).size := by omega
    have HLa0 := (fun W => rLast_any s V W hs hVE)
    have HPt0 := (fun W => rPart_any s V W hs hVE)
    obtain ⟨R, hR⟩ : ∃ R, (bl (ownB s)).drop V = R := ⟨_, rfl⟩
    have hRa : ∀ k, V + k < (ownB s).size → R[k]? = some (bt s (V + k)) := fun k hk => by
      rw [← hR, List.getElem?_drop, own_bt hk]
      exact bl_at hk
    have hRl : R.length = (ownB s).size - V := by rw [← hR, List.length_drop, bl_len]
    rw [hR] at HLa0 HPt0
    rw [hcc] at hn
    rw [headL_eq hn, List.drop_drop, hV, hR]
    obtain ⟨L, hL⟩ : ∃ L, laL R = L := ⟨_, rfl⟩
    rw [hL] at HLa0 ⊢
    obtain ⟨M, hM⟩ : ∃ M, V + L = M := ⟨_, rfl⟩
    rw [hM] at HLa0 ⊢
    obtain ⟨B, hB⟩ : ∃ B, ptL R = B := ⟨_, rfl⟩
    rw [hB] at HPt0 ⊢
    have HLa := Lib.hid HLa0
    have HPt := Lib.hid HPt0
    have hLR : L ≤ R.length := by rw [← hL]; exact laL_le R
    obtain ⟨h, hh⟩ : ∃ h, R.take L = h := ⟨_, rfl⟩
    have hhl : h.length = L := by rw [← hh, List.length_take]; omega
    have HA := Lib.hid (show ∀ k, k < L → h[k]? = some (bt s (V + k)) ∧ V + k < s.size from fun k hk => ⟨by rw [← hh, List.getElem?_take, if_pos hk]; exact hRa k (by omega), by omega⟩)
    have hllast : laL h = L := by
      rw [← hh]
      refine laL_at _ L (by rw [List.length_take]; omega) (fun i d hi hd => ?_) (fun d h0 hd => ?_)
      · rw [List.getElem?_take] at hd
        split at hd
        · omega
        · cases hd
      · obtain ⟨x, hx, hb⟩ := laL_last R (by omega)
        rw [List.getElem?_take, if_pos (by omega), ← hL, hx] at hd
        injection hd with hd
        rw [← hd]
        exact hb
    rw [hh]
    have HE0 := Lib.hid (show IntKind.i64.wrap ((V : Int) - (p : Int)) = (n : Nat) from (IntWalk.i64_in _ (by omega)).trans (by omega))
    have HS := Lib.hid (show V ≤ s.size ∧ V + L ≤ s.size ∧ (s.size : Int) ≤ 1000000 by omega)
    clear HBe0 HLa0 HPt0 hh hLR hB hL hR hRa hRl hn hc hcc hp hO hl hVE hs
    by_cases h6 : 6 < n
    · rw [if_pos (.inr (.inl h6))]
      have g6 : (6 : Int) < (n : Int) := by omega
      clear h6 hnp hV hM hhl hllast
      have e0 := HE0.out
      go_enter Tryd.func17, Tryd.ntmps17
      go_wp2_with (first
        | (go_at_call 33; ((with_reducible refine (HO.out _).mono ?_); rintro e1 w1 ⟨rfl, h1⟩; have HW1 := Lib.hid (HW.out.same h1); clear h1 HW; obtain ⟨r0, r1, r2, r3, r4, r5⟩ := mk_cells HW1.out.box; obtain ⟨f0, f1, f2, f3, f4, f5⟩ := mk_frz HW1.out.box))
        | (go_at_call 37; ((with_reducible refine (HBe.out _).mono ?_); rintro e1 w2 ⟨rfl, h2⟩; have HW2 := Lib.hid (HW1.out.more h2.up); clear h2 HW1 r0 r1 r2 r3 r4 r5 f0 f1 f2 f3 f4 f5; have HW1 := HW2; clear HW2; obtain ⟨r0, r1, r2, r3, r4, r5⟩ := mk_cells HW1.out.box; obtain ⟨f0, f1, f2, f3, f4, f5⟩ := mk_frz HW1.out.box)))
      have hx := mk_box HW1.out.box (.int .u8 0) (.int .i64 0) (.int .i64 0) (.int .i64 0) (.int .i64 0) (.int .i64 0)
      obtain ⟨g0, g1, g2, g3, g4, g5⟩ := mk_cells hx
      try simp only [Exit.inBlock, Exit.then]
      refine bodyPost_ret (v := .tuple #[.agg #[.int .u8 0, .int .i64 0, .int .i64 0, .int .i64 0, .int .i64 0, .int .i64 0], .bool false]) (by simp [results, Tryd.results17, go_sem, g0, g1, g2, g3, g4, g5]) rfl ⟨?_, (mk_up HW1.out.up (Nat.le_refl _) _ _ _ _ _ _)⟩
      rfl
    have g6 : ¬ ((6 : Int) < (n : Int)) := by omega
    cases B with
    | false =>
      rw [if_pos (.inr (.inr rfl))]
      clear h6 hnp hV hM hhl hllast
      have e0 := HE0.out
      go_enter Tryd.func17, Tryd.ntmps17
      go_wp2_with (first
        | (go_at_call 33; ((with_reducible refine (HO.out _).mono ?_); rintro e1 w1 ⟨rfl, h1⟩; have HW1 := Lib.hid (HW.out.same h1); clear h1 HW; obtain ⟨r0, r1, r2, r3, r4, r5⟩ := mk_cells HW1.out.box; obtain ⟨f0, f1, f2, f3, f4, f5⟩ := mk_frz HW1.out.box))
        | (go_at_call 37; ((with_reducible refine (HBe.out _).mono ?_); rintro e1 w2 ⟨rfl, h2⟩; have HW2 := Lib.hid (HW1.out.more h2.up); clear h2 HW1 r0 r1 r2 r3 r4 r5 f0 f1 f2 f3 f4 f5; have HW1 := HW2; clear HW2; obtain ⟨r0, r1, r2, r3, r4, r5⟩ := mk_cells HW1.out.box; obtain ⟨f0, f1, f2, f3, f4, f5⟩ := mk_frz HW1.out.box))
        | (go_at_call 38; ((with_reducible refine (HPt.out _).mono ?_); rintro e1 w1 ⟨rfl, rfl⟩)))
      have hx := mk_box HW1.out.box (.int .u8 0) (.int .i64 0) (.int .i64 0) (.int .i64 0) (.int .i64 0) (.int .i64 0)
      obtain ⟨g0, g1, g2, g3, g4, g5⟩ := mk_cells hx
      try simp only [Exit.inBlock, Exit.then]
      refine bodyPost_ret (v := .tuple #[.agg #[.int .u8 0, .int .i64 0, .int .i64 0, .int .i64 0, .int .i64 0, .int .i64 0], .bool false]) (by simp [results, Tryd.results17, go_sem, g0, g1, g2, g3, g4, g5]) rfl ⟨?_, (mk_up HW1.out.up (Nat.le_refl _) _ _ _ _ _ _)⟩
      rfl
    | true =>
      rw [if_neg (by rintro (h | h | h) <;> first | omega | cases h), cn_eq]
      obtain ⟨tl, htl⟩ : ∃ tl, tlL 35 h = tl := ⟨_, rfl⟩
      have htl2 : tl ≤ L := by
        rw [← htl, ← hhl, ← List.length_reverse]
        exact rwL_le _ _
      obtain ⟨e2, he2⟩ : ∃ e2, laL (h.take (ccL h)) = e2 := ⟨_, rfl⟩
      rw [he2]
      obtain ⟨fq, hf2⟩ : ∃ fq, (if e2 = 0 then 0 else skL h) = fq := ⟨_, rfl⟩
      rw [hf2]
      have hf3 : (e2 = 0 → fq = 0) ∧ (0 < e2 → fq = skL h ∧ skL h < e2) := by
        constructor
        · intro h0; rw [← hf2, if_pos h0]
        · intro h0
          refine ⟨by rw [← hf2, if_neg (by omega)], ?_⟩
          rw [← he2]
          exact sk_lt_take (by omega)
      have he3 : e2 ≤ L := by rw [← he2]; exact Nat.le_trans (laL_le _) (by rw [List.length_take]; omega)
      have HF3 := Lib.hid hf3
      have HE3 := Lib.hid he3
      have HE2 := Lib.hid he2
      have HTL := Lib.hid (And.intro htl htl2)
      have HHL := Lib.hid (And.intro hhl hllast)
      have HVM := Lib.hid hM
      have HT0 := Lib.hid (show (L - L) + rwL (· == 35) ((h.take L).reverse) = tl by rw [← hhl, List.take_length, Nat.sub_self, Nat.zero_add]; exact htl)
      clear h6 hnp hV hM hhl hllast htl htl2 he2 hf2 hf3 he3
      have e0 := HE0.out
      go_enter Tryd.func17, Tryd.ntmps17
      go_wp2_with (first
        | (go_at_call 33; ((with_reducible refine (HO.out _).mono ?_); rintro e1 w1 ⟨rfl, h1⟩; have HW1 := Lib.hid (HW.out.same h1); clear h1 HW; obtain ⟨r0, r1, r2, r3, r4, r5⟩ := mk_cells HW1.out.box; obtain ⟨f0, f1, f2, f3, f4, f5⟩ := mk_frz HW1.out.box))
        | (go_at_call 37; ((with_reducible refine (HBe.out _).mono ?_); rintro e1 w2 ⟨rfl, h2⟩; have HW2 := Lib.hid (HW1.out.more h2.up); clear h2 HW1 r0 r1 r2 r3 r4 r5 f0 f1 f2 f3 f4 f5; have HW1 := HW2; clear HW2; obtain ⟨r0, r1, r2, r3, r4, r5⟩ := mk_cells HW1.out.box; obtain ⟨f0, f1, f2, f3, f4, f5⟩ := mk_frz HW1.out.box))
        | (go_at_call 38; ((with_reducible refine (HPt.out _).mono ?_); rintro e1 w1 ⟨rfl, rfl⟩))
        | (go_at_call 34; ((with_reducible refine (HLa.out _).mono ?_); rintro e1 w1 ⟨rfl, rfl⟩)))
      clear e0 g6 n1 hx0 p0 p1
      -- the closing row
      go_loopg [8] L (fun g tv wr => w2 = wr ∧ ∃ k t : Nat, g = k ∧ tv = .int .i64 (t : Nat) ∧ Hid (t = V + k ∧ k ≤ L) ∧ Hid ((L - k) + rwL (· == 35) ((h.take k).reverse) = tl))
      case atStart => exact ⟨rfl, L, M, rfl, rfl, Lib.hid ⟨HVM.out.symm, Nat.le_refl _⟩, HT0⟩
      case round =>
        obtain ⟨rfl, k, t, hg, rfl, HK, HR⟩ := hrel
        have HG := Lib.hid hg
        clear hg
        obtain ⟨htk, hkL⟩ := HK.out
        by_cases hk0 : k = 0
        · subst hk0
          obtain rfl : V = t := by omega
          have hR := HR.out
          have hcz : ccL h = 0 := cc_zero (by rw [HTL.out.1, HHL.out.1]; have : rwL (· == 35) (([] : List Nat).reverse) = 0 := rfl; rw [List.take_zero] at hR; omega)
          have HC2 := Lib.hid (show laL (h.take 0) = e2 by have := HE2.out; rw [hcz] at this; exact this)
          clear hR hcz htk hkL HK HR
          go_upto_region 12 with fail
          -- the blanks ahead of it
          go_loopg [8] (0 + 1) (fun g tv wr => w2 = wr ∧ ∃ k t : Nat, g = k + 1 ∧ tv = .int .i64 (t : Nat) ∧ Hid (t = V + k ∧ k ≤ L) ∧ Hid (laL (h.take k) = e2))
          case atStart => exact ⟨rfl, 0, V, rfl, rfl, Lib.hid (show V = V + 0 ∧ 0 ≤ L by omega), HC2⟩
          case round =>
            clear HC2
            obtain ⟨rfl, k, t, hg, rfl, HK, HR⟩ := hrel
            have HG := Lib.hid hg
            clear hg
            obtain ⟨htk, hkL⟩ := HK.out
            by_cases hk0 : k = 0
            · subst hk0
              obtain ⟨T2, hTt⟩ : ∃ T2, T2 = t := ⟨t, rfl⟩
              subst hTt
              have HT2 := Lib.hid (show V + e2 = T2 by have := HR.out; rw [List.take_zero] at this; have : e2 = 0 := this.symm; omega)
              have k2 : ¬ ((V : Int) < (T2 : Int)) := by omega
              have k3 : decide (V < T2) = false := decide_eq_false (by omega)
              have k4 : decide ((V : Int) < (T2 : Int)) = false := decide_eq_false k2
              clear htk hkL HK HR k2
              go_upto_region 15 with fail
              clear k3 k4
              -- where it begins
              go_loopg [9] (e2 + 1) (fun g tv wr => w2 = wr ∧ ∃ j t : Nat, g = e2 + 1 - j ∧ tv = .int .i64 (t : Nat) ∧ Hid (t = V + j ∧ j ≤ e2 ∧ (e2 = 0 → j = 0)) ∧ Hid (0 < e2 → j + skL (h.drop j) = skL h))
              case atStart => exact ⟨rfl, 0, V, by omega, rfl, Lib.hid (by omega), Lib.hid (fun _ => by rw [List.drop_zero, Nat.zero_add])⟩
              case round =>
                obtain ⟨rfl, j, t, hg, rfl, HJ3, HR⟩ := hrel
                have HG := Lib.hid hg
                clear hg
                obtain ⟨htj, hje, hj0⟩ := HJ3.out
                by_cases hlt : j < e2
                · obtain ⟨ha, hub⟩ := HA.out j (by have := HE3.out; omega)
                  rw [← htj] at ha hub
                  obtain ⟨x, hx1⟩ : ∃ x, bt s t = x := ⟨_, rfl⟩
                  have hx : s[t].toNat = x := by rw [bt_eq hub]; exact hx1
                  rw [hx1] at ha
                  have hR := HR.out (by omega)
                  rw [sk_step ha] at hR
                  have k0 : (0 : Int) ≤ (t : Int) := by omega
                  have k1 : (t : Int) < s.size := by omega
                  have k2 : (t : Int) < (T2 : Int) := by have := HT2.out; omega
                  have HEt := Lib.hid (show IntKind.i64.wrap ((t : Int) + 1) = (t : Int) + 1 from IntWalk.i64_in _ (by have := HS.out; omega))
                  have HB1 := Lib.hid (fun W => rbk_any x W)
                  cases hb : bk x with
                  | true =>
                    rw [hb, if_pos rfl] at hR
                    rw [hb] at HB1
                    have HR2 := Lib.hid (show 0 < e2 → j + 1 + skL (h.drop (j + 1)) = skL h from fun _ => by omega)
                    have HJ2 := Lib.hid (show t + 1 = V + (j + 1) ∧ j + 1 ≤ e2 ∧ (e2 = 0 → j + 1 = 0) by omega)
                    have HM := Lib.hid (show e2 + 1 - (j + 1) < e2 + 1 - j by omega)
                    clear hR hb hx1 ha htj hje hj0 hlt HJ3 HR
                    have et := HEt.out
                    go_wp2_with (go_at_call 24; ((with_reducible refine (HB1.out _).mono ?_); rintro e3 w3 ⟨rfl, rfl⟩))
                    go_roundg (e2 + 1 - (j + 1))
                    case measure => rw [HG.out]; exact HM.out
                    case rel => exact ⟨rfl, j + 1, t + 1, rfl, by go_num, HJ2, HR2⟩
                  | false =>
                    rw [hb, if_neg (by decide)] at hR
                    rw [hb] at HB1
                    have HF := Lib.hid (show V + fq = t by have := HF3.out.2 (by omega); omega)
                    clear hR hb hx1 ha htj hje hj0 hlt HJ3 HR HEt
                    have e0 := HE0.out
                    go_wp2_with (go_at_call 24; ((with_reducible refine (HB1.out _).mono ?_); rintro e3 w3 ⟨rfl, rfl⟩))
                    have hx := mk_box HW1.out.box (.int .u8 0) (.int .i64 (n : Nat)) (.int .i64 (V : Nat)) (.int .i64 (t : Nat)) (.int .i64 (T2 : Nat)) (.int .i64 (M : Nat))
                    obtain ⟨g0, g1, g2, g3, g4, g5⟩ := mk_cells hx
                    try simp only [Exit.inBlock, Exit.then]
                    refine bodyPost_ret (v := .tuple #[.agg #[.int .u8 0, .int .i64 (n : Nat), .int .i64 (V : Nat), .int .i64 (t : Nat), .int .i64 (T2 : Nat), .int .i64 (M : Nat)], .bool true]) (by simp [results, Tryd.results17, go_sem, g0, g1, g2, g3, g4, g5]) rfl ⟨?_, (mk_up HW1.out.up (Nat.le_refl _) _ _ _ _ _ _)⟩
                    rw [HF.out, ← HT2.out]; rfl
                · have HF := Lib.hid (show V + fq = t by
                    have h1 := HF3.out
                    rcases Nat.eq_zero_or_pos e2 with h0 | h0
                    · have := h1.1 h0; have := hj0 h0; omega
                    · have h2 := h1.2 h0; have := HR.out h0; omega)
                  have k2 : ¬ ((t : Int) < (T2 : Int)) := by have := HT2.out; omega
                  have k3 : decide (t < T2) = false := decide_eq_false (by have := HT2.out; omega)
                  have k4 : decide ((t : Int) < (T2 : Int)) = false := decide_eq_false k2
                  clear htj hje hj0 hlt HJ3 HR k2
                  have e0 := HE0.out
                  go_wp2
                  have hx := mk_box HW1.out.box (.int .u8 0) (.int .i64 (n : Nat)) (.int .i64 (V : Nat)) (.int .i64 (t : Nat)) (.int .i64 (T2 : Nat)) (.int .i64 (M : Nat))
                  obtain ⟨g0, g1, g2, g3, g4, g5⟩ := mk_cells hx
                  try simp only [Exit.inBlock, Exit.then]
                  refine bodyPost_ret (v := .tuple #[.agg #[.int .u8 0, .int .i64 (n : Nat), .int .i64 (V : Nat), .int .i64 (t : Nat), .int .i64 (T2 : Nat), .int .i64 (M : Nat)], .bool true]) (by simp [results, Tryd.results17, go_sem, g0, g1, g2, g3, g4, g5]) rfl ⟨?_, (mk_up HW1.out.up (Nat.le_refl _) _ _ _ _ _ _)⟩
                  rw [HF.out, ← HT2.out]; rfl
            · obtain ⟨j, rfl⟩ : ∃ j, k = j + 1 := ⟨k - 1, by omega⟩
              obtain ⟨u, hu⟩ : ∃ u, V + j = u := ⟨_, rfl⟩
              obtain rfl : t = u + 1 := by omega
              obtain ⟨ha, hub⟩ := HA.out j (by omega)
              rw [hu] at ha hub
              obtain ⟨x, hx1⟩ : ∃ x, bt s u = x := ⟨_, rfl⟩
              have hx : s[u].toNat = x := by rw [bt_eq hub]; exact hx1
              rw [hx1] at ha
              have hR := HR.out
              rw [la_step ha] at hR
              have k0 : (0 : Int) ≤ (u : Int) := by omega
              have k1 : (u : Int) < s.size := by omega
              have k2 : (V : Int) < ((u + 1 : Nat) : Int) := by omega
              have HEu := Lib.hid (show wrap64 (u : Int) = (u : Nat) from IntWalk.wrap64_in _ (by have := HS.out; omega))
              have HB1 := Lib.hid (fun W => rbk_any x W)
              cases hb : bk x with
              | true =>
                rw [hb, if_pos rfl] at hR
                rw [hb] at HB1
                have HR2 := Lib.hid hR
                have HK2 := Lib.hid (show u = V + j ∧ j ≤ L by omega)
                clear hR hb hx1 ha htk hkL HK HR hu hk0
                have eu := HEu.out
                go_wp2_with (go_at_call 24; ((with_reducible refine (HB1.out _).mono ?_); rintro e3 w3 ⟨rfl, rfl⟩))
                go_roundg (j + 1)
                case measure => rw [HG.out]; omega
                case rel => exact ⟨rfl, j, u, rfl, by go_num, HK2, HR2⟩
              | false =>
                rw [hb, if_neg (by decide)] at hR
                rw [hb] at HB1
                have HRR := Lib.hid (show V + e2 = u + 1 by omega)
                clear hR hb hx1 ha htk hkL HK HR hk0
                have eu := HEu.out
                go_upto_region 15 with (go_at_call 24; ((with_reducible refine (HB1.out _).mono ?_); rintro e3 w3 ⟨rfl, rfl⟩))
                clear eu k0 k1 k2 hx hu HEu
                obtain ⟨T2, hT2⟩ : ∃ T2 : Nat, V + e2 = T2 := ⟨_, rfl⟩
                have hT3 : ((u : Int) + 1) = (T2 : Int) := by have := HRR.out; omega
                have HT2 := Lib.hid hT2
                rw [hT3]
                clear hT2 hT3 HRR
                -- where it begins
                go_loopg [9] (e2 + 1) (fun g tv wr => w2 = wr ∧ ∃ j t : Nat, g = e2 + 1 - j ∧ tv = .int .i64 (t : Nat) ∧ Hid (t = V + j ∧ j ≤ e2 ∧ (e2 = 0 → j = 0)) ∧ Hid (0 < e2 → j + skL (h.drop j) = skL h))
                case atStart => exact ⟨rfl, 0, V, by omega, rfl, Lib.hid (by omega), Lib.hid (fun _ => by rw [List.drop_zero, Nat.zero_add])⟩
                case round =>
                  obtain ⟨rfl, j, t, hg, rfl, HJ3, HR⟩ := hrel
                  have HG := Lib.hid hg
                  clear hg
                  obtain ⟨htj, hje, hj0⟩ := HJ3.out
                  by_cases hlt : j < e2
                  · obtain ⟨ha, hub⟩ := HA.out j (by have := HE3.out; omega)
                    rw [← htj] at ha hub
                    obtain ⟨x, hx1⟩ : ∃ x, bt s t = x := ⟨_, rfl⟩
                    have hx : s[t].toNat = x := by rw [bt_eq hub]; exact hx1
                    rw [hx1] at ha
                    have hR := HR.out (by omega)
                    rw [sk_step ha] at hR
                    have k0 : (0 : Int) ≤ (t : Int) := by omega
                    have k1 : (t : Int) < s.size := by omega
                    have k2 : (t : Int) < (T2 : Int) := by have := HT2.out; omega
                    have HEt := Lib.hid (show IntKind.i64.wrap ((t : Int) + 1) = (t : Int) + 1 from IntWalk.i64_in _ (by have := HS.out; omega))
                    have HB1 := Lib.hid (fun W => rbk_any x W)
                    cases hb : bk x with
                    | true =>
                      rw [hb, if_pos rfl] at hR
                      rw [hb] at HB1
                      have HR2 := Lib.hid (show 0 < e2 → j + 1 + skL (h.drop (j + 1)) = skL h from fun _ => by omega)
                      have HJ2 := Lib.hid (show t + 1 = V + (j + 1) ∧ j + 1 ≤ e2 ∧ (e2 = 0 → j + 1 = 0) by omega)
                      have HM := Lib.hid (show e2 + 1 - (j + 1) < e2 + 1 - j by omega)
                      clear hR hb hx1 ha htj hje hj0 hlt HJ3 HR
                      have et := HEt.out
                      go_wp2_with (go_at_call 24; ((with_reducible refine (HB1.out _).mono ?_); rintro e3 w3 ⟨rfl, rfl⟩))
                      go_roundg (e2 + 1 - (j + 1))
                      case measure => rw [HG.out]; exact HM.out
                      case rel => exact ⟨rfl, j + 1, t + 1, rfl, by go_num, HJ2, HR2⟩
                    | false =>
                      rw [hb, if_neg (by decide)] at hR
                      rw [hb] at HB1
                      have HF := Lib.hid (show V + fq = t by have := HF3.out.2 (by omega); omega)
                      clear hR hb hx1 ha htj hje hj0 hlt HJ3 HR HEt
                      have e0 := HE0.out
                      go_wp2_with (go_at_call 24; ((with_reducible refine (HB1.out _).mono ?_); rintro e3 w3 ⟨rfl, rfl⟩))
                      have hx := mk_box HW1.out.box (.int .u8 0) (.int .i64 (n : Nat)) (.int .i64 (V : Nat)) (.int .i64 (t : Nat)) (.int .i64 (T2 : Nat)) (.int .i64 (M : Nat))
                      obtain ⟨g0, g1, g2, g3, g4, g5⟩ := mk_cells hx
                      try simp only [Exit.inBlock, Exit.then]
                      refine bodyPost_ret (v := .tuple #[.agg #[.int .u8 0, .int .i64 (n : Nat), .int .i64 (V : Nat), .int .i64 (t : Nat), .int .i64 (T2 : Nat), .int .i64 (M : Nat)], .bool true]) (by simp [results, Tryd.results17, go_sem, g0, g1, g2, g3, g4, g5]) rfl ⟨?_, (mk_up HW1.out.up (Nat.le_refl _) _ _ _ _ _ _)⟩
                      rw [HF.out, ← HT2.out]; rfl
                  · have HF := Lib.hid (show V + fq = t by
                      have h1 := HF3.out
                      rcases Nat.eq_zero_or_pos e2 with h0 | h0
                      · have := h1.1 h0; have := hj0 h0; omega
                      · have h2 := h1.2 h0; have := HR.out h0; omega)
                    have k2 : ¬ ((t : Int) < (T2 : Int)) := by have := HT2.out; omega
                    have k3 : decide (t < T2) = false := decide_eq_false (by have := HT2.out; omega)
                    have k4 : decide ((t : Int) < (T2 : Int)) = false := decide_eq_false k2
                    clear htj hje hj0 hlt HJ3 HR k2
                    have e0 := HE0.out
                    go_wp2
                    have hx := mk_box HW1.out.box (.int .u8 0) (.int .i64 (n : Nat)) (.int .i64 (V : Nat)) (.int .i64 (t : Nat)) (.int .i64 (T2 : Nat)) (.int .i64 (M : Nat))
                    obtain ⟨g0, g1, g2, g3, g4, g5⟩ := mk_cells hx
                    try simp only [Exit.inBlock, Exit.then]
                    refine bodyPost_ret (v := .tuple #[.agg #[.int .u8 0, .int .i64 (n : Nat), .int .i64 (V : Nat), .int .i64 (t : Nat), .int .i64 (T2 : Nat), .int .i64 (M : Nat)], .bool true]) (by simp [results, Tryd.results17, go_sem, g0, g1, g2, g3, g4, g5]) rfl ⟨?_, (mk_up HW1.out.up (Nat.le_refl _) _ _ _ _ _ _)⟩
                    rw [HF.out, ← HT2.out]; rfl
        · obtain ⟨j, rfl⟩ : ∃ j, k = j + 1 := ⟨k - 1, by omega⟩
          obtain ⟨u, hu⟩ : ∃ u, V + j = u := ⟨_, rfl⟩
          obtain rfl : t = u + 1 := by omega
          obtain ⟨ha, hub⟩ := HA.out j (by omega)
          rw [hu] at ha hub
          obtain ⟨x, hx1⟩ : ∃ x, bt s u = x := ⟨_, rfl⟩
          have hx : s[u].toNat = x := by rw [bt_eq hub]; exact hx1
          rw [hx1] at ha
          have hR := HR.out
          rw [tl_step ha] at hR
          have k0 : (0 : Int) ≤ (u : Int) := by omega
          have k1 : (u : Int) < s.size := by omega
          have k2 : (V : Int) < ((u + 1 : Nat) : Int) := by omega
          have HEu := Lib.hid (show wrap64 (u : Int) = (u : Nat) from IntWalk.wrap64_in _ (by have := HS.out; omega))
          by_cases hx35 : x = 35
          · rw [if_pos hx35] at hR
            have g1 : ((x : Int) == 35) = true := by rw [hx35]; rfl
            have HR2 := Lib.hid (show (L - j) + rwL (· == 35) ((h.take j).reverse) = tl by omega)
            have HK2 := Lib.hid (show u = V + j ∧ j ≤ L by omega)
            clear hR hx1 hx35 ha htk hkL HK HR hu hk0
            have eu := HEu.out
            go_wp2
            go_roundg j
            case measure => rw [HG.out]; omega
            case rel => exact ⟨rfl, j, u, rfl, by go_num, HK2, HR2⟩
          · rw [if_neg hx35] at hR
            have g1 : ((x : Int) == 35) = false := beq_eq_false_iff_ne.2 (by omega)
            have hcp := cc_pos (h := h) (k := j) (x := x) (by rw [HTL.out.1, HHL.out.1]; omega) ha
            cases hb : bk x with
            | true =>
              rw [hb, if_pos rfl] at hcp
              have HC2 := Lib.hid (show laL (h.take (j + 1)) = e2 by have := HE2.out; rw [hcp] at this; exact this)
              have HB1 := Lib.hid (fun W => by have h := rbk_any x W; rw [hb] at h; exact h)
              have HJ := Lib.hid (show u + 1 = V + (j + 1) ∧ j + 1 ≤ L by omega)
              clear hR hcp hb hx1 hx35 ha htk hkL HK HR hu hk0
              have eu := HEu.out
              go_upto_region 12 with (go_at_call 24; ((with_reducible refine (HB1.out _).mono ?_); rintro e3 w3 ⟨rfl, rfl⟩))
              clear eu k0 k1 k2 g1 hx
              -- the blanks ahead of it
              go_loopg [8] ((j + 1) + 1) (fun g tv wr => w2 = wr ∧ ∃ k t : Nat, g = k + 1 ∧ tv = .int .i64 (t : Nat) ∧ Hid (t = V + k ∧ k ≤ L) ∧ Hid (laL (h.take k) = e2))
              case atStart => exact ⟨rfl, (j + 1), (u + 1), rfl, rfl, Lib.hid HJ.out, HC2⟩
              case round =>
                clear HC2
                obtain ⟨rfl, k, t, hg, rfl, HK, HR⟩ := hrel
                have HG := Lib.hid hg
                clear hg
                obtain ⟨htk, hkL⟩ := HK.out
                by_cases hk0 : k = 0
                · subst hk0
                  obtain ⟨T2, hTt⟩ : ∃ T2, T2 = t := ⟨t, rfl⟩
                  subst hTt
                  have HT2 := Lib.hid (show V + e2 = T2 by have := HR.out; rw [List.take_zero] at this; have : e2 = 0 := this.symm; omega)
                  have k2 : ¬ ((V : Int) < (T2 : Int)) := by omega
                  have k3 : decide (V < T2) = false := decide_eq_false (by omega)
                  have k4 : decide ((V : Int) < (T2 : Int)) = false := decide_eq_false k2
                  clear htk hkL HK HR k2
                  go_upto_region 15 with fail
                  clear k3 k4
                  -- where it begins
                  go_loopg [9] (e2 + 1) (fun g tv wr => w2 = wr ∧ ∃ j t : Nat, g = e2 + 1 - j ∧ tv = .int .i64 (t : Nat) ∧ Hid (t = V + j ∧ j ≤ e2 ∧ (e2 = 0 → j = 0)) ∧ Hid (0 < e2 → j + skL (h.drop j) = skL h))
                  case atStart => exact ⟨rfl, 0, V, by omega, rfl, Lib.hid (by omega), Lib.hid (fun _ => by rw [List.drop_zero, Nat.zero_add])⟩
                  case round =>
                    obtain ⟨rfl, j, t, hg, rfl, HJ3, HR⟩ := hrel
                    have HG := Lib.hid hg
                    clear hg
                    obtain ⟨htj, hje, hj0⟩ := HJ3.out
                    by_cases hlt : j < e2
                    · obtain ⟨ha, hub⟩ := HA.out j (by have := HE3.out; omega)
                      rw [← htj] at ha hub
                      obtain ⟨x, hx1⟩ : ∃ x, bt s t = x := ⟨_, rfl⟩
                      have hx : s[t].toNat = x := by rw [bt_eq hub]; exact hx1
                      rw [hx1] at ha
                      have hR := HR.out (by omega)
                      rw [sk_step ha] at hR
                      have k0 : (0 : Int) ≤ (t : Int) := by omega
                      have k1 : (t : Int) < s.size := by omega
                      have k2 : (t : Int) < (T2 : Int) := by have := HT2.out; omega
                      have HEt := Lib.hid (show IntKind.i64.wrap ((t : Int) + 1) = (t : Int) + 1 from IntWalk.i64_in _ (by have := HS.out; omega))
                      have HB1 := Lib.hid (fun W => rbk_any x W)
                      cases hb : bk x with
                      | true =>
                        rw [hb, if_pos rfl] at hR
                        rw [hb] at HB1
                        have HR2 := Lib.hid (show 0 < e2 → j + 1 + skL (h.drop (j + 1)) = skL h from fun _ => by omega)
                        have HJ2 := Lib.hid (show t + 1 = V + (j + 1) ∧ j + 1 ≤ e2 ∧ (e2 = 0 → j + 1 = 0) by omega)
                        have HM := Lib.hid (show e2 + 1 - (j + 1) < e2 + 1 - j by omega)
                        clear hR hb hx1 ha htj hje hj0 hlt HJ3 HR
                        have et := HEt.out
                        go_wp2_with (go_at_call 24; ((with_reducible refine (HB1.out _).mono ?_); rintro e3 w3 ⟨rfl, rfl⟩))
                        go_roundg (e2 + 1 - (j + 1))
                        case measure => rw [HG.out]; exact HM.out
                        case rel => exact ⟨rfl, j + 1, t + 1, rfl, by go_num, HJ2, HR2⟩
                      | false =>
                        rw [hb, if_neg (by decide)] at hR
                        rw [hb] at HB1
                        have HF := Lib.hid (show V + fq = t by have := HF3.out.2 (by omega); omega)
                        clear hR hb hx1 ha htj hje hj0 hlt HJ3 HR HEt
                        have e0 := HE0.out
                        go_wp2_with (go_at_call 24; ((with_reducible refine (HB1.out _).mono ?_); rintro e3 w3 ⟨rfl, rfl⟩))
                        have hx := mk_box HW1.out.box (.int .u8 0) (.int .i64 (n : Nat)) (.int .i64 (V : Nat)) (.int .i64 (t : Nat)) (.int .i64 (T2 : Nat)) (.int .i64 (M : Nat))
                        obtain ⟨g0, g1, g2, g3, g4, g5⟩ := mk_cells hx
                        try simp only [Exit.inBlock, Exit.then]
                        refine bodyPost_ret (v := .tuple #[.agg #[.int .u8 0, .int .i64 (n : Nat), .int .i64 (V : Nat), .int .i64 (t : Nat), .int .i64 (T2 : Nat), .int .i64 (M : Nat)], .bool true]) (by simp [results, Tryd.results17, go_sem, g0, g1, g2, g3, g4, g5]) rfl ⟨?_, (mk_up HW1.out.up (Nat.le_refl _) _ _ _ _ _ _)⟩
                        rw [HF.out, ← HT2.out]; rfl
                    · have HF := Lib.hid (show V + fq = t by
                        have h1 := HF3.out
                        rcases Nat.eq_zero_or_pos e2 with h0 | h0
                        · have := h1.1 h0; have := hj0 h0; omega
                        · have h2 := h1.2 h0; have := HR.out h0; omega)
                      have k2 : ¬ ((t : Int) < (T2 : Int)) := by have := HT2.out; omega
                      have k3 : decide (t < T2) = false := decide_eq_false (by have := HT2.out; omega)
                      have k4 : decide ((t : Int) < (T2 : Int)) = false := decide_eq_false k2
                      clear htj hje hj0 hlt HJ3 HR k2
                      have e0 := HE0.out
                      go_wp2
                      have hx := mk_box HW1.out.box (.int .u8 0) (.int .i64 (n : Nat)) (.int .i64 (V : Nat)) (.int .i64 (t : Nat)) (.int .i64 (T2 : Nat)) (.int .i64 (M : Nat))
                      obtain ⟨g0, g1, g2, g3, g4, g5⟩ := mk_cells hx
                      try simp only [Exit.inBlock, Exit.then]
                      refine bodyPost_ret (v := .tuple #[.agg #[.int .u8 0, .int .i64 (n : Nat), .int .i64 (V : Nat), .int .i64 (t : Nat), .int .i64 (T2 : Nat), .int .i64 (M : Nat)], .bool true]) (by simp [results, Tryd.results17, go_sem, g0, g1, g2, g3, g4, g5]) rfl ⟨?_, (mk_up HW1.out.up (Nat.le_refl _) _ _ _ _ _ _)⟩
                      rw [HF.out, ← HT2.out]; rfl
                · obtain ⟨j, rfl⟩ : ∃ j, k = j + 1 := ⟨k - 1, by omega⟩
                  obtain ⟨u, hu⟩ : ∃ u, V + j = u := ⟨_, rfl⟩
                  obtain rfl : t = u + 1 := by omega
                  obtain ⟨ha, hub⟩ := HA.out j (by omega)
                  rw [hu] at ha hub
                  obtain ⟨x, hx1⟩ : ∃ x, bt s u = x := ⟨_, rfl⟩
                  have hx : s[u].toNat = x := by rw [bt_eq hub]; exact hx1
                  rw [hx1] at ha
                  have hR := HR.out
                  rw [la_step ha] at hR
                  have k0 : (0 : Int) ≤ (u : Int) := by omega
                  have k1 : (u : Int) < s.size := by omega
                  have k2 : (V : Int) < ((u + 1 : Nat) : Int) := by omega
                  have HEu := Lib.hid (show wrap64 (u : Int) = (u : Nat) from IntWalk.wrap64_in _ (by have := HS.out; omega))
                  have HB1 := Lib.hid (fun W => rbk_any x W)
                  cases hb : bk x with
                  | true =>
                    rw [hb, if_pos rfl] at hR
                    rw [hb] at HB1
                    have HR2 := Lib.hid hR
                    have HK2 := Lib.hid (show u = V + j ∧ j ≤ L by omega)
                    clear hR hb hx1 ha htk hkL HK HR hu hk0
                    have eu := HEu.out
                    go_wp2_with (go_at_call 24; ((with_reducible refine (HB1.out _).mono ?_); rintro e3 w3 ⟨rfl, rfl⟩))
                    go_roundg (j + 1)
                    case measure => rw [HG.out]; omega
                    case rel => exact ⟨rfl, j, u, rfl, by go_num, HK2, HR2⟩
                  | false =>
                    rw [hb, if_neg (by decide)] at hR
                    rw [hb] at HB1
                    have HRR := Lib.hid (show V + e2 = u + 1 by omega)
                    clear hR hb hx1 ha htk hkL HK HR hk0
                    have eu := HEu.out
                    go_upto_region 15 with (go_at_call 24; ((with_reducible refine (HB1.out _).mono ?_); rintro e3 w3 ⟨rfl, rfl⟩))
                    clear eu k0 k1 k2 hx hu HEu
                    obtain ⟨T2, hT2⟩ : ∃ T2 : Nat, V + e2 = T2 := ⟨_, rfl⟩
                    have hT3 : ((u : Int) + 1) = (T2 : Int) := by have := HRR.out; omega
                    have HT2 := Lib.hid hT2
                    rw [hT3]
                    clear hT2 hT3 HRR
                    -- where it begins
                    go_loopg [9] (e2 + 1) (fun g tv wr => w2 = wr ∧ ∃ j t : Nat, g = e2 + 1 - j ∧ tv = .int .i64 (t : Nat) ∧ Hid (t = V + j ∧ j ≤ e2 ∧ (e2 = 0 → j = 0)) ∧ Hid (0 < e2 → j + skL (h.drop j) = skL h))
                    case atStart => exact ⟨rfl, 0, V, by omega, rfl, Lib.hid (by omega), Lib.hid (fun _ => by rw [List.drop_zero, Nat.zero_add])⟩
                    case round =>
                      obtain ⟨rfl, j, t, hg, rfl, HJ3, HR⟩ := hrel
                      have HG := Lib.hid hg
                      clear hg
                      obtain ⟨htj, hje, hj0⟩ := HJ3.out
                      by_cases hlt : j < e2
                      · obtain ⟨ha, hub⟩ := HA.out j (by have := HE3.out; omega)
                        rw [← htj] at ha hub
                        obtain ⟨x, hx1⟩ : ∃ x, bt s t = x := ⟨_, rfl⟩
                        have hx : s[t].toNat = x := by rw [bt_eq hub]; exact hx1
                        rw [hx1] at ha
                        have hR := HR.out (by omega)
                        rw [sk_step ha] at hR
                        have k0 : (0 : Int) ≤ (t : Int) := by omega
                        have k1 : (t : Int) < s.size := by omega
                        have k2 : (t : Int) < (T2 : Int) := by have := HT2.out; omega
                        have HEt := Lib.hid (show IntKind.i64.wrap ((t : Int) + 1) = (t : Int) + 1 from IntWalk.i64_in _ (by have := HS.out; omega))
                        have HB1 := Lib.hid (fun W => rbk_any x W)
                        cases hb : bk x with
                        | true =>
                          rw [hb, if_pos rfl] at hR
                          rw [hb] at HB1
                          have HR2 := Lib.hid (show 0 < e2 → j + 1 + skL (h.drop (j + 1)) = skL h from fun _ => by omega)
                          have HJ2 := Lib.hid (show t + 1 = V + (j + 1) ∧ j + 1 ≤ e2 ∧ (e2 = 0 → j + 1 = 0) by omega)
                          have HM := Lib.hid (show e2 + 1 - (j + 1) < e2 + 1 - j by omega)
                          clear hR hb hx1 ha htj hje hj0 hlt HJ3 HR
                          have et := HEt.out
                          go_wp2_with (go_at_call 24; ((with_reducible refine (HB1.out _).mono ?_); rintro e3 w3 ⟨rfl, rfl⟩))
                          go_roundg (e2 + 1 - (j + 1))
                          case measure => rw [HG.out]; exact HM.out
                          case rel => exact ⟨rfl, j + 1, t + 1, rfl, by go_num, HJ2, HR2⟩
                        | false =>
                          rw [hb, if_neg (by decide)] at hR
                          rw [hb] at HB1
                          have HF := Lib.hid (show V + fq = t by have := HF3.out.2 (by omega); omega)
                          clear hR hb hx1 ha htj hje hj0 hlt HJ3 HR HEt
                          have e0 := HE0.out
                          go_wp2_with (go_at_call 24; ((with_reducible refine (HB1.out _).mono ?_); rintro e3 w3 ⟨rfl, rfl⟩))
                          have hx := mk_box HW1.out.box (.int .u8 0) (.int .i64 (n : Nat)) (.int .i64 (V : Nat)) (.int .i64 (t : Nat)) (.int .i64 (T2 : Nat)) (.int .i64 (M : Nat))
                          obtain ⟨g0, g1, g2, g3, g4, g5⟩ := mk_cells hx
                          try simp only [Exit.inBlock, Exit.then]
                          refine bodyPost_ret (v := .tuple #[.agg #[.int .u8 0, .int .i64 (n : Nat), .int .i64 (V : Nat), .int .i64 (t : Nat), .int .i64 (T2 : Nat), .int .i64 (M : Nat)], .bool true]) (by simp [results, Tryd.results17, go_sem, g0, g1, g2, g3, g4, g5]) rfl ⟨?_, (mk_up HW1.out.up (Nat.le_refl _) _ _ _ _ _ _)⟩
                          rw [HF.out, ← HT2.out]; rfl
                      · have HF := Lib.hid (show V + fq = t by
                          have h1 := HF3.out
                          rcases Nat.eq_zero_or_pos e2 with h0 | h0
                          · have := h1.1 h0; have := hj0 h0; omega
                          · have h2 := h1.2 h0; have := HR.out h0; omega)
                        have k2 : ¬ ((t : Int) < (T2 : Int)) := by have := HT2.out; omega
                        have k3 : decide (t < T2) = false := decide_eq_false (by have := HT2.out; omega)
                        have k4 : decide ((t : Int) < (T2 : Int)) = false := decide_eq_false k2
                        clear htj hje hj0 hlt HJ3 HR k2
                        have e0 := HE0.out
                        go_wp2
                        have hx := mk_box HW1.out.box (.int .u8 0) (.int .i64 (n : Nat)) (.int .i64 (V : Nat)) (.int .i64 (t : Nat)) (.int .i64 (T2 : Nat)) (.int .i64 (M : Nat))
                        obtain ⟨g0, g1, g2, g3, g4, g5⟩ := mk_cells hx
                        try simp only [Exit.inBlock, Exit.then]
                        refine bodyPost_ret (v := .tuple #[.agg #[.int .u8 0, .int .i64 (n : Nat), .int .i64 (V : Nat), .int .i64 (t : Nat), .int .i64 (T2 : Nat), .int .i64 (M : Nat)], .bool true]) (by simp [results, Tryd.results17, go_sem, g0, g1, g2, g3, g4, g5]) rfl ⟨?_, (mk_up HW1.out.up (Nat.le_refl _) _ _ _ _ _ _)⟩
                        rw [HF.out, ← HT2.out]; rfl
            | false =>
              rw [hb, if_neg (by decide)] at hcp
              have HC2 := Lib.hid (show laL (h.take L) = e2 by have := HE2.out; rw [hcp, HHL.out.1] at this; exact this)
              have HB1 := Lib.hid (fun W => by have h := rbk_any x W; rw [hb] at h; exact h)
              have HJ := Lib.hid (show M = V + L ∧ L ≤ L by have := HVM.out; omega)
              clear hR hcp hb hx1 hx35 ha htk hkL HK HR hu hk0
              have eu := HEu.out
              go_upto_region 12 with (go_at_call 24; ((with_reducible refine (HB1.out _).mono ?_); rintro e3 w3 ⟨rfl, rfl⟩))
              clear eu k0 k1 k2 g1 hx
              -- the blanks ahead of it
              go_loopg [8] (L + 1) (fun g tv wr => w2 = wr ∧ ∃ k t : Nat, g = k + 1 ∧ tv = .int .i64 (t : Nat) ∧ Hid (t = V + k ∧ k ≤ L) ∧ Hid (laL (h.take k) = e2))
              case atStart => exact ⟨rfl, L, M, rfl, rfl, Lib.hid HJ.out, HC2⟩
              case round =>
                clear HC2
                obtain ⟨rfl, k, t, hg, rfl, HK, HR⟩ := hrel
                have HG := Lib.hid hg
                clear hg
                obtain ⟨htk, hkL⟩ := HK.out
                by_cases hk0 : k = 0
                · subst hk0
                  obtain ⟨T2, hTt⟩ : ∃ T2, T2 = t := ⟨t, rfl⟩
                  subst hTt
                  have HT2 := Lib.hid (show V + e2 = T2 by have := HR.out; rw [List.take_zero] at this; have : e2 = 0 := this.symm; omega)
                  have k2 : ¬ ((V : Int) < (T2 : Int)) := by omega
                  have k3 : decide (V < T2) = false := decide_eq_false (by omega)
                  have k4 : decide ((V : Int) < (T2 : Int)) = false := decide_eq_false k2
                  clear htk hkL HK HR k2
                  go_upto_region 15 with fail
                  clear k3 k4
                  -- where it begins
                  go_loopg [9] (e2 + 1) (fun g tv wr => w2 = wr ∧ ∃ j t : Nat, g = e2 + 1 - j ∧ tv = .int .i64 (t : Nat) ∧ Hid (t = V + j ∧ j ≤ e2 ∧ (e2 = 0 → j = 0)) ∧ Hid (0 < e2 → j + skL (h.drop j) = skL h))
                  case atStart => exact ⟨rfl, 0, V, by omega, rfl, Lib.hid (by omega), Lib.hid (fun _ => by rw [List.drop_zero, Nat.zero_add])⟩
                  case round =>
                    obtain ⟨rfl, j, t, hg, rfl, HJ3, HR⟩ := hrel
                    have HG := Lib.hid hg
                    clear hg
                    obtain ⟨htj, hje, hj0⟩ := HJ3.out
                    by_cases hlt : j < e2
                    · obtain ⟨ha, hub⟩ := HA.out j (by have := HE3.out; omega)
                      rw [← htj] at ha hub
                      obtain ⟨x, hx1⟩ : ∃ x, bt s t = x := ⟨_, rfl⟩
                      have hx : s[t].toNat = x := by rw [bt_eq hub]; exact hx1
                      rw [hx1] at ha
                      have hR := HR.out (by omega)
                      rw [sk_step ha] at hR
                      have k0 : (0 : Int) ≤ (t : Int) := by omega
                      have k1 : (t : Int) < s.size := by omega
                      have k2 : (t : Int) < (T2 : Int) := by have := HT2.out; omega
                      have HEt := Lib.hid (show IntKind.i64.wrap ((t : Int) + 1) = (t : Int) + 1 from IntWalk.i64_in _ (by have := HS.out; omega))
                      have HB1 := Lib.hid (fun W => rbk_any x W)
                      cases hb : bk x with
                      | true =>
                        rw [hb, if_pos rfl] at hR
                        rw [hb] at HB1
                        have HR2 := Lib.hid (show 0 < e2 → j + 1 + skL (h.drop (j + 1)) = skL h from fun _ => by omega)
                        have HJ2 := Lib.hid (show t + 1 = V + (j + 1) ∧ j + 1 ≤ e2 ∧ (e2 = 0 → j + 1 = 0) by omega)
                        have HM := Lib.hid (show e2 + 1 - (j + 1) < e2 + 1 - j by omega)
                        clear hR hb hx1 ha htj hje hj0 hlt HJ3 HR
                        have et := HEt.out
                        go_wp2_with (go_at_call 24; ((with_reducible refine (HB1.out _).mono ?_); rintro e3 w3 ⟨rfl, rfl⟩))
                        go_roundg (e2 + 1 - (j + 1))
                        case measure => rw [HG.out]; exact HM.out
                        case rel => exact ⟨rfl, j + 1, t + 1, rfl, by go_num, HJ2, HR2⟩
                      | false =>
                        rw [hb, if_neg (by decide)] at hR
                        rw [hb] at HB1
                        have HF := Lib.hid (show V + fq = t by have := HF3.out.2 (by omega); omega)
                        clear hR hb hx1 ha htj hje hj0 hlt HJ3 HR HEt
                        have e0 := HE0.out
                        go_wp2_with (go_at_call 24; ((with_reducible refine (HB1.out _).mono ?_); rintro e3 w3 ⟨rfl, rfl⟩))
                        have hx := mk_box HW1.out.box (.int .u8 0) (.int .i64 (n : Nat)) (.int .i64 (V : Nat)) (.int .i64 (t : Nat)) (.int .i64 (T2 : Nat)) (.int .i64 (M : Nat))
                        obtain ⟨g0, g1, g2, g3, g4, g5⟩ := mk_cells hx
                        try simp only [Exit.inBlock, Exit.then]
                        refine bodyPost_ret (v := .tuple #[.agg #[.int .u8 0, .int .i64 (n : Nat), .int .i64 (V : Nat), .int .i64 (t : Nat), .int .i64 (T2 : Nat), .int .i64 (M : Nat)], .bool true]) (by simp [results, Tryd.results17, go_sem, g0, g1, g2, g3, g4, g5]) rfl ⟨?_, (mk_up HW1.out.up (Nat.le_refl _) _ _ _ _ _ _)⟩
                        rw [HF.out, ← HT2.out]; rfl
                    · have HF := Lib.hid (show V + fq = t by
                        have h1 := HF3.out
                        rcases Nat.eq_zero_or_pos e2 with h0 | h0
                        · have := h1.1 h0; have := hj0 h0; omega
                        · have h2 := h1.2 h0; have := HR.out h0; omega)
                      have k2 : ¬ ((t : Int) < (T2 : Int)) := by have := HT2.out; omega
                      have k3 : decide (t < T2) = false := decide_eq_false (by have := HT2.out; omega)
                      have k4 : decide ((t : Int) < (T2 : Int)) = false := decide_eq_false k2
                      clear htj hje hj0 hlt HJ3 HR k2
                      have e0 := HE0.out
                      go_wp2
                      have hx := mk_box HW1.out.box (.int .u8 0) (.int .i64 (n : Nat)) (.int .i64 (V : Nat)) (.int .i64 (t : Nat)) (.int .i64 (T2 : Nat)) (.int .i64 (M : Nat))
                      obtain ⟨g0, g1, g2, g3, g4, g5⟩ := mk_cells hx
                      try simp only [Exit.inBlock, Exit.then]
                      refine bodyPost_ret (v := .tuple #[.agg #[.int .u8 0, .int .i64 (n : Nat), .int .i64 (V : Nat), .int .i64 (t : Nat), .int .i64 (T2 : Nat), .int .i64 (M : Nat)], .bool true]) (by simp [results, Tryd.results17, go_sem, g0, g1, g2, g3, g4, g5]) rfl ⟨?_, (mk_up HW1.out.up (Nat.le_refl _) _ _ _ _ _ _)⟩
                      rw [HF.out, ← HT2.out]; rfl
                · obtain ⟨j, rfl⟩ : ∃ j, k = j + 1 := ⟨k - 1, by omega⟩
                  obtain ⟨u, hu⟩ : ∃ u, V + j = u := ⟨_, rfl⟩
                  obtain rfl : t = u + 1 := by omega
                  obtain ⟨ha, hub⟩ := HA.out j (by omega)
                  rw [hu] at ha hub
                  obtain ⟨x, hx1⟩ : ∃ x, bt s u = x := ⟨_, rfl⟩
                  have hx : s[u].toNat = x := by rw [bt_eq hub]; exact hx1
                  rw [hx1] at ha
                  have hR := HR.out
                  rw [la_step ha] at hR
                  have k0 : (0 : Int) ≤ (u : Int) := by omega
                  have k1 : (u : Int) < s.size := by omega
                  have k2 : (V : Int) < ((u + 1 : Nat) : Int) := by omega
                  have HEu := Lib.hid (show wrap64 (u : Int) = (u : Nat) from IntWalk.wrap64_in _ (by have := HS.out; omega))
                  have HB1 := Lib.hid (fun W => rbk_any x W)
                  cases hb : bk x with
                  | true =>
                    rw [hb, if_pos rfl] at hR
                    rw [hb] at HB1
                    have HR2 := Lib.hid hR
                    have HK2 := Lib.hid (show u = V + j ∧ j ≤ L by omega)
                    clear hR hb hx1 ha htk hkL HK HR hu hk0
                    have eu := HEu.out
                    go_wp2_with (go_at_call 24; ((with_reducible refine (HB1.out _).mono ?_); rintro e3 w3 ⟨rfl, rfl⟩))
                    go_roundg (j + 1)
                    case measure => rw [HG.out]; omega
                    case rel => exact ⟨rfl, j, u, rfl, by go_num, HK2, HR2⟩
                  | false =>
                    rw [hb, if_neg (by decide)] at hR
                    rw [hb] at HB1
                    have HRR := Lib.hid (show V + e2 = u + 1 by omega)
                    clear hR hb hx1 ha htk hkL HK HR hk0
                    have eu := HEu.out
                    go_upto_region 15 with (go_at_call 24; ((with_reducible refine (HB1.out _).mono ?_); rintro e3 w3 ⟨rfl, rfl⟩))
                    clear eu k0 k1 k2 hx hu HEu
                    obtain ⟨T2, hT2⟩ : ∃ T2 : Nat, V + e2 = T2 := ⟨_, rfl⟩
                    have hT3 : ((u : Int) + 1) = (T2 : Int) := by have := HRR.out; omega
                    have HT2 := Lib.hid hT2
                    rw [hT3]
                    clear hT2 hT3 HRR
                    -- where it begins
                    go_loopg [9] (e2 + 1) (fun g tv wr => w2 = wr ∧ ∃ j t : Nat, g = e2 + 1 - j ∧ tv = .int .i64 (t : Nat) ∧ Hid (t = V + j ∧ j ≤ e2 ∧ (e2 = 0 → j = 0)) ∧ Hid (0 < e2 → j + skL (h.drop j) = skL h))
                    case atStart => exact ⟨rfl, 0, V, by omega, rfl, Lib.hid (by omega), Lib.hid (fun _ => by rw [List.drop_zero, Nat.zero_add])⟩
                    case round =>
                      obtain ⟨rfl, j, t, hg, rfl, HJ3, HR⟩ := hrel
                      have HG := Lib.hid hg
                      clear hg
                      obtain ⟨htj, hje, hj0⟩ := HJ3.out
                      by_cases hlt : j < e2
                      · obtain ⟨ha, hub⟩ := HA.out j (by have := HE3.out; omega)
                        rw [← htj] at ha hub
                        obtain ⟨x, hx1⟩ : ∃ x, bt s t = x := ⟨_, rfl⟩
                        have hx : s[t].toNat = x := by rw [bt_eq hub]; exact hx1
                        rw [hx1] at ha
                        have hR := HR.out (by omega)
                        rw [sk_step ha] at hR
                        have k0 : (0 : Int) ≤ (t : Int) := by omega
                        have k1 : (t : Int) < s.size := by omega
                        have k2 : (t : Int) < (T2 : Int) := by have := HT2.out; omega
                        have HEt := Lib.hid (show IntKind.i64.wrap ((t : Int) + 1) = (t : Int) + 1 from IntWalk.i64_in _ (by have := HS.out; omega))
                        have HB1 := Lib.hid (fun W => rbk_any x W)
                        cases hb : bk x with
                        | true =>
                          rw [hb, if_pos rfl] at hR
                          rw [hb] at HB1
                          have HR2 := Lib.hid (show 0 < e2 → j + 1 + skL (h.drop (j + 1)) = skL h from fun _ => by omega)
                          have HJ2 := Lib.hid (show t + 1 = V + (j + 1) ∧ j + 1 ≤ e2 ∧ (e2 = 0 → j + 1 = 0) by omega)
                          have HM := Lib.hid (show e2 + 1 - (j + 1) < e2 + 1 - j by omega)
                          clear hR hb hx1 ha htj hje hj0 hlt HJ3 HR
                          have et := HEt.out
                          go_wp2_with (go_at_call 24; ((with_reducible refine (HB1.out _).mono ?_); rintro e3 w3 ⟨rfl, rfl⟩))
                          go_roundg (e2 + 1 - (j + 1))
                          case measure => rw [HG.out]; exact HM.out
                          case rel => exact ⟨rfl, j + 1, t + 1, rfl, by go_num, HJ2, HR2⟩
                        | false =>
                          rw [hb, if_neg (by decide)] at hR
                          rw [hb] at HB1
                          have HF := Lib.hid (show V + fq = t by have := HF3.out.2 (by omega); omega)
                          clear hR hb hx1 ha htj hje hj0 hlt HJ3 HR HEt
                          have e0 := HE0.out
                          go_wp2_with (go_at_call 24; ((with_reducible refine (HB1.out _).mono ?_); rintro e3 w3 ⟨rfl, rfl⟩))
                          have hx := mk_box HW1.out.box (.int .u8 0) (.int .i64 (n : Nat)) (.int .i64 (V : Nat)) (.int .i64 (t : Nat)) (.int .i64 (T2 : Nat)) (.int .i64 (M : Nat))
                          obtain ⟨g0, g1, g2, g3, g4, g5⟩ := mk_cells hx
                          try simp only [Exit.inBlock, Exit.then]
                          refine bodyPost_ret (v := .tuple #[.agg #[.int .u8 0, .int .i64 (n : Nat), .int .i64 (V : Nat), .int .i64 (t : Nat), .int .i64 (T2 : Nat), .int .i64 (M : Nat)], .bool true]) (by simp [results, Tryd.results17, go_sem, g0, g1, g2, g3, g4, g5]) rfl ⟨?_, (mk_up HW1.out.up (Nat.le_refl _) _ _ _ _ _ _)⟩
                          rw [HF.out, ← HT2.out]; rfl
                      · have HF := Lib.hid (show V + fq = t by
                          have h1 := HF3.out
                          rcases Nat.eq_zero_or_pos e2 with h0 | h0
                          · have := h1.1 h0; have := hj0 h0; omega
                          · have h2 := h1.2 h0; have := HR.out h0; omega)
                        have k2 : ¬ ((t : Int) < (T2 : Int)) := by have := HT2.out; omega
                        have k3 : decide (t < T2) = false := decide_eq_false (by have := HT2.out; omega)
                        have k4 : decide ((t : Int) < (T2 : Int)) = false := decide_eq_false k2
                        clear htj hje hj0 hlt HJ3 HR k2
                        have e0 := HE0.out
                        go_wp2
                        have hx := mk_box HW1.out.box (.int .u8 0) (.int .i64 (n : Nat)) (.int .i64 (V : Nat)) (.int .i64 (t : Nat)) (.int .i64 (T2 : Nat)) (.int .i64 (M : Nat))
                        obtain ⟨g0, g1, g2, g3, g4, g5⟩ := mk_cells hx
                        try simp only [Exit.inBlock, Exit.then]
                        refine bodyPost_ret (v := .tuple #[.agg #[.int .u8 0, .int .i64 (n : Nat), .int .i64 (V : Nat), .int .i64 (t : Nat), .int .i64 (T2 : Nat), .int .i64 (M : Nat)], .bool true]) (by simp [results, Tryd.results17, go_sem, g0, g1, g2, g3, g4, g5]) rfl ⟨?_, (mk_up HW1.out.up (Nat.le_refl _) _ _ _ _ _ _)⟩
                        rw [HF.out, ← HT2.out]; rfl
end Go.Proofs.YtiamanaiineglaaDoor
