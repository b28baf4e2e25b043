/- The document's Item. -/
import Derived.Test.YtiamanaiineglaaDoorMkRefI1
import Derived.Test.YtiamanaiineglaaDoorMkRefI2
import Derived.Test.YtiamanaiineglaaDoorMkRefI3
import Derived.Test.YtiamanaiineglaaDoorMkRefI4
namespace Go.Proofs.YtiamanaiineglaaDoor
open Go.RowKit

theorem itemL_end {l : List Nat} {a : Nat} (h : (rwL dgL l ≤ 9 ∧ l.drop (rwL dgL l) = [])) : itemL a l = (noM, false) := itemL_nil rfl h.2
theorem itemL_nine {l : List Nat} {a : Nat} (h : 9 < rwL dgL l) : itemL a l = (noM, false) := by
  cases hrest : l.drop (rwL dgL l) with
  | nil => exact itemL_nil rfl hrest
  | cons y r => rw [itemL_cons rfl hrest, if_pos (.inl h)]
set_option linter.unusedVariables false in
set_option maxRecDepth 100000 in
set_option maxHeartbeats 4000000 in
theorem rItem_end (s : ByteArray) (p : Nat) (w : World) (hs : (s.size : Int) ≤ 1000000) (D n : Nat) (hD9 : D ≤ 9) (hDl : p + D = (ownB s).size) (hD0 : 0 < D) (hdig : ∀ k, k < D → dgL (bt s (p + k)) = true) (hn : nuL (((bl (ownB s)).drop p).take D) = n) :
    Calls Tryd.prog 23 #[.string s, .int .i64 (p : Nat)] w fun e w' => e = .returned (mkV (noM, false)) ∧ Up w w' := by
  have HO := Lib.hid (fun W => rOut_any s (p : Int) W hs)
  rw [show outE s (p : Int) = false from decide_eq_false (by omega)] at HO
  have HW := Lib.hid (NewM.new w 26)
  have HE := Lib.hid (fun W => endO_any s W hs)
  have hO := own_le s
  have HBy := Lib.hid (fun (k y : Nat) (hk : k < D) (hy : nuL (((bl (ownB s)).drop p).take k) = y) => show nuL (((bl (ownB s)).drop p).take (k + 1)) = 10 * y + (bt s (p + k) - 48) from by
      rw [List.take_add_one, List.getElem?_drop, own_bt (show p + k < (ownB s).size by omega), bl_at (by omega), Option.toList_some, nuL_snoc, hy])
  have HN9 := Lib.hid (fun (k y : Nat) (hk : k ≤ D) (hy : nuL (((bl (ownB s)).drop p).take k) = y) => show y < 1000000000 from by
      rw [← hy]
      refine nuL_nine (by rw [List.length_take]; omega) fun z hz => ?_
      obtain ⟨i, hi, e⟩ := List.mem_iff_getElem.1 hz
      rw [List.length_take] at hi
      rw [List.getElem_take, List.getElem_drop] at e
      have h1 := hdig i (by omega)
      rw [own_bt (show p + i < (ownB s).size by omega)] at h1
      have h2 := bl_at (s := ownB s) (i := p + i) (by omega)
      rw [List.getElem?_eq_getElem (by rw [bl_len]; omega)] at h2
      injection h2 with h2
      rw [← e, h2]
      unfold dgL at h1
      exact (of_decide_eq_true h1).2)
  obtain ⟨X, hX⟩ : ∃ X, (bl (ownB s)).drop p = X := ⟨_, rfl⟩
  rw [hX] at hn HBy HN9
  obtain ⟨E, hE⟩ : ∃ E, (ownB s).size = E := ⟨_, rfl⟩
  rw [hE] at HE hDl hO
  have HDl := Lib.hid (And.intro hDl (And.intro hO hs))
  have HDg := Lib.hid hdig
  have HNn := Lib.hid hn
  clear hX hE hs hO hDl hdig hn
  go_enter Tryd.func23, Tryd.ntmps23
  go_wp2_with (first
    | (go_at_call 33; ((with_reducible refine (HO.out _).mono ?_); rintro e1 w1 ⟨rfl, h1⟩; have HW1 := Lib.hid (HW.out.same h1); clear h1 HW; obtain ⟨r0, r1, r2, r3, r4, r5⟩ := mk_cells HW1.out.box; obtain ⟨f0, f1, f2, f3, f4, f5⟩ := mk_frz HW1.out.box)))
  go_loopg [6, 7] (D + 1) (fun g iv nv wr => w1 = wr ∧ ∃ k q y : Nat, g = D + 1 - k ∧ iv = .int .i64 (q : Nat) ∧ nv = .int .i64 (y : Nat) ∧ Hid (q = p + k ∧ k ≤ D) ∧ Hid (nuL (X.take k) = y))
  case atStart => exact ⟨rfl, 0, p, 0, by omega, rfl, rfl, Lib.hid ⟨rfl, Nat.zero_le _⟩, Lib.hid rfl⟩
  case round =>
    obtain ⟨rfl, k, q, y, hg, rfl, rfl, HK, HT⟩ := hrel
    have HG := Lib.hid hg
    clear hg
    obtain ⟨hqk, hkD⟩ := HK.out
    obtain ⟨d1, d2, d3⟩ := HDl.out
    have HE0 := Lib.hid (show IntKind.i64.wrap ((q : Int) - (p : Int)) = (k : Nat) from (IntWalk.i64_in _ (by omega)).trans (by omega))
    by_cases hlt : k < D
    · have hks : q < s.size := by omega
      have k0 : (0 : Int) ≤ (q : Int) := by omega
      have k1 : (q : Int) < s.size := by omega
      have k2 : (q : Int) < (E : Int) := by omega
      have hdg := HDg.out k hlt
      have hst := HBy.out k y hlt HT.out
      have hy9 := HN9.out k y (by omega) HT.out
      rw [← hqk] at hdg hst
      obtain ⟨z, hz⟩ : ∃ z, bt s q = z := ⟨_, rfl⟩
      have hzx : s[q].toNat = z := by rw [bt_eq hks]; exact hz
      rw [hz] at hdg hst
      unfold dgL at hdg
      have hdg := of_decide_eq_true hdg
      have m1 : (k : Int) < 9 := by omega
      have m2 : (48 : Int) ≤ (z : Int) := by omega
      have m3 : (z : Int) ≤ 57 := by omega
      obtain ⟨v, hv⟩ : ∃ v, z - 48 = v := ⟨_, rfl⟩
      obtain ⟨m, hm⟩ : ∃ m, 10 * y = m := ⟨_, rfl⟩
      obtain ⟨u, hu⟩ : ∃ u, m + v = u := ⟨_, rfl⟩
      have HE1 := Lib.hid (show IntKind.i64.wrap ((q : Int) + 1) = (q : Int) + 1 from IntWalk.i64_in _ (by omega))
      have HE2 := Lib.hid (show IntKind.u8.wrap ((z : Int) - 48) = (v : Nat) from (IntWalk.u8_in _ (by omega)).trans (by omega))
      have HE3 := Lib.hid (show IntKind.i64.wrap (10 * (y : Int)) = (m : Nat) from (IntWalk.i64_in _ (by omega)).trans (by omega))
      have HE4 := Lib.hid (show IntKind.i64.wrap ((m : Int) + (v : Int)) = (u : Nat) from (IntWalk.i64_in _ (by omega)).trans (by omega))
      have HE5 := Lib.hid (show IntKind.i64.wrap (v : Int) = (v : Nat) from IntWalk.i64_in _ (by omega))
      have HT2 := Lib.hid (show nuL (X.take (k + 1)) = u by rw [hst, hm, hv, hu])
      have HK2 := Lib.hid (show q + 1 = p + (k + 1) ∧ k + 1 ≤ D by omega)
      have HM2 := Lib.hid (show D + 1 - (k + 1) < D + 1 - k by omega)
      clear hz hdg hst hy9 hqk hkD hlt d1 d2 d3 hv hm hu
      have e0 := HE0.out
      have e1 := HE1.out
      have e2 := HE2.out
      have e3 := HE3.out
      have e4 := HE4.out
      have e5 := HE5.out
      go_wp2_with (go_at_call 25; ((with_reducible refine (HE.out _).mono ?_); rintro e1 w1 ⟨rfl, rfl⟩))
      go_roundg (D + 1 - (k + 1))
      case measure => rw [HG.out]; exact HM2.out
      case rel => exact ⟨rfl, k + 1, q + 1, u, rfl, by go_num, by go_num, HK2, HT2⟩
    · have hkd : D = k := by omega
      subst hkd
      have f2' : decide ((q : Int) < (E : Int)) = false := decide_eq_false (by omega)
      have f3' : decide (q < E) = false := decide_eq_false (by omega)
      have f4' : E ≤ q := by omega
      have f5' : (E : Int) ≤ q := by omega
      clear hlt hkD d1 d2 d3 hqk
      go_wp2_with (first
        | (go_at_call 25; ((with_reducible refine (HE.out _).mono ?_); rintro e1 w1 ⟨rfl, rfl⟩)))
      have hx := mk_box HW1.out.box (.int .u8 0) (.int .i64 0) (.int .i64 0) (.int .i64 0) (.int .i64 0) (.int .i64 0)
      obtain ⟨g0, g1, g2, g3, g4, g5⟩ := mk_cells hx
      try simp only [Exit.inBlock, Exit.then]
      refine bodyPost_ret (v := .tuple #[.agg #[.int .u8 0, .int .i64 0, .int .i64 0, .int .i64 0, .int .i64 0, .int .i64 0], .bool false]) (by simp [results, Tryd.results23, go_sem, g0, g1, g2, g3, g4, g5]) rfl ⟨?_, (mk_up HW1.out.up (Nat.le_refl _) _ _ _ _ _ _)⟩
      rfl
set_option maxRecDepth 100000 in
set_option maxHeartbeats 4000000 in
theorem rItem_any (s : ByteArray) (a : Int) (w : World) (hs : (s.size : Int) ≤ 1000000) :
    Calls Tryd.prog 23 #[.string s, .int .i64 a] w fun e w' => e = .returned (mkV (itemL a.toNat (restL (bl s) a))) ∧ Up w w' := by
  have HO := Lib.hid (fun W => rOut_any s a W hs)
  have HW := Lib.hid (NewM.new w 26)
  cases ho : outE s a with
  | true =>
    rw [rest_out ho]
    rw [ho] at HO
    clear ho hs
    go_enter Tryd.func23, Tryd.ntmps23
    go_wp2_with (first
      | (go_at_call 33; ((with_reducible refine (HO.out _).mono ?_); rintro e1 w1 ⟨rfl, h1⟩; have HW1 := Lib.hid (HW.out.same h1); clear h1 HW; obtain ⟨r0, r1, r2, r3, r4, r5⟩ := mk_cells HW1.out.box; obtain ⟨f0, f1, f2, f3, f4, f5⟩ := mk_frz HW1.out.box)))
    have hx := mk_box HW1.out.box (.int .u8 0) (.int .i64 0) (.int .i64 0) (.int .i64 0) (.int .i64 0) (.int .i64 0)
    obtain ⟨g0, g1, g2, g3, g4, g5⟩ := mk_cells hx
    try simp only [Exit.inBlock, Exit.then]
    refine bodyPost_ret (v := .tuple #[.agg #[.int .u8 0, .int .i64 0, .int .i64 0, .int .i64 0, .int .i64 0, .int .i64 0], .bool false]) (by simp [results, Tryd.results23, go_sem, g0, g1, g2, g3, g4, g5]) rfl ⟨?_, (mk_up HW1.out.up (Nat.le_refl _) _ _ _ _ _ _)⟩
    rfl
  | false =>
    obtain ⟨p, rfl, hp⟩ := out_in ho
    clear HO HW
    have hO := own_le s
    rw [rest_in, Int.toNat_natCast]
    obtain ⟨K, hK⟩ : ∃ K, rwL dgL ((bl (ownB s)).drop p) = K := ⟨_, rfl⟩
    have hKl := rwL_le dgL ((bl (ownB s)).drop p)
    rw [hK, List.length_drop, bl_len] at hKl
    obtain ⟨D, hD⟩ : ∃ D, min K 9 = D := ⟨_, rfl⟩
    have hdig : ∀ k, k < D → dgL (bt s (p + k)) = true := fun k hk => by
      obtain ⟨c, hc, hd⟩ := rwL_mem dgL ((bl (ownB s)).drop p) k (by omega)
      rw [List.getElem?_drop, bl_at (by omega)] at hc
      injection hc with hc
      rw [own_bt (by omega), hc]
      exact hd
    by_cases hE : p + D = (ownB s).size
    · have hsp : itemL p ((bl (ownB s)).drop p) = (noM, false) := by
        by_cases h9 : 9 < K
        · exact itemL_nine (by rw [hK]; exact h9)
        · exact itemL_nil hK (by rw [List.drop_drop]; exact bl_end (by omega))
      rw [hsp]
      exact rItem_end s p w hs D _ (by omega) hE (by omega) hdig rfl
    obtain ⟨x, hx⟩ : ∃ x, bt s (p + D) = x := ⟨_, rfl⟩
    obtain ⟨Q, hQ⟩ : ∃ Q, p + D + 1 = Q := ⟨_, rfl⟩
    have hdr : ((bl (ownB s)).drop p).drop D = x :: (bl (ownB s)).drop Q := by
      rw [List.drop_drop, ← hQ, ← hx]
      exact blo_drop rfl (by omega)
    by_cases h9 : 9 < K
    · have hdx : dgL x = true := by
        obtain ⟨c, hc, hd⟩ := rwL_mem dgL ((bl (ownB s)).drop p) D (by omega)
        rw [List.getElem?_drop, bl_at (by omega), ← own_bt (by omega), hx] at hc
        injection hc with hc
        rw [hc]
        exact hd
      unfold dgL at hdx
      have hdx := of_decide_eq_true hdx
      rw [itemL_nine (by rw [hK]; exact h9)]
      exact rItem_a_n s p w hs D _ x Q (by omega) (by omega) hdig rfl hx hQ (by omega) (by omega) (by omega) (by omega)
    have hDK : D = K := by omega
    have hnd : dgL x = false := rwL_stop dgL ((bl (ownB s)).drop p) x ((bl (ownB s)).drop Q) (by rw [hK, ← hDK]; exact hdr)
    unfold dgL at hnd
    have hnd := of_decide_eq_false hnd
    have hsp := itemL_cons (a := p) hK (by rw [← hDK]; exact hdr)
    rw [hsp, show p + K + 1 = Q from by omega]
    obtain ⟨M, hM⟩ : ∃ M, Q + laL ((bl (ownB s)).drop Q) = M := ⟨_, rfl⟩
    rw [hM]
    obtain ⟨n, hn⟩ : ∃ n, nuL (((bl (ownB s)).drop p).take K) = n := ⟨_, rfl⟩
    have hn' := hn
    rw [hn]
    rw [← hDK] at hn'
    have hl1 : p + D < (ownB s).size := by omega
    clear hsp
    have hbad : ((if 0 < K then x ≠ 46 ∧ x ≠ 41 else x ≠ 45 ∧ x ≠ 43 ∧ x ≠ 42) ∨ ptL ((bl (ownB s)).drop Q) = false) → ((if 9 < K ∨ (if 0 < K then x ≠ 46 ∧ x ≠ 41 else x ≠ 45 ∧ x ≠ 43 ∧ x ≠ 42) ∨ ptL ((bl (ownB s)).drop Q) = false then (noM, false) else (⟨x, n, Q, 0, 0, M⟩, true)) : Mk × Bool) = (noM, false) := fun h => if_pos (.inr h)
    have hgood : ¬ ((if 0 < K then x ≠ 46 ∧ x ≠ 41 else x ≠ 45 ∧ x ≠ 43 ∧ x ≠ 42) ∨ ptL ((bl (ownB s)).drop Q) = false) → ((if 9 < K ∨ (if 0 < K then x ≠ 46 ∧ x ≠ 41 else x ≠ 45 ∧ x ≠ 43 ∧ x ≠ 42) ∨ ptL ((bl (ownB s)).drop Q) = false then (noM, false) else (⟨x, n, Q, 0, 0, M⟩, true)) : Mk × Bool) = (⟨x, n, Q, 0, 0, M⟩, true) := fun h => if_neg (fun k => k.elim h9 h)
    cases hB : ptL ((bl (ownB s)).drop Q) with
    | false =>
      have e := hbad (.inr hB)
      rw [hB] at e
      rw [e]
      by_cases h0 : 0 < D
      · by_cases c1 : x = 46
        · by_cases t9 : D = 9
          · exact rItem_a_46_n s p w hs D n x Q (by omega) hl1 hdig hn' hx hQ t9 h0 c1 hB
          · exact rItem_b_46_n s p w hs D n x Q (by omega) hl1 hdig hn' hx hQ (by omega) (by omega) h0 c1 hB
        by_cases c2 : x = 41
        · by_cases t9 : D = 9
          · exact rItem_a_41_n s p w hs D n x Q (by omega) hl1 hdig hn' hx hQ t9 h0 c2 hB
          · exact rItem_b_41_n s p w hs D n x Q (by omega) hl1 hdig hn' hx hQ (by omega) (by omega) h0 c2 hB
        by_cases t9 : D = 9
        · exact rItem_a_n s p w hs D n x Q (by omega) hl1 hdig hn' hx hQ t9 h0 c1 c2
        by_cases t8 : x < 48
        · exact rItem_b_n s p w hs D n x Q (by omega) hl1 hdig hn' hx hQ (by omega) t8 h0 c1 c2
        · exact rItem_c_n s p w hs D n x Q (by omega) hl1 hdig hn' hx hQ (by omega) (by omega) h0 c1 c2
      · by_cases c1 : x = 45
        · exact rItem_b_45_n s p w hs D n x Q (by omega) hl1 hdig hn' hx hQ (by omega) (by omega) c1 (by omega) hB
        by_cases c2 : x = 43
        · exact rItem_b_43_n s p w hs D n x Q (by omega) hl1 hdig hn' hx hQ (by omega) (by omega) c2 (by omega) hB
        by_cases c3 : x = 42
        · exact rItem_b_42_n s p w hs D n x Q (by omega) hl1 hdig hn' hx hQ (by omega) (by omega) c3 (by omega) hB
        by_cases t8 : x < 48
        · exact rItem_b_z s p w hs D n x Q (by omega) hl1 hdig hn' hx hQ (by omega) t8 c1 c2 c3 (by omega)
        · exact rItem_c_z s p w hs D n x Q (by omega) hl1 hdig hn' hx hQ (by omega) (by omega) c1 c2 c3 (by omega)
    | true =>
      rw [hB] at hbad hgood
      by_cases h0 : 0 < D
      · have hK0 : 0 < K := by omega
        by_cases c1 : x = 46
        · rw [hgood (by rw [if_pos hK0]; rintro (h | h) <;> first | omega | cases h)]
          by_cases t9 : D = 9
          · exact rItem_a_46_y s p w hs D n x Q M (by omega) hl1 hdig hn' hx hQ t9 h0 c1 hB hM
          · exact rItem_b_46_y s p w hs D n x Q M (by omega) hl1 hdig hn' hx hQ (by omega) (by omega) h0 c1 hB hM
        by_cases c2 : x = 41
        · rw [hgood (by rw [if_pos hK0]; rintro (h | h) <;> first | omega | cases h)]
          by_cases t9 : D = 9
          · exact rItem_a_41_y s p w hs D n x Q M (by omega) hl1 hdig hn' hx hQ t9 h0 c2 hB hM
          · exact rItem_b_41_y s p w hs D n x Q M (by omega) hl1 hdig hn' hx hQ (by omega) (by omega) h0 c2 hB hM
        rw [hbad (by rw [if_pos hK0]; exact .inl ⟨c1, c2⟩)]
        by_cases t9 : D = 9
        · exact rItem_a_n s p w hs D n x Q (by omega) hl1 hdig hn' hx hQ t9 h0 c1 c2
        by_cases t8 : x < 48
        · exact rItem_b_n s p w hs D n x Q (by omega) hl1 hdig hn' hx hQ (by omega) t8 h0 c1 c2
        · exact rItem_c_n s p w hs D n x Q (by omega) hl1 hdig hn' hx hQ (by omega) (by omega) h0 c1 c2
      · have hK0 : ¬ 0 < K := by omega
        by_cases c1 : x = 45
        · rw [hgood (by rw [if_neg hK0]; rintro (h | h) <;> first | omega | cases h)]
          exact rItem_b_45_y s p w hs D n x Q M (by omega) hl1 hdig hn' hx hQ (by omega) (by omega) c1 (by omega) hB hM
        by_cases c2 : x = 43
        · rw [hgood (by rw [if_neg hK0]; rintro (h | h) <;> first | omega | cases h)]
          exact rItem_b_43_y s p w hs D n x Q M (by omega) hl1 hdig hn' hx hQ (by omega) (by omega) c2 (by omega) hB hM
        by_cases c3 : x = 42
        · rw [hgood (by rw [if_neg hK0]; rintro (h | h) <;> first | omega | cases h)]
          exact rItem_b_42_y s p w hs D n x Q M (by omega) hl1 hdig hn' hx hQ (by omega) (by omega) c3 (by omega) hB hM
        rw [hbad (by rw [if_neg hK0]; exact .inl ⟨c1, c2, c3⟩)]
        by_cases t8 : x < 48
        · exact rItem_b_z s p w hs D n x Q (by omega) hl1 hdig hn' hx hQ (by omega) t8 c1 c2 c3 (by omega)
        · exact rItem_c_z s p w hs D n x Q (by omega) hl1 hdig hn' hx hQ (by omega) (by omega) c1 c2 c3 (by omega)
end Go.Proofs.YtiamanaiineglaaDoor
