/- The document's Item, some ways out of its loop. -/
import Derived.Test.YtiamanaiineglaaDoorMkRefI0
namespace Go.Proofs.YtiamanaiineglaaDoor
open Go.RowKit

set_option linter.unusedVariables false in
set_option maxRecDepth 100000 in
set_option maxHeartbeats 4000000 in
theorem rItem_b_n (s : ByteArray) (p : Nat) (w : World) (hs : (s.size : Int) ≤ 1000000) (D n x Q : Nat) (hD9 : D ≤ 9) (hDl : p + D < (ownB s).size) (hdig : ∀ k, k < D → dgL (bt s (p + k)) = true) (hn : nuL (((bl (ownB s)).drop p).take D) = n) (hx : bt s (p + D) = x) (hQ : p + D + 1 = Q) (t9 : D < 9) (t8 : x < 48) (hd0 : 0 < D) (hx1 : x ≠ 46) (hx2 : x ≠ 41) :
    Calls Tryd.prog 23 #[.string s, .int .i64 (p : Nat)] w fun e w' => e = .returned (mkV (noM, false)) ∧ Up w w' := by
  have HO := Lib.hid (fun W => rOut_any s (p : Int) W hs)
  rw [show outE s (p : Int) = false from decide_eq_false (by omega)] at HO
  have HW := Lib.hid (NewM.new w 26)
  have HE := Lib.hid (fun W => endO_any s W hs)
  have hO := own_le s
  have HBy := Lib.hid (fun (k y : Nat) (hk : k < D) (hy : nuL (((bl (ownB s)).drop p).take k) = y) => show nuL (((bl (ownB s)).drop p).take (k + 1)) = 10 * y + (bt s (p + k) - 48) from by
      rw [List.take_add_one, List.getElem?_drop, own_bt (show p + k < (ownB s).size by omega), bl_at (by omega), Option.toList_some, nuL_snoc, hy])
  have HN9 := Lib.hid (fun (k y : Nat) (hk : k ≤ D) (hy : nuL (((bl (ownB s)).drop p).take k) = y) => show y < 1000000000 from by
      rw [← hy]
      refine nuL_nine (by rw [List.length_take]; omega) fun z hz => ?_
      obtain ⟨i, hi, e⟩ := List.mem_iff_getElem.1 hz
      rw [List.length_take] at hi
      rw [List.getElem_take, List.getElem_drop] at e
      have h1 := hdig i (by omega)
      rw [own_bt (show p + i < (ownB s).size by omega)] at h1
      have h2 := bl_at (s := ownB s) (i := p + i) (by omega)
      rw [List.getElem?_eq_getElem (by rw [bl_len]; omega)] at h2
      injection h2 with h2
      rw [← e, h2]
      unfold dgL at h1
      exact (of_decide_eq_true h1).2)
  obtain ⟨X, hX⟩ : ∃ X, (bl (ownB s)).drop p = X := ⟨_, rfl⟩
  rw [hX] at hn HBy HN9
  obtain ⟨E, hE⟩ : ∃ E, (ownB s).size = E := ⟨_, rfl⟩
  rw [hE] at HE hDl hO
  have HDl := Lib.hid (And.intro hDl (And.intro hO hs))
  have HDg := Lib.hid hdig
  have HNn := Lib.hid hn
  have HXx := Lib.hid hx
  have HQ := Lib.hid hQ
  have t1 : (D : Int) < 9 := by omega
  have t2 : ¬ ((48 : Int) ≤ (x : Int)) := by omega
  have n46 : ((x : Int) != 46) = true := bne_iff_ne.2 (by omega)
  have n41 : ((x : Int) != 41) = true := bne_iff_ne.2 (by omega)
  clear hX hE hs hO hDl hdig hn hx hQ t9 t8
  clear hx1 hx2
  have HD0 := Lib.hid hd0
  clear hd0
  go_enter Tryd.func23, Tryd.ntmps23
  go_wp2_with (first
    | (go_at_call 33; ((with_reducible refine (HO.out _).mono ?_); rintro e1 w1 ⟨rfl, h1⟩; have HW1 := Lib.hid (HW.out.same h1); clear h1 HW; obtain ⟨r0, r1, r2, r3, r4, r5⟩ := mk_cells HW1.out.box; obtain ⟨f0, f1, f2, f3, f4, f5⟩ := mk_frz HW1.out.box)))
  go_loopg [6, 7] (D + 1) (fun g iv nv wr => w1 = wr ∧ ∃ k q y : Nat, g = D + 1 - k ∧ iv = .int .i64 (q : Nat) ∧ nv = .int .i64 (y : Nat) ∧ Hid (q = p + k ∧ k ≤ D) ∧ Hid (nuL (X.take k) = y))
  case atStart => exact ⟨rfl, 0, p, 0, by omega, rfl, rfl, Lib.hid ⟨rfl, Nat.zero_le _⟩, Lib.hid rfl⟩
  case round =>
    obtain ⟨rfl, k, q, y, hg, rfl, rfl, HK, HT⟩ := hrel
    have HG := Lib.hid hg
    clear hg
    obtain ⟨hqk, hkD⟩ := HK.out
    obtain ⟨d1, d2, d3⟩ := HDl.out
    have hks : q < s.size := by omega
    have k0 : (0 : Int) ≤ (q : Int) := by omega
    have k1 : (q : Int) < s.size := by omega
    have k2 : (q : Int) < (E : Int) := by omega
    have HE0 := Lib.hid (show IntKind.i64.wrap ((q : Int) - (p : Int)) = (k : Nat) from (IntWalk.i64_in _ (by omega)).trans (by omega))
    by_cases hlt : k < D
    · have hdg := HDg.out k hlt
      have hst := HBy.out k y hlt HT.out
      have hy9 := HN9.out k y (by omega) HT.out
      rw [← hqk] at hdg hst
      obtain ⟨z, hz⟩ : ∃ z, bt s q = z := ⟨_, rfl⟩
      have hzx : s[q].toNat = z := by rw [bt_eq hks]; exact hz
      rw [hz] at hdg hst
      unfold dgL at hdg
      have hdg := of_decide_eq_true hdg
      have m1 : (k : Int) < 9 := by omega
      have m2 : (48 : Int) ≤ (z : Int) := by omega
      have m3 : (z : Int) ≤ 57 := by omega
      obtain ⟨v, hv⟩ : ∃ v, z - 48 = v := ⟨_, rfl⟩
      obtain ⟨m, hm⟩ : ∃ m, 10 * y = m := ⟨_, rfl⟩
      obtain ⟨u, hu⟩ : ∃ u, m + v = u := ⟨_, rfl⟩
      have HE1 := Lib.hid (show IntKind.i64.wrap ((q : Int) + 1) = (q : Int) + 1 from IntWalk.i64_in _ (by omega))
      have HE2 := Lib.hid (show IntKind.u8.wrap ((z : Int) - 48) = (v : Nat) from (IntWalk.u8_in _ (by omega)).trans (by omega))
      have HE3 := Lib.hid (show IntKind.i64.wrap (10 * (y : Int)) = (m : Nat) from (IntWalk.i64_in _ (by omega)).trans (by omega))
      have HE4 := Lib.hid (show IntKind.i64.wrap ((m : Int) + (v : Int)) = (u : Nat) from (IntWalk.i64_in _ (by omega)).trans (by omega))
      have HE5 := Lib.hid (show IntKind.i64.wrap (v : Int) = (v : Nat) from IntWalk.i64_in _ (by omega))
      have HT2 := Lib.hid (show nuL (X.take (k + 1)) = u by rw [hst, hm, hv, hu])
      have HK2 := Lib.hid (show q + 1 = p + (k + 1) ∧ k + 1 ≤ D by omega)
      have HM2 := Lib.hid (show D + 1 - (k + 1) < D + 1 - k by omega)
      clear hz hdg hst hy9 hqk hkD hlt d1 d2 d3 hv hm hu n46 n41
      have e0 := HE0.out
      have e1 := HE1.out
      have e2 := HE2.out
      have e3 := HE3.out
      have e4 := HE4.out
      have e5 := HE5.out
      go_wp2_with (go_at_call 25; ((with_reducible refine (HE.out _).mono ?_); rintro e1 w1 ⟨rfl, rfl⟩))
      go_roundg (D + 1 - (k + 1))
      case measure => rw [HG.out]; exact HM2.out
      case rel => exact ⟨rfl, k + 1, q + 1, u, rfl, by go_num, by go_num, HK2, HT2⟩
    · have hkd : D = k := by omega
      subst hkd
      have hxx := HXx.out
      rw [← hqk] at hxx
      have hzx : s[q].toNat = x := by rw [bt_eq hks]; exact hxx
      have hyn : n = y := HNn.out.symm.trans HT.out
      subst hyn
      have k3 : ¬ ((E : Int) ≤ (q : Int)) := by omega
      have HE6 := Lib.hid (show IntKind.i64.wrap ((q : Int) + 1) = (Q : Nat) from (IntWalk.i64_in _ (by omega)).trans (by have := HQ.out; omega))
      have HE7 := Lib.hid (show wrap64 ((q : Int) + 1) = (Q : Nat) from (IntWalk.wrap64_in _ (by omega)).trans (by have := HQ.out; omega))
      have v1 : (p : Int) < (q : Int) := by have := HD0.out; omega
      have v2 : ((q : Int) == (p : Int)) = false := beq_eq_false_iff_ne.2 (by have := HD0.out; omega)
      clear hqk
      clear hxx hlt hkD d1 d2 d3
      have e0 := HE0.out
      have e6 := HE6.out
      have e7 := HE7.out
      go_wp2_with (first
        | (go_at_call 25; ((with_reducible refine (HE.out _).mono ?_); rintro e1 w1 ⟨rfl, rfl⟩)))
    
      have hx := mk_box HW1.out.box (.int .u8 0) (.int .i64 0) (.int .i64 0) (.int .i64 0) (.int .i64 0) (.int .i64 0)
      obtain ⟨g0, g1, g2, g3, g4, g5⟩ := mk_cells hx
      try simp only [Exit.inBlock, Exit.then]
      refine bodyPost_ret (v := .tuple #[.agg #[.int .u8 0, .int .i64 0, .int .i64 0, .int .i64 0, .int .i64 0, .int .i64 0], .bool false]) (by simp [results, Tryd.results23, go_sem, g0, g1, g2, g3, g4, g5]) rfl ⟨?_, (mk_up HW1.out.up (Nat.le_refl _) _ _ _ _ _ _)⟩
      rfl
set_option linter.unusedVariables false in
set_option maxRecDepth 100000 in
set_option maxHeartbeats 4000000 in
theorem rItem_b_46_y (s : ByteArray) (p : Nat) (w : World) (hs : (s.size : Int) ≤ 1000000) (D n x Q M : Nat) (hD9 : D ≤ 9) (hDl : p + D < (ownB s).size) (hdig : ∀ k, k < D → dgL (bt s (p + k)) = true) (hn : nuL (((bl (ownB s)).drop p).take D) = n) (hx : bt s (p + D) = x) (hQ : p + D + 1 = Q) (t9 : D < 9) (t8 : x < 48) (hd0 : 0 < D) (hxe : x = 46) (hB : ptL ((bl (ownB s)).drop Q) = true) (hM : Q + laL ((bl (ownB s)).drop Q) = M) :
    Calls Tryd.prog 23 #[.string s, .int .i64 (p : Nat)] w fun e w' => e = .returned (mkV (⟨x, n, Q, 0, 0, M⟩, true)) ∧ Up w w' := by
  have HO := Lib.hid (fun W => rOut_any s (p : Int) W hs)
  rw [show outE s (p : Int) = false from decide_eq_false (by omega)] at HO
  have HW := Lib.hid (NewM.new w 26)
  have HE := Lib.hid (fun W => endO_any s W hs)
  have hO := own_le s
  have HPt0 := (fun W => rPart_any s Q W hs (by omega))
  rw [hB] at HPt0
  have HPt := Lib.hid HPt0
  clear HPt0
  have HLa0 := (fun W => rLast_any s Q W hs (by omega))
  rw [hM] at HLa0
  have HLa := Lib.hid HLa0
  clear HLa0
  have HBy := Lib.hid (fun (k y : Nat) (hk : k < D) (hy : nuL (((bl (ownB s)).drop p).take k) = y) => show nuL (((bl (ownB s)).drop p).take (k + 1)) = 10 * y + (bt s (p + k) - 48) from by
      rw [List.take_add_one, List.getElem?_drop, own_bt (show p + k < (ownB s).size by omega), bl_at (by omega), Option.toList_some, nuL_snoc, hy])
  have HN9 := Lib.hid (fun (k y : Nat) (hk : k ≤ D) (hy : nuL (((bl (ownB s)).drop p).take k) = y) => show y < 1000000000 from by
      rw [← hy]
      refine nuL_nine (by rw [List.length_take]; omega) fun z hz => ?_
      obtain ⟨i, hi, e⟩ := List.mem_iff_getElem.1 hz
      rw [List.length_take] at hi
      rw [List.getElem_take, List.getElem_drop] at e
      have h1 := hdig i (by omega)
      rw [own_bt (show p + i < (ownB s).size by omega)] at h1
      have h2 := bl_at (s := ownB s) (i := p + i) (by omega)
      rw [List.getElem?_eq_getElem (by rw [bl_len]; omega)] at h2
      injection h2 with h2
      rw [← e, h2]
      unfold dgL at h1
      exact (of_decide_eq_true h1).2)
  obtain ⟨X, hX⟩ : ∃ X, (bl (ownB s)).drop p = X := ⟨_, rfl⟩
  rw [hX] at hn HBy HN9
  obtain ⟨E, hE⟩ : ∃ E, (ownB s).size = E := ⟨_, rfl⟩
  rw [hE] at HE hDl hO
  have HDl := Lib.hid (And.intro hDl (And.intro hO hs))
  have HDg := Lib.hid hdig
  have HNn := Lib.hid hn
  have HXx := Lib.hid hx
  have HQ := Lib.hid hQ
  have t1 : (D : Int) < 9 := by omega
  have t2 : ¬ ((48 : Int) ≤ (x : Int)) := by omega
  have n46 : ((x : Int) != 46) = false := by rw [hxe]; rfl
  clear hX hE hs hO hDl hdig hn hx hQ t9 t8 hB hM
  clear hxe
  have HD0 := Lib.hid hd0
  clear hd0
  go_enter Tryd.func23, Tryd.ntmps23
  go_wp2_with (first
    | (go_at_call 33; ((with_reducible refine (HO.out _).mono ?_); rintro e1 w1 ⟨rfl, h1⟩; have HW1 := Lib.hid (HW.out.same h1); clear h1 HW; obtain ⟨r0, r1, r2, r3, r4, r5⟩ := mk_cells HW1.out.box; obtain ⟨f0, f1, f2, f3, f4, f5⟩ := mk_frz HW1.out.box)))
  go_loopg [6, 7] (D + 1) (fun g iv nv wr => w1 = wr ∧ ∃ k q y : Nat, g = D + 1 - k ∧ iv = .int .i64 (q : Nat) ∧ nv = .int .i64 (y : Nat) ∧ Hid (q = p + k ∧ k ≤ D) ∧ Hid (nuL (X.take k) = y))
  case atStart => exact ⟨rfl, 0, p, 0, by omega, rfl, rfl, Lib.hid ⟨rfl, Nat.zero_le _⟩, Lib.hid rfl⟩
  case round =>
    obtain ⟨rfl, k, q, y, hg, rfl, rfl, HK, HT⟩ := hrel
    have HG := Lib.hid hg
    clear hg
    obtain ⟨hqk, hkD⟩ := HK.out
    obtain ⟨d1, d2, d3⟩ := HDl.out
    have hks : q < s.size := by omega
    have k0 : (0 : Int) ≤ (q : Int) := by omega
    have k1 : (q : Int) < s.size := by omega
    have k2 : (q : Int) < (E : Int) := by omega
    have HE0 := Lib.hid (show IntKind.i64.wrap ((q : Int) - (p : Int)) = (k : Nat) from (IntWalk.i64_in _ (by omega)).trans (by omega))
    by_cases hlt : k < D
    · have hdg := HDg.out k hlt
      have hst := HBy.out k y hlt HT.out
      have hy9 := HN9.out k y (by omega) HT.out
      rw [← hqk] at hdg hst
      obtain ⟨z, hz⟩ : ∃ z, bt s q = z := ⟨_, rfl⟩
      have hzx : s[q].toNat = z := by rw [bt_eq hks]; exact hz
      rw [hz] at hdg hst
      unfold dgL at hdg
      have hdg := of_decide_eq_true hdg
      have m1 : (k : Int) < 9 := by omega
      have m2 : (48 : Int) ≤ (z : Int) := by omega
      have m3 : (z : Int) ≤ 57 := by omega
      obtain ⟨v, hv⟩ : ∃ v, z - 48 = v := ⟨_, rfl⟩
      obtain ⟨m, hm⟩ : ∃ m, 10 * y = m := ⟨_, rfl⟩
      obtain ⟨u, hu⟩ : ∃ u, m + v = u := ⟨_, rfl⟩
      have HE1 := Lib.hid (show IntKind.i64.wrap ((q : Int) + 1) = (q : Int) + 1 from IntWalk.i64_in _ (by omega))
      have HE2 := Lib.hid (show IntKind.u8.wrap ((z : Int) - 48) = (v : Nat) from (IntWalk.u8_in _ (by omega)).trans (by omega))
      have HE3 := Lib.hid (show IntKind.i64.wrap (10 * (y : Int)) = (m : Nat) from (IntWalk.i64_in _ (by omega)).trans (by omega))
      have HE4 := Lib.hid (show IntKind.i64.wrap ((m : Int) + (v : Int)) = (u : Nat) from (IntWalk.i64_in _ (by omega)).trans (by omega))
      have HE5 := Lib.hid (show IntKind.i64.wrap (v : Int) = (v : Nat) from IntWalk.i64_in _ (by omega))
      have HT2 := Lib.hid (show nuL (X.take (k + 1)) = u by rw [hst, hm, hv, hu])
      have HK2 := Lib.hid (show q + 1 = p + (k + 1) ∧ k + 1 ≤ D by omega)
      have HM2 := Lib.hid (show D + 1 - (k + 1) < D + 1 - k by omega)
      clear hz hdg hst hy9 hqk hkD hlt d1 d2 d3 hv hm hu n46
      have e0 := HE0.out
      have e1 := HE1.out
      have e2 := HE2.out
      have e3 := HE3.out
      have e4 := HE4.out
      have e5 := HE5.out
      go_wp2_with (go_at_call 25; ((with_reducible refine (HE.out _).mono ?_); rintro e1 w1 ⟨rfl, rfl⟩))
      go_roundg (D + 1 - (k + 1))
      case measure => rw [HG.out]; exact HM2.out
      case rel => exact ⟨rfl, k + 1, q + 1, u, rfl, by go_num, by go_num, HK2, HT2⟩
    · have hkd : D = k := by omega
      subst hkd
      have hxx := HXx.out
      rw [← hqk] at hxx
      have hzx : s[q].toNat = x := by rw [bt_eq hks]; exact hxx
      have hyn : n = y := HNn.out.symm.trans HT.out
      subst hyn
      have k3 : ¬ ((E : Int) ≤ (q : Int)) := by omega
      have HE6 := Lib.hid (show IntKind.i64.wrap ((q : Int) + 1) = (Q : Nat) from (IntWalk.i64_in _ (by omega)).trans (by have := HQ.out; omega))
      have HE7 := Lib.hid (show wrap64 ((q : Int) + 1) = (Q : Nat) from (IntWalk.wrap64_in _ (by omega)).trans (by have := HQ.out; omega))
      have v1 : (p : Int) < (q : Int) := by have := HD0.out; omega
      have v2 : ((q : Int) == (p : Int)) = false := beq_eq_false_iff_ne.2 (by have := HD0.out; omega)
      clear hqk
      clear hxx hlt hkD d1 d2 d3
      have e0 := HE0.out
      have e6 := HE6.out
      have e7 := HE7.out
      go_wp2_with (first
        | (go_at_call 25; ((with_reducible refine (HE.out _).mono ?_); rintro e1 w1 ⟨rfl, rfl⟩))
        | (go_at_call 38; ((with_reducible refine (HPt.out _).mono ?_); rintro e1 w1 ⟨rfl, rfl⟩))
        | (go_at_call 34; ((with_reducible refine (HLa.out _).mono ?_); rintro e1 w1 ⟨rfl, rfl⟩)))
    
      have hx := mk_box HW1.out.box (.int .u8 (x : Nat)) (.int .i64 (n : Nat)) (.int .i64 (Q : Nat)) (.int .i64 0) (.int .i64 0) (.int .i64 (M : Nat))
      obtain ⟨g0, g1, g2, g3, g4, g5⟩ := mk_cells hx
      try simp only [Exit.inBlock, Exit.then]
      refine bodyPost_ret (v := .tuple #[.agg #[.int .u8 (x : Nat), .int .i64 (n : Nat), .int .i64 (Q : Nat), .int .i64 0, .int .i64 0, .int .i64 (M : Nat)], .bool true]) (by simp [results, Tryd.results23, go_sem, g0, g1, g2, g3, g4, g5]) rfl ⟨?_, (mk_up HW1.out.up (Nat.le_refl _) _ _ _ _ _ _)⟩
      rfl
set_option linter.unusedVariables false in
set_option maxRecDepth 100000 in
set_option maxHeartbeats 4000000 in
theorem rItem_b_46_n (s : ByteArray) (p : Nat) (w : World) (hs : (s.size : Int) ≤ 1000000) (D n x Q : Nat) (hD9 : D ≤ 9) (hDl : p + D < (ownB s).size) (hdig : ∀ k, k < D → dgL (bt s (p + k)) = true) (hn : nuL (((bl (ownB s)).drop p).take D) = n) (hx : bt s (p + D) = x) (hQ : p + D + 1 = Q) (t9 : D < 9) (t8 : x < 48) (hd0 : 0 < D) (hxe : x = 46) (hB : ptL ((bl (ownB s)).drop Q) = false) :
    Calls Tryd.prog 23 #[.string s, .int .i64 (p : Nat)] w fun e w' => e = .returned (mkV (noM, false)) ∧ Up w w' := by
  have HO := Lib.hid (fun W => rOut_any s (p : Int) W hs)
  rw [show outE s (p : Int) = false from decide_eq_false (by omega)] at HO
  have HW := Lib.hid (NewM.new w 26)
  have HE := Lib.hid (fun W => endO_any s W hs)
  have hO := own_le s
  have HPt0 := (fun W => rPart_any s Q W hs (by omega))
  rw [hB] at HPt0
  have HPt := Lib.hid HPt0
  clear HPt0
  have HBy := Lib.hid (fun (k y : Nat) (hk : k < D) (hy : nuL (((bl (ownB s)).drop p).take k) = y) => show nuL (((bl (ownB s)).drop p).take (k + 1)) = 10 * y + (bt s (p + k) - 48) from by
      rw [List.take_add_one, List.getElem?_drop, own_bt (show p + k < (ownB s).size by omega), bl_at (by omega), Option.toList_some, nuL_snoc, hy])
  have HN9 := Lib.hid (fun (k y : Nat) (hk : k ≤ D) (hy : nuL (((bl (ownB s)).drop p).take k) = y) => show y < 1000000000 from by
      rw [← hy]
      refine nuL_nine (by rw [List.length_take]; omega) fun z hz => ?_
      obtain ⟨i, hi, e⟩ := List.mem_iff_getElem.1 hz
      rw [List.length_take] at hi
      rw [List.getElem_take, List.getElem_drop] at e
      have h1 := hdig i (by omega)
      rw [own_bt (show p + i < (ownB s).size by omega)] at h1
      have h2 := bl_at (s := ownB s) (i := p + i) (by omega)
      rw [List.getElem?_eq_getElem (by rw [bl_len]; omega)] at h2
      injection h2 with h2
      rw [← e, h2]
      unfold dgL at h1
      exact (of_decide_eq_true h1).2)
  obtain ⟨X, hX⟩ : ∃ X, (bl (ownB s)).drop p = X := ⟨_, rfl⟩
  rw [hX] at hn HBy HN9
  obtain ⟨E, hE⟩ : ∃ E, (ownB s).size = E := ⟨_, rfl⟩
  rw [hE] at HE hDl hO
  have HDl := Lib.hid (And.intro hDl (And.intro hO hs))
  have HDg := Lib.hid hdig
  have HNn := Lib.hid hn
  have HXx := Lib.hid hx
  have HQ := Lib.hid hQ
  have t1 : (D : Int) < 9 := by omega
  have t2 : ¬ ((48 : Int) ≤ (x : Int)) := by omega
  have n46 : ((x : Int) != 46) = false := by rw [hxe]; rfl
  clear hX hE hs hO hDl hdig hn hx hQ t9 t8 hB
  clear hxe
  have HD0 := Lib.hid hd0
  clear hd0
  go_enter Tryd.func23, Tryd.ntmps23
  go_wp2_with (first
    | (go_at_call 33; ((with_reducible refine (HO.out _).mono ?_); rintro e1 w1 ⟨rfl, h1⟩; have HW1 := Lib.hid (HW.out.same h1); clear h1 HW; obtain ⟨r0, r1, r2, r3, r4, r5⟩ := mk_cells HW1.out.box; obtain ⟨f0, f1, f2, f3, f4, f5⟩ := mk_frz HW1.out.box)))
  go_loopg [6, 7] (D + 1) (fun g iv nv wr => w1 = wr ∧ ∃ k q y : Nat, g = D + 1 - k ∧ iv = .int .i64 (q : Nat) ∧ nv = .int .i64 (y : Nat) ∧ Hid (q = p + k ∧ k ≤ D) ∧ Hid (nuL (X.take k) = y))
  case atStart => exact ⟨rfl, 0, p, 0, by omega, rfl, rfl, Lib.hid ⟨rfl, Nat.zero_le _⟩, Lib.hid rfl⟩
  case round =>
    obtain ⟨rfl, k, q, y, hg, rfl, rfl, HK, HT⟩ := hrel
    have HG := Lib.hid hg
    clear hg
    obtain ⟨hqk, hkD⟩ := HK.out
    obtain ⟨d1, d2, d3⟩ := HDl.out
    have hks : q < s.size := by omega
    have k0 : (0 : Int) ≤ (q : Int) := by omega
    have k1 : (q : Int) < s.size := by omega
    have k2 : (q : Int) < (E : Int) := by omega
    have HE0 := Lib.hid (show IntKind.i64.wrap ((q : Int) - (p : Int)) = (k : Nat) from (IntWalk.i64_in _ (by omega)).trans (by omega))
    by_cases hlt : k < D
    · have hdg := HDg.out k hlt
      have hst := HBy.out k y hlt HT.out
      have hy9 := HN9.out k y (by omega) HT.out
      rw [← hqk] at hdg hst
      obtain ⟨z, hz⟩ : ∃ z, bt s q = z := ⟨_, rfl⟩
      have hzx : s[q].toNat = z := by rw [bt_eq hks]; exact hz
      rw [hz] at hdg hst
      unfold dgL at hdg
      have hdg := of_decide_eq_true hdg
      have m1 : (k : Int) < 9 := by omega
      have m2 : (48 : Int) ≤ (z : Int) := by omega
      have m3 : (z : Int) ≤ 57 := by omega
      obtain ⟨v, hv⟩ : ∃ v, z - 48 = v := ⟨_, rfl⟩
      obtain ⟨m, hm⟩ : ∃ m, 10 * y = m := ⟨_, rfl⟩
      obtain ⟨u, hu⟩ : ∃ u, m + v = u := ⟨_, rfl⟩
      have HE1 := Lib.hid (show IntKind.i64.wrap ((q : Int) + 1) = (q : Int) + 1 from IntWalk.i64_in _ (by omega))
      have HE2 := Lib.hid (show IntKind.u8.wrap ((z : Int) - 48) = (v : Nat) from (IntWalk.u8_in _ (by omega)).trans (by omega))
      have HE3 := Lib.hid (show IntKind.i64.wrap (10 * (y : Int)) = (m : Nat) from (IntWalk.i64_in _ (by omega)).trans (by omega))
      have HE4 := Lib.hid (show IntKind.i64.wrap ((m : Int) + (v : Int)) = (u : Nat) from (IntWalk.i64_in _ (by omega)).trans (by omega))
      have HE5 := Lib.hid (show IntKind.i64.wrap (v : Int) = (v : Nat) from IntWalk.i64_in _ (by omega))
      have HT2 := Lib.hid (show nuL (X.take (k + 1)) = u by rw [hst, hm, hv, hu])
      have HK2 := Lib.hid (show q + 1 = p + (k + 1) ∧ k + 1 ≤ D by omega)
      have HM2 := Lib.hid (show D + 1 - (k + 1) < D + 1 - k by omega)
      clear hz hdg hst hy9 hqk hkD hlt d1 d2 d3 hv hm hu n46
      have e0 := HE0.out
      have e1 := HE1.out
      have e2 := HE2.out
      have e3 := HE3.out
      have e4 := HE4.out
      have e5 := HE5.out
      go_wp2_with (go_at_call 25; ((with_reducible refine (HE.out _).mono ?_); rintro e1 w1 ⟨rfl, rfl⟩))
      go_roundg (D + 1 - (k + 1))
      case measure => rw [HG.out]; exact HM2.out
      case rel => exact ⟨rfl, k + 1, q + 1, u, rfl, by go_num, by go_num, HK2, HT2⟩
    · have hkd : D = k := by omega
      subst hkd
      have hxx := HXx.out
      rw [← hqk] at hxx
      have hzx : s[q].toNat = x := by rw [bt_eq hks]; exact hxx
      have hyn : n = y := HNn.out.symm.trans HT.out
      subst hyn
      have k3 : ¬ ((E : Int) ≤ (q : Int)) := by omega
      have HE6 := Lib.hid (show IntKind.i64.wrap ((q : Int) + 1) = (Q : Nat) from (IntWalk.i64_in _ (by omega)).trans (by have := HQ.out; omega))
      have HE7 := Lib.hid (show wrap64 ((q : Int) + 1) = (Q : Nat) from (IntWalk.wrap64_in _ (by omega)).trans (by have := HQ.out; omega))
      have v1 : (p : Int) < (q : Int) := by have := HD0.out; omega
      have v2 : ((q : Int) == (p : Int)) = false := beq_eq_false_iff_ne.2 (by have := HD0.out; omega)
      clear hqk
      clear hxx hlt hkD d1 d2 d3
      have e0 := HE0.out
      have e6 := HE6.out
      have e7 := HE7.out
      go_wp2_with (first
        | (go_at_call 25; ((with_reducible refine (HE.out _).mono ?_); rintro e1 w1 ⟨rfl, rfl⟩))
        | (go_at_call 38; ((with_reducible refine (HPt.out _).mono ?_); rintro e1 w1 ⟨rfl, rfl⟩)))
    
      have hx := mk_box HW1.out.box (.int .u8 0) (.int .i64 0) (.int .i64 0) (.int .i64 0) (.int .i64 0) (.int .i64 0)
      obtain ⟨g0, g1, g2, g3, g4, g5⟩ := mk_cells hx
      try simp only [Exit.inBlock, Exit.then]
      refine bodyPost_ret (v := .tuple #[.agg #[.int .u8 0, .int .i64 0, .int .i64 0, .int .i64 0, .int .i64 0, .int .i64 0], .bool false]) (by simp [results, Tryd.results23, go_sem, g0, g1, g2, g3, g4, g5]) rfl ⟨?_, (mk_up HW1.out.up (Nat.le_refl _) _ _ _ _ _ _)⟩
      rfl
set_option linter.unusedVariables false in
set_option maxRecDepth 100000 in
set_option maxHeartbeats 4000000 in
theorem rItem_b_41_y (s : ByteArray) (p : Nat) (w : World) (hs : (s.size : Int) ≤ 1000000) (D n x Q M : Nat) (hD9 : D ≤ 9) (hDl : p + D < (ownB s).size) (hdig : ∀ k, k < D → dgL (bt s (p + k)) = true) (hn : nuL (((bl (ownB s)).drop p).take D) = n) (hx : bt s (p + D) = x) (hQ : p + D + 1 = Q) (t9 : D < 9) (t8 : x < 48) (hd0 : 0 < D) (hxe : x = 41) (hB : ptL ((bl (ownB s)).drop Q) = true) (hM : Q + laL ((bl (ownB s)).drop Q) = M) :
    Calls Tryd.prog 23 #[.string s, .int .i64 (p : Nat)] w fun e w' => e = .returned (mkV (⟨x, n, Q, 0, 0, M⟩, true)) ∧ Up w w' := by
  have HO := Lib.hid (fun W => rOut_any s (p : Int) W hs)
  rw [show outE s (p : Int) = false from decide_eq_false (by omega)] at HO
  have HW := Lib.hid (NewM.new w 26)
  have HE := Lib.hid (fun W => endO_any s W hs)
  have hO := own_le s
  have HPt0 := (fun W => rPart_any s Q W hs (by omega))
  rw [hB] at HPt0
  have HPt := Lib.hid HPt0
  clear HPt0
  have HLa0 := (fun W => rLast_any s Q W hs (by omega))
  rw [hM] at HLa0
  have HLa := Lib.hid HLa0
  clear HLa0
  have HBy := Lib.hid (fun (k y : Nat) (hk : k < D) (hy : nuL (((bl (ownB s)).drop p).take k) = y) => show nuL (((bl (ownB s)).drop p).take (k + 1)) = 10 * y + (bt s (p + k) - 48) from by
      rw [List.take_add_one, List.getElem?_drop, own_bt (show p + k < (ownB s).size by omega), bl_at (by omega), Option.toList_some, nuL_snoc, hy])
  have HN9 := Lib.hid (fun (k y : Nat) (hk : k ≤ D) (hy : nuL (((bl (ownB s)).drop p).take k) = y) => show y < 1000000000 from by
      rw [← hy]
      refine nuL_nine (by rw [List.length_take]; omega) fun z hz => ?_
      obtain ⟨i, hi, e⟩ := List.mem_iff_getElem.1 hz
      rw [List.length_take] at hi
      rw [List.getElem_take, List.getElem_drop] at e
      have h1 := hdig i (by omega)
      rw [own_bt (show p + i < (ownB s).size by omega)] at h1
      have h2 := bl_at (s := ownB s) (i := p + i) (by omega)
      rw [List.getElem?_eq_getElem (by rw [bl_len]; omega)] at h2
      injection h2 with h2
      rw [← e, h2]
      unfold dgL at h1
      exact (of_decide_eq_true h1).2)
  obtain ⟨X, hX⟩ : ∃ X, (bl (ownB s)).drop p = X := ⟨_, rfl⟩
  rw [hX] at hn HBy HN9
  obtain ⟨E, hE⟩ : ∃ E, (ownB s).size = E := ⟨_, rfl⟩
  rw [hE] at HE hDl hO
  have HDl := Lib.hid (And.intro hDl (And.intro hO hs))
  have HDg := Lib.hid hdig
  have HNn := Lib.hid hn
  have HXx := Lib.hid hx
  have HQ := Lib.hid hQ
  have t1 : (D : Int) < 9 := by omega
  have t2 : ¬ ((48 : Int) ≤ (x : Int)) := by omega
  have n46 : ((x : Int) != 46) = true := bne_iff_ne.2 (by omega)
  have n41 : ((x : Int) != 41) = false := by rw [hxe]; rfl
  clear hX hE hs hO hDl hdig hn hx hQ t9 t8 hB hM
  clear hxe
  have HD0 := Lib.hid hd0
  clear hd0
  go_enter Tryd.func23, Tryd.ntmps23
  go_wp2_with (first
    | (go_at_call 33; ((with_reducible refine (HO.out _).mono ?_); rintro e1 w1 ⟨rfl, h1⟩; have HW1 := Lib.hid (HW.out.same h1); clear h1 HW; obtain ⟨r0, r1, r2, r3, r4, r5⟩ := mk_cells HW1.out.box; obtain ⟨f0, f1, f2, f3, f4, f5⟩ := mk_frz HW1.out.box)))
  go_loopg [6, 7] (D + 1) (fun g iv nv wr => w1 = wr ∧ ∃ k q y : Nat, g = D + 1 - k ∧ iv = .int .i64 (q : Nat) ∧ nv = .int .i64 (y : Nat) ∧ Hid (q = p + k ∧ k ≤ D) ∧ Hid (nuL (X.take k) = y))
  case atStart => exact ⟨rfl, 0, p, 0, by omega, rfl, rfl, Lib.hid ⟨rfl, Nat.zero_le _⟩, Lib.hid rfl⟩
  case round =>
    obtain ⟨rfl, k, q, y, hg, rfl, rfl, HK, HT⟩ := hrel
    have HG := Lib.hid hg
    clear hg
    obtain ⟨hqk, hkD⟩ := HK.out
    obtain ⟨d1, d2, d3⟩ := HDl.out
    have hks : q < s.size := by omega
    have k0 : (0 : Int) ≤ (q : Int) := by omega
    have k1 : (q : Int) < s.size := by omega
    have k2 : (q : Int) < (E : Int) := by omega
    have HE0 := Lib.hid (show IntKind.i64.wrap ((q : Int) - (p : Int)) = (k : Nat) from (IntWalk.i64_in _ (by omega)).trans (by omega))
    by_cases hlt : k < D
    · have hdg := HDg.out k hlt
      have hst := HBy.out k y hlt HT.out
      have hy9 := HN9.out k y (by omega) HT.out
      rw [← hqk] at hdg hst
      obtain ⟨z, hz⟩ : ∃ z, bt s q = z := ⟨_, rfl⟩
      have hzx : s[q].toNat = z := by rw [bt_eq hks]; exact hz
      rw [hz] at hdg hst
      unfold dgL at hdg
      have hdg := of_decide_eq_true hdg
      have m1 : (k : Int) < 9 := by omega
      have m2 : (48 : Int) ≤ (z : Int) := by omega
      have m3 : (z : Int) ≤ 57 := by omega
      obtain ⟨v, hv⟩ : ∃ v, z - 48 = v := ⟨_, rfl⟩
      obtain ⟨m, hm⟩ : ∃ m, 10 * y = m := ⟨_, rfl⟩
      obtain ⟨u, hu⟩ : ∃ u, m + v = u := ⟨_, rfl⟩
      have HE1 := Lib.hid (show IntKind.i64.wrap ((q : Int) + 1) = (q : Int) + 1 from IntWalk.i64_in _ (by omega))
      have HE2 := Lib.hid (show IntKind.u8.wrap ((z : Int) - 48) = (v : Nat) from (IntWalk.u8_in _ (by omega)).trans (by omega))
      have HE3 := Lib.hid (show IntKind.i64.wrap (10 * (y : Int)) = (m : Nat) from (IntWalk.i64_in _ (by omega)).trans (by omega))
      have HE4 := Lib.hid (show IntKind.i64.wrap ((m : Int) + (v : Int)) = (u : Nat) from (IntWalk.i64_in _ (by omega)).trans (by omega))
      have HE5 := Lib.hid (show IntKind.i64.wrap (v : Int) = (v : Nat) from IntWalk.i64_in _ (by omega))
      have HT2 := Lib.hid (show nuL (X.take (k + 1)) = u by rw [hst, hm, hv, hu])
      have HK2 := Lib.hid (show q + 1 = p + (k + 1) ∧ k + 1 ≤ D by omega)
      have HM2 := Lib.hid (show D + 1 - (k + 1) < D + 1 - k by omega)
      clear hz hdg hst hy9 hqk hkD hlt d1 d2 d3 hv hm hu n46 n41
      have e0 := HE0.out
      have e1 := HE1.out
      have e2 := HE2.out
      have e3 := HE3.out
      have e4 := HE4.out
      have e5 := HE5.out
      go_wp2_with (go_at_call 25; ((with_reducible refine (HE.out _).mono ?_); rintro e1 w1 ⟨rfl, rfl⟩))
      go_roundg (D + 1 - (k + 1))
      case measure => rw [HG.out]; exact HM2.out
      case rel => exact ⟨rfl, k + 1, q + 1, u, rfl, by go_num, by go_num, HK2, HT2⟩
    · have hkd : D = k := by omega
      subst hkd
      have hxx := HXx.out
      rw [← hqk] at hxx
      have hzx : s[q].toNat = x := by rw [bt_eq hks]; exact hxx
      have hyn : n = y := HNn.out.symm.trans HT.out
      subst hyn
      have k3 : ¬ ((E : Int) ≤ (q : Int)) := by omega
      have HE6 := Lib.hid (show IntKind.i64.wrap ((q : Int) + 1) = (Q : Nat) from (IntWalk.i64_in _ (by omega)).trans (by have := HQ.out; omega))
      have HE7 := Lib.hid (show wrap64 ((q : Int) + 1) = (Q : Nat) from (IntWalk.wrap64_in _ (by omega)).trans (by have := HQ.out; omega))
      have v1 : (p : Int) < (q : Int) := by have := HD0.out; omega
      have v2 : ((q : Int) == (p : Int)) = false := beq_eq_false_iff_ne.2 (by have := HD0.out; omega)
      clear hqk
      clear hxx hlt hkD d1 d2 d3
      have e0 := HE0.out
      have e6 := HE6.out
      have e7 := HE7.out
      go_wp2_with (first
        | (go_at_call 25; ((with_reducible refine (HE.out _).mono ?_); rintro e1 w1 ⟨rfl, rfl⟩))
        | (go_at_call 38; ((with_reducible refine (HPt.out _).mono ?_); rintro e1 w1 ⟨rfl, rfl⟩))
        | (go_at_call 34; ((with_reducible refine (HLa.out _).mono ?_); rintro e1 w1 ⟨rfl, rfl⟩)))
    
      have hx := mk_box HW1.out.box (.int .u8 (x : Nat)) (.int .i64 (n : Nat)) (.int .i64 (Q : Nat)) (.int .i64 0) (.int .i64 0) (.int .i64 (M : Nat))
      obtain ⟨g0, g1, g2, g3, g4, g5⟩ := mk_cells hx
      try simp only [Exit.inBlock, Exit.then]
      refine bodyPost_ret (v := .tuple #[.agg #[.int .u8 (x : Nat), .int .i64 (n : Nat), .int .i64 (Q : Nat), .int .i64 0, .int .i64 0, .int .i64 (M : Nat)], .bool true]) (by simp [results, Tryd.results23, go_sem, g0, g1, g2, g3, g4, g5]) rfl ⟨?_, (mk_up HW1.out.up (Nat.le_refl _) _ _ _ _ _ _)⟩
      rfl
set_option linter.unusedVariables false in
set_option maxRecDepth 100000 in
set_option maxHeartbeats 4000000 in
theorem rItem_b_41_n (s : ByteArray) (p : Nat) (w : World) (hs : (s.size : Int) ≤ 1000000) (D n x Q : Nat) (hD9 : D ≤ 9) (hDl : p + D < (ownB s).size) (hdig : ∀ k, k < D → dgL (bt s (p + k)) = true) (hn : nuL (((bl (ownB s)).drop p).take D) = n) (hx : bt s (p + D) = x) (hQ : p + D + 1 = Q) (t9 : D < 9) (t8 : x < 48) (hd0 : 0 < D) (hxe : x = 41) (hB : ptL ((bl (ownB s)).drop Q) = false) :
    Calls Tryd.prog 23 #[.string s, .int .i64 (p : Nat)] w fun e w' => e = .returned (mkV (noM, false)) ∧ Up w w' := by
  have HO := Lib.hid (fun W => rOut_any s (p : Int) W hs)
  rw [show outE s (p : Int) = false from decide_eq_false (by omega)] at HO
  have HW := Lib.hid (NewM.new w 26)
  have HE := Lib.hid (fun W => endO_any s W hs)
  have hO := own_le s
  have HPt0 := (fun W => rPart_any s Q W hs (by omega))
  rw [hB] at HPt0
  have HPt := Lib.hid HPt0
  clear HPt0
  have HBy := Lib.hid (fun (k y : Nat) (hk : k < D) (hy : nuL (((bl (ownB s)).drop p).take k) = y) => show nuL (((bl (ownB s)).drop p).take (k + 1)) = 10 * y + (bt s (p + k) - 48) from by
      rw [List.take_add_one, List.getElem?_drop, own_bt (show p + k < (ownB s).size by omega), bl_at (by omega), Option.toList_some, nuL_snoc, hy])
  have HN9 := Lib.hid (fun (k y : Nat) (hk : k ≤ D) (hy : nuL (((bl (ownB s)).drop p).take k) = y) => show y < 1000000000 from by
      rw [← hy]
      refine nuL_nine (by rw [List.length_take]; omega) fun z hz => ?_
      obtain ⟨i, hi, e⟩ := List.mem_iff_getElem.1 hz
      rw [List.length_take] at hi
      rw [List.getElem_take, List.getElem_drop] at e
      have h1 := hdig i (by omega)
      rw [own_bt (show p + i < (ownB s).size by omega)] at h1
      have h2 := bl_at (s := ownB s) (i := p + i) (by omega)
      rw [List.getElem?_eq_getElem (by rw [bl_len]; omega)] at h2
      injection h2 with h2
      rw [← e, h2]
      unfold dgL at h1
      exact (of_decide_eq_true h1).2)
  obtain ⟨X, hX⟩ : ∃ X, (bl (ownB s)).drop p = X := ⟨_, rfl⟩
  rw [hX] at hn HBy HN9
  obtain ⟨E, hE⟩ : ∃ E, (ownB s).size = E := ⟨_, rfl⟩
  rw [hE] at HE hDl hO
  have HDl := Lib.hid (And.intro hDl (And.intro hO hs))
  have HDg := Lib.hid hdig
  have HNn := Lib.hid hn
  have HXx := Lib.hid hx
  have HQ := Lib.hid hQ
  have t1 : (D : Int) < 9 := by omega
  have t2 : ¬ ((48 : Int) ≤ (x : Int)) := by omega
  have n46 : ((x : Int) != 46) = true := bne_iff_ne.2 (by omega)
  have n41 : ((x : Int) != 41) = false := by rw [hxe]; rfl
  clear hX hE hs hO hDl hdig hn hx hQ t9 t8 hB
  clear hxe
  have HD0 := Lib.hid hd0
  clear hd0
  go_enter Tryd.func23, Tryd.ntmps23
  go_wp2_with (first
    | (go_at_call 33; ((with_reducible refine (HO.out _).mono ?_); rintro e1 w1 ⟨rfl, h1⟩; have HW1 := Lib.hid (HW.out.same h1); clear h1 HW; obtain ⟨r0, r1, r2, r3, r4, r5⟩ := mk_cells HW1.out.box; obtain ⟨f0, f1, f2, f3, f4, f5⟩ := mk_frz HW1.out.box)))
  go_loopg [6, 7] (D + 1) (fun g iv nv wr => w1 = wr ∧ ∃ k q y : Nat, g = D + 1 - k ∧ iv = .int .i64 (q : Nat) ∧ nv = .int .i64 (y : Nat) ∧ Hid (q = p + k ∧ k ≤ D) ∧ Hid (nuL (X.take k) = y))
  case atStart => exact ⟨rfl, 0, p, 0, by omega, rfl, rfl, Lib.hid ⟨rfl, Nat.zero_le _⟩, Lib.hid rfl⟩
  case round =>
    obtain ⟨rfl, k, q, y, hg, rfl, rfl, HK, HT⟩ := hrel
    have HG := Lib.hid hg
    clear hg
    obtain ⟨hqk, hkD⟩ := HK.out
    obtain ⟨d1, d2, d3⟩ := HDl.out
    have hks : q < s.size := by omega
    have k0 : (0 : Int) ≤ (q : Int) := by omega
    have k1 : (q : Int) < s.size := by omega
    have k2 : (q : Int) < (E : Int) := by omega
    have HE0 := Lib.hid (show IntKind.i64.wrap ((q : Int) - (p : Int)) = (k : Nat) from (IntWalk.i64_in _ (by omega)).trans (by omega))
    by_cases hlt : k < D
    · have hdg := HDg.out k hlt
      have hst := HBy.out k y hlt HT.out
      have hy9 := HN9.out k y (by omega) HT.out
      rw [← hqk] at hdg hst
      obtain ⟨z, hz⟩ : ∃ z, bt s q = z := ⟨_, rfl⟩
      have hzx : s[q].toNat = z := by rw [bt_eq hks]; exact hz
      rw [hz] at hdg hst
      unfold dgL at hdg
      have hdg := of_decide_eq_true hdg
      have m1 : (k : Int) < 9 := by omega
      have m2 : (48 : Int) ≤ (z : Int) := by omega
      have m3 : (z : Int) ≤ 57 := by omega
      obtain ⟨v, hv⟩ : ∃ v, z - 48 = v := ⟨_, rfl⟩
      obtain ⟨m, hm⟩ : ∃ m, 10 * y = m := ⟨_, rfl⟩
      obtain ⟨u, hu⟩ : ∃ u, m + v = u := ⟨_, rfl⟩
      have HE1 := Lib.hid (show IntKind.i64.wrap ((q : Int) + 1) = (q : Int) + 1 from IntWalk.i64_in _ (by omega))
      have HE2 := Lib.hid (show IntKind.u8.wrap ((z : Int) - 48) = (v : Nat) from (IntWalk.u8_in _ (by omega)).trans (by omega))
      have HE3 := Lib.hid (show IntKind.i64.wrap (10 * (y : Int)) = (m : Nat) from (IntWalk.i64_in _ (by omega)).trans (by omega))
      have HE4 := Lib.hid (show IntKind.i64.wrap ((m : Int) + (v : Int)) = (u : Nat) from (IntWalk.i64_in _ (by omega)).trans (by omega))
      have HE5 := Lib.hid (show IntKind.i64.wrap (v : Int) = (v : Nat) from IntWalk.i64_in _ (by omega))
      have HT2 := Lib.hid (show nuL (X.take (k + 1)) = u by rw [hst, hm, hv, hu])
      have HK2 := Lib.hid (show q + 1 = p + (k + 1) ∧ k + 1 ≤ D by omega)
      have HM2 := Lib.hid (show D + 1 - (k + 1) < D + 1 - k by omega)
      clear hz hdg hst hy9 hqk hkD hlt d1 d2 d3 hv hm hu n46 n41
      have e0 := HE0.out
      have e1 := HE1.out
      have e2 := HE2.out
      have e3 := HE3.out
      have e4 := HE4.out
      have e5 := HE5.out
      go_wp2_with (go_at_call 25; ((with_reducible refine (HE.out _).mono ?_); rintro e1 w1 ⟨rfl, rfl⟩))
      go_roundg (D + 1 - (k + 1))
      case measure => rw [HG.out]; exact HM2.out
      case rel => exact ⟨rfl, k + 1, q + 1, u, rfl, by go_num, by go_num, HK2, HT2⟩
    · have hkd : D = k := by omega
      subst hkd
      have hxx := HXx.out
      rw [← hqk] at hxx
      have hzx : s[q].toNat = x := by rw [bt_eq hks]; exact hxx
      have hyn : n = y := HNn.out.symm.trans HT.out
      subst hyn
      have k3 : ¬ ((E : Int) ≤ (q : Int)) := by omega
      have HE6 := Lib.hid (show IntKind.i64.wrap ((q : Int) + 1) = (Q : Nat) from (IntWalk.i64_in _ (by omega)).trans (by have := HQ.out; omega))
      have HE7 := Lib.hid (show wrap64 ((q : Int) + 1) = (Q : Nat) from (IntWalk.wrap64_in _ (by omega)).trans (by have := HQ.out; omega))
      have v1 : (p : Int) < (q : Int) := by have := HD0.out; omega
      have v2 : ((q : Int) == (p : Int)) = false := beq_eq_false_iff_ne.2 (by have := HD0.out; omega)
      clear hqk
      clear hxx hlt hkD d1 d2 d3
      have e0 := HE0.out
      have e6 := HE6.out
      have e7 := HE7.out
      go_wp2_with (first
        | (go_at_call 25; ((with_reducible refine (HE.out _).mono ?_); rintro e1 w1 ⟨rfl, rfl⟩))
        | (go_at_call 38; ((with_reducible refine (HPt.out _).mono ?_); rintro e1 w1 ⟨rfl, rfl⟩)))
    
      have hx := mk_box HW1.out.box (.int .u8 0) (.int .i64 0) (.int .i64 0) (.int .i64 0) (.int .i64 0) (.int .i64 0)
      obtain ⟨g0, g1, g2, g3, g4, g5⟩ := mk_cells hx
      try simp only [Exit.inBlock, Exit.then]
      refine bodyPost_ret (v := .tuple #[.agg #[.int .u8 0, .int .i64 0, .int .i64 0, .int .i64 0, .int .i64 0, .int .i64 0], .bool false]) (by simp [results, Tryd.results23, go_sem, g0, g1, g2, g3, g4, g5]) rfl ⟨?_, (mk_up HW1.out.up (Nat.le_refl _) _ _ _ _ _ _)⟩
      rfl
end Go.Proofs.YtiamanaiineglaaDoor
