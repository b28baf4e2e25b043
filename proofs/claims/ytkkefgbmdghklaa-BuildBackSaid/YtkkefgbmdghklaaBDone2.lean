/- What a builder tells: the program's Done, all nodes. -/
import Derived.Test.YtkkefgbmdghklaaBDone
import Derived.LaidEqlPtr
namespace Go.Proofs.Ytkkefgbmdghklaa
open Go.RowKit

theorem ptr_row {w : World} {B n : Nat} {T : TypeId} {v : Value} {Q : List Nat} (h : w.ownsRow B T 1 v n (ptrs Q)) : ∃ A c, v = .slice A n c ∧ n ≤ c ∧ PtrAt w A Q := by
  have hl := h.1
  rw [ptrs_len] at hl
  rcases owns_cell h with ⟨rfl, rfl⟩ | ⟨g, c, rfl, -, h2, h3⟩
  · refine ⟨none, 0, rfl, Nat.le_refl _, fun j hj => by omega⟩
  · refine ⟨some ⟨g, 0, none⟩, c, rfl, owns_cap h, fun j hj => ⟨g, 0, rfl, ?_⟩⟩
    rw [Nat.zero_add]
    apply h3
    unfold ptrs
    rw [List.getElem?_map, List.getElem?_eq_getElem hj]
    rfl
theorem ndCells_setTo : ∀ (L : List Nd) (x : Nd) (n : Int), (ndCells (L ++ [x])).set (L.length * 4 + 2) (.int .i64 n) = ndCells (L ++ [(x.1, x.2.1, n, x.2.2.2)])
  | [], _, _ => rfl
  | r :: t, x, n => by
    show (Value.int .u8 r.1 :: .int .i64 r.2.1 :: .int .i64 r.2.2.1 :: .int .i64 r.2.2.2 :: ndCells (t ++ [x])).set ((t.length + 1) * 4 + 2) _ = _
    rw [show (t.length + 1) * 4 + 2 = t.length * 4 + 2 + 1 + 1 + 1 + 1 from by omega]
    show Value.int .u8 r.1 :: .int .i64 r.2.1 :: .int .i64 r.2.2.1 :: .int .i64 r.2.2.2 :: (ndCells (t ++ [x])).set (t.length * 4 + 2) _ = _
    rw [ndCells_setTo t x n]
    rfl
theorem told_one (k n : Int) (b : Bs) : (told k n b).take 1 = [(k, 0, n, 0)] := rfl
theorem told_all (k n : Int) (b : Bs) : (told k n b).take (b.N.length + 1) = told k n b := List.take_of_length_le (by rw [toldN_len]; exact Nat.le_refl _)
theorem PtrAt.tail {w : World} {g o : Nat} {q : Nat} {R : List Nat} (h : PtrAt w (some ⟨g, o, none⟩) (q :: R)) : PtrAt w (some ⟨g, o + 1, none⟩) R := fun j hj => by
  obtain ⟨g', o', e, h2⟩ := h (j + 1) (by simpa using hj)
  obtain ⟨rfl, rfl⟩ : g = g' ∧ o = o' := by injection e with e; injection e with e1 e2; exact ⟨e1, e2⟩
  exact ⟨g, o + 1, rfl, by rw [show o + 1 + j = o + (j + 1) from by omega]; exact h2⟩
theorem grown_up {w W tmp : World} {v : Value} {W4 : World} {n : Nat} {xs : List Value} {T : TypeId} {kk : Nat} (hu : Up w W) (hut : Up W tmp) (hr : W.ownsRow w.heap.size T kk v n xs) (hg : tmp.grownBy W4 v.ownBlock) : Up w W4 :=
  (hu.trans hut).grown hg (by have := Below.size hu; have := Below.size hut; omega) (fun k hk => by
    rcases hr.2 with ⟨rfl, -⟩ | ⟨g, cap, cur, rfl, h1, -⟩
    · cases hk
    · obtain rfl := Option.some.inj hk; exact h1)
theorem to_cell {w : World} {B g c i : Nat} {L : List Nd} {x0 x1 x2 x3 : Int} (h : w.ownsRow B 46 4 (.slice (some ⟨g, 0, none⟩) (i + 1 + 1) c) (i + 1 + 1) (ndCells L ++ ndCells [(x0, x1, x2, x3)])) (hl : L.length = i + 1) : w.cell? ⟨g, (i + 1) * 4 + 2, none⟩ = some (.int .i64 x2) := by
  rw [h.cellAt _ (by omega), List.getElem?_append_right (by rw [ndCells_len]; omega), ndCells_len, hl, show (i + 1) * 4 + 2 - (i + 1) * 4 = 2 from by omega]
  rfl
theorem ptr_eq (w : World) (q : Nat) : (binOp .eql 51 (.pointer (some ⟨q, 0, none⟩)) (.pointer (some ⟨q, 0, none⟩))).run Try.prog w = .ok (.bool true) w := by
  obtain ⟨i0, hi0, -, -, -⟩ := info_parts infoNode
  exact run_eql_ptr_same w ⟨q, 0, none⟩ Try.underlying51 hi0
theorem ptr_ne {w W : World} {bb : Nat} {vN vO : Value} {Q : List Nat} {k : Int} {b : Bs} (h : BIs w bb vN vO Q k b) (hu : Up w W) {q q' : Nat} (hq : q ∈ Q) (hq' : q' ∈ Q) (hne : ¬ q' = q) : (binOp .eql 51 (.pointer (some ⟨q', 0, none⟩)) (.pointer (some ⟨q, 0, none⟩))).run Try.prog W = .ok (.bool false) W := by
  obtain ⟨i0, hi0, hz0, hz1, hz2⟩ := info_parts infoNode
  obtain ⟨i, hi, rfl⟩ := List.getElem_of_mem hq
  obtain ⟨j, hj, rfl⟩ := List.getElem_of_mem hq'
  exact run_eql_ptr_other W Try.underlying51 hi0 (by rw [hz1]; decide) (fun e => hne (by injection e)) ((h.up hu).nodes j hj) ((h.up hu).nodes i hi)
set_option maxRecDepth 100000 in
set_option maxHeartbeats 2000000 in
theorem done_any (w : World) (bb : Nat) (G : Nat → Prop) (k : Int) (b : Bs) (hb : BAt w bb G k b) (hok : BOk b) (hn : b.N.length ≤ 1000000) (n : Int) (h : b.far ≤ n ∧ n ≤ 1048576) : Calls Try.prog 7 #[.pointer (some ⟨bb, 0, none⟩), .int .i64 n] w fun e w' => ∃ g c, e = .returned (.tuple #[.slice (some ⟨g, 0, none⟩) (b.N.length + 1) c, .int .i64 0]) ∧ RowN w' w.heap.size (.slice (some ⟨g, 0, none⟩) (b.N.length + 1) c) (told k n b) ∧ Up w w' := by
  obtain ⟨vN, vO, Q, hI, -⟩ := hb
  obtain ⟨AN, cN, rfl, hcN, hPN⟩ := ptr_row hI.rN
  obtain ⟨AO, cO, rfl, hcO, hPO⟩ := ptr_row hI.rO
  have c0 := hI.c0
  have c1 := hI.c1
  have c2 := hI.c2
  have c3 := hI.c3
  have f1 : decide (n < b.far) = false := decide_eq_false (by omega)
  have f2 : decide (1048576 < n) = false := decide_eq_false (by omega)
  have HI := Lib.hid hI
  have HPN := Lib.hid hPN
  have HPO := Lib.hid hPO
  have HAsc := Lib.hid hok.asc
  have HLt := Lib.hid hok.lt
  have HQL := Lib.hid hI.len
  have HND := Lib.hid hI.nodup
  have hol := hok.len
  obtain ⟨m, hm⟩ : ∃ m, b.N.length = m := ⟨_, rfl⟩
  rw [hm] at c1 hcN hn hol HQL ⊢
  have HM := Lib.hid hm
  obtain ⟨p, hp⟩ : ∃ p, b.O.length = p := ⟨_, rfl⟩
  rw [hp] at c2 hcO hol
  have HP := Lib.hid hp
  have e1 : IntKind.i64.wrap (1 + (m : Int)) = 1 + (m : Int) := IntWalk.i64_in _ (by omega)
  have HN := Lib.hid hn
  have HC := Lib.hid (And.intro hcN hcO)
  have HOL := Lib.hid hol
  clear hI hPN hPO hok hm hp hcN hcO hol h
  go_enter Try.func7, Try.ntmps7
  go_wp2_with (first | (at_make; (obtain ⟨i0, hi0, hz0, hz1, hz2⟩ := info_parts infoNode; refine wpList_make_own _ rfl _ _ 24 rfl w.heap.size 46 i0 (.agg #[.int .u8 0, .int .i64 0, .int .i64 0, .int .i64 0]) 4 Try.underlying24 hi0 hz0 hz1 .i64 .i64 (1 + (m : Int)) (1 + m) rfl rfl (by omega) (by rw [hz2]; omega) (by unfold maxLen; omega) (Nat.le_refl _) ?_; clear hi0 hz0 hz1 hz2; intro w1 hown hgrow; have HO1 := Lib.hid hown; have HU1 := Lib.hid (show Up w w1 from (Up.refl w).grown hgrow (Nat.le_refl _) (fun k hk => by cases hk)); have d0 := cell_up HU1.out c0; have d1 := cell_up HU1.out c1; have d2 := cell_up HU1.out c2; have hown9 := hown.alloc (.cells #[.int .u8 k, .int .i64 0, .int .i64 n, .int .i64 0] 46); clear hown hgrow)) | (at_builtin; (obtain ⟨i0, hi0, hz0, hz1, hz2⟩ := info_parts infoNode; refine wpList_append_lies _ rfl _ _ 24 rfl w.heap.size 46 i0 (.agg #[.int .u8 0, .int .i64 0, .int .i64 0, .int .i64 0]) 4 32 Try.underlying24 hi0 hz0 hz1 hz2 rfl (by decide) _ _ _ rfl hown9 ⟨w1.heap.size, 0, none⟩ 1 1 (ndCells [(k, 0, n, 0)]) rfl rfl (World.news_of_block (cs := #[.int .u8 k, .int .i64 0, .int .i64 n, .int .i64 0]) (t := 46) (fr := (0, 0)) (heap_alloc_new w1 _)) (ndCells_one _) (by omega) (by decide) (by decide) (by have := Below.size HU1.out; simp; omega) _ rfl ?_); intro g2 cap2 w2 hown2 hgrow2 hat2 hlt2; clear hi0 hz0 hz1 hz2; have HO2 := Lib.hid hown2; have HU2 := Lib.hid (grown_up HU1.out (Up.alloc w1 _) HO1.out hgrow2); have k1 := cell_up HU2.out c1; have k2 := cell_up HU2.out c2; clear hown2 hgrow2 hat2 hlt2 hown9))
  have HS0 : Hid (w2.ownsRow w.heap.size 46 4 (.slice (some ⟨g2, 0, none⟩) 1 cap2) 1 (ndCells ((told k n b).take (0 + 1)))) := HO2
  have HR0 : Hid (PtrAt w AO (opq Q (rem b.O 0))) := Lib.hid (by rw [rem_zero]; exact HPO.out)
  have HL0 : Hid ((rem b.O 0).length = p) := Lib.hid (by rw [rem_zero]; exact HP.out)
  have hm6 : m ≤ 1000000 := HN.out
  clear HO2 HO1 HU1 d0 d1 d2 k1 k2 c0 c1 c2 c3 f1 f2
  go_loopg [6, 7, 9, 47] m (fun gh lv ov _ iv wr => ∃ (i g0 cc r co : Nat) (Ao : Option Addr), gh = m - i ∧ iv = .int .i64 (i : Nat) ∧ i ≤ m ∧ lv = .slice (some ⟨g0, 0, none⟩) (i + 1) cc ∧ ov = .slice Ao r co ∧ Hid (wr.ownsRow w.heap.size 46 4 (.slice (some ⟨g0, 0, none⟩) (i + 1) cc) (i + 1) (ndCells ((told k n b).take (i + 1)))) ∧ Hid ((rem b.O i).length = r) ∧ Hid (r ≤ co) ∧ Hid (PtrAt w Ao (opq Q (rem b.O i))) ∧ Hid (Up w wr))
  case atStart => exact ⟨0, g2, cap2, p, cO, AO, rfl, rfl, Nat.zero_le _, rfl, rfl, HS0, HL0, Lib.hid HC.out.2, HR0, HU2⟩
  case round =>
    obtain ⟨i, g0, cc, r, co, Ao, hg, rfl, hi, rfl, rfl, HO, HR, HRc, HPr, HU⟩ := hrel
    have HGh := Lib.hid hg
    clear hg
    by_cases hlt : i < m
    · have HLT := Lib.hid hlt
      have hii : (i : Int) < m := by omega
      have hiQ : i < Q.length := by have := HQL.out; omega
      have hiN : i < b.N.length := by have := HM.out; omega
      obtain ⟨gn, on, rfl, cn⟩ := HPN.out.up HU.out i hiQ
      have hnode := (HI.out.up HU.out).nodes i hiQ
      have HT := Lib.hid (told_take (k := k) (n := n) hiN)
      obtain ⟨hs1, hs2⟩ := rem_step (i := i) HAsc.out
      have HQi := Lib.hid (show ∀ j (hj : j < Q.length), Q[j] = Q[i] → j = i from fun j hj e => (List.getElem_inj HND.out).1 e)
      obtain ⟨q, hq⟩ : ∃ q, Q[i] = q := ⟨_, rfl⟩
      rw [hq] at cn hnode HQi
      obtain ⟨⟨x0, x1, x2, x3⟩, hx⟩ : ∃ x, nd b.N i = x := ⟨_, rfl⟩
      rw [hx] at hnode HT
      have n0 : wr.cell? ⟨q, 0, none⟩ = some (.int .u8 x0) := cellOf hnode rfl
      have n1 : wr.cell? ⟨q, 1, none⟩ = some (.int .i64 x1) := cellOf hnode rfl
      have n2 : wr.cell? ⟨q, 2, none⟩ = some (.int .i64 x2) := cellOf hnode rfl
      have n3 : wr.cell? ⟨q, 3, none⟩ = some (.int .i64 x3) := cellOf hnode rfl
      have hown9 := HO.out.alloc (.cells #[.int .u8 x0, .int .i64 x1, .int .i64 x2, .int .i64 x3] 46)
      have b1 : i + 1 + 1 ≤ maxLen := by unfold maxLen; omega
      have b2 : (i + 1 + 1) * 32 ≤ 140737488355328 := by omega
      have HQq := Lib.hid hq
      have HqM : Hid (q ∈ Q) := Lib.hid (hq ▸ List.getElem_mem hiQ)
      clear hnode hx hlt hiN hq
      by_cases hmem : i ∈ b.O
      · -- it is open
        have hrem := hs1 hmem
        have HF := Lib.hid (show finN n b.O i (x0, x1, x2, x3) = (x0, x1, n, x3) by unfold finN; rw [if_pos hmem])
        have hr1 : r = (rem b.O (i + 1)).length + 1 := by have := HR.out; rw [hrem] at this; exact this.symm
        obtain ⟨go, oo, rfl, cp⟩ := HPr.out 0 (by rw [opq_len, hrem]; exact Nat.succ_pos _)
        have hq0 : (opq Q (rem b.O i))[0]'(by rw [opq_len, hrem]; exact Nat.succ_pos _) = q := by
          simp only [hrem]
          show Q.getD i 0 = q
          rw [List.getD_eq_getElem?_getD, List.getElem?_eq_getElem hiQ]
          exact HQq.out
        rw [hq0, Nat.add_zero] at cp
        obtain ⟨r1, hr2⟩ : ∃ r1, (rem b.O (i + 1)).length = r1 := ⟨_, rfl⟩
        rw [hr2] at hr1
        subst hr1
        have hr3 : (0 : Int) < (r1 : Int) + 1 := by omega
        have hr4 : (r1 : Int) + 1 ≤ co := by have := HRc.out; omega
        have HPt : Hid (PtrAt w (some ⟨go, oo + 1, none⟩) (opq Q (rem b.O (i + 1)))) := Lib.hid (PtrAt.tail (q := q) (by
          have h1 := HPr.out
          rw [hrem] at h1
          have e : opq Q (i :: rem b.O (i + 1)) = q :: opq Q (rem b.O (i + 1)) := by
            show Q.getD i 0 :: _ = _
            rw [List.getD_eq_getElem?_getD, List.getElem?_eq_getElem hiQ]
            show Q[i] :: _ = _
            rw [HQq.out]
            rfl
          rw [e] at h1
          exact h1))
        have HR2 := Lib.hid hr2
        have HTL : Hid (((told k n b).take (i + 1)).length = i + 1) := Lib.hid (by rw [List.length_take, toldN_len, HM.out]; have := HLT.out; omega)
        have e5 : wrap64 ((i : Int) + 1) = (i : Int) + 1 := IntWalk.wrap64_in _ (by omega)
        clear hs1 hs2 hrem hmem hq0 hr2
        go_wp2_with (at_builtin; (obtain ⟨i0, hi0, hz0, hz1, hz2⟩ := info_parts infoNode; refine wpList_append_lies _ rfl _ _ 24 rfl w.heap.size 46 i0 (.agg #[.int .u8 0, .int .i64 0, .int .i64 0, .int .i64 0]) 4 32 Try.underlying24 hi0 hz0 hz1 hz2 rfl (by decide) (.slice (some ⟨g0, 0, none⟩) (i + 1) cc) (i + 1) (ndCells ((told k n b).take (i + 1))) rfl hown9 ⟨wr.heap.size, 0, none⟩ 1 1 (ndCells [(x0, x1, x2, x3)]) rfl rfl (World.news_of_block (cs := #[.int .u8 x0, .int .i64 x1, .int .i64 x2, .int .i64 x3]) (t := 46) (fr := (0, 0)) (heap_alloc_new wr _)) (ndCells_one _) (by omega) b1 b2 (by have := Below.size HU.out; simp; omega) _ rfl ?_); intro g4 cap4 w4 hown4 hgrow4 hat4 hlt4; clear hi0 hz0 hz1 hz2; have HO4 := Lib.hid hown4; have HU4 := Lib.hid (grown_up HU.out (Up.alloc wr _) HO.out hgrow4); have HG4 := Lib.hid hgrow4; have kp := cell_up HU4.out cp; have heq := ptr_eq w4 q; have kst := to_cell HO4.out HTL.out; have kfz := World.ownsRow.frozenAt HO4.out ((i + 1) * 4 + 2); clear hown4 hgrow4 hat4 hlt4 hown9)
        · have HST : ∀ W, W = w4.setCell ⟨g4, (i + 1) * 4 + 2, none⟩ (.int .i64 n) → Hid (W.ownsRow w.heap.size 46 4 (.slice (some ⟨g4, 0, none⟩) (i + 1 + 1) cap4) (i + 1 + 1) (ndCells ((told k n b).take (i + 1 + 1)))) ∧ Hid (Up w W) := fun W e => by
            subst e
            have h1 := (World.ownsRow.stored HO4.out ((i + 1) * 4 + 2) (.int .i64 n)).1
            have e1 := ndCells_setTo ((told k n b).take (i + 1)) (x0, x1, x2, x3) n
            rw [HTL.out, ndCells_append] at e1
            rw [e1] at h1
            refine ⟨?_, ?_⟩
            · rw [HT.out, HF.out]
              exact h1
            · have hge : w.heap.size ≤ g4 := by
                rcases HO4.out.2 with ⟨e, -⟩ | ⟨g', _, _, e, hb, -⟩
                · cases e
                · injection e with e; injection e with e; injection e with e; subst e; exact hb
              exact Below.setCell HU4.out (p := ⟨g4, (i + 1) * 4 + 2, none⟩) hge _
          go_roundg (m - (i + 1))
          case measure => rw [HGh.out]; have := HLT.out; omega
          case rel =>
            obtain ⟨k1, k2⟩ := HST _ rfl
            refine ⟨i + 1, g4, cap4, r1, _, _, rfl, by go_num, by omega, rfl, rfl, k1, HR2, Lib.hid (by omega), Lib.hid ?_, k2⟩
            have hr0 : rem b.O (i + 1) = [] := List.eq_nil_of_length_eq_zero (by rw [HR2.out]; omega)
            rw [hr0]
            exact fun j hj => absurd hj (Nat.not_lt_zero _)
        · have HST : ∀ W, W = w4.setCell ⟨g4, (i + 1) * 4 + 2, none⟩ (.int .i64 n) → Hid (W.ownsRow w.heap.size 46 4 (.slice (some ⟨g4, 0, none⟩) (i + 1 + 1) cap4) (i + 1 + 1) (ndCells ((told k n b).take (i + 1 + 1)))) ∧ Hid (Up w W) := fun W e => by
            subst e
            have h1 := (World.ownsRow.stored HO4.out ((i + 1) * 4 + 2) (.int .i64 n)).1
            have e1 := ndCells_setTo ((told k n b).take (i + 1)) (x0, x1, x2, x3) n
            rw [HTL.out, ndCells_append] at e1
            rw [e1] at h1
            refine ⟨?_, ?_⟩
            · rw [HT.out, HF.out]
              exact h1
            · have hge : w.heap.size ≤ g4 := by
                rcases HO4.out.2 with ⟨e, -⟩ | ⟨g', _, _, e, hb, -⟩
                · cases e
                · injection e with e; injection e with e; injection e with e; subst e; exact hb
              exact Below.setCell HU4.out (p := ⟨g4, (i + 1) * 4 + 2, none⟩) hge _
          go_roundg (m - (i + 1))
          case measure => rw [HGh.out]; have := HLT.out; omega
          case rel =>
            obtain ⟨k1, k2⟩ := HST _ rfl
            exact ⟨i + 1, g4, cap4, r1, _, _, rfl, by go_num, by omega, rfl, rfl, k1, HR2, Lib.hid (by omega), HPt, k2⟩
      · have hrem := hs2 hmem
        have HF := Lib.hid (show finN n b.O i (x0, x1, x2, x3) = (x0, x1, x2, x3) by unfold finN; rw [if_neg hmem])
        have HRem := Lib.hid hrem
        cases hR : rem b.O i with
        | nil =>
          have hr0 : r = 0 := by have := HR.out; rw [hR] at this; exact this.symm
          subst hr0
          clear hs1 hs2 hrem hmem hR
          go_wp2_with (at_builtin; (obtain ⟨i0, hi0, hz0, hz1, hz2⟩ := info_parts infoNode; refine wpList_append_lies _ rfl _ _ 24 rfl w.heap.size 46 i0 (.agg #[.int .u8 0, .int .i64 0, .int .i64 0, .int .i64 0]) 4 32 Try.underlying24 hi0 hz0 hz1 hz2 rfl (by decide) (.slice (some ⟨g0, 0, none⟩) (i + 1) cc) (i + 1) (ndCells ((told k n b).take (i + 1))) rfl hown9 ⟨wr.heap.size, 0, none⟩ 1 1 (ndCells [(x0, x1, x2, x3)]) rfl rfl (World.news_of_block (cs := #[.int .u8 x0, .int .i64 x1, .int .i64 x2, .int .i64 x3]) (t := 46) (fr := (0, 0)) (heap_alloc_new wr _)) (ndCells_one _) (by omega) b1 b2 (by have := Below.size HU.out; simp; omega) _ rfl ?_); intro g4 cap4 w4 hown4 hgrow4 hat4 hlt4; clear hi0 hz0 hz1 hz2; have HO4 := Lib.hid hown4; have HU4 := Lib.hid (grown_up HU.out (Up.alloc wr _) HO.out hgrow4); have HG4 := Lib.hid hgrow4; clear hown4 hgrow4 hat4 hlt4 hown9)
          go_roundg (m - (i + 1))
          case measure => rw [HGh.out]; have := HLT.out; omega
          case rel =>
            refine ⟨i + 1, g4, cap4, 0, co, Ao, rfl, by go_num, by omega, rfl, rfl, Lib.hid ?_, Lib.hid (by rw [← HRem.out]; exact HR.out), HRc, Lib.hid (by rw [← HRem.out]; exact HPr.out), HU4⟩
            rw [HT.out, HF.out, ndCells_append]
            exact HO4.out
        | cons y R =>
          have hyO : y ∈ b.O := by
            have h1 : y ∈ rem b.O i := by rw [hR]; exact List.mem_cons_self
            exact (List.mem_filter.1 h1).1
          have hyQ : y < Q.length := by have := HLt.out y hyO; have := HQL.out; have := HM.out; omega
          have hyi : y ≠ i := fun e => hmem (e ▸ hyO)
          have hQy : Q.getD y 0 = Q[y] := by rw [List.getD_eq_getElem?_getD, List.getElem?_eq_getElem hyQ]; rfl
          have hr1 : r = R.length + 1 := by have := HR.out; rw [hR] at this; exact this.symm
          obtain ⟨go, oo, rfl, cp⟩ := HPr.out 0 (by rw [opq_len, hR]; exact Nat.succ_pos _)
          have hq0 : (opq Q (rem b.O i))[0]'(by rw [opq_len, hR]; exact Nat.succ_pos _) = Q.getD y 0 := by simp only [hR]; rfl
          rw [hq0, hQy, Nat.add_zero] at cp
          obtain ⟨q', hq'⟩ : ∃ q', Q[y] = q' := ⟨_, rfl⟩
          have HqM2 : Hid (q' ∈ Q) := Lib.hid (hq' ▸ List.getElem_mem hyQ)
          rw [hq'] at cp
          have hne : ¬ q' = q := fun e => hyi (HQi.out y hyQ (hq'.trans e))
          obtain ⟨r1, hr2⟩ : ∃ r1, R.length = r1 := ⟨_, rfl⟩
          rw [hr2] at hr1
          subst hr1
          have hr3 : (0 : Int) < (r1 : Int) + 1 := by omega
          clear hs1 hs2 hrem hmem hR hyO hyQ hyi hQy hq0 hq' hr2
          go_wp2_with (at_builtin; (obtain ⟨i0, hi0, hz0, hz1, hz2⟩ := info_parts infoNode; refine wpList_append_lies _ rfl _ _ 24 rfl w.heap.size 46 i0 (.agg #[.int .u8 0, .int .i64 0, .int .i64 0, .int .i64 0]) 4 32 Try.underlying24 hi0 hz0 hz1 hz2 rfl (by decide) (.slice (some ⟨g0, 0, none⟩) (i + 1) cc) (i + 1) (ndCells ((told k n b).take (i + 1))) rfl hown9 ⟨wr.heap.size, 0, none⟩ 1 1 (ndCells [(x0, x1, x2, x3)]) rfl rfl (World.news_of_block (cs := #[.int .u8 x0, .int .i64 x1, .int .i64 x2, .int .i64 x3]) (t := 46) (fr := (0, 0)) (heap_alloc_new wr _)) (ndCells_one _) (by omega) b1 b2 (by have := Below.size HU.out; simp; omega) _ rfl ?_); intro g4 cap4 w4 hown4 hgrow4 hat4 hlt4; clear hi0 hz0 hz1 hz2; have HO4 := Lib.hid hown4; have HU4 := Lib.hid (grown_up HU.out (Up.alloc wr _) HO.out hgrow4); have HG4 := Lib.hid hgrow4; have kp := cell_up HU4.out cp; have heq := ptr_ne HI.out HU4.out HqM.out HqM2.out hne; clear hown4 hgrow4 hat4 hlt4 hown9)
          go_roundg (m - (i + 1))
          case measure => rw [HGh.out]; have := HLT.out; omega
          case rel =>
            refine ⟨i + 1, g4, cap4, r1 + 1, co, _, rfl, by go_num, by omega, rfl, rfl, Lib.hid ?_, Lib.hid (by rw [← HRem.out]; exact HR.out), HRc, Lib.hid (by rw [← HRem.out]; exact HPr.out), HU4⟩
            rw [HT.out, HF.out, ndCells_append]
            exact HO4.out
    · obtain rfl : i = m := by omega
      have f0 : decide (i < i) = false := decide_eq_false hlt
      have HTA := Lib.hid (told_all k n b)
      clear hlt
      go_wp2
      go_ret2
      refine ⟨g0, cc, rfl, ?_, HU.out⟩
      have h1 := HO.out
      have h2 := HTA.out
      rw [HM.out] at h2
      rw [h2] at h1
      unfold RowN
      rw [toldN_len, HM.out]
      exact h1
end Go.Proofs.Ytkkefgbmdghklaa
