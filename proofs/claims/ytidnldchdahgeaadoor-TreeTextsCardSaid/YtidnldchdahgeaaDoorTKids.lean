/- The nodes right below a node: the document's Kids. -/
import Derived.Test.YtidnldchdahgeaaDoorTLeaves
namespace Go.Proofs.YtidnldchdahgeaaDoor
open Go.RowKit

/-- From a place on, as long as nodes lie within node i: those that lie right below it. -/
def kidsR (L : List Nd) (i : Nat) : Nat → Nat → List Nat
  | 0, _ => []
  | m + 1, k => if dep L i < dep L k then (if dep L k = dep L i + 1 then [k] else []) ++ kidsR L i m (k + 1) else []
def kidsL (L : List Nd) (n i : Nat) : List Nat := kidsR L i (n - (i + 1)) (i + 1)
theorem kidsR_len (L : List Nd) (i : Nat) : ∀ m k, (kidsR L i m k).length ≤ m
  | 0, _ => Nat.le_refl _
  | m + 1, k => by
    have := kidsR_len L i m (k + 1)
    unfold kidsR
    split
    · rw [List.length_append]
      split <;> simp <;> omega
    · simp
set_option maxRecDepth 100000 in
set_option maxHeartbeats 2000000 in
theorem refKids_any (w : World) (A : Option Addr) (n c : Nat) (L : List Nd) (hL : Nds w A n L) (hn : n ≤ 10000) (i : Nat) (hi : i < n) (hd : 0 ≤ dep L i ∧ dep L i ≤ 10000) :
    Calls Tryd.prog 24 #[.slice A n c, .int .i64 (i : Nat)] w fun e w' => ∃ v, e = .returned v ∧ RowI w' w.heap.size v (toI (kidsL L n i)) ∧ Up w w' := by
  have HL := Lib.hid hL
  obtain ⟨D, hD⟩ : ∃ D, dep L i = D := ⟨_, rfl⟩
  have HD := Lib.hid hD
  rw [hD] at hd
  have q0 : IntKind.i64.wrap ((i : Int) + 1) = (i : Int) + 1 := IntWalk.i64_in _ (by omega)
  have q2 : IntKind.i64.wrap (D + 1) = D + 1 := IntWalk.i64_in _ (by omega)
  have HKn := Lib.hid (show (kidsL L n i).length ≤ 10000 by unfold kidsL; have := kidsR_len L i (n - (i + 1)) (i + 1); omega)
  clear hD hL
  go_enter Tryd.func24, Tryd.ntmps24
  go_wp2
  go_loopg [5, 6] (n - (i + 1)) (fun g ov kv wr => ∃ (k : Nat) (O : List Nat), g = n - k ∧ kv = .int .i64 (k : Nat) ∧ i < k ∧ k ≤ n ∧ Hid (O ++ kidsR L i (n - k) k = kidsL L n i) ∧ Hid (RowI wr w.heap.size ov (toI O)) ∧ Hid (Up w wr))
  case atStart => exact ⟨i + 1, [], rfl, by go_num, by omega, by omega, Lib.hid rfl, Lib.hid (World.ownsRow_nil _ _ _ _), Lib.hid (Up.refl _)⟩
  case round =>
    obtain ⟨k, O, hg, rfl, hik, hk, HK, HO, HU⟩ := hrel
    have HG := Lib.hid hg
    clear hg
    have q1 : IntKind.i64.wrap ((k : Int) + 1) = (k : Int) + 1 := IntWalk.i64_in _ (by omega)
    by_cases hlt : k < n
    · obtain ⟨a, o, hA, -, -, -, -, y3⟩ := nds_nd (HL.out.up HU.out) k hlt
      obtain ⟨a2, o2, hA2, -, -, -, -, x3⟩ := nds_nd (HL.out.up HU.out) i hi
      subst hA
      obtain ⟨rfl, rfl⟩ : a2 = a ∧ o2 = o := by injection hA2 with e; injection e with e1 e2; exact ⟨e1.symm, e2.symm⟩
      obtain ⟨y, hy⟩ : ∃ y, dep L k = y := ⟨_, rfl⟩
      rw [show (nd L i).2.2.2 = D from HD.out] at x3
      rw [show (nd L k).2.2.2 = y from hy] at y3
      have HR := Lib.hid (show kidsR L i (n - k) k = if D < y then (if y = D + 1 then [k] else []) ++ kidsR L i (n - (k + 1)) (k + 1) else [] by
        rw [show n - k = (n - (k + 1)) + 1 from by omega]
        show (if dep L i < dep L k then _ else _) = _
        rw [hy, HD.out])
      have j1 : (k : Int) < n := by omega
      have j2 : (i : Int) < n := by omega
      clear hy
      by_cases c1 : D < y
      · have hR := HR.out
        rw [if_pos c1] at hR
        have HR := Lib.hid hR
        clear hR
        by_cases c2 : y = D + 1
        · subst c2
          have hR := HR.out
          rw [if_pos rfl] at hR
          have HO2 := Lib.hid (show (O ++ [k]) ++ kidsR L i (n - (k + 1)) (k + 1) = kidsL L n i by rw [List.append_assoc, ← hR]; exact HK.out)
          have hOl : (toI O).length ≤ 10000 := by unfold toI; rw [List.length_map]; have h1 := HKn.out; rw [← HK.out, List.length_append] at h1; omega
          clear hR
          go_wp2
          go_quiet (fail)
          obtain ⟨wp, hwp⟩ : ∃ wp, wr.drewN nq = wp := ⟨_, rfl⟩
          replace y3 := cell_up (Up.drewN wr nq) y3
          replace x3 := cell_up (Up.drewN wr nq) x3
          have HOp := Lib.hid (rowI_up HO.out (Up.drewN wr nq))
          have HUp := Lib.hid (HU.out.trans (Up.drewN wr nq))
          rw [hwp] at y3 x3 HOp HUp
          simp only [hwp]
          clear hwp
          go_wp2
          go_quiet (fail)
          have hoq := rowI_up HOp.out (Up.drewN wp nq)
          have HUq := Lib.hid (HUp.out.trans (Up.drewN wp nq))
          obtain ⟨wq, hwq⟩ : ∃ wq, wp.drewN nq = wq := ⟨_, rfl⟩
          rw [hwq] at hoq HUq
          simp only [hwq]
          clear hwq
          have hsz : w.heap.size ≤ wq.heap.size := Below.size HUq.out
          have ho := hoq
          unfold RowI at ho
          go_wp2_with (at_builtin; (obtain ⟨i0, hi0, hz0, hz1, hz2⟩ := info_parts infoInt; refine wpList_append_own _ rfl _ _ 30 rfl w.heap.size 3 i0 (.int .i64 0) 1 8 Tryd.underlying30 hi0 hz0 hz1 hz2 rfl (by decide) _ _ _ rfl (ho.alloc _) ⟨wq.heap.size, 0, none⟩ 1 1 [.int .i64 (k : Nat)] rfl rfl (cell_one_new _ _ _) (by simp [Value.oneCell']) (by unfold maxLen; omega) (by omega) (by simp; omega) ?_; clear hi0 hz0 hz1 hz2; intro v5 w5 hown5 hgrow5 _))
          have HO5 := Lib.hid (show RowI w5 w.heap.size v5 (toI (O ++ [k])) by
            have e : toI (O ++ [k]) = toI O ++ [(k : Int)] := by unfold toI; rw [List.map_append]; rfl
            unfold RowI
            rw [e, inCells_append, List.length_append]
            exact hown5)
          have HU5 := Lib.hid (show Up w w5 from (HUq.out.trans (Up.alloc wq _)).grown hgrow5 (by simp; omega) (fun q hq => own_base ho hq))
          clear hown5 hgrow5 ho
          go_wp2
          go_roundg (n - (k + 1))
          case measure => rw [HG.out]; omega
          case rel => exact ⟨k + 1, O ++ [k], rfl, by go_num, by omega, by omega, HO2, HO5, HU5⟩
        · have f2 : (y == D + 1) = false := beq_false_of_ne c2
          have hR := HR.out
          rw [if_neg c2, List.nil_append] at hR
          have HO2 := Lib.hid (show O ++ kidsR L i (n - (k + 1)) (k + 1) = kidsL L n i by rw [← hR]; exact HK.out)
          clear hR c2
          go_wp2
          go_quiet (fail)
          obtain ⟨wp, hwp⟩ : ∃ wp, wr.drewN nq = wp := ⟨_, rfl⟩
          replace y3 := cell_up (Up.drewN wr nq) y3
          replace x3 := cell_up (Up.drewN wr nq) x3
          have HOp := Lib.hid (rowI_up HO.out (Up.drewN wr nq))
          have HUp := Lib.hid (HU.out.trans (Up.drewN wr nq))
          rw [hwp] at y3 x3 HOp HUp
          simp only [hwp]
          clear hwp
          go_wp2
          go_quiet (fail)
          have HOq := Lib.hid (rowI_up HOp.out (Up.drewN wp nq))
          have HUq := Lib.hid (HUp.out.trans (Up.drewN wp nq))
          go_wp2
          go_roundg (n - (k + 1))
          case measure => rw [HG.out]; omega
          case rel => exact ⟨k + 1, O, rfl, by go_num, by omega, by omega, HO2, HOq, HUq⟩
      · have f1 : decide (D < y) = false := decide_eq_false c1
        have hR := HR.out
        rw [if_neg c1] at hR
        have HZ := Lib.hid (show O = kidsL L n i by rw [← HK.out, hR, List.append_nil])
        clear c1 hR
        go_wp2
        go_quiet (fail)
        go_wp2
        go_ret
        exact ⟨_, rfl, by rw [← HZ.out]; exact rowI_up HO.out (Up.drewN _ _), HU.out.trans (Up.drewN _ _)⟩
    · obtain rfl : k = n := by omega
      have f0 : decide (k < k) = false := decide_eq_false hlt
      have HZ := Lib.hid (show O = kidsL L k i by rw [← HK.out, Nat.sub_self]; simp [kidsR])
      clear hlt
      go_wp2
      go_quiet (fail)
      go_wp2
      go_ret
      exact ⟨_, rfl, by rw [← HZ.out]; exact rowI_up HO.out (Up.drewN _ _), HU.out.trans (Up.drewN _ _)⟩
end Go.Proofs.YtidnldchdahgeaaDoor
