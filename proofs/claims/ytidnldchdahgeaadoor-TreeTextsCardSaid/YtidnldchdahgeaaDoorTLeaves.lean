/- The leaves: the document's Leaves. -/
import Derived.Test.YtidnldchdahgeaaDoorTOwn
namespace Go.Proofs.YtidnldchdahgeaaDoor
open Go.RowKit

def toI (l : List Nat) : List Int := l.map fun (k : Nat) => (k : Int)
theorem leavesT_succ (L : List Nd) (n : Nat) : leavesT L (n + 1) = leavesT L n ++ (if leafT L n = true then [n] else []) := by
  unfold leavesT
  rw [List.range_succ, List.filter_append]
  congr 1
  by_cases h : leafT L n = true
  · rw [if_pos h, List.filter_cons_of_pos h]; rfl
  · rw [if_neg h, List.filter_cons_of_neg h]; rfl
theorem leavesT_len (L : List Nd) (n : Nat) : (leavesT L n).length ≤ n := by
  unfold leavesT
  have := List.length_filter_le (leafT L) (List.range n)
  rw [List.length_range] at this
  exact this
set_option maxRecDepth 100000 in
set_option maxHeartbeats 2000000 in
theorem refLeaves_any (w : World) (A : Option Addr) (n c : Nat) (L : List Nd) (hL : Nds w A n L) (hn : n ≤ 10000) :
    Calls Tryd.prog 22 #[.slice A n c] w fun e w' => ∃ v, e = .returned v ∧ RowI w' w.heap.size v (toI (leavesT L n)) ∧ Up w w' := by
  have HL := Lib.hid hL
  have HN := Lib.hid hL.len
  clear hL
  go_enter Tryd.func22, Tryd.ntmps22
  go_wp2
  go_loopg [3, 4] n (fun g ov iv wr => ∃ i : Nat, g = n - i ∧ iv = .int .i64 (i : Nat) ∧ i ≤ n ∧ Hid (RowI wr w.heap.size ov (toI (leavesT L i))) ∧ Hid (Up w wr))
  case atStart => exact ⟨0, rfl, rfl, Nat.zero_le _, Lib.hid (World.ownsRow_nil _ _ _ _), Lib.hid (Up.refl _)⟩
  case round =>
    obtain ⟨i, hg, rfl, hi, HO, HU⟩ := hrel
    have HG := Lib.hid hg
    clear hg
    by_cases hlt : i < n
    · obtain ⟨b, o, hA, -, -, -, -, y3⟩ := nds_nd (HL.out.up HU.out) i hlt
      subst hA
      have hii : (i : Int) < n := by omega
      have q1 : IntKind.i64.wrap ((i : Int) + 1) = (i : Int) + 1 := IntWalk.i64_in _ (by omega)
      have hll : (toI (leavesT L i)).length ≤ 10000 := by unfold toI; rw [List.length_map]; have := leavesT_len L i; omega
      by_cases c1 : i + 1 = n
      · have f0 : ((i : Int) + 1 == (n : Int)) = true := by rw [beq_iff_eq]; omega
        have HLf := Lib.hid (show leafT L i = true by unfold leafT; rw [decide_eq_true (show i + 1 = L.length by have := HN.out; omega)]; rfl)
        clear c1
        go_wp2
        go_quiet (fail)
        have hoq := rowI_up HO.out (Up.drewN wr nq)
        have HUq := Lib.hid (HU.out.trans (Up.drewN wr nq))
        obtain ⟨wq, hwq⟩ : ∃ wq, wr.drewN nq = wq := ⟨_, rfl⟩
        rw [hwq] at hoq HUq
        simp only [hwq]
        clear hwq
        have hsz : w.heap.size ≤ wq.heap.size := Below.size HUq.out
        have ho := hoq
        unfold RowI at ho
        go_wp2_with (at_builtin; (obtain ⟨i0, hi0, hz0, hz1, hz2⟩ := info_parts infoInt; refine wpList_append_own _ rfl _ _ 30 rfl w.heap.size 3 i0 (.int .i64 0) 1 8 Tryd.underlying30 hi0 hz0 hz1 hz2 rfl (by decide) u3 _ _ rfl (ho.alloc _) ⟨wq.heap.size, 0, none⟩ 1 1 [.int .i64 (i : Nat)] rfl rfl (cell_one_new _ _ _) (by simp [Value.oneCell']) (by unfold maxLen; omega) (by omega) (by simp; omega) ?_; clear hi0 hz0 hz1 hz2; intro v5 w5 hown5 hgrow5 _))
        have HO5 := Lib.hid (show RowI w5 w.heap.size v5 (toI (leavesT L (i + 1))) by
          have e : toI (leavesT L (i + 1)) = toI (leavesT L i) ++ [(i : Int)] := by rw [leavesT_succ, if_pos HLf.out]; unfold toI; rw [List.map_append]; rfl
          unfold RowI
          rw [e, inCells_append, List.length_append]
          exact hown5)
        have HU5 := Lib.hid (show Up w w5 from (HUq.out.trans (Up.alloc wq _)).grown hgrow5 (by simp; omega) (fun q hq => own_base ho hq))
        clear hown5 hgrow5 ho
        go_wp2
        go_roundg (n - (i + 1))
        case measure => rw [HG.out]; omega
        case rel => exact ⟨i + 1, rfl, by go_num, by omega, HO5, HU5⟩
      · have f0 : ((i : Int) + 1 == (n : Int)) = false := beq_false_of_ne (by omega)
        obtain ⟨b2, o2, hA2, -, -, -, -, x3⟩ := nds_nd (HL.out.up HU.out) (i + 1) (by omega)
        obtain ⟨rfl, rfl⟩ : b2 = b ∧ o2 = o := by injection hA2 with e; injection e with e1 e2; exact ⟨e1.symm, e2.symm⟩
        obtain ⟨y, hy⟩ : ∃ y, dep L i = y := ⟨_, rfl⟩
        obtain ⟨x, hx⟩ : ∃ x, dep L (i + 1) = x := ⟨_, rfl⟩
        rw [show (nd L i).2.2.2 = y from hy] at y3
        rw [show (nd L (i + 1)).2.2.2 = x from hx] at x3
        have j1 : (i : Int) + 1 < n := by omega
        have z1 : ((i : Int) + 1).toNat = i + 1 := by omega
        have HLq := Lib.hid (show leafT L i = decide (x ≤ y) by unfold leafT; rw [decide_eq_false (show ¬ i + 1 = L.length by have := HN.out; omega), hx, hy]; rfl)
        clear c1 hx hy
        by_cases c2 : x ≤ y
        · have HLf := Lib.hid (show leafT L i = true by rw [HLq.out, decide_eq_true c2])
          go_wp2
          go_quiet (fail)
          have hoq := rowI_up HO.out (Up.drewN wr nq)
          have HUq := Lib.hid (HU.out.trans (Up.drewN wr nq))
          obtain ⟨wq, hwq⟩ : ∃ wq, wr.drewN nq = wq := ⟨_, rfl⟩
          rw [hwq] at hoq HUq
          simp only [hwq]
          clear hwq
          have hsz : w.heap.size ≤ wq.heap.size := Below.size HUq.out
          have ho := hoq
          unfold RowI at ho
          go_wp2_with (at_builtin; (obtain ⟨i0, hi0, hz0, hz1, hz2⟩ := info_parts infoInt; refine wpList_append_own _ rfl _ _ 30 rfl w.heap.size 3 i0 (.int .i64 0) 1 8 Tryd.underlying30 hi0 hz0 hz1 hz2 rfl (by decide) u3 _ _ rfl (ho.alloc _) ⟨wq.heap.size, 0, none⟩ 1 1 [.int .i64 (i : Nat)] rfl rfl (cell_one_new _ _ _) (by simp [Value.oneCell']) (by unfold maxLen; omega) (by omega) (by simp; omega) ?_; clear hi0 hz0 hz1 hz2; intro v5 w5 hown5 hgrow5 _))
          have HO5 := Lib.hid (show RowI w5 w.heap.size v5 (toI (leavesT L (i + 1))) by
            have e : toI (leavesT L (i + 1)) = toI (leavesT L i) ++ [(i : Int)] := by rw [leavesT_succ, if_pos HLf.out]; unfold toI; rw [List.map_append]; rfl
            unfold RowI
            rw [e, inCells_append, List.length_append]
            exact hown5)
          have HU5 := Lib.hid (show Up w w5 from (HUq.out.trans (Up.alloc wq _)).grown hgrow5 (by simp; omega) (fun q hq => own_base ho hq))
          clear hown5 hgrow5 ho
          go_wp2
          go_roundg (n - (i + 1))
          case measure => rw [HG.out]; omega
          case rel => exact ⟨i + 1, rfl, by go_num, by omega, HO5, HU5⟩
        · have f1 : decide (x ≤ y) = false := decide_eq_false c2
          have HO2 := Lib.hid (show RowI wr w.heap.size u3 (toI (leavesT L (i + 1))) by rw [leavesT_succ, if_neg (by rw [HLq.out, f1]; exact Bool.false_ne_true), List.append_nil]; exact HO.out)
          clear c2
          go_wp2
          go_quiet (fail)
          have HO3 := Lib.hid (rowI_up HO2.out (Up.drewN wr nq))
          have HUq := Lib.hid (HU.out.trans (Up.drewN wr nq))
          go_wp2
          go_roundg (n - (i + 1))
          case measure => rw [HG.out]; omega
          case rel => exact ⟨i + 1, rfl, by go_num, by omega, HO3, HUq⟩
    · obtain rfl : i = n := by omega
      have f0 : decide (i < i) = false := decide_eq_false hlt
      clear hlt
      go_wp2
      go_ret
      exact ⟨_, rfl, HO.out, HU.out⟩
end Go.Proofs.YtidnldchdahgeaaDoor
