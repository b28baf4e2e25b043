/- A tree's text: the document's Print. -/
import Derived.Test.YtidnldchdahgeaaDoorTDig
import Derived.Lib.AppendStr
namespace Go.Proofs.YtidnldchdahgeaaDoor
open Go.RowKit

set_option maxRecDepth 100000 in
set_option maxHeartbeats 8000000 in
theorem refPrint_any (w : World) (A : Option Addr) (n c : Nat) (L : List Nd) (hL : NArg w A n L) (hn : n ≤ 10000) (hF : fitB L = true) :
    Calls Tryd.prog 29 #[.slice A n c] w fun e w' => e = .returned (.string (prS L)) ∧ Up w w' := by
  have hl := hL.nds.len
  have HL := Lib.hid hL.nds
  have hps : prS L = ⟨(prL L).toArray⟩ := by unfold prS; rw [if_pos hF]
  have HP := Lib.hid hps
  have hfit := fit_of hF
  have hpos : 0 < n := by have := hfit.pos; omega
  obtain ⟨b0, o0, rfl, hb, -⟩ := nds_nd hL.nds 0 hpos
  have HIn := Lib.hid (fit_all hfit hL.ok (by omega))
  have HLen := Lib.hid hl
  have HNz := Lib.hid hpos
  have HDg := Lib.hid refDigits_any
  have HX0 := Lib.hid (Up.refl w)
  clear hL hl hF hb hps hfit
  go_enter Tryd.func29, Tryd.ntmps29
  go_wp2
  go_loopg [3, 4] n (fun g ov iv wr => ∃ k : Nat, g = n - k ∧ iv = .int .i64 (k : Nat) ∧ k ≤ n ∧ Hid (RowB wr w.heap.size ov (prL (L.take k))) ∧ Hid (Up w wr))
  case atStart => exact ⟨0, rfl, rfl, by omega, Lib.hid (World.ownsRow_nil _ _ _ _), HX0⟩
  case round =>
    obtain ⟨k, hg, rfl, hk, HO, HU⟩ := hrel
    have HG := Lib.hid hg
    clear hg
    by_cases hlt : k < n
    · obtain ⟨a, o, hA, -, x0', x1', x2', x3'⟩ := nds_nd HL.out k hlt
      obtain ⟨rfl, rfl⟩ : a = b0 ∧ o = o0 := by injection hA with e; injection e with e1 e2; exact ⟨e1.symm, e2.symm⟩
      have HNX := Lib.hid (prL_next (L := L) (k := k) (by rw [HLen.out]; exact hlt))
      have hx0 : NdIn (nd L k) := by
        rw [← nd_eq (show k < L.length by rw [HLen.out]; exact hlt)]
        exact HIn.out _ (List.getElem_mem _)
      obtain ⟨x, hx⟩ : ∃ x, nd L k = x := ⟨_, rfl⟩
      rw [hx] at x0' x1' x2' x3' HNX hx0
      obtain ⟨x0, f, t, d⟩ := x
      dsimp only at x0' x1' x2' x3'
      have hpl : (prL (L.take k)).length ≤ 880000 := by
        have h1 := prL_len (L := L.take k) (fun y hy => HIn.out y (List.mem_of_mem_take hy))
        rw [List.length_take] at h1
        omega
      obtain ⟨z0, z1, z2, z3⟩ := hx0
      dsimp only at z0 z1 z2 z3
      have hw0 : IntKind.i64.wrap x0 = x0 := IntWalk.i64_in _ (by omega)
      have Hd3 := Lib.hid (And.intro (fun W => HDg.out d z3.1 z3.2 W) (dig_len z3.1 (by omega)))
      have Hd0 := Lib.hid (And.intro (fun W => HDg.out x0 z0.1 (by omega) W) (dig_len z0.1 (by omega)))
      have Hd1 := Lib.hid (And.intro (fun W => HDg.out f z1.1 z1.2 W) (dig_len z1.1 (by omega)))
      have Hd2 := Lib.hid (And.intro (fun W => HDg.out t z2.1 z2.2 W) (dig_len z2.1 (by omega)))
      have j1 : (k : Int) < n := by omega
      have HLt := Lib.hid hlt
      have X0 := Lib.hid x0'
      have X1 := Lib.hid x1'
      have X2 := Lib.hid x2'
      have X3 := Lib.hid x3'
      replace x0' := cell_up HU.out X0.out
      replace x1' := cell_up HU.out X1.out
      replace x2' := cell_up HU.out X2.out
      replace x3' := cell_up HU.out X3.out
      obtain ⟨l0, hl0⟩ : ∃ l0, prL (L.take k) = l0 := ⟨_, rfl⟩
      rw [hl0] at HO hpl HNX
      have HO0 := HO
      have hb0 : l0.length ≤ 880000 := hpl
      clear hA hx z0 z1 z2 z3 hl0 hpl HO
      go_wp2_with (first
        | (go_at_call 44; ((with_reducible refine (Hd3.out.1 _).mono ?_); rintro e wd0 ⟨rfl, hu⟩; have HO0 := Lib.hid (rowB_up HO0.out hu); have HU := Lib.hid (HU.out.trans hu); replace x0' := cell_up HU.out X0.out; replace x1' := cell_up HU.out X1.out; replace x2' := cell_up HU.out X2.out; replace x3' := cell_up HU.out X3.out; clear hu))
        | (at_builtin; (obtain ⟨i0, hi0, hz0, hz1, hz2⟩ := info_parts infoByte; have ho := HO0.out; unfold RowB at ho; refine Lib.wpList_append_own_string _ rfl _ _ 60 9 rfl w.heap.size 5 i0 Tryd.underlying60 Tryd.underlying9 hi0 hz0 hz1 hz2 _ _ _ rfl ho ⟨(dig d).toArray⟩ rfl (by show l0.length + (dig d).toArray.size ≤ maxLen; rw [List.size_toArray]; unfold maxLen; have := Hd3.out.2; omega) (by show l0.length + (dig d).toArray.size ≤ _; rw [List.size_toArray]; have := Hd3.out.2; omega) (Below.size HU.out) ?_; clear hi0 hz0 hz1 hz2; intro v1 w1 hown hgrow _; have HU := Lib.hid (show Up w w1 from HU.out.grown hgrow (Below.size HU.out) (fun q hq => own_base ho hq)); obtain ⟨l1, hl⟩ : ∃ l', l0 ++ dig d = l' := ⟨_, rfl⟩; have HO1 := Lib.hid (show RowB w1 w.heap.size v1 l1 by (rw [← hl]; unfold RowB; rw [byteCells_app, List.length_append]; exact hown)); have hb1 : l1.length ≤ 880030 := (by rw [← hl, List.length_append]; have := Hd3.out.2; omega); have HE1 := Lib.hid hl; replace x0' := cell_up HU.out X0.out; replace x1' := cell_up HU.out X1.out; replace x2' := cell_up HU.out X2.out; replace x3' := cell_up HU.out X3.out; clear hl hown hgrow ho HO0 hb0))
        | (at_builtin; (obtain ⟨i0, hi0, hz0, hz1, hz2⟩ := info_parts infoByte; have ho := HO1.out; have hsz := Below.size HU.out; unfold RowB at ho; refine wpList_append_own _ rfl _ _ 60 rfl w.heap.size 5 i0 (.int .u8 0) 1 1 Tryd.underlying60 hi0 hz0 hz1 hz2 rfl (by decide) _ _ _ rfl (ho.alloc _) ⟨w1.heap.size, 0, none⟩ 1 1 [.int .u8 32] rfl rfl (cell_one_new _ _ _) (by simp [Value.oneCell']) (by unfold maxLen; omega) (by omega) (by simp; omega) ?_; clear hi0 hz0 hz1 hz2; intro v2 w2 hown hgrow _; have HU := Lib.hid (show Up w w2 from (HU.out.trans (Up.alloc w1 _)).grown hgrow (by simp; omega) (fun q hq => own_base ho hq)); obtain ⟨l2, hl⟩ : ∃ l', l1 ++ [(32 : UInt8)] = l' := ⟨_, rfl⟩; have HO2 := Lib.hid (show RowB w2 w.heap.size v2 l2 by (rw [← hl]; unfold RowB; rw [byteCells_app, List.length_append]; exact hown)); have hb2 : l2.length ≤ 880060 := (by rw [← hl, List.length_append]; simp; omega); have HE2 := Lib.hid hl; replace x0' := cell_up HU.out X0.out; replace x1' := cell_up HU.out X1.out; replace x2' := cell_up HU.out X2.out; replace x3' := cell_up HU.out X3.out; clear hl hown hgrow ho hsz HO1 hb1))
        | (go_at_call 44; ((with_reducible refine (Hd0.out.1 _).mono ?_); rintro e wd2 ⟨rfl, hu⟩; have HO2 := Lib.hid (rowB_up HO2.out hu); have HU := Lib.hid (HU.out.trans hu); replace x0' := cell_up HU.out X0.out; replace x1' := cell_up HU.out X1.out; replace x2' := cell_up HU.out X2.out; replace x3' := cell_up HU.out X3.out; clear hu))
        | (at_builtin; (obtain ⟨i0, hi0, hz0, hz1, hz2⟩ := info_parts infoByte; have ho := HO2.out; unfold RowB at ho; refine Lib.wpList_append_own_string _ rfl _ _ 60 9 rfl w.heap.size 5 i0 Tryd.underlying60 Tryd.underlying9 hi0 hz0 hz1 hz2 _ _ _ rfl ho ⟨(dig x0).toArray⟩ rfl (by show l2.length + (dig x0).toArray.size ≤ maxLen; rw [List.size_toArray]; unfold maxLen; have := Hd0.out.2; omega) (by show l2.length + (dig x0).toArray.size ≤ _; rw [List.size_toArray]; have := Hd0.out.2; omega) (Below.size HU.out) ?_; clear hi0 hz0 hz1 hz2; intro v3 w3 hown hgrow _; have HU := Lib.hid (show Up w w3 from HU.out.grown hgrow (Below.size HU.out) (fun q hq => own_base ho hq)); obtain ⟨l3, hl⟩ : ∃ l', l2 ++ dig x0 = l' := ⟨_, rfl⟩; have HO3 := Lib.hid (show RowB w3 w.heap.size v3 l3 by (rw [← hl]; unfold RowB; rw [byteCells_app, List.length_append]; exact hown)); have hb3 : l3.length ≤ 880090 := (by rw [← hl, List.length_append]; have := Hd0.out.2; omega); have HE3 := Lib.hid hl; replace x0' := cell_up HU.out X0.out; replace x1' := cell_up HU.out X1.out; replace x2' := cell_up HU.out X2.out; replace x3' := cell_up HU.out X3.out; clear hl hown hgrow ho HO2 hb2))
        | (at_builtin; (obtain ⟨i0, hi0, hz0, hz1, hz2⟩ := info_parts infoByte; have ho := HO3.out; have hsz := Below.size HU.out; unfold RowB at ho; refine wpList_append_own _ rfl _ _ 60 rfl w.heap.size 5 i0 (.int .u8 0) 1 1 Tryd.underlying60 hi0 hz0 hz1 hz2 rfl (by decide) _ _ _ rfl (ho.alloc _) ⟨w3.heap.size, 0, none⟩ 1 1 [.int .u8 32] rfl rfl (cell_one_new _ _ _) (by simp [Value.oneCell']) (by unfold maxLen; omega) (by omega) (by simp; omega) ?_; clear hi0 hz0 hz1 hz2; intro v4 w4 hown hgrow _; have HU := Lib.hid (show Up w w4 from (HU.out.trans (Up.alloc w3 _)).grown hgrow (by simp; omega) (fun q hq => own_base ho hq)); obtain ⟨l4, hl⟩ : ∃ l', l3 ++ [(32 : UInt8)] = l' := ⟨_, rfl⟩; have HO4 := Lib.hid (show RowB w4 w.heap.size v4 l4 by (rw [← hl]; unfold RowB; rw [byteCells_app, List.length_append]; exact hown)); have hb4 : l4.length ≤ 880120 := (by rw [← hl, List.length_append]; simp; omega); have HE4 := Lib.hid hl; replace x0' := cell_up HU.out X0.out; replace x1' := cell_up HU.out X1.out; replace x2' := cell_up HU.out X2.out; replace x3' := cell_up HU.out X3.out; clear hl hown hgrow ho hsz HO3 hb3))
        | (go_at_call 44; ((with_reducible refine (Hd1.out.1 _).mono ?_); rintro e wd4 ⟨rfl, hu⟩; have HO4 := Lib.hid (rowB_up HO4.out hu); have HU := Lib.hid (HU.out.trans hu); replace x0' := cell_up HU.out X0.out; replace x1' := cell_up HU.out X1.out; replace x2' := cell_up HU.out X2.out; replace x3' := cell_up HU.out X3.out; clear hu))
        | (at_builtin; (obtain ⟨i0, hi0, hz0, hz1, hz2⟩ := info_parts infoByte; have ho := HO4.out; unfold RowB at ho; refine Lib.wpList_append_own_string _ rfl _ _ 60 9 rfl w.heap.size 5 i0 Tryd.underlying60 Tryd.underlying9 hi0 hz0 hz1 hz2 _ _ _ rfl ho ⟨(dig f).toArray⟩ rfl (by show l4.length + (dig f).toArray.size ≤ maxLen; rw [List.size_toArray]; unfold maxLen; have := Hd1.out.2; omega) (by show l4.length + (dig f).toArray.size ≤ _; rw [List.size_toArray]; have := Hd1.out.2; omega) (Below.size HU.out) ?_; clear hi0 hz0 hz1 hz2; intro v5 w5 hown hgrow _; have HU := Lib.hid (show Up w w5 from HU.out.grown hgrow (Below.size HU.out) (fun q hq => own_base ho hq)); obtain ⟨l5, hl⟩ : ∃ l', l4 ++ dig f = l' := ⟨_, rfl⟩; have HO5 := Lib.hid (show RowB w5 w.heap.size v5 l5 by (rw [← hl]; unfold RowB; rw [byteCells_app, List.length_append]; exact hown)); have hb5 : l5.length ≤ 880150 := (by rw [← hl, List.length_append]; have := Hd1.out.2; omega); have HE5 := Lib.hid hl; replace x0' := cell_up HU.out X0.out; replace x1' := cell_up HU.out X1.out; replace x2' := cell_up HU.out X2.out; replace x3' := cell_up HU.out X3.out; clear hl hown hgrow ho HO4 hb4))
        | (at_builtin; (obtain ⟨i0, hi0, hz0, hz1, hz2⟩ := info_parts infoByte; have ho := HO5.out; have hsz := Below.size HU.out; unfold RowB at ho; refine wpList_append_own _ rfl _ _ 60 rfl w.heap.size 5 i0 (.int .u8 0) 1 1 Tryd.underlying60 hi0 hz0 hz1 hz2 rfl (by decide) _ _ _ rfl (ho.alloc _) ⟨w5.heap.size, 0, none⟩ 1 1 [.int .u8 32] rfl rfl (cell_one_new _ _ _) (by simp [Value.oneCell']) (by unfold maxLen; omega) (by omega) (by simp; omega) ?_; clear hi0 hz0 hz1 hz2; intro v6 w6 hown hgrow _; have HU := Lib.hid (show Up w w6 from (HU.out.trans (Up.alloc w5 _)).grown hgrow (by simp; omega) (fun q hq => own_base ho hq)); obtain ⟨l6, hl⟩ : ∃ l', l5 ++ [(32 : UInt8)] = l' := ⟨_, rfl⟩; have HO6 := Lib.hid (show RowB w6 w.heap.size v6 l6 by (rw [← hl]; unfold RowB; rw [byteCells_app, List.length_append]; exact hown)); have hb6 : l6.length ≤ 880180 := (by rw [← hl, List.length_append]; simp; omega); have HE6 := Lib.hid hl; replace x0' := cell_up HU.out X0.out; replace x1' := cell_up HU.out X1.out; replace x2' := cell_up HU.out X2.out; replace x3' := cell_up HU.out X3.out; clear hl hown hgrow ho hsz HO5 hb5))
        | (go_at_call 44; ((with_reducible refine (Hd2.out.1 _).mono ?_); rintro e wd6 ⟨rfl, hu⟩; have HO6 := Lib.hid (rowB_up HO6.out hu); have HU := Lib.hid (HU.out.trans hu); replace x0' := cell_up HU.out X0.out; replace x1' := cell_up HU.out X1.out; replace x2' := cell_up HU.out X2.out; replace x3' := cell_up HU.out X3.out; clear hu))
        | (at_builtin; (obtain ⟨i0, hi0, hz0, hz1, hz2⟩ := info_parts infoByte; have ho := HO6.out; unfold RowB at ho; refine Lib.wpList_append_own_string _ rfl _ _ 60 9 rfl w.heap.size 5 i0 Tryd.underlying60 Tryd.underlying9 hi0 hz0 hz1 hz2 _ _ _ rfl ho ⟨(dig t).toArray⟩ rfl (by show l6.length + (dig t).toArray.size ≤ maxLen; rw [List.size_toArray]; unfold maxLen; have := Hd2.out.2; omega) (by show l6.length + (dig t).toArray.size ≤ _; rw [List.size_toArray]; have := Hd2.out.2; omega) (Below.size HU.out) ?_; clear hi0 hz0 hz1 hz2; intro v7 w7 hown hgrow _; have HU := Lib.hid (show Up w w7 from HU.out.grown hgrow (Below.size HU.out) (fun q hq => own_base ho hq)); obtain ⟨l7, hl⟩ : ∃ l', l6 ++ dig t = l' := ⟨_, rfl⟩; have HO7 := Lib.hid (show RowB w7 w.heap.size v7 l7 by (rw [← hl]; unfold RowB; rw [byteCells_app, List.length_append]; exact hown)); have hb7 : l7.length ≤ 880210 := (by rw [← hl, List.length_append]; have := Hd2.out.2; omega); have HE7 := Lib.hid hl; replace x0' := cell_up HU.out X0.out; replace x1' := cell_up HU.out X1.out; replace x2' := cell_up HU.out X2.out; replace x3' := cell_up HU.out X3.out; clear hl hown hgrow ho HO6 hb6))
        | (at_builtin; (obtain ⟨i0, hi0, hz0, hz1, hz2⟩ := info_parts infoByte; have ho := HO7.out; have hsz := Below.size HU.out; unfold RowB at ho; refine wpList_append_own _ rfl _ _ 60 rfl w.heap.size 5 i0 (.int .u8 0) 1 1 Tryd.underlying60 hi0 hz0 hz1 hz2 rfl (by decide) _ _ _ rfl (ho.alloc _) ⟨w7.heap.size, 0, none⟩ 1 1 [.int .u8 10] rfl rfl (cell_one_new _ _ _) (by simp [Value.oneCell']) (by unfold maxLen; omega) (by omega) (by simp; omega) ?_; clear hi0 hz0 hz1 hz2; intro v8 w8 hown hgrow _; have HU := Lib.hid (show Up w w8 from (HU.out.trans (Up.alloc w7 _)).grown hgrow (by simp; omega) (fun q hq => own_base ho hq)); obtain ⟨l8, hl⟩ : ∃ l', l7 ++ [(10 : UInt8)] = l' := ⟨_, rfl⟩; have HO8 := Lib.hid (show RowB w8 w.heap.size v8 l8 by (rw [← hl]; unfold RowB; rw [byteCells_app, List.length_append]; exact hown)); have hb8 : l8.length ≤ 880240 := (by rw [← hl, List.length_append]; simp; omega); have HE8 := Lib.hid hl; replace x0' := cell_up HU.out X0.out; replace x1' := cell_up HU.out X1.out; replace x2' := cell_up HU.out X2.out; replace x3' := cell_up HU.out X3.out; clear hl hown hgrow ho hsz HO7 hb7)))
      have HO8 := Lib.hid (show RowB w8 w.heap.size v8 (prL (L.take (k + 1))) by
        have e : l8 = prL (L.take (k + 1)) := by
          rw [HNX.out, ← HE8.out, ← HE7.out, ← HE6.out, ← HE5.out, ← HE4.out, ← HE3.out, ← HE2.out, ← HE1.out]
          unfold prN
          simp only [List.append_assoc, List.cons_append, List.nil_append]
        rw [← e]
        exact HO8.out)
      go_roundg (n - (k + 1))
      case measure => rw [HG.out]; have := HLt.out; omega
      case rel => exact ⟨k + 1, rfl, by go_num, HLt.out, HO8, HU⟩
    · obtain rfl : k = n := by omega
      have f0 : decide (k < k) = false := decide_eq_false hlt
      have hO := HO.out
      rw [List.take_of_length_le (by rw [HLen.out]; exact Nat.le_refl _)] at hO
      have hne : 0 < (prL L).length := by
        have h1 := HNz.out
        cases L with
        | nil => exact absurd h1 (by have := HLen.out; simp at this; omega)
        | cons x t =>
          show 0 < (prN x ++ prL t).length
          unfold prN
          simp
          omega
      obtain ⟨l, hl⟩ : ∃ l, prL L = l := ⟨_, rfl⟩
      rw [hl] at hO hne HP
      rcases owns_cell hO with ⟨rfl, hz⟩ | ⟨g, cp, rfl, -, -, hcc⟩
      · exact absurd hz (by omega)
      have hcv := run_convert_bytes_back (P := Tryd.prog) wr 60 9 5 ⟨g, 0, none⟩ cp l Tryd.underlying60 Tryd.underlying5 Tryd.underlying9 (fun j hj => by
        have h1 := hcc j (.int .u8 (l[j].toNat : Int)) (by simp [Lib.byteCells, hj])
        rw [add_flat rfl]
        simpa using h1)
      rw [← HP.out] at hcv
      clear hlt hO hl hcc hne
      go_wp2
      go_ret
      exact ⟨rfl, HU.out⟩
end Go.Proofs.YtidnldchdahgeaaDoor
