/- A node's parent and path: the program's Up and Path. -/
import Derived.Test.YtidnldchdahgeaaDoorTChk2
import Derived.Test.YtidnldchdahgeaaDoorTDown
import Derived.Test.YtidnldchdahgeaaDoorTFam
import Derived.Test.YtidnldchdahgeaaDoorShelf
import Derived.Lib.OwnBridge
namespace Go.Proofs.YtidnldchdahgeaaDoor
open Go.RowKit

noncomputable def upE (L : List Nd) (i : Int) : Int := if wrongT L i = 0 then (if i = 0 then 4 else 0) else wrongT L i
noncomputable def upA (L : List Nd) (i : Int) : Int := if wrongT L i = 0 ∧ i ≠ 0 then par L i.toNat else 0
theorem keepU {w W W' : World} {b o : Nat} {v : Value} (hu : Up W W') (h : Up w W ∧ W.cell? ⟨b, o, none⟩ = some v) : Up w W' ∧ W'.cell? ⟨b, o, none⟩ = some v := ⟨h.1.trans hu, cell_up hu h.2⟩
set_option maxRecDepth 100000 in
set_option maxHeartbeats 4000000 in
theorem up_any (w : World) (A : Option Addr) (n c : Nat) (L : List Nd) (hL : NArg w A n L) (hc : n ≤ c) (hn : n ≤ 10000) (i : Int) :
    Calls Tryd.prog 16 #[.slice A n c, .int .i64 i] w fun e w' => e = .returned (.tuple #[.int .i64 (upA L i), .int .i64 (upE L i)]) ∧ Up w w' := by
  have HC := Lib.hid (checkNode_any w A n c L hL hc hn i)
  by_cases hz : wrongT L i = 0
  · obtain ⟨hF, h0, h1⟩ := wrong_zero hz
    rw [hz] at HC
    have hl := hL.nds.len
    have hG : Good L n := hl ▸ hF.good
    by_cases hi0 : i = 0
    · have HA := Lib.hid (show upA L i = 0 by unfold upA; rw [if_neg (fun h => h.2 hi0)])
      have HE := Lib.hid (show upE L i = 4 by unfold upE; rw [if_pos hz, if_pos hi0])
      clear hL hG hF h0 h1 hl hz
      subst hi0
      go_enter Tryd.func16, Tryd.ntmps16
      go_wp2_with (go_at_call 37; ((with_reducible refine HC.out.mono ?_); rintro e w1 ⟨rfl, hu⟩; have HU := Lib.hid hu; clear hu))
      go_ret2
      exact ⟨ret_ii HA.out.symm HE.out.symm, HU.out⟩
    · obtain ⟨k, rfl⟩ : ∃ k : Nat, i = ((k + 1 : Nat) : Int) := ⟨i.toNat - 1, by omega⟩
      have hkn : k + 1 < n := by omega
      obtain ⟨x, p1, p2, p3, p4, p5, -⟩ := par_st hG hkn
      have HA := Lib.hid (show upA L ((k + 1 : Nat) : Int) = (x : Nat) by unfold upA; rw [if_pos ⟨hz, hi0⟩, Int.toNat_natCast, p2])
      have HE := Lib.hid (show upE L ((k + 1 : Nat) : Int) = 0 by unfold upE; rw [if_pos hz, if_neg hi0])
      have HD := Lib.hid (fun W (hu : Up w W) => down_any W A n c L (hL.nds.up hu) hc hn hG (k + 1) hkn)
      obtain ⟨b, o, rfl, -, -, -, -, y3⟩ := nds_nd hL.nds (k + 1) hkn
      obtain ⟨D, hD⟩ : ∃ D : Nat, dep L (k + 1) = (D : Int) + 1 := ⟨(dep L (k + 1)).toNat - 1, by have := (hG.2 k hkn).1; omega⟩
      have hD' : (nd L (k + 1)).2.2.2 = (D : Int) + 1 := hD
      rw [hD'] at y3
      have hlen := hG.len hkn
      rw [hD] at hlen
      have hDl : D + 1 < (st L (k + 1)).length := by omega
      have hix : (idx L (k + 1))[D]? = some ((x : Nat) : Int) := by
        unfold idx
        rw [List.getElem?_map, st_succ, hD, List.getElem?_append, List.length_take, show ((D : Int) + 1).toNat = D + 1 from by omega]
        have h2 := hG.len (show k < n by omega)
        have h3 := (hG.2 k hkn).2.1
        rw [hD] at h3
        rw [if_pos (by omega), List.getElem?_take, if_pos (by omega)]
        rw [hD, show ((D : Int) + 1).toNat - 1 = D from by omega] at p1
        rw [p1]
        rfl
      have hD9 : D ≤ 10000 := by have := st_lenle L (k + 1); omega
      obtain ⟨S, hS⟩ : ∃ S, (st L (k + 1)).length = S := ⟨_, rfl⟩
      rw [hS] at HD hDl
      have HX := Lib.hid hix
      have q1 : IntKind.i64.wrap ((D : Int) + 1 - 1) = (D : Nat) := (IntWalk.i64_in _ (by omega)).trans (by omega)
      have q2 : (0 : Int) ≤ (D : Nat) := by omega
      have q8 : IntKind.i64.wrap (D : Int) = D := IntWalk.i64_in _ (by omega)
      have q9 : ((D : Nat) : Int).toNat = D := Int.toNat_natCast D
      have q3 : ((D : Nat) : Int) < (S : Nat) := by omega
      have q4 : (0 : Int) ≤ ((k + 1 : Nat) : Int) := by omega
      have q5 : ((k + 1 : Nat) : Int) < (n : Int) := by omega
      have q6 : (((k + 1 : Nat) : Int) == 0) = false := beq_false_of_ne (by omega)
      obtain ⟨m, hm⟩ : ∃ m, k + 1 = m := ⟨_, rfl⟩
      rw [hm] at HA HE HD HX y3 q4 q5 q6 HC
      rw [hm]
      have q7 : ((m : Nat) : Int).toNat = m := Int.toNat_natCast m
      clear hL hG hF h0 h1 hl hz p1 p2 p3 p4 p5 hD hD' hlen hix hi0 hS hm hkn hDl
      go_enter Tryd.func16, Tryd.ntmps16
      go_wp2_with (go_at_call 37; ((with_reducible refine HC.out.mono ?_); rintro e w1 ⟨rfl, hu⟩; have HU := Lib.hid hu; clear hu; replace y3 := cell_up HU.out y3))
      have HU1 := Lib.hid (HU.out.trans (Up.drew w1))
      go_region_law (go_simp; go_at_call 38; ((with_reducible refine (HD.out _ HU1.out).mono ?_); rintro e w2 ⟨g, cp, rfl, hrow, hu2⟩; have hcx := rowI_cell hrow HX.out; have HU2 := Lib.hid (Up.trans HU1.out hu2); have y3 := cell_up hu2 (cell_up (Up.drew w1) y3); clear hrow hu2))
      all_goals
        go_wp2
        go_ret2
        exact ⟨ret_ii HA.out.symm HE.out.symm, HU2.out⟩
  · obtain ⟨z, hz'⟩ : ∃ z, wrongT L i = z := ⟨_, rfl⟩
    have HA := Lib.hid (show upA L i = 0 by unfold upA; rw [if_neg (fun h => hz h.1)])
    have HE := Lib.hid (show upE L i = z by unfold upE; rw [if_neg hz, hz'])
    rw [hz'] at HC hz
    have f0 : (z == 0) = false := beq_false_of_ne hz
    clear hL hz hz'
    go_enter Tryd.func16, Tryd.ntmps16
    go_wp2_with (go_at_call 37; ((with_reducible refine HC.out.mono ?_); rintro e w1 ⟨rfl, hu⟩; have HU := Lib.hid hu; clear hu))
    go_ret2
    exact ⟨ret_ii HA.out.symm HE.out.symm, HU.out⟩
/-- A call that gives a list, or an error and no list. -/
def GivesI (w : World) (z : Int) (O : List Int) (e : Ending) (w' : World) : Prop := ∃ v, e = .returned (.tuple #[v, .int .i64 z]) ∧ RowI w' w.heap.size v (if z = 0 then O else []) ∧ Up w w'
theorem gives_no {w w' : World} {z : Int} {O : List Int} (h : z ≠ 0) (hu : Up w w') : GivesI w z O (.returned (.tuple #[.slice none 0 0, .int .i64 z])) w' := ⟨_, rfl, by rw [if_neg h]; exact World.ownsRow_nil _ _ _ _, hu⟩
set_option maxRecDepth 100000 in
set_option maxHeartbeats 4000000 in
theorem path_any (w : World) (A : Option Addr) (n c : Nat) (L : List Nd) (hL : NArg w A n L) (hc : n ≤ c) (hn : n ≤ 10000) (i : Int) :
    Calls Tryd.prog 18 #[.slice A n c, .int .i64 i] w (GivesI w (wrongT L i) (toI (pathL L i.toNat))) := by
  have HC := Lib.hid (checkNode_any w A n c L hL hc hn i)
  by_cases hz : wrongT L i = 0
  · obtain ⟨hF, h0, h1⟩ := wrong_zero hz
    rw [hz] at HC ⊢
    have hl := hL.nds.len
    have hG : Good L n := hl ▸ hF.good
    obtain ⟨k, rfl⟩ : ∃ k : Nat, i = (k : Nat) := ⟨i.toNat, by omega⟩
    have hkn : k < n := by omega
    rw [Int.toNat_natCast]
    have HD := Lib.hid (fun W (hu : Up w W) => down_any W A n c L (hL.nds.up hu) hc hn hG k hkn)
    have HP := Lib.hid (show toI (pathL L k) = (idx L k).reverse by rw [path_st hG n hkn hkn]; unfold toI idx; rw [List.map_reverse])
    have HLn := Lib.hid (idx_len L k)
    have HS9 := Lib.hid (show (st L k).length ≤ 10001 by have := st_lenle L k; omega)
    obtain ⟨S, hS⟩ : ∃ S, (st L k).length = S := ⟨_, rfl⟩
    rw [hS] at HD HLn HS9
    have HRv := Lib.hid (fun g cp W (h : RowI W w.heap.size (.slice (some ⟨g, 0, none⟩) S cp) (idx L k)) => show Calls Tryd.prog 40 #[.slice (some ⟨g, 0, none⟩) S cp] W fun e w' => e = .returned (.tuple #[]) ∧ RowI w' w.heap.size (.slice (some ⟨g, 0, none⟩) S cp) (idx L k).reverse ∧ (∀ w0, Up w0 W → w0.heap.size = w.heap.size → Up w0 w') from by
      have hown : W.ownsRow w.heap.size 3 1 (.slice (some ⟨g, 0, none⟩) S cp) S ((idx L k).map (Value.int .i64)) := by
        unfold RowI at h
        rw [HLn.out] at h
        exact h
      obtain ⟨g1, c1, e1, hb, -, -, -, hlen, hH⟩ := Lib.holds_of_ownsRow hown (by simp)
      injection e1 with e1 _ e3
      injection e1 with e1
      injection e1 with e1
      subst e1 e3
      have hrev := Tryd.slices_Reverse_int g 0 cp (idx L k) W hH (by have := HS9.out; omega)
      rw [hlen] at hrev
      refine hrev.mono ?_
      rintro e w2 ⟨rfl, q, rfl⟩
      refine ⟨rfl, ?_, fun w0 h0 hs => ?_⟩
      · have h1 := Lib.ownsRow_putRow (q := q) (ys := (idx L k).reverse) hown (by simpa using hlen) (Nat.le_refl S)
        rw [List.take_of_length_le (by simp; omega)] at h1
        unfold RowI
        rw [List.length_reverse, hlen]
        exact h1
      · exact Lib.below_putRow h0 (by rw [hs]; exact hb))
    clear hL hG hF h0 h1 hl hz hS
    go_enter Tryd.func18, Tryd.ntmps18
    go_wp2_with (first
      | (go_at_call 37; ((with_reducible refine HC.out.mono ?_); rintro e w1 ⟨rfl, hu⟩; have HU := Lib.hid hu; clear hu))
      | (go_at_call 38; ((with_reducible refine (HD.out _ HU.out).mono ?_); rintro e w2 ⟨g, cp, rfl, hrow, hu2⟩; have HU2 := Lib.hid (HU.out.trans hu2); have HR2 := Lib.hid (show RowI w2 w.heap.size _ _ from ⟨hrow.1, hrow.2.imp id (fun ⟨g', cap, cur, h1, h2, h3⟩ => ⟨g', cap, cur, h1, Nat.le_trans (Below.size HU.out) h2, h3⟩)⟩); clear hrow hu2))
      | (go_at_call 40; ((with_reducible refine (HRv.out _ _ _ HR2.out).mono ?_); rintro e w3 ⟨rfl, hr3, hu3⟩; have HR3 := Lib.hid hr3; have HU3 := Lib.hid (hu3 w HU2.out rfl); clear hr3 hu3)))
    go_ret2
    exact ⟨_, rfl, by rw [if_pos rfl, HP.out]; exact HR3.out, HU3.out⟩
  · obtain ⟨z, hz'⟩ : ∃ z, wrongT L i = z := ⟨_, rfl⟩
    rw [hz'] at HC hz ⊢
    have f0 : (z == 0) = false := beq_false_of_ne hz
    have HZ := Lib.hid hz
    clear hL hz hz'
    go_enter Tryd.func18, Tryd.ntmps18
    go_wp2_with (go_at_call 37; ((with_reducible refine HC.out.mono ?_); rintro e w1 ⟨rfl, hu⟩; have HU := Lib.hid hu; clear hu))
    go_ret2
    exact gives_no HZ.out HU.out
end Go.Proofs.YtidnldchdahgeaaDoor
