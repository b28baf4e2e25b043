/- A node's parent, and whether two lists of numbers are the same: the document's Parent and Ints. -/
import Derived.Test.YtidnldchdahgeaaDoorTFit
namespace Go.Proofs.YtidnldchdahgeaaDoor
open Go.RowKit

set_option maxRecDepth 100000 in
set_option maxHeartbeats 1000000 in
theorem refParent_any (w : World) (A : Option Addr) (n c : Nat) (L : List Nd) (hL : Nds w A n L) (hn : n ≤ 10000) (i : Nat) (hi : i < n) (hd : 0 ≤ dep L i ∧ dep L i ≤ 10000) :
    Calls Tryd.prog 23 #[.slice A n c, .int .i64 (i : Nat)] w fun e w' => e = .returned (.int .i64 (par L i)) ∧ Up w w' := by
  have HL := Lib.hid hL
  obtain ⟨R, hR⟩ : ∃ R, par L i = R := ⟨_, rfl⟩
  rw [hR]
  obtain ⟨D, hD⟩ : ∃ D, dep L i = D := ⟨_, rfl⟩
  have HR := Lib.hid (show parN L (D - 1) i = R by rw [← hR, ← hD]; rfl)
  have HD := Lib.hid hD
  rw [hD] at hd
  have q1 : IntKind.i64.wrap ((i : Int) - 1) = (i : Int) - 1 := IntWalk.i64_in _ (by omega)
  have q2 : IntKind.i64.wrap (D - 1) = D - 1 := IntWalk.i64_in _ (by omega)
  clear hR hD hL
  go_enter Tryd.func23, Tryd.ntmps23
  go_wp2
  go_loopg [5] i (fun g kv wr => ∃ k : Nat, g = k ∧ kv = .int .i64 ((k : Int) - 1) ∧ k ≤ i ∧ Hid (parN L (D - 1) k = R) ∧ Hid (Up w wr))
  case atStart => exact ⟨i, rfl, rfl, Nat.le_refl _, HR, Lib.hid (Up.refl _)⟩
  case round =>
    obtain ⟨k, hg, rfl, hk, HK, HU⟩ := hrel
    have HG := Lib.hid hg
    clear hg
    cases k with
    | zero =>
      have HZ := Lib.hid (show (-1 : Int) = R from HK.out)
      go_wp2
      go_ret
      exact ⟨ret_int HZ.out, HU.out⟩
    | succ m =>
      obtain ⟨b, o, hA, -, -, -, -, y3⟩ := nds_nd (HL.out.up HU.out) m (by omega)
      obtain ⟨b2, o2, hA2, -, -, -, -, x3⟩ := nds_nd (HL.out.up HU.out) i hi
      subst hA
      obtain ⟨rfl, rfl⟩ : b2 = b ∧ o2 = o := by injection hA2 with e; injection e with e1 e2; exact ⟨e1.symm, e2.symm⟩
      rw [show (nd L i).2.2.2 = D from HD.out] at x3
      obtain ⟨y, hy⟩ : ∃ y, dep L m = y := ⟨_, rfl⟩
      rw [show (nd L m).2.2.2 = y from hy] at y3
      have HKm := Lib.hid (show (if y = D - 1 then (m : Int) else parN L (D - 1) m) = R by rw [← HK.out, ← hy]; rfl)
      have e1 : (((m + 1 : Nat) : Int)) - 1 = m := by omega
      have m1 : (m : Int) < n := by omega
      have i1 : (i : Int) < n := by omega
      have q3 : IntKind.i64.wrap ((m : Int) - 1) = (m : Int) - 1 := IntWalk.i64_in _ (by omega)
      rw [e1]
      clear hy e1
      by_cases hyd : y = D - 1
      · subst hyd
        have HZ := Lib.hid (show (m : Int) = R by rw [← HKm.out, if_pos rfl])
        go_wp2
        go_quiet (fail)
        go_wp2
        go_ret
        exact ⟨ret_int HZ.out, HU.out.trans (Up.drewN _ _)⟩
      · have f0 : (y == D - 1) = false := beq_false_of_ne hyd
        have HZ := Lib.hid (show parN L (D - 1) m = R by rw [← HKm.out, if_neg hyd])
        clear hyd
        go_wp2
        go_quiet (fail)
        go_wp2
        go_roundg m
        case measure => rw [HG.out]; omega
        case rel => exact ⟨m, rfl, by go_num, by omega, HZ, Lib.hid (HU.out.trans (Up.drewN _ _))⟩
set_option maxRecDepth 100000 in
set_option maxHeartbeats 1000000 in
theorem refInts_any (w : World) (B B' : Nat) (v v' : Value) (o o' : List Int) (h : RowI w B v o) (h' : RowI w B' v' o') (hn : o.length ≤ 100000) :
    Calls Tryd.prog 21 #[v, v'] w fun e w' => e = .returned (.bool (decide (o = o'))) ∧ Up w w' := by
  obtain ⟨A, c, rfl, hA⟩ := h.form
  obtain ⟨A', c', rfl, hA'⟩ := h'.form
  have H := Lib.hid hA
  have H' := Lib.hid hA'
  clear h h' hA hA'
  by_cases hl : o.length = o'.length
  · obtain ⟨m, hm⟩ : ∃ m, o.length = m := ⟨_, rfl⟩
    have hm' : o'.length = m := by omega
    rw [hm, hm']
    rw [hm] at hn
    have HM := Lib.hid hm
    have HM' := Lib.hid hm'
    clear hl hm hm'
    go_enter Tryd.func21, Tryd.ntmps21
    go_wp2
    go_loopg [5] m (fun g iv wr => ∃ i : Nat, g = m - i ∧ iv = .int .i64 (i : Nat) ∧ i ≤ m ∧ Hid (o.take i = o'.take i) ∧ Hid (Up w wr))
    case atStart => exact ⟨0, rfl, rfl, Nat.zero_le _, Lib.hid rfl, Lib.hid (Up.refl _)⟩
    case round =>
      obtain ⟨i, hg, rfl, hi, HT, HU⟩ := hrel
      have HG := Lib.hid hg
      clear hg
      by_cases hlt : i < m
      · obtain ⟨g, hA, -, c0⟩ := H.out i (by have := HM.out; omega)
        obtain ⟨g', hA', -, c0'⟩ := H'.out i (by have := HM'.out; omega)
        subst hA hA'
        have c0 := cell_up HU.out c0
        have c0' := cell_up HU.out c0'
        have hi1 : i < o.length := by have := HM.out; omega
        have hi2 : i < o'.length := by have := HM'.out; omega
        obtain ⟨x, hx⟩ : ∃ x, o[i] = x := ⟨_, rfl⟩
        obtain ⟨y, hy⟩ : ∃ y, o'[i] = y := ⟨_, rfl⟩
        rw [hx] at c0
        rw [hy] at c0'
        have hii : (i : Int) < m := by omega
        by_cases hxy : x = y
        · subst hxy
          have HT1 := Lib.hid (show o.take (i + 1) = o'.take (i + 1) by rw [List.take_succ_eq_append_getElem hi1, List.take_succ_eq_append_getElem hi2, HT.out, hx, hy])
          clear hx hy
          go_wp2
          go_quiet (fail)
          go_wp2
          go_roundg (m - (i + 1))
          case measure => rw [HG.out]; omega
          case rel => exact ⟨i + 1, rfl, by go_num, by omega, HT1, Lib.hid (HU.out.trans (Up.drewN _ _))⟩
        · have f0 : (x == y) = false := beq_false_of_ne hxy
          have HNo := Lib.hid (show decide (o = o') = false from decide_eq_false (fun e => hxy (by rw [← hx, ← hy]; subst e; rfl)))
          clear hx hy
          go_wp2
          go_quiet (fail)
          go_wp2
          go_ret
          exact ⟨ret_bool HNo.out.symm, HU.out.trans (Up.drewN _ _)⟩
      · obtain rfl : i = m := by omega
        have f0 : decide (i < i) = false := decide_eq_false hlt
        have HY := Lib.hid (show decide (o = o') = true from decide_eq_true (by
          have h1 := HT.out
          rw [List.take_of_length_le (by have := HM.out; omega), List.take_of_length_le (by have := HM'.out; omega)] at h1
          exact h1))
        clear hlt
        go_wp2
        go_ret
        exact ⟨ret_bool HY.out.symm, HU.out⟩
  · have f0 : ((o.length : Int) == (o'.length : Int)) = false := beq_false_of_ne (by omega)
    have HNo := Lib.hid (show decide (o = o') = false from decide_eq_false (fun e => hl (congrArg List.length e)))
    clear H H'
    go_enter Tryd.func21, Tryd.ntmps21
    go_wp2
    go_ret
    exact ⟨ret_bool HNo.out.symm, Up.refl _⟩
end Go.Proofs.YtidnldchdahgeaaDoor
