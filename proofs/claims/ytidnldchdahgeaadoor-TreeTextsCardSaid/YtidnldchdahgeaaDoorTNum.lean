/- A number at a place of a text: the program's reader. -/
import Derived.Test.YtidnldchdahgeaaDoorTRead
import Derived.Test.YtidnldchdahgeaaDoorTEat
namespace Go.Proofs.YtidnldchdahgeaaDoor
open Go.RowKit

/-- The reader: its text, its place, and whether it came to something that has not the form. -/
def RdS (W : World) (Br : Nat) (s : ByteArray) (p : Nat) (br : Bool) : Prop := W.heap[Br]? = some (.cells #[.string s, .int .i64 (p : Nat), .bool br] 66 (0, 0))
theorem RdS.text {W : World} {Br p : Nat} {s : ByteArray} {br : Bool} (h : RdS W Br s p br) : W.cell? ⟨Br, 0, none⟩ = some (.string s) := cellOf h rfl
theorem RdS.at_ {W : World} {Br p : Nat} {s : ByteArray} {br : Bool} (h : RdS W Br s p br) : W.cell? ⟨Br, 1, none⟩ = some (.int .i64 (p : Nat)) := cellOf h rfl
theorem RdS.br {W : World} {Br p : Nat} {s : ByteArray} {br : Bool} (h : RdS W Br s p br) : W.cell? ⟨Br, 2, none⟩ = some (.bool br) := cellOf h rfl
theorem RdS.fz {W : World} {Br p : Nat} {s : ByteArray} {br : Bool} (h : RdS W Br s p br) (j : Nat) : W.frozen? ⟨Br, j, none⟩ = false := frozenOf h
theorem RdS.up {W W' : World} {Br p : Nat} {s : ByteArray} {br : Bool} (h : RdS W Br s p br) (hu : Up W W') : RdS W' Br s p br := (Below.block hu Br (Array.getElem?_eq_some_iff.1 h).1).trans h
theorem RdS.seta {W : World} {Br p : Nat} {s : ByteArray} {br : Bool} (h : RdS W Br s p br) (q : Nat) : RdS (W.setCell ⟨Br, 1, none⟩ (.int .i64 (q : Nat))) Br s q br := by
  unfold RdS at h ⊢
  simp [World.setCell, Array.getElem?_modify, h]
theorem RdS.setb {W : World} {Br p : Nat} {s : ByteArray} {br : Bool} (h : RdS W Br s p br) : RdS (W.setCell ⟨Br, 2, none⟩ (.bool true)) Br s p true := by
  unfold RdS at h ⊢
  simp [World.setCell, Array.getElem?_modify, h]
theorem drewN_grown (w : World) (k b : Nat) : w.grownBy (w.drewN k) (some b) := ⟨rfl, rfl, rfl, Nat.le_refl _, fun _ _ _ => rfl⟩
theorem empty_of {m : ByteArray} (h : m.size = 0) : m.toList.isEmpty = true := by
  rw [ByteArray.toList_eq, List.isEmpty_iff]
  exact List.eq_nil_of_length_eq_zero h
theorem nempty_of {m : ByteArray} (h : 0 < m.size) : m.toList.isEmpty = false := by
  rw [ByteArray.toList_eq]
  cases hd : m.data.toList with
  | nil =>
    have h2 : m.data.toList.length = m.size := rfl
    rw [hd] at h2
    simp at h2
    omega
  | cons x t => rfl
set_option maxRecDepth 100000 in
set_option maxHeartbeats 16000000 in
theorem number_any (s : ByteArray) (hs : s.size ≤ 140737488355328) (p0 : Nat) (hp0 : p0 ≤ s.size) (ec : UInt8) (lim : Nat) (hlim : lim ≤ 1099511627776) (Br : Nat) (w : World) (hrd : RdS w Br s p0 false) :
    Calls Tryd.prog 53 #[.pointer (some ⟨Br, 0, none⟩), .int .i64 (lim : Nat), .int .u8 (ec.toNat : Nat)] w fun e w' => ∃ (z : Int) (p : Nat) (br : Bool), e = .returned (.int .i64 z) ∧ RdS w' Br s p br ∧ w.grownBy w' (some Br) ∧
      ((br = true ∧ numT lim ec (rest s p0) = none) ∨ (br = false ∧ ∃ v : Nat, z = v ∧ numT lim ec (rest s p0) = some (v, rest s p) ∧ p0 < p ∧ p ≤ s.size)) := by
  obtain ⟨E, hE⟩ : ∃ E, ec.toNat = E := ⟨_, rfl⟩
  rw [hE]
  have HE := Lib.hid hE
  have HLim := Lib.hid hlim
  have HSz := Lib.hid hs
  have HRd := Lib.hid hrd
  have HGr := Lib.hid (grown_refl w Br)
  have ct := hrd.text
  have ca := hrd.at_
  clear hE hs hrd hlim
  go_enter Tryd.func53, Tryd.ntmps53
  go_wp2
  go_quiet (fail)
  have hrd := HRd.out.up (Up.drewN w nq)
  have hgr := grown_trans HGr.out (drewN_grown w nq Br)
  obtain ⟨w0, hw0⟩ : ∃ x, w.drewN nq = x := ⟨_, rfl⟩
  rw [hw0] at hrd hgr
  simp only [hw0]
  clear hw0
  have HRd := Lib.hid hrd
  have HGr := Lib.hid hgr
  have ct := hrd.text
  have ca := hrd.at_
  have fb := hrd.fz 2
  have cbk := hrd.br
  have fa := hrd.fz 1
  clear hrd hgr
  go_wp2
  clear ct ca fa fb cbk
  go_loopg [7] (s.size - p0) (fun g nv wr => ∃ (v p : Nat), g = s.size - p ∧ nv = .int .i64 (v : Nat) ∧ p0 ≤ p ∧ p ≤ s.size ∧ Hid (rdN 0 (rest s p0) = rdN v (rest s p)) ∧ Hid (v ≤ lim) ∧ Hid (RdS wr Br s p false) ∧ Hid (w.grownBy wr (some Br)))
  case atStart => exact ⟨0, p0, rfl, rfl, Nat.le_refl _, hp0, Lib.hid rfl, Lib.hid (Nat.zero_le _), HRd, HGr⟩
  case round =>
    obtain ⟨v, p, hg, rfl, hap, hps, HR, HV, HRd, HGr⟩ := hrel
    have HG := Lib.hid hg
    have ct := HRd.out.text
    have ca := HRd.out.at_
    clear hg
    by_cases hlt : p < s.size
    · obtain ⟨x, hx⟩ : ∃ x, s[p].toNat = x := ⟨_, rfl⟩
      have hbx : bt s p = x := by rw [← bt_eq hlt]; exact hx
      have hx2 : x < 256 := by rw [← hbx]; exact bt_lt s p
      have hE := HE.out
      have hplt : (p : Int) < s.size := by omega
      by_cases h48 : 48 ≤ x
      case neg =>
        have f1 : decide (48 ≤ x) = false := decide_eq_false h48
        have f1b : decide ((48 : Int) ≤ (x : Int)) = false := decide_eq_false (by omega)
        have hex := num_exit (e := ec) (lim := lim) (HR.out.trans (rd_stop hlt (by rw [hx]; omega))) hap hps HV.out
        go_wp2
        go_quiet (fail)
        have hrd := HRd.out.up (Up.drewN wr nq)
        have hgr := grown_trans HGr.out (drewN_grown wr nq Br)
        obtain ⟨wq, hwq⟩ : ∃ x, wr.drewN nq = x := ⟨_, rfl⟩
        rw [hwq] at hrd hgr
        simp only [hwq]
        clear hwq
        have HRd := Lib.hid hrd
        have HGr := Lib.hid hgr
        have ct := hrd.text
        have ca := hrd.at_
        have fb := hrd.fz 2
        have cbk := hrd.br
        have fa := hrd.fz 1
        clear hrd hgr
        have hpb : (p : Int) ≤ 140737488355328 := by have := HSz.out; omega
        have m0 : (0 : Int) ≤ (p0 : Int) := by omega
        have m1 : (p0 : Int) ≤ (p : Int) := by omega
        have m2 : (p : Int) ≤ (s.size : Int) := by omega
        have m3 : ((p0 : Nat) : Int).toNat = p0 := Int.toNat_natCast p0
        have m4 : ((p : Nat) : Int).toNat = p := Int.toNat_natCast p
        obtain ⟨m, hm⟩ : ∃ m, s.extract p0 p = m := ⟨_, rfl⟩
        obtain ⟨M, hM⟩ : ∃ M, m.size = M := ⟨_, rfl⟩
        have hms : M + p0 = p := by rw [← hM, ← hm, ByteArray.size_extract]; omega
        go_wp2
        go_quiet (fail)
        have hrd := HRd.out.up (Up.drewN wq nq)
        have hgr := grown_trans HGr.out (drewN_grown wq nq Br)
        obtain ⟨wu, hwu⟩ : ∃ x, wq.drewN nq = x := ⟨_, rfl⟩
        rw [hwu] at hrd hgr
        simp only [hwu]
        clear hwu
        have HRd := Lib.hid hrd
        have HGr := Lib.hid hgr
        have ct := hrd.text
        have ca := hrd.at_
        have fb := hrd.fz 2
        have cbk := hrd.br
        have fa := hrd.fz 1
        clear hrd hgr
        by_cases hpa : p = p0
        · have HN := Lib.hid (show numT lim ec (rest s p0) = none by rw [hex, if_neg (by omega)])
          have d0 : m.toList.isEmpty = true := empty_of (by rw [hM]; omega)
          clear hex hm
          go_wp2
          go_quiet (fail)
          have hrd := HRd.out.up (Up.drewN wu nq)
          have hgr := grown_trans HGr.out (drewN_grown wu nq Br)
          obtain ⟨wv, hwv⟩ : ∃ x, wu.drewN nq = x := ⟨_, rfl⟩
          rw [hwv] at hrd hgr
          simp only [hwv]
          clear hwv
          have HRd := Lib.hid hrd
          have HGr := Lib.hid hgr
          have ct := hrd.text
          have ca := hrd.at_
          have fb := hrd.fz 2
          have cbk := hrd.br
          have fa := hrd.fz 1
          clear hrd hgr
          go_wp2
          go_ret
          exact ⟨_, _, true, rfl, HRd.out.setb, grown_trans HGr.out (setCell_grown _ Br 2 _), .inl ⟨rfl, HN.out⟩⟩
        have d0 : m.toList.isEmpty = false := nempty_of (by rw [hM]; omega)
        have g2 : ((p : Int) == (s.size : Int)) = false := beq_false_of_ne (by omega)
        have hla : p0 < s.size := by omega
        have hm0 : 0 < m.size := by rw [hM]; omega
        have hM0 : (0 : Int) < (M : Int) := by omega
        have hM1 : 0 < M := by omega
        obtain ⟨y, hy⟩ : ∃ y, (m[0]'hm0).toNat = y := ⟨_, rfl⟩
        have hby : bt s p0 = y := by
          rw [← hy, bt_eq hm0, ← hm, bt_ext_in (by omega) hps, Nat.add_zero]
        by_cases hp1 : p0 + 1 < p
        · have d1 : decide (1 < M) = true := decide_eq_true (by omega)
          have d1b : (1 : Int) < (M : Int) := by omega
          by_cases hy48 : y = 48
          · have HN := Lib.hid (show numT lim ec (rest s p0) = none by rw [hex, if_neg (by rw [hby, hy48]; omega)])
            subst hy48
            clear hex hby hm
            go_wp2
            go_quiet (fail)
            have hrd := HRd.out.up (Up.drewN wu nq)
            have hgr := grown_trans HGr.out (drewN_grown wu nq Br)
            obtain ⟨wv, hwv⟩ : ∃ x, wu.drewN nq = x := ⟨_, rfl⟩
            rw [hwv] at hrd hgr
            simp only [hwv]
            clear hwv
            have HRd := Lib.hid hrd
            have HGr := Lib.hid hgr
            have ct := hrd.text
            have ca := hrd.at_
            have fb := hrd.fz 2
            have cbk := hrd.br
            have fa := hrd.fz 1
            clear hrd hgr
            go_wp2
            go_ret
            exact ⟨_, _, true, rfl, HRd.out.setb, grown_trans HGr.out (setCell_grown _ Br 2 _), .inl ⟨rfl, HN.out⟩⟩
          have g5 : ((y : Int) == 48) = false := beq_false_of_ne (by omega)
          have g5b : decide (y = 48) = false := decide_eq_false hy48
          by_cases hxe : x = E
          case neg =>
            have HN := Lib.hid (show numT lim ec (rest s p0) = none by rw [hex, if_neg (by rw [hbx, hE]; omega)])
            have g3 : ((x : Int) == (E : Int)) = false := beq_false_of_ne (by omega)
            have g3b : decide (x = E) = false := decide_eq_false hxe
            have g3c : ((x : Int) != (E : Int)) = true := bne_iff_ne.2 (by omega)
            have g3d : ¬ ((x : Int) = (E : Int)) := by omega
            clear hex hm hby hbx
            go_wp2
            go_quiet (fail)
            have hrd := HRd.out.up (Up.drewN wu nq)
            have hgr := grown_trans HGr.out (drewN_grown wu nq Br)
            obtain ⟨wv, hwv⟩ : ∃ x, wu.drewN nq = x := ⟨_, rfl⟩
            rw [hwv] at hrd hgr
            simp only [hwv]
            clear hwv
            have HRd := Lib.hid hrd
            have HGr := Lib.hid hgr
            have ct := hrd.text
            have ca := hrd.at_
            have fb := hrd.fz 2
            have cbk := hrd.br
            have fa := hrd.fz 1
            clear hrd hgr
            go_wp2
            go_ret
            exact ⟨_, _, true, rfl, HRd.out.setb, grown_trans HGr.out (setCell_grown _ Br 2 _), .inl ⟨rfl, HN.out⟩⟩
          have HS := Lib.hid (show numT lim ec (rest s p0) = some (v, rest s (p + 1)) by rw [hex, if_pos (by rw [hby, hbx, hE]; omega)])
          have HPS := Lib.hid (show p0 < p + 1 ∧ p + 1 ≤ s.size by omega)
          subst hxe
          clear hex hby hm hbx hy48
          go_wp2
          go_quiet (fail)
          have hrd := HRd.out.up (Up.drewN wu nq)
          have hgr := grown_trans HGr.out (drewN_grown wu nq Br)
          obtain ⟨wv, hwv⟩ : ∃ x, wu.drewN nq = x := ⟨_, rfl⟩
          rw [hwv] at hrd hgr
          simp only [hwv]
          clear hwv
          have HRd := Lib.hid hrd
          have HGr := Lib.hid hgr
          have ct := hrd.text
          have ca := hrd.at_
          have fb := hrd.fz 2
          have cbk := hrd.br
          have fa := hrd.fz 1
          clear hrd hgr
          go_wp2
          go_ret
          exact ⟨_, _, false, rfl, HRd.out.seta (p + 1), grown_trans HGr.out (setCell_grown _ Br 1 _), .inr ⟨rfl, v, rfl, HS.out, HPS.out.1, HPS.out.2⟩⟩
        have d1 : decide (1 < M) = false := decide_eq_false (by omega)
        have d1b : decide ((1 : Int) < (M : Int)) = false := decide_eq_false (by omega)
        by_cases hxe : x = E
        case neg =>
          have HN := Lib.hid (show numT lim ec (rest s p0) = none by rw [hex, if_neg (by rw [hbx, hE]; omega)])
          have g3 : ((x : Int) == (E : Int)) = false := beq_false_of_ne (by omega)
          have g3b : decide (x = E) = false := decide_eq_false hxe
          have g3c : ((x : Int) != (E : Int)) = true := bne_iff_ne.2 (by omega)
          have g3d : ¬ ((x : Int) = (E : Int)) := by omega
          clear hex hm hby hbx
          go_wp2
          go_quiet (fail)
          have hrd := HRd.out.up (Up.drewN wu nq)
          have hgr := grown_trans HGr.out (drewN_grown wu nq Br)
          obtain ⟨wv, hwv⟩ : ∃ x, wu.drewN nq = x := ⟨_, rfl⟩
          rw [hwv] at hrd hgr
          simp only [hwv]
          clear hwv
          have HRd := Lib.hid hrd
          have HGr := Lib.hid hgr
          have ct := hrd.text
          have ca := hrd.at_
          have fb := hrd.fz 2
          have cbk := hrd.br
          have fa := hrd.fz 1
          clear hrd hgr
          go_wp2
          go_ret
          exact ⟨_, _, true, rfl, HRd.out.setb, grown_trans HGr.out (setCell_grown _ Br 2 _), .inl ⟨rfl, HN.out⟩⟩
        have HS := Lib.hid (show numT lim ec (rest s p0) = some (v, rest s (p + 1)) by rw [hex, if_pos (by rw [hbx, hE]; omega)])
        have HPS := Lib.hid (show p0 < p + 1 ∧ p + 1 ≤ s.size by omega)
        subst hxe
        clear hex hby hm hbx hp1
        go_wp2
        go_quiet (fail)
        have hrd := HRd.out.up (Up.drewN wu nq)
        have hgr := grown_trans HGr.out (drewN_grown wu nq Br)
        obtain ⟨wv, hwv⟩ : ∃ x, wu.drewN nq = x := ⟨_, rfl⟩
        rw [hwv] at hrd hgr
        simp only [hwv]
        clear hwv
        have HRd := Lib.hid hrd
        have HGr := Lib.hid hgr
        have ct := hrd.text
        have ca := hrd.at_
        have fb := hrd.fz 2
        have cbk := hrd.br
        have fa := hrd.fz 1
        clear hrd hgr
        go_wp2
        go_ret
        exact ⟨_, _, false, rfl, HRd.out.seta (p + 1), grown_trans HGr.out (setCell_grown _ Br 1 _), .inr ⟨rfl, v, rfl, HS.out, HPS.out.1, HPS.out.2⟩⟩
      have h48b : (48 : Int) ≤ (x : Int) := by omega
      by_cases h57 : x ≤ 57
      case neg =>
        have f1 : decide (x ≤ 57) = false := decide_eq_false h57
        have f1b : decide ((x : Int) ≤ 57) = false := decide_eq_false (by omega)
        have hex := num_exit (e := ec) (lim := lim) (HR.out.trans (rd_stop hlt (by rw [hx]; omega))) hap hps HV.out
        go_wp2
        go_quiet (fail)
        have hrd := HRd.out.up (Up.drewN wr nq)
        have hgr := grown_trans HGr.out (drewN_grown wr nq Br)
        obtain ⟨wq, hwq⟩ : ∃ x, wr.drewN nq = x := ⟨_, rfl⟩
        rw [hwq] at hrd hgr
        simp only [hwq]
        clear hwq
        have HRd := Lib.hid hrd
        have HGr := Lib.hid hgr
        have ct := hrd.text
        have ca := hrd.at_
        have fb := hrd.fz 2
        have cbk := hrd.br
        have fa := hrd.fz 1
        clear hrd hgr
        have hpb : (p : Int) ≤ 140737488355328 := by have := HSz.out; omega
        have m0 : (0 : Int) ≤ (p0 : Int) := by omega
        have m1 : (p0 : Int) ≤ (p : Int) := by omega
        have m2 : (p : Int) ≤ (s.size : Int) := by omega
        have m3 : ((p0 : Nat) : Int).toNat = p0 := Int.toNat_natCast p0
        have m4 : ((p : Nat) : Int).toNat = p := Int.toNat_natCast p
        obtain ⟨m, hm⟩ : ∃ m, s.extract p0 p = m := ⟨_, rfl⟩
        obtain ⟨M, hM⟩ : ∃ M, m.size = M := ⟨_, rfl⟩
        have hms : M + p0 = p := by rw [← hM, ← hm, ByteArray.size_extract]; omega
        go_wp2
        go_quiet (fail)
        have hrd := HRd.out.up (Up.drewN wq nq)
        have hgr := grown_trans HGr.out (drewN_grown wq nq Br)
        obtain ⟨wu, hwu⟩ : ∃ x, wq.drewN nq = x := ⟨_, rfl⟩
        rw [hwu] at hrd hgr
        simp only [hwu]
        clear hwu
        have HRd := Lib.hid hrd
        have HGr := Lib.hid hgr
        have ct := hrd.text
        have ca := hrd.at_
        have fb := hrd.fz 2
        have cbk := hrd.br
        have fa := hrd.fz 1
        clear hrd hgr
        by_cases hpa : p = p0
        · have HN := Lib.hid (show numT lim ec (rest s p0) = none by rw [hex, if_neg (by omega)])
          have d0 : m.toList.isEmpty = true := empty_of (by rw [hM]; omega)
          clear hex hm
          go_wp2
          go_quiet (fail)
          have hrd := HRd.out.up (Up.drewN wu nq)
          have hgr := grown_trans HGr.out (drewN_grown wu nq Br)
          obtain ⟨wv, hwv⟩ : ∃ x, wu.drewN nq = x := ⟨_, rfl⟩
          rw [hwv] at hrd hgr
          simp only [hwv]
          clear hwv
          have HRd := Lib.hid hrd
          have HGr := Lib.hid hgr
          have ct := hrd.text
          have ca := hrd.at_
          have fb := hrd.fz 2
          have cbk := hrd.br
          have fa := hrd.fz 1
          clear hrd hgr
          go_wp2
          go_ret
          exact ⟨_, _, true, rfl, HRd.out.setb, grown_trans HGr.out (setCell_grown _ Br 2 _), .inl ⟨rfl, HN.out⟩⟩
        have d0 : m.toList.isEmpty = false := nempty_of (by rw [hM]; omega)
        have g2 : ((p : Int) == (s.size : Int)) = false := beq_false_of_ne (by omega)
        have hla : p0 < s.size := by omega
        have hm0 : 0 < m.size := by rw [hM]; omega
        have hM0 : (0 : Int) < (M : Int) := by omega
        have hM1 : 0 < M := by omega
        obtain ⟨y, hy⟩ : ∃ y, (m[0]'hm0).toNat = y := ⟨_, rfl⟩
        have hby : bt s p0 = y := by
          rw [← hy, bt_eq hm0, ← hm, bt_ext_in (by omega) hps, Nat.add_zero]
        by_cases hp1 : p0 + 1 < p
        · have d1 : decide (1 < M) = true := decide_eq_true (by omega)
          have d1b : (1 : Int) < (M : Int) := by omega
          by_cases hy48 : y = 48
          · have HN := Lib.hid (show numT lim ec (rest s p0) = none by rw [hex, if_neg (by rw [hby, hy48]; omega)])
            subst hy48
            clear hex hby hm
            go_wp2
            go_quiet (fail)
            have hrd := HRd.out.up (Up.drewN wu nq)
            have hgr := grown_trans HGr.out (drewN_grown wu nq Br)
            obtain ⟨wv, hwv⟩ : ∃ x, wu.drewN nq = x := ⟨_, rfl⟩
            rw [hwv] at hrd hgr
            simp only [hwv]
            clear hwv
            have HRd := Lib.hid hrd
            have HGr := Lib.hid hgr
            have ct := hrd.text
            have ca := hrd.at_
            have fb := hrd.fz 2
            have cbk := hrd.br
            have fa := hrd.fz 1
            clear hrd hgr
            go_wp2
            go_ret
            exact ⟨_, _, true, rfl, HRd.out.setb, grown_trans HGr.out (setCell_grown _ Br 2 _), .inl ⟨rfl, HN.out⟩⟩
          have g5 : ((y : Int) == 48) = false := beq_false_of_ne (by omega)
          have g5b : decide (y = 48) = false := decide_eq_false hy48
          by_cases hxe : x = E
          case neg =>
            have HN := Lib.hid (show numT lim ec (rest s p0) = none by rw [hex, if_neg (by rw [hbx, hE]; omega)])
            have g3 : ((x : Int) == (E : Int)) = false := beq_false_of_ne (by omega)
            have g3b : decide (x = E) = false := decide_eq_false hxe
            have g3c : ((x : Int) != (E : Int)) = true := bne_iff_ne.2 (by omega)
            have g3d : ¬ ((x : Int) = (E : Int)) := by omega
            clear hex hm hby hbx
            go_wp2
            go_quiet (fail)
            have hrd := HRd.out.up (Up.drewN wu nq)
            have hgr := grown_trans HGr.out (drewN_grown wu nq Br)
            obtain ⟨wv, hwv⟩ : ∃ x, wu.drewN nq = x := ⟨_, rfl⟩
            rw [hwv] at hrd hgr
            simp only [hwv]
            clear hwv
            have HRd := Lib.hid hrd
            have HGr := Lib.hid hgr
            have ct := hrd.text
            have ca := hrd.at_
            have fb := hrd.fz 2
            have cbk := hrd.br
            have fa := hrd.fz 1
            clear hrd hgr
            go_wp2
            go_ret
            exact ⟨_, _, true, rfl, HRd.out.setb, grown_trans HGr.out (setCell_grown _ Br 2 _), .inl ⟨rfl, HN.out⟩⟩
          have HS := Lib.hid (show numT lim ec (rest s p0) = some (v, rest s (p + 1)) by rw [hex, if_pos (by rw [hby, hbx, hE]; omega)])
          have HPS := Lib.hid (show p0 < p + 1 ∧ p + 1 ≤ s.size by omega)
          subst hxe
          clear hex hby hm hbx hy48
          go_wp2
          go_quiet (fail)
          have hrd := HRd.out.up (Up.drewN wu nq)
          have hgr := grown_trans HGr.out (drewN_grown wu nq Br)
          obtain ⟨wv, hwv⟩ : ∃ x, wu.drewN nq = x := ⟨_, rfl⟩
          rw [hwv] at hrd hgr
          simp only [hwv]
          clear hwv
          have HRd := Lib.hid hrd
          have HGr := Lib.hid hgr
          have ct := hrd.text
          have ca := hrd.at_
          have fb := hrd.fz 2
          have cbk := hrd.br
          have fa := hrd.fz 1
          clear hrd hgr
          go_wp2
          go_ret
          exact ⟨_, _, false, rfl, HRd.out.seta (p + 1), grown_trans HGr.out (setCell_grown _ Br 1 _), .inr ⟨rfl, v, rfl, HS.out, HPS.out.1, HPS.out.2⟩⟩
        have d1 : decide (1 < M) = false := decide_eq_false (by omega)
        have d1b : decide ((1 : Int) < (M : Int)) = false := decide_eq_false (by omega)
        by_cases hxe : x = E
        case neg =>
          have HN := Lib.hid (show numT lim ec (rest s p0) = none by rw [hex, if_neg (by rw [hbx, hE]; omega)])
          have g3 : ((x : Int) == (E : Int)) = false := beq_false_of_ne (by omega)
          have g3b : decide (x = E) = false := decide_eq_false hxe
          have g3c : ((x : Int) != (E : Int)) = true := bne_iff_ne.2 (by omega)
          have g3d : ¬ ((x : Int) = (E : Int)) := by omega
          clear hex hm hby hbx
          go_wp2
          go_quiet (fail)
          have hrd := HRd.out.up (Up.drewN wu nq)
          have hgr := grown_trans HGr.out (drewN_grown wu nq Br)
          obtain ⟨wv, hwv⟩ : ∃ x, wu.drewN nq = x := ⟨_, rfl⟩
          rw [hwv] at hrd hgr
          simp only [hwv]
          clear hwv
          have HRd := Lib.hid hrd
          have HGr := Lib.hid hgr
          have ct := hrd.text
          have ca := hrd.at_
          have fb := hrd.fz 2
          have cbk := hrd.br
          have fa := hrd.fz 1
          clear hrd hgr
          go_wp2
          go_ret
          exact ⟨_, _, true, rfl, HRd.out.setb, grown_trans HGr.out (setCell_grown _ Br 2 _), .inl ⟨rfl, HN.out⟩⟩
        have HS := Lib.hid (show numT lim ec (rest s p0) = some (v, rest s (p + 1)) by rw [hex, if_pos (by rw [hbx, hE]; omega)])
        have HPS := Lib.hid (show p0 < p + 1 ∧ p + 1 ≤ s.size by omega)
        subst hxe
        clear hex hby hm hbx hp1
        go_wp2
        go_quiet (fail)
        have hrd := HRd.out.up (Up.drewN wu nq)
        have hgr := grown_trans HGr.out (drewN_grown wu nq Br)
        obtain ⟨wv, hwv⟩ : ∃ x, wu.drewN nq = x := ⟨_, rfl⟩
        rw [hwv] at hrd hgr
        simp only [hwv]
        clear hwv
        have HRd := Lib.hid hrd
        have HGr := Lib.hid hgr
        have ct := hrd.text
        have ca := hrd.at_
        have fb := hrd.fz 2
        have cbk := hrd.br
        have fa := hrd.fz 1
        clear hrd hgr
        go_wp2
        go_ret
        exact ⟨_, _, false, rfl, HRd.out.seta (p + 1), grown_trans HGr.out (setCell_grown _ Br 1 _), .inr ⟨rfl, v, rfl, HS.out, HPS.out.1, HPS.out.2⟩⟩
      have h57b : (x : Int) ≤ 57 := by omega
      have HR2 := Lib.hid (HR.out.trans (rd_step hlt (by rw [hx]; exact h48) (by rw [hx]; exact h57)))
      rw [hx] at HR2
      obtain ⟨v2, hv2⟩ : ∃ v2, 10 * v + (x - 48) = v2 := ⟨_, rfl⟩
      rw [hv2] at HR2
      have hvb := HV.out
      have hlb := HLim.out
      have q1 : IntKind.i64.wrap ((v : Int) * 10) = (v : Int) * 10 := IntWalk.i64_in _ (by omega)
      have q2 : IntKind.u8.wrap ((x : Int) - 48) = (x : Int) - 48 := IntWalk.u8_in _ (by omega)
      have q3 : IntKind.i64.wrap ((x : Int) - 48) = (x : Int) - 48 := IntWalk.i64_in _ (by omega)
      have q6 : ((v2 : Nat) : Int) ≤ 10995116277800 := by omega
      have q7 : IntKind.i64.wrap ((v2 : Nat) : Int) = (v2 : Nat) := IntWalk.i64_in _ (by omega)
      have q5 : (v : Int) * 10 + ((x : Int) - 48) = (v2 : Nat) := by omega
      have HP := Lib.hid (And.intro hap hlt)
      have hsb := HSz.out
      have q8 : IntKind.i64.wrap ((p : Int) + 1) = ((p + 1 : Nat) : Int) := (IntWalk.i64_in _ (by omega)).trans (by omega)
      have q9 : (p : Int) + 1 = ((p + 1 : Nat) : Int) := by omega
      clear hvb hv2 hbx hE hlb hsb q9
      go_wp2
      go_quiet (fail)
      have hrd := HRd.out.up (Up.drewN wr nq)
      have hgr := grown_trans HGr.out (drewN_grown wr nq Br)
      obtain ⟨wq, hwq⟩ : ∃ x, wr.drewN nq = x := ⟨_, rfl⟩
      rw [hwq] at hrd hgr
      simp only [hwq]
      clear hwq
      have HRd := Lib.hid hrd
      have HGr := Lib.hid hgr
      have ct := hrd.text
      have ca := hrd.at_
      have fb := hrd.fz 2
      have cbk := hrd.br
      have fa := hrd.fz 1
      clear hrd hgr
      go_wp2
      go_quiet (fail)
      have hrd := HRd.out.up (Up.drewN wq nq)
      have hgr := grown_trans HGr.out (drewN_grown wq nq Br)
      obtain ⟨wu, hwu⟩ : ∃ x, wq.drewN nq = x := ⟨_, rfl⟩
      rw [hwu] at hrd hgr
      simp only [hwu]
      clear hwu
      have HRd := Lib.hid hrd
      have HGr := Lib.hid hgr
      have ct := hrd.text
      have ca := hrd.at_
      have fb := hrd.fz 2
      have cbk := hrd.br
      have fa := hrd.fz 1
      clear hrd hgr
      have HRd := Lib.hid (HRd.out.seta (p + 1))
      have HGr := Lib.hid (grown_trans HGr.out (setCell_grown wu Br 1 (.int .i64 ((p + 1 : Nat) : Int))))
      have fb := HRd.out.fz 2
      by_cases hbig : lim < v2
      · have HN := Lib.hid (num_bail (e := ec) HR2.out hbig)
        have hbig2 : ((lim : Nat) : Int) < ((v2 : Nat) : Int) := by omega
        have cbk := HRd.out.br
        go_wp2
        go_ret
        exact ⟨_, _, true, rfl, HRd.out.setb, grown_trans HGr.out (setCell_grown _ Br 2 _), .inl ⟨rfl, HN.out⟩⟩
      · have f2 : decide (lim < v2) = false := decide_eq_false hbig
        have f2b : decide (((lim : Nat) : Int) < ((v2 : Nat) : Int)) = false := decide_eq_false (by omega)
        have HV2 := Lib.hid (show v2 ≤ lim by omega)
        clear hbig
        go_wp2
        go_roundg (s.size - (p + 1))
        case measure => rw [HG.out]; have := HP.out.2; omega
        case rel => exact ⟨v2, p + 1, rfl, rfl, by have := HP.out.1; omega, HP.out.2, HR2, HV2, HRd, HGr⟩
    · obtain rfl : p = s.size := by omega
      have f0 : decide (s.size < s.size) = false := decide_eq_false hlt
      have hex := num_exit (e := ec) (lim := lim) (HR.out.trans (rd_over (Nat.le_refl _))) hap hps HV.out
      go_wp2
      go_quiet (fail)
      have hrd := HRd.out.up (Up.drewN wr nq)
      have hgr := grown_trans HGr.out (drewN_grown wr nq Br)
      obtain ⟨wq, hwq⟩ : ∃ x, wr.drewN nq = x := ⟨_, rfl⟩
      rw [hwq] at hrd hgr
      simp only [hwq]
      clear hwq
      have HRd := Lib.hid hrd
      have HGr := Lib.hid hgr
      have ct := hrd.text
      have ca := hrd.at_
      have fb := hrd.fz 2
      have cbk := hrd.br
      have fa := hrd.fz 1
      clear hrd hgr
      have hpb : (s.size : Int) ≤ 140737488355328 := by have := HSz.out; omega
      have m0 : (0 : Int) ≤ (p0 : Int) := by omega
      have m1 : (p0 : Int) ≤ (s.size : Int) := by omega
      have m2 : (s.size : Int) ≤ (s.size : Int) := by omega
      have m3 : ((p0 : Nat) : Int).toNat = p0 := Int.toNat_natCast p0
      have m4 : ((s.size : Nat) : Int).toNat = s.size := Int.toNat_natCast s.size
      obtain ⟨m, hm⟩ : ∃ m, s.extract p0 s.size = m := ⟨_, rfl⟩
      obtain ⟨M, hM⟩ : ∃ M, m.size = M := ⟨_, rfl⟩
      have hms : M + p0 = s.size := by rw [← hM, ← hm, ByteArray.size_extract]; omega
      go_wp2
      go_quiet (fail)
      have hrd := HRd.out.up (Up.drewN wq nq)
      have hgr := grown_trans HGr.out (drewN_grown wq nq Br)
      obtain ⟨wu, hwu⟩ : ∃ x, wq.drewN nq = x := ⟨_, rfl⟩
      rw [hwu] at hrd hgr
      simp only [hwu]
      clear hwu
      have HRd := Lib.hid hrd
      have HGr := Lib.hid hgr
      have ct := hrd.text
      have ca := hrd.at_
      have fb := hrd.fz 2
      have cbk := hrd.br
      have fa := hrd.fz 1
      clear hrd hgr
      have HN := Lib.hid (show numT lim ec (rest s p0) = none by rw [hex, if_neg (by omega)])
      clear hex hm
      by_cases hpa : s.size = p0
      · have d0 : m.toList.isEmpty = true := empty_of (by rw [hM]; omega)
        go_wp2
        go_quiet (fail)
        have hrd := HRd.out.up (Up.drewN wu nq)
        have hgr := grown_trans HGr.out (drewN_grown wu nq Br)
        obtain ⟨wv, hwv⟩ : ∃ x, wu.drewN nq = x := ⟨_, rfl⟩
        rw [hwv] at hrd hgr
        simp only [hwv]
        clear hwv
        have HRd := Lib.hid hrd
        have HGr := Lib.hid hgr
        have ct := hrd.text
        have ca := hrd.at_
        have fb := hrd.fz 2
        have cbk := hrd.br
        have fa := hrd.fz 1
        clear hrd hgr
        go_wp2
        go_ret
        exact ⟨_, _, true, rfl, HRd.out.setb, grown_trans HGr.out (setCell_grown _ Br 2 _), .inl ⟨rfl, HN.out⟩⟩
      have d0 : m.toList.isEmpty = false := nempty_of (by rw [hM]; omega)
      by_cases hp1 : p0 + 1 < s.size
      · obtain ⟨y, hy⟩ : ∃ y, (m[0]'(by rw [hM]; omega)).toNat = y := ⟨_, rfl⟩
        have hm0 : 0 < m.size := by rw [hM]; omega
        have hM0 : (0 : Int) < (M : Int) := by omega
        have hM1 : 0 < M := by omega
        have d1 : decide (1 < M) = true := decide_eq_true (by omega)
        have d1b : (1 : Int) < (M : Int) := by omega
        by_cases hy48 : y = 48
        · subst hy48
          go_wp2
          go_quiet (fail)
          have hrd := HRd.out.up (Up.drewN wu nq)
          have hgr := grown_trans HGr.out (drewN_grown wu nq Br)
          obtain ⟨wv, hwv⟩ : ∃ x, wu.drewN nq = x := ⟨_, rfl⟩
          rw [hwv] at hrd hgr
          simp only [hwv]
          clear hwv
          have HRd := Lib.hid hrd
          have HGr := Lib.hid hgr
          have ct := hrd.text
          have ca := hrd.at_
          have fb := hrd.fz 2
          have cbk := hrd.br
          have fa := hrd.fz 1
          clear hrd hgr
          go_wp2
          go_ret
          exact ⟨_, _, true, rfl, HRd.out.setb, grown_trans HGr.out (setCell_grown _ Br 2 _), .inl ⟨rfl, HN.out⟩⟩
        · have g5 : ((y : Int) == 48) = false := beq_false_of_ne (by omega)
          have g5b : decide (y = 48) = false := decide_eq_false hy48
          have g6 : ((s.size : Int) == (s.size : Int)) = true := beq_iff_eq.2 (by omega)
          clear hy48
          go_wp2
          go_quiet (fail)
          have hrd := HRd.out.up (Up.drewN wu nq)
          have hgr := grown_trans HGr.out (drewN_grown wu nq Br)
          obtain ⟨wv, hwv⟩ : ∃ x, wu.drewN nq = x := ⟨_, rfl⟩
          rw [hwv] at hrd hgr
          simp only [hwv]
          clear hwv
          have HRd := Lib.hid hrd
          have HGr := Lib.hid hgr
          have ct := hrd.text
          have ca := hrd.at_
          have fb := hrd.fz 2
          have cbk := hrd.br
          have fa := hrd.fz 1
          clear hrd hgr
          go_wp2
          go_ret
          exact ⟨_, _, true, rfl, HRd.out.setb, grown_trans HGr.out (setCell_grown _ Br 2 _), .inl ⟨rfl, HN.out⟩⟩
      have d1 : decide (1 < M) = false := decide_eq_false (by omega)
      have d1b : decide ((1 : Int) < (M : Int)) = false := decide_eq_false (by omega)
      have g6 : ((s.size : Int) == (s.size : Int)) = true := beq_iff_eq.2 (by omega)
      go_wp2
      go_quiet (fail)
      have hrd := HRd.out.up (Up.drewN wu nq)
      have hgr := grown_trans HGr.out (drewN_grown wu nq Br)
      obtain ⟨wv, hwv⟩ : ∃ x, wu.drewN nq = x := ⟨_, rfl⟩
      rw [hwv] at hrd hgr
      simp only [hwv]
      clear hwv
      have HRd := Lib.hid hrd
      have HGr := Lib.hid hgr
      have ct := hrd.text
      have ca := hrd.at_
      have fb := hrd.fz 2
      have cbk := hrd.br
      have fa := hrd.fz 1
      clear hrd hgr
      go_wp2
      go_ret
      exact ⟨_, _, true, rfl, HRd.out.setb, grown_trans HGr.out (setCell_grown _ Br 2 _), .inl ⟨rfl, HN.out⟩⟩
end Go.Proofs.YtidnldchdahgeaaDoor
