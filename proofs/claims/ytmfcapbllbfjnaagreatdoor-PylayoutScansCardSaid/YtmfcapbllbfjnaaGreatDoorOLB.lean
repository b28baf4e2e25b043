/- What the laid variables hold, as the walks ask. The document's End; two rows of the same events; PylayoutEnds, walked. PylayoutScans, walked. -/
import Derived.Test.YtmfcapbllbfjnaaGreatDoorOA
import Derived.Test.YtmfcapbllbfjnaaGreatDoorOLawA
import Derived.LaidMore
import Derived.Stop.Joined
import Derived.Test.YtmfcapbllbfjnaaGreatDoorORefM
import Derived.Test.YtmfcapbllbfjnaaGreatDoorDC
namespace Go.Proofs.YtmfcapbllbfjnaaGreatDoor
open Go.RowKit

theorem tabsP_of_H {w : World} (h : laidMetH Tryz.prog Rows.pylayoutScansRow.laid w) : TabsP w := by
  rw [MakeChecks.laidMetH_plain _ _ _ (by kernel_rfl)] at h
  exact tabsP_of_laid h
end Go.Proofs.YtmfcapbllbfjnaaGreatDoor

namespace Go.Proofs.YtmfcapbllbfjnaaGreatDoor
open Go.RowKit
attribute [local go_sem ↓] ldS_eq stS_eq elS_eq neS_eq zrS_eq bdS_eq
attribute [local go_sem] ldS_run stS_run elS_run neS_run zrS_run bdS_run0 bdS_run1 g0_rule ldV_drew ldV_drewN

set_option maxRecDepth 100000 in
set_option maxHeartbeats 1000000 in
theorem lsame_any (w : World) (A B : Option Addr) (n c c' : Nat) (es : List LEv) (hL : Levs w A n es) (hM : Levs w B n es) (hn : n ≤ 1000000) :
    Calls Tryz.prog 6 #[.slice A n c, .slice B n c'] w fun e w' => e = .returned (.bool true) ∧ Up w w' := by
  have HL := Lib.hid hL
  have HM := Lib.hid hM
  have HN := Lib.hid hL.len
  clear hL hM
  go_enter Tryz.func6, Tryz.ntmps6
  go_wp2
  go_loopg [5] n (fun g iv wr => ∃ i : Nat, g = n - i ∧ iv = .int .i64 (i : Nat) ∧ i ≤ n ∧ Hid (Up w wr))
  case atStart => exact ⟨0, rfl, rfl, Nat.zero_le _, Lib.hid (Up.refl w)⟩
  case round =>
    obtain ⟨i, hg, rfl, hi, HU⟩ := hrel
    have HG := Lib.hid hg
    clear hg
    by_cases hlt : i < n
    · have hiL : i < es.length := by have := HN.out; omega
      obtain ⟨b, o, hA, -, c0, c1, c2, c3⟩ := (HL.out.up HU.out).at_ i hiL
      obtain ⟨b2, o2, hB, -, d0, d1, d2, d3⟩ := (HM.out.up HU.out).at_ i hiL
      subst hA hB
      obtain ⟨⟨r0, r1, r2, r3⟩, hr⟩ : ∃ r, es[i] = r := ⟨_, rfl⟩
      rw [hr] at c0 c1 c2 c3 d0 d1 d2 d3
      dsimp only at c0 c1 c2 c3 d0 d1 d2 d3
      have hii : (i : Int) < n := by omega
      clear hr hiL
      go_wp2
      go_quiet (fail)
      go_wp2
      go_roundg (n - (i + 1))
      case measure => rw [HG.out]; omega
      case rel => exact ⟨i + 1, rfl, by go_num, by omega, Lib.hid (HU.out.trans (Up.drewN _ _))⟩
    · obtain rfl : i = n := by omega
      have f0 : decide (i < i) = false := decide_eq_false hlt
      clear hlt
      go_wp2
      go_ret
      exact ⟨rfl, HU.out⟩
theorem endP_len (s : LSt) : (endP s).length ≤ 1 := by unfold endP; split <;> simp
end Go.Proofs.YtmfcapbllbfjnaaGreatDoor

namespace Go.Proofs.YtmfcapbllbfjnaaGreatDoor
open Go.RowKit
attribute [local go_sem ↓] ldS_eq stS_eq elS_eq neS_eq zrS_eq bdS_eq
attribute [local go_sem] ldS_run stS_run elS_run neS_run zrS_run bdS_run0 bdS_run1 g0_rule ldV_drew ldV_drewN

theorem lay_len (cols : List Nat) (flags ti col : Nat) (h : cols.length ≤ 16) : (layL cols flags ti col).1.length ≤ 17 := by
  have := lay_set ⟨cols, 0, 0, flags, 0⟩ ti col
  have h2 := set_len ⟨cols, 0, 0, flags, 0⟩ col h
  show (layL cols flags ti col).1.length ≤ 17
  have e : (layL cols flags ti col).1 = _ := this
  rw [e, List.length_append]
  split <;> simp <;> omega
theorem scanP_len {s : LSt} {l : List Nat} (h : LOk s) : (scanP s l).1.length ≤ l.length + 20 := by
  have hr : ∀ (cols : List Nat) (a m : Nat) (d : Int), (readL cols s.flags (scanE l a m d) (endL l)).1.length ≤ l.length + 1 := fun cols a m d => by
    have := lenE l a m d
    unfold readL
    split <;> simp <;> omega
  unfold scanP
  split
  · split
    · simp
    · split
      · simp
      · have h1 := lay_len s.cols s.flags (indL l 0).1 (indL l 0).2 h.len
        have h2 := hr (layL s.cols s.flags (indL l 0).1 (indL l 0).2).2 (indL l 0).1 s.mark s.count
        simp only [List.length_append, List.length_singleton]
        omega
  · have := hr s.cols 0 s.mark s.count
    exact Nat.le_trans this (by omega)
set_option maxRecDepth 100000 in
set_option maxHeartbeats 4000000 in
theorem pscans_walk (hC : LayC) (W : World) (hT : TabsP W) (x : Array Value) (hx : IsS x) (line : ByteArray) :
    Calls Tryz.prog 3 #[.agg x, .string line] W fun e w' => e = .returned (.bool true) ∧ Up W w' := by
  by_cases hs : (line.size : Int) ≤ 3000
  · obtain ⟨s, hc⟩ := cnt_any x
    have hok := hc.1
    have hTok := scanP_ok (l := bl line) hok (by rw [bl_len]; omega)
    have H1 := Lib.hid (fun W' (h : TabsP W') => hC.scan W' h x s hx hc line (by omega))
    have H2 := Lib.hid (fun W' => refScan12 W' x s hx hc line (by omega))
    have hlen := scanP_len (l := bl line) hok
    rw [bl_len] at hlen
    unfold ScannedP at H1 H2
    generalize scanP s (bl line) = R at H1 H2 hTok hlen
    obtain ⟨es, T⟩ := R
    dsimp only at H1 H2 hTok hlen
    have HTI := Lib.hid (stA_is hTok)
    have HK := Lib.hid (fun W' (h : TabsP W') => knows_any hC W' h)
    have HT := Lib.hid hT
    have hl : ldV (.pointer (some ⟨W.heap.size, 0, none⟩)) (W.alloc (.cells x TS)) = some (.agg x) := ldV_of hx (range_box W x TS)
    have HU := Lib.hid (Up.alloc W (.cells x TS))
    have heq := eqV_of (stA_is hTok) (stA_is hTok)
    rw [eqS_self] at heq
    generalize stA T = z at *
    have t0 : decide ((3000 : Int) < line.size) = false := decide_eq_false (by omega)
    have HLN := Lib.hid (show es.length ≤ 1000000 by omega)
    clear hc hok hTok hlen hx hT hC hs
    go_enter Tryz.func3, Tryz.ntmps3
    go_upto_region 4 with (go_at_call 4; ((with_reducible refine (H1.out _ (HT.out.up HU.out)).mono ?_); rintro e w1 ⟨v1, rfl, hrow, hu⟩; obtain ⟨A1, c1, rfl, he⟩ := levs_row hrow; have hst := stV_of HTI.out (there_box w1 z0_is TS); have hup := whole_up w1 (z := z0) TS z.toList; have hld := set_ld HTI.out (there_box w1 z0_is TS); have hl1 := ldV_up (hu.trans hup) hl; have HE := Lib.hid (he.up hup); have HU1 := Lib.hid ((HU.out.trans hu).trans hup); clear hu hup he hrow hl))
    generalize hw2 : World.setCells _ _ _ _ = w2 at hld hl1 HE HU1 ⊢
    clear hst hw2
    go_upto_region 5 with (go_at_call 5; ((with_reducible refine (H2.out _).mono ?_); rintro e w3 ⟨v3, rfl, hrow, hu⟩; obtain ⟨A3, c3, rfl, he⟩ := levs_row hrow; have hst := stV_of HTI.out (there_box w3 z0_is TS); have hup := whole_up w3 (z := z0) TS z.toList; have hld2 := set_ld HTI.out (there_box w3 z0_is TS); have hld1 := ldV_up (hu.trans hup) hld; have HF := Lib.hid (he.up hup); have HG := Lib.hid ((HE.out.up hu).up hup); have HU2 := Lib.hid ((HU1.out.trans hu).trans hup); clear hu hup he hrow hl1 hld))
    generalize hw4 : World.setCells _ _ _ _ = w4 at hld1 hld2 HF HG HU2 ⊢
    clear hst hw4
    go_wp2_with (first
      | (go_at_call 6; ((with_reducible refine (lsame_any _ _ _ _ _ _ es HG.out HF.out HLN.out).mono ?_); rintro e w5 ⟨rfl, hu⟩; have k1 := ldV_up hu hld1; have k2 := ldV_up hu hld2; have HU5 := Lib.hid (HU2.out.trans hu); clear hu hld1 hld2))
      | (go_at_call 7; ((with_reducible refine (HK.out _ (HT.out.up HU5.out)).mono ?_); rintro e w6 ⟨rfl, hu⟩; have HU6 := Lib.hid (HU5.out.trans hu); clear hu)))
    go_ret
    exact ⟨rfl, HU6.out⟩
  · have f0 : decide ((3000 : Int) < line.size) = true := decide_eq_true (by omega)
    have HU := Lib.hid (Up.alloc W (.cells x TS))
    clear hs hC hT hx
    go_enter Tryz.func3, Tryz.ntmps3
    go_wp2
    go_ret
    exact ⟨rfl, HU.out⟩
end Go.Proofs.YtmfcapbllbfjnaaGreatDoor
