/- The document's End; two rows of the same events; PylayoutEnds, walked. -/
import Derived.Test.YtbcmnldeienggaaDoorORefM
namespace Go.Proofs.YtbcmnldeienggaaDoor
open Go.RowKit
attribute [local go_sem ↓] ldS_eq stS_eq elS_eq neS_eq zrS_eq bsS_eq bdS_eq
attribute [local go_sem] ldS_run stS_run elS_run neS_run zrS_run bsS_run bdS_run0 bdS_run1 g0_rule ldV_drew ldV_drewN

set_option maxRecDepth 100000 in
set_option maxHeartbeats 4000000 in
theorem refEnd_any (W : World) (x : Array Value) (s : LSt) (hx : IsS x) (hc : Cnt x s) : Calls Tryd.prog 10 #[.agg x] W fun e w' => ∃ v, e = .returned v ∧ RowL w' W.heap.size v (endP s) ∧ Up W w' := by
  have hl : ldV (.pointer (some ⟨W.heap.size, 0, none⟩)) (W.alloc (.cells x TS)) = some (.agg x) := ldV_of hx (range_box W x TS)
  have HU := Lib.hid (Up.alloc W (.cells x TS))
  rcases hc.2 with hxs | ⟨hn, rfl⟩
  · subst hxs
    have HM := Lib.hid (fun W' => may_any W' (svP s))
    rw [pyB_true.2 ⟨s, hc.1, rfl⟩] at HM
    have c5 : (W.alloc (.cells (stA s) TS)).cell? ⟨W.heap.size, 65, none⟩ = some (.int .u8 (s.mode : Nat)) := sv_tl (svP s) W 1 rfl
    have c7 : (W.alloc (.cells (stA s) TS)).cell? ⟨W.heap.size, 67, none⟩ = some (.int .u8 (s.flags : Nat)) := sv_tl (svP s) W 3 rfl
    have hline := hc.1.line
    have hsv : svA (svP s) = stA s := rfl
    rw [hsv] at HM
    generalize stA s = y at *
    clear hx hc hsv
    by_cases he : s.mode = 1 ∨ s.flags = 1
    · have hep : endP s = [evL 2 0 0] := by unfold endP; rw [if_pos he]
      rw [hep]
      rcases he with hm | hm
      · rw [hm, show ((1 : Nat) : Int) = 1 from rfl] at c5
        generalize s.flags = fl at c7
        clear hline hep
        go_enter Tryd.func10, Tryd.ntmps10
        go_wp2_with (go_at_call 12; ((with_reducible refine (HM.out _).mono ?_); rintro e w1 ⟨rfl, hu⟩; have HF := Lib.hid (HU.out.trans hu); have c5 := cell_up hu c5; have c7 := cell_up hu c7; clear hu hl))
        go_ret
        exact ⟨_, rfl, own_one (Below.size HF.out) _ _ _ _, HF.out.trans (Up.alloc _ _)⟩
      · rw [hm, show ((1 : Nat) : Int) = 1 from rfl] at c7
        have hmo : s.mode = 0 := by rcases hline with h | h <;> omega
        rw [hmo, show ((0 : Nat) : Int) = 0 from rfl] at c5
        clear hline hep hm hmo
        go_enter Tryd.func10, Tryd.ntmps10
        go_wp2_with (go_at_call 12; ((with_reducible refine (HM.out _).mono ?_); rintro e w1 ⟨rfl, hu⟩; have HF := Lib.hid (HU.out.trans hu); have c5 := cell_up hu c5; have c7 := cell_up hu c7; clear hu hl))
        go_ret
        exact ⟨_, rfl, own_one (Below.size HF.out) _ _ _ _, HF.out.trans (Up.alloc _ _)⟩
    · have hep : endP s = [] := by unfold endP; rw [if_neg he]
      rw [hep]
      have hmo : s.mode = 0 := by rcases hline with h | h <;> omega
      have hfl : s.flags = 0 := by rcases hline with h | h <;> omega
      rw [hmo, show ((0 : Nat) : Int) = 0 from rfl] at c5
      rw [hfl, show ((0 : Nat) : Int) = 0 from rfl] at c7
      clear hline hep hmo hfl he
      go_enter Tryd.func10, Tryd.ntmps10
      go_wp2_with (go_at_call 12; ((with_reducible refine (HM.out _).mono ?_); rintro e w1 ⟨rfl, hu⟩; have HF := Lib.hid (HU.out.trans hu); have c5 := cell_up hu c5; have c7 := cell_up hu c7; clear hu hl))
      go_ret
      exact ⟨_, rfl, World.ownsRow_nil _ _ _ _, HF.out⟩
  · obtain ⟨V, hV, rfl⟩ := sv_of hx
    have HM := Lib.hid (fun W' => may_any W' V)
    rw [show pyB V = false from by rw [Bool.eq_false_iff]; intro k; exact hn (pyB_true.1 k)] at HM
    change ldV _ (W.alloc (.cells (svA V) TS)) = some (.agg (svA V)) at hl
    change Hid (Up W (W.alloc (.cells (svA V) TS))) at HU
    show Calls Tryd.prog 10 #[.agg (svA V)] W _
    rw [show endP lst0 = [] from rfl]
    generalize svA V = y at *
    clear hx hc hn hV
    go_enter Tryd.func10, Tryd.ntmps10
    go_wp2_with (go_at_call 12; ((with_reducible refine (HM.out _).mono ?_); rintro e w1 ⟨rfl, hu⟩; have HF := Lib.hid (HU.out.trans hu); clear hu hl))
    go_ret
    exact ⟨_, rfl, World.ownsRow_nil _ _ _ _, HF.out⟩
set_option maxRecDepth 100000 in
set_option maxHeartbeats 1000000 in
theorem lsame_any (w : World) (A B : Option Addr) (n c c' : Nat) (es : List LEv) (hL : Levs w A n es) (hM : Levs w B n es) (hn : n ≤ 1000000) :
    Calls Tryd.prog 9 #[.slice A n c, .slice B n c'] w fun e w' => e = .returned (.bool true) ∧ Up w w' := by
  have HL := Lib.hid hL
  have HM := Lib.hid hM
  have HN := Lib.hid hL.len
  clear hL hM
  go_enter Tryd.func9, Tryd.ntmps9
  go_wp2
  go_loopg [5] n (fun g iv wr => ∃ i : Nat, g = n - i ∧ iv = .int .i64 (i : Nat) ∧ i ≤ n ∧ Hid (Up w wr))
  case atStart => exact ⟨0, rfl, rfl, Nat.zero_le _, Lib.hid (Up.refl w)⟩
  case round =>
    obtain ⟨i, hg, rfl, hi, HU⟩ := hrel
    have HG := Lib.hid hg
    clear hg
    by_cases hlt : i < n
    · have hiL : i < es.length := by have := HN.out; omega
      obtain ⟨b, o, hA, -, c0, c1, c2, c3⟩ := (HL.out.up HU.out).at_ i hiL
      obtain ⟨b2, o2, hB, -, d0, d1, d2, d3⟩ := (HM.out.up HU.out).at_ i hiL
      subst hA hB
      obtain ⟨⟨r0, r1, r2, r3⟩, hr⟩ : ∃ r, es[i] = r := ⟨_, rfl⟩
      rw [hr] at c0 c1 c2 c3 d0 d1 d2 d3
      dsimp only at c0 c1 c2 c3 d0 d1 d2 d3
      have hii : (i : Int) < n := by omega
      clear hr hiL
      go_wp2
      go_quiet (fail)
      go_wp2
      go_roundg (n - (i + 1))
      case measure => rw [HG.out]; omega
      case rel => exact ⟨i + 1, rfl, by go_num, by omega, Lib.hid (HU.out.trans (Up.drewN _ _))⟩
    · obtain rfl : i = n := by omega
      have f0 : decide (i < i) = false := decide_eq_false hlt
      clear hlt
      go_wp2
      go_ret
      exact ⟨rfl, HU.out⟩
theorem endP_len (s : LSt) : (endP s).length ≤ 1 := by unfold endP; split <;> simp
set_option maxRecDepth 100000 in
set_option maxHeartbeats 8000000 in
theorem ends_walk (hC : LayC) (W : World) (hT : TabsP W) (x : Array Value) (hx : IsS x) :
    Calls Tryd.prog 3 #[.agg x] W fun e w' => e = .returned (.bool true) ∧ Up W w' := by
  obtain ⟨s, hc⟩ := cnt_any x
  have H0 := Lib.hid (fun W' => hC.end_ W' (stA sH) sH (stA_is sH_ok) (cnt_self sH_ok))
  have H1 := Lib.hid (fun W' => hC.end_ W' x s hx hc)
  have H2 := Lib.hid (fun W' => refEnd_any W' x s hx hc)
  have HK := Lib.hid (fun W' (h : TabsP W') => knows_any hC W' h)
  have HT := Lib.hid hT
  have HLN := Lib.hid (show (endP s).length ≤ 1000000 from Nat.le_trans (endP_len s) (by omega))
  have hbd := bdS_H
  have hl : ldV (.pointer (some ⟨W.heap.size, 0, none⟩)) (W.alloc (.cells x TS)) = some (.agg x) := ldV_of hx (range_box W x TS)
  have HU := Lib.hid (Up.alloc W (.cells x TS))
  rw [show endP sH = [evL 2 0 0] from rfl] at H0
  generalize endP s = es at *
  generalize stA sH = xH at *
  clear hx hc hC hT
  go_enter Tryd.func3, Tryd.ntmps3
  go_upto_region 2 with (go_at_call 8; ((with_reducible refine (H0.out _).mono ?_); rintro e w1 ⟨v1, rfl, hrow, hu⟩; obtain ⟨A, c, rfl, -⟩ := levs_row hrow; have hl := ldV_up hu hl; have HU := Lib.hid (HU.out.trans hu); clear hrow hu))
  go_region_held3 (fun w' => ldV (.pointer (some ⟨W.heap.size, 0, none⟩)) w' = some (.agg x))
    (first | assumption | exact ldV_up (Up.drew _) (by assumption) | exact ldV_up HUC.out (by assumption) | exact ldV_up HUC.out (ldV_up (Up.drew _) (by assumption)))
    (first
    | (go_at_call 8; ((with_reducible refine (H1.out _).mono ?_); rintro e w2 ⟨v2, rfl, hrow, hu⟩; obtain ⟨A2, c2, rfl, he⟩ := levs_row hrow; have HUC := Lib.hid hu; have HE := Lib.hid he; (try have HE2 := Lib.hid (HE2.out.up hu)); have HU := Lib.hid (by first | exact HU.out.trans hu | exact (HU.out.trans (Up.drew _)).trans hu); clear hrow hu he))
    | (go_at_call 10; ((with_reducible refine (H2.out _).mono ?_); rintro e w3 ⟨v3, rfl, hrow, hu⟩; obtain ⟨A3, c3, rfl, he⟩ := levs_row hrow; have HUC := Lib.hid hu; have HE2 := Lib.hid he; (try have HE := Lib.hid (HE.out.up hu)); have HU := Lib.hid (by first | exact HU.out.trans hu | exact (HU.out.trans (Up.drew _)).trans hu); clear hrow hu he))
    | (go_at_call 9; ((with_reducible refine (lsame_any _ _ _ _ _ _ es HE.out HE2.out HLN.out).mono ?_); rintro e w4 ⟨rfl, hu⟩; have HUC := Lib.hid hu; have HU := Lib.hid (HU.out.trans hu); clear hu))
    | (go_at_call 11; ((with_reducible refine (HK.out _ (HT.out.up HU.out)).mono ?_); rintro e w5 ⟨rfl, hu⟩; have HUC := Lib.hid hu; have HU := Lib.hid (HU.out.trans hu); clear hu)))
  all_goals
    go_wp2
    go_ret
    exact ⟨rfl, HU.out⟩
end Go.Proofs.YtbcmnldeienggaaDoor
