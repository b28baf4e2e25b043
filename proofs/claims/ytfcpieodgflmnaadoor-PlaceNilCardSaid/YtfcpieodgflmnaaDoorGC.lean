/- Two trees whose depths differ by two at most, made one: the program's level. The program's level, at whatever two trees whose depths differ by two at most. The pieces of a text, and the depths of the trees that are stacked of them, in plain words. -/
import Derived.Test.YtfcpieodgflmnaaDoorGB
import Derived.Deep.QuietTactic
import Derived.BigQuiet
namespace Go.Proofs.YtfcpieodgflmnaaDoor
open Go.RowKit

set_option maxRecDepth 100000 in
set_option maxHeartbeats 1000000 in
theorem level_1 (w : World) (ba bb bal bar barl barr ad bd ald ard : Nat) (tal tarl tarr tb : T) (hT : Tabs w)
    (c_ba_5 : w.cell? ⟨ba, 5, none⟩ = some (.int .i64 (ad : Nat))) (c_ba_6 : w.cell? ⟨ba, 6, none⟩ = some (.pointer (some ⟨bal, 0, none⟩))) (c_ba_7 : w.cell? ⟨ba, 7, none⟩ = some (.pointer (some ⟨bar, 0, none⟩))) (c_bb_5 : w.cell? ⟨bb, 5, none⟩ = some (.int .i64 (bd : Nat))) (c_bal_5 : w.cell? ⟨bal, 5, none⟩ = some (.int .i64 (ald : Nat))) (c_bar_5 : w.cell? ⟨bar, 5, none⟩ = some (.int .i64 (ard : Nat))) (c_bar_6 : w.cell? ⟨bar, 6, none⟩ = some (.pointer (some ⟨barl, 0, none⟩))) (c_bar_7 : w.cell? ⟨bar, 7, none⟩ = some (.pointer (some ⟨barr, 0, none⟩)))
    (hd1 : (bd : Int) ≤ 1048576) (hd2 : (ad : Int) ≤ 1048576) (h1 : (bd : Int) + 1 < ad) (h2 : (ald : Int) < ard)
    (P1 : ∀ W, Up w W → Tabs W → Calls Tryd.prog 54 #[.pointer (some ⟨bal, 0, none⟩), .pointer (some ⟨barl, 0, none⟩)] W (NewT (.node tal tarl) W))
    (P2 : ∀ W, Up w W → Tabs W → Calls Tryd.prog 54 #[.pointer (some ⟨barr, 0, none⟩), .pointer (some ⟨bb, 0, none⟩)] W (NewT (.node tarr tb) W))
    (P3 : ∀ W b1 b2, Tabs W → Node W (.node tal tarl) b1 → Node W (.node tarr tb) b2 → Calls Tryd.prog 54 #[.pointer (some ⟨b1, 0, none⟩), .pointer (some ⟨b2, 0, none⟩)] W (NewT (.node (.node tal tarl) (.node tarr tb)) W)) :
    Calls Tryd.prog 53 #[.pointer (some ⟨ba, 0, none⟩), .pointer (some ⟨bb, 0, none⟩)] w (NewT (.node (.node tal tarl) (.node tarr tb)) w) := by
  have e1 : IntKind.i64.wrap ((bd : Int) + 1) = (bd : Int) + 1 := IntWalk.i64_in _ (by omega)
  have e2 : IntKind.i64.wrap ((ad : Int) + 1) = (ad : Int) + 1 := IntWalk.i64_in _ (by omega)
  have HP1 := Lib.hid P1
  have HP2 := Lib.hid P2
  have HP3 := Lib.hid P3
  clear P1 P2 P3 hd1 hd2
  go_enter Tryd.func53, Tryd.ntmps53
  go_wp2_with fail
  go_quiet (fail)
  obtain ⟨q0, rfl⟩ : ∃ q : Nat, q = nq := ⟨_, rfl⟩
  go_wp2_with fail
  obtain ⟨W, hWW⟩ : ∃ W, w.drewN q0 = W := ⟨_, rfl⟩
  have huW : Up w W := by rw [← hWW]; exact Up.drewN w _
  have hSW : Up w W ∧ Tabs W ∧ W.cell? ⟨ba, 6, none⟩ = some (.pointer (some ⟨bal, 0, none⟩)) ∧ W.cell? ⟨ba, 7, none⟩ = some (.pointer (some ⟨bar, 0, none⟩)) ∧ W.cell? ⟨bar, 6, none⟩ = some (.pointer (some ⟨barl, 0, none⟩)) ∧ W.cell? ⟨bar, 7, none⟩ = some (.pointer (some ⟨barr, 0, none⟩)) := ⟨huW, hT.up huW, cell_up huW c_ba_6, cell_up huW c_ba_7, cell_up huW c_bar_6, cell_up huW c_bar_7⟩
  rw [hWW]
  clear c_ba_5 c_ba_6 c_ba_7 c_bb_5 c_bal_5 c_bar_5 c_bar_6 c_bar_7 huW hWW e1 e2 hT
  go_region_held3 (fun w' => Up w w' ∧ Tabs w' ∧ w'.cell? ⟨ba, 6, none⟩ = some (.pointer (some ⟨bal, 0, none⟩)) ∧ w'.cell? ⟨ba, 7, none⟩ = some (.pointer (some ⟨bar, 0, none⟩)) ∧ w'.cell? ⟨bar, 6, none⟩ = some (.pointer (some ⟨barl, 0, none⟩)) ∧ w'.cell? ⟨bar, 7, none⟩ = some (.pointer (some ⟨barr, 0, none⟩)))
    (first | assumption | with_reducible exact keep4 hu3 (by assumption) | with_reducible exact keep4 hu2 (by assumption) | with_reducible exact keep4 hu1 (by assumption) | with_reducible exact keep4 (Up.drew _) (by assumption))
    (first | (go_at_call 54; ((with_reducible refine (HP1.out _ ?_ ?_).mono ?_); (exact (by assumption : _ ∧ Tabs _ ∧ _).1); (exact (by assumption : _ ∧ Tabs _ ∧ _).2.1); rintro e w1 ⟨g1, rfl, hn1, hu1⟩)) | (go_at_call 54; ((with_reducible refine (HP2.out _ ?_ ?_).mono ?_); (exact (by assumption : _ ∧ Tabs _ ∧ _).1); (exact (by assumption : _ ∧ Tabs _ ∧ _).2.1); rintro e w2 ⟨g2, rfl, hn2, hu2⟩)) | (go_at_call 54; ((with_reducible refine (HP3.out _ _ _ ?_ ?_ ?_).mono ?_); (exact (by assumption : _ ∧ Tabs _ ∧ _).2.1); (exact hn1.up hu2); (exact hn2); rintro e w3 ⟨g3, rfl, hn3, hu3⟩)))
  have HF := Lib.hid (by assumption : Up w w3 ∧ _).1
  go_wp2
  go_ret
  exact ⟨g3, rfl, hn3, HF.out⟩

set_option maxRecDepth 100000 in
set_option maxHeartbeats 1000000 in
theorem level_2 (w : World) (ba bb bal bar ad bd ald ard : Nat) (tal tar tb : T) (hT : Tabs w)
    (c_ba_5 : w.cell? ⟨ba, 5, none⟩ = some (.int .i64 (ad : Nat))) (c_ba_6 : w.cell? ⟨ba, 6, none⟩ = some (.pointer (some ⟨bal, 0, none⟩))) (c_ba_7 : w.cell? ⟨ba, 7, none⟩ = some (.pointer (some ⟨bar, 0, none⟩))) (c_bb_5 : w.cell? ⟨bb, 5, none⟩ = some (.int .i64 (bd : Nat))) (c_bal_5 : w.cell? ⟨bal, 5, none⟩ = some (.int .i64 (ald : Nat))) (c_bar_5 : w.cell? ⟨bar, 5, none⟩ = some (.int .i64 (ard : Nat)))
    (hd1 : (bd : Int) ≤ 1048576) (hd2 : (ad : Int) ≤ 1048576) (h1 : (bd : Int) + 1 < ad) (h2 : (ard : Int) ≤ ald)
    (P1 : ∀ W, Up w W → Tabs W → Calls Tryd.prog 54 #[.pointer (some ⟨bar, 0, none⟩), .pointer (some ⟨bb, 0, none⟩)] W (NewT (.node tar tb) W))
    (P2 : ∀ W b2, Up w W → Tabs W → Node W (.node tar tb) b2 → Calls Tryd.prog 54 #[.pointer (some ⟨bal, 0, none⟩), .pointer (some ⟨b2, 0, none⟩)] W (NewT (.node tal (.node tar tb)) W)) :
    Calls Tryd.prog 53 #[.pointer (some ⟨ba, 0, none⟩), .pointer (some ⟨bb, 0, none⟩)] w (NewT (.node tal (.node tar tb)) w) := by
  have e1 : IntKind.i64.wrap ((bd : Int) + 1) = (bd : Int) + 1 := IntWalk.i64_in _ (by omega)
  have e2 : IntKind.i64.wrap ((ad : Int) + 1) = (ad : Int) + 1 := IntWalk.i64_in _ (by omega)
  have HP1 := Lib.hid P1
  have HP2 := Lib.hid P2
  clear P1 P2 hd1 hd2
  have f2 : decide ((ald : Int) < ard) = false := by simpa using h2
  go_enter Tryd.func53, Tryd.ntmps53
  go_wp2_with fail
  go_quiet (fail)
  obtain ⟨q0, rfl⟩ : ∃ q : Nat, q = nq := ⟨_, rfl⟩
  go_wp2_with fail
  go_quiet (fail)
  obtain ⟨q1, rfl⟩ : ∃ q : Nat, q = nq := ⟨_, rfl⟩
  go_wp2_with fail
  obtain ⟨W, hWW⟩ : ∃ W, (w.drewN q0).drewN q1 = W := ⟨_, rfl⟩
  have huW : Up w W := by rw [← hWW]; exact (Up.drewN w _).trans (Up.drewN _ _)
  have hSW : Up w W ∧ Tabs W ∧ W.cell? ⟨ba, 6, none⟩ = some (.pointer (some ⟨bal, 0, none⟩)) ∧ W.cell? ⟨ba, 7, none⟩ = some (.pointer (some ⟨bar, 0, none⟩)) := ⟨huW, hT.up huW, cell_up huW c_ba_6, cell_up huW c_ba_7⟩
  rw [hWW]
  clear c_ba_5 c_ba_6 c_ba_7 c_bb_5 c_bal_5 c_bar_5 huW hWW e1 e2 hT
  go_region_held3 (fun w' => Up w w' ∧ Tabs w' ∧ w'.cell? ⟨ba, 6, none⟩ = some (.pointer (some ⟨bal, 0, none⟩)) ∧ w'.cell? ⟨ba, 7, none⟩ = some (.pointer (some ⟨bar, 0, none⟩)))
    (first | assumption | with_reducible exact keep2 hu2 (by assumption) | with_reducible exact keep2 hu1 (by assumption) | with_reducible exact keep2 (Up.drew _) (by assumption))
    (first | (go_at_call 54; ((with_reducible refine (HP1.out _ ?_ ?_).mono ?_); (exact (by assumption : _ ∧ Tabs _ ∧ _).1); (exact (by assumption : _ ∧ Tabs _ ∧ _).2.1); rintro e w1 ⟨g1, rfl, hn1, hu1⟩)) | (go_at_call 54; ((with_reducible refine (HP2.out _ _ ?_ ?_ ?_).mono ?_); (exact (by assumption : _ ∧ Tabs _ ∧ _).1); (exact (by assumption : _ ∧ Tabs _ ∧ _).2.1); (exact hn1); rintro e w2 ⟨g2, rfl, hn2, hu2⟩)))
  have HF := Lib.hid (by assumption : Up w w2 ∧ _).1
  go_wp2
  go_ret
  exact ⟨g2, rfl, hn2, HF.out⟩

set_option maxRecDepth 100000 in
set_option maxHeartbeats 1000000 in
theorem level_3 (w : World) (ba bb bbl bbr bbll bblr ad bd bld brd : Nat) (ta tbll tblr tbr : T) (hT : Tabs w)
    (c_ba_5 : w.cell? ⟨ba, 5, none⟩ = some (.int .i64 (ad : Nat))) (c_bb_5 : w.cell? ⟨bb, 5, none⟩ = some (.int .i64 (bd : Nat))) (c_bb_6 : w.cell? ⟨bb, 6, none⟩ = some (.pointer (some ⟨bbl, 0, none⟩))) (c_bb_7 : w.cell? ⟨bb, 7, none⟩ = some (.pointer (some ⟨bbr, 0, none⟩))) (c_bbl_5 : w.cell? ⟨bbl, 5, none⟩ = some (.int .i64 (bld : Nat))) (c_bbr_5 : w.cell? ⟨bbr, 5, none⟩ = some (.int .i64 (brd : Nat))) (c_bbl_6 : w.cell? ⟨bbl, 6, none⟩ = some (.pointer (some ⟨bbll, 0, none⟩))) (c_bbl_7 : w.cell? ⟨bbl, 7, none⟩ = some (.pointer (some ⟨bblr, 0, none⟩)))
    (hd1 : (bd : Int) ≤ 1048576) (hd2 : (ad : Int) ≤ 1048576) (h0 : (ad : Int) ≤ bd + 1) (h1 : (ad : Int) + 1 < bd) (h2 : (brd : Int) < bld)
    (P1 : ∀ W, Up w W → Tabs W → Calls Tryd.prog 54 #[.pointer (some ⟨ba, 0, none⟩), .pointer (some ⟨bbll, 0, none⟩)] W (NewT (.node ta tbll) W))
    (P2 : ∀ W, Up w W → Tabs W → Calls Tryd.prog 54 #[.pointer (some ⟨bblr, 0, none⟩), .pointer (some ⟨bbr, 0, none⟩)] W (NewT (.node tblr tbr) W))
    (P3 : ∀ W b1 b2, Tabs W → Node W (.node ta tbll) b1 → Node W (.node tblr tbr) b2 → Calls Tryd.prog 54 #[.pointer (some ⟨b1, 0, none⟩), .pointer (some ⟨b2, 0, none⟩)] W (NewT (.node (.node ta tbll) (.node tblr tbr)) W)) :
    Calls Tryd.prog 53 #[.pointer (some ⟨ba, 0, none⟩), .pointer (some ⟨bb, 0, none⟩)] w (NewT (.node (.node ta tbll) (.node tblr tbr)) w) := by
  have e1 : IntKind.i64.wrap ((bd : Int) + 1) = (bd : Int) + 1 := IntWalk.i64_in _ (by omega)
  have e2 : IntKind.i64.wrap ((ad : Int) + 1) = (ad : Int) + 1 := IntWalk.i64_in _ (by omega)
  have HP1 := Lib.hid P1
  have HP2 := Lib.hid P2
  have HP3 := Lib.hid P3
  clear P1 P2 P3 hd1 hd2
  have f1 : decide ((bd : Int) + 1 < ad) = false := by simpa using h0
  go_enter Tryd.func53, Tryd.ntmps53
  go_wp2_with fail
  go_quiet (fail)
  obtain ⟨q0, rfl⟩ : ∃ q : Nat, q = nq := ⟨_, rfl⟩
  go_wp2_with fail
  go_quiet (fail)
  obtain ⟨q1, rfl⟩ : ∃ q : Nat, q = nq := ⟨_, rfl⟩
  go_wp2_with fail
  go_quiet (fail)
  obtain ⟨q2, rfl⟩ : ∃ q : Nat, q = nq := ⟨_, rfl⟩
  go_wp2_with fail
  obtain ⟨W, hWW⟩ : ∃ W, ((w.drewN q0).drewN q1).drewN q2 = W := ⟨_, rfl⟩
  have huW : Up w W := by rw [← hWW]; exact ((Up.drewN w _).trans (Up.drewN _ _)).trans (Up.drewN _ _)
  have hSW : Up w W ∧ Tabs W ∧ W.cell? ⟨bb, 6, none⟩ = some (.pointer (some ⟨bbl, 0, none⟩)) ∧ W.cell? ⟨bb, 7, none⟩ = some (.pointer (some ⟨bbr, 0, none⟩)) ∧ W.cell? ⟨bbl, 6, none⟩ = some (.pointer (some ⟨bbll, 0, none⟩)) ∧ W.cell? ⟨bbl, 7, none⟩ = some (.pointer (some ⟨bblr, 0, none⟩)) := ⟨huW, hT.up huW, cell_up huW c_bb_6, cell_up huW c_bb_7, cell_up huW c_bbl_6, cell_up huW c_bbl_7⟩
  rw [hWW]
  clear c_ba_5 c_bb_5 c_bb_6 c_bb_7 c_bbl_5 c_bbr_5 c_bbl_6 c_bbl_7 huW hWW e1 e2 hT
  go_region_held3 (fun w' => Up w w' ∧ Tabs w' ∧ w'.cell? ⟨bb, 6, none⟩ = some (.pointer (some ⟨bbl, 0, none⟩)) ∧ w'.cell? ⟨bb, 7, none⟩ = some (.pointer (some ⟨bbr, 0, none⟩)) ∧ w'.cell? ⟨bbl, 6, none⟩ = some (.pointer (some ⟨bbll, 0, none⟩)) ∧ w'.cell? ⟨bbl, 7, none⟩ = some (.pointer (some ⟨bblr, 0, none⟩)))
    (first | assumption | with_reducible exact keep4 hu3 (by assumption) | with_reducible exact keep4 hu2 (by assumption) | with_reducible exact keep4 hu1 (by assumption) | with_reducible exact keep4 (Up.drew _) (by assumption))
    (first | (go_at_call 54; ((with_reducible refine (HP1.out _ ?_ ?_).mono ?_); (exact (by assumption : _ ∧ Tabs _ ∧ _).1); (exact (by assumption : _ ∧ Tabs _ ∧ _).2.1); rintro e w1 ⟨g1, rfl, hn1, hu1⟩)) | (go_at_call 54; ((with_reducible refine (HP2.out _ ?_ ?_).mono ?_); (exact (by assumption : _ ∧ Tabs _ ∧ _).1); (exact (by assumption : _ ∧ Tabs _ ∧ _).2.1); rintro e w2 ⟨g2, rfl, hn2, hu2⟩)) | (go_at_call 54; ((with_reducible refine (HP3.out _ _ _ ?_ ?_ ?_).mono ?_); (exact (by assumption : _ ∧ Tabs _ ∧ _).2.1); (exact hn1.up hu2); (exact hn2); rintro e w3 ⟨g3, rfl, hn3, hu3⟩)))
  have HF := Lib.hid (by assumption : Up w w3 ∧ _).1
  go_wp2
  go_ret
  exact ⟨g3, rfl, hn3, HF.out⟩

set_option maxRecDepth 100000 in
set_option maxHeartbeats 1000000 in
theorem level_4 (w : World) (ba bb bbl bbr ad bd bld brd : Nat) (ta tbl tbr : T) (hT : Tabs w)
    (c_ba_5 : w.cell? ⟨ba, 5, none⟩ = some (.int .i64 (ad : Nat))) (c_bb_5 : w.cell? ⟨bb, 5, none⟩ = some (.int .i64 (bd : Nat))) (c_bb_6 : w.cell? ⟨bb, 6, none⟩ = some (.pointer (some ⟨bbl, 0, none⟩))) (c_bb_7 : w.cell? ⟨bb, 7, none⟩ = some (.pointer (some ⟨bbr, 0, none⟩))) (c_bbl_5 : w.cell? ⟨bbl, 5, none⟩ = some (.int .i64 (bld : Nat))) (c_bbr_5 : w.cell? ⟨bbr, 5, none⟩ = some (.int .i64 (brd : Nat)))
    (hd1 : (bd : Int) ≤ 1048576) (hd2 : (ad : Int) ≤ 1048576) (h0 : (ad : Int) ≤ bd + 1) (h1 : (ad : Int) + 1 < bd) (h2 : (bld : Int) ≤ brd)
    (P1 : ∀ W, Up w W → Tabs W → Calls Tryd.prog 54 #[.pointer (some ⟨ba, 0, none⟩), .pointer (some ⟨bbl, 0, none⟩)] W (NewT (.node ta tbl) W))
    (P2 : ∀ W b1, Up w W → Tabs W → Node W (.node ta tbl) b1 → Calls Tryd.prog 54 #[.pointer (some ⟨b1, 0, none⟩), .pointer (some ⟨bbr, 0, none⟩)] W (NewT (.node (.node ta tbl) tbr) W)) :
    Calls Tryd.prog 53 #[.pointer (some ⟨ba, 0, none⟩), .pointer (some ⟨bb, 0, none⟩)] w (NewT (.node (.node ta tbl) tbr) w) := by
  have e1 : IntKind.i64.wrap ((bd : Int) + 1) = (bd : Int) + 1 := IntWalk.i64_in _ (by omega)
  have e2 : IntKind.i64.wrap ((ad : Int) + 1) = (ad : Int) + 1 := IntWalk.i64_in _ (by omega)
  have HP1 := Lib.hid P1
  have HP2 := Lib.hid P2
  clear P1 P2 hd1 hd2
  have f1 : decide ((bd : Int) + 1 < ad) = false := by simpa using h0
  have f2 : decide ((brd : Int) < bld) = false := by simpa using h2
  go_enter Tryd.func53, Tryd.ntmps53
  go_wp2_with fail
  go_quiet (fail)
  obtain ⟨q0, rfl⟩ : ∃ q : Nat, q = nq := ⟨_, rfl⟩
  go_wp2_with fail
  go_quiet (fail)
  obtain ⟨q1, rfl⟩ : ∃ q : Nat, q = nq := ⟨_, rfl⟩
  go_wp2_with fail
  go_quiet (fail)
  obtain ⟨q2, rfl⟩ : ∃ q : Nat, q = nq := ⟨_, rfl⟩
  go_wp2_with fail
  go_quiet (fail)
  obtain ⟨q3, rfl⟩ : ∃ q : Nat, q = nq := ⟨_, rfl⟩
  go_wp2_with fail
  obtain ⟨W, hWW⟩ : ∃ W, (((w.drewN q0).drewN q1).drewN q2).drewN q3 = W := ⟨_, rfl⟩
  have huW : Up w W := by rw [← hWW]; exact (((Up.drewN w _).trans (Up.drewN _ _)).trans (Up.drewN _ _)).trans (Up.drewN _ _)
  have hSW : Up w W ∧ Tabs W ∧ W.cell? ⟨bb, 6, none⟩ = some (.pointer (some ⟨bbl, 0, none⟩)) ∧ W.cell? ⟨bb, 7, none⟩ = some (.pointer (some ⟨bbr, 0, none⟩)) := ⟨huW, hT.up huW, cell_up huW c_bb_6, cell_up huW c_bb_7⟩
  rw [hWW]
  clear c_ba_5 c_bb_5 c_bb_6 c_bb_7 c_bbl_5 c_bbr_5 huW hWW e1 e2 hT
  go_region_held3 (fun w' => Up w w' ∧ Tabs w' ∧ w'.cell? ⟨bb, 6, none⟩ = some (.pointer (some ⟨bbl, 0, none⟩)) ∧ w'.cell? ⟨bb, 7, none⟩ = some (.pointer (some ⟨bbr, 0, none⟩)))
    (first | assumption | with_reducible exact keep2 hu2 (by assumption) | with_reducible exact keep2 hu1 (by assumption) | with_reducible exact keep2 (Up.drew _) (by assumption))
    (first | (go_at_call 54; ((with_reducible refine (HP1.out _ ?_ ?_).mono ?_); (exact (by assumption : _ ∧ Tabs _ ∧ _).1); (exact (by assumption : _ ∧ Tabs _ ∧ _).2.1); rintro e w1 ⟨g1, rfl, hn1, hu1⟩)) | (go_at_call 54; ((with_reducible refine (HP2.out _ _ ?_ ?_ ?_).mono ?_); (exact (by assumption : _ ∧ Tabs _ ∧ _).1); (exact (by assumption : _ ∧ Tabs _ ∧ _).2.1); (exact hn1); rintro e w2 ⟨g2, rfl, hn2, hu2⟩)))
  have HF := Lib.hid (by assumption : Up w w2 ∧ _).1
  go_wp2
  go_ret
  exact ⟨g2, rfl, hn2, HF.out⟩

set_option maxRecDepth 100000 in
set_option maxHeartbeats 1000000 in
theorem level_5 (w : World) (ba bb ad bd : Nat) (ta tb : T) (hT : Tabs w)
    (c_ba_5 : w.cell? ⟨ba, 5, none⟩ = some (.int .i64 (ad : Nat))) (c_bb_5 : w.cell? ⟨bb, 5, none⟩ = some (.int .i64 (bd : Nat)))
    (hd1 : (bd : Int) ≤ 1048576) (hd2 : (ad : Int) ≤ 1048576) (h0 : (ad : Int) ≤ bd + 1) (h1 : (bd : Int) ≤ ad + 1)
    (P1 : ∀ W, Up w W → Tabs W → Calls Tryd.prog 54 #[.pointer (some ⟨ba, 0, none⟩), .pointer (some ⟨bb, 0, none⟩)] W (NewT (.node ta tb) W)) :
    Calls Tryd.prog 53 #[.pointer (some ⟨ba, 0, none⟩), .pointer (some ⟨bb, 0, none⟩)] w (NewT (.node ta tb) w) := by
  have e1 : IntKind.i64.wrap ((bd : Int) + 1) = (bd : Int) + 1 := IntWalk.i64_in _ (by omega)
  have e2 : IntKind.i64.wrap ((ad : Int) + 1) = (ad : Int) + 1 := IntWalk.i64_in _ (by omega)
  have HP1 := Lib.hid P1
  clear P1 hd1 hd2
  have f1 : decide ((bd : Int) + 1 < ad) = false := by simpa using h0
  have f3 : decide ((ad : Int) + 1 < bd) = false := by simpa using h1
  go_enter Tryd.func53, Tryd.ntmps53
  go_wp2_with fail
  go_quiet (fail)
  obtain ⟨q0, rfl⟩ : ∃ q : Nat, q = nq := ⟨_, rfl⟩
  go_wp2_with fail
  go_quiet (fail)
  obtain ⟨q1, rfl⟩ : ∃ q : Nat, q = nq := ⟨_, rfl⟩
  go_wp2_with fail
  go_quiet (fail)
  obtain ⟨q2, rfl⟩ : ∃ q : Nat, q = nq := ⟨_, rfl⟩
  go_wp2_with fail
  go_quiet (fail)
  obtain ⟨q3, rfl⟩ : ∃ q : Nat, q = nq := ⟨_, rfl⟩
  go_wp2_with (go_at_call 54; refine (HP1.out _ (Up.drewN w _) (hT.up (Up.drewN w _))).mono ?_; rintro e w1 ⟨g1, rfl, hn1, hu1⟩)
  go_ret
  exact ⟨g1, rfl, hn1, (Up.drewN w _).trans hu1⟩

end Go.Proofs.YtfcpieodgflmnaaDoor

namespace Go.Proofs.YtfcpieodgflmnaaDoor
open Go.RowKit

theorem dp_small {t : T} (h : Big t) (hs : (t.text.size : Int) ≤ 1048576) : t.dp ≤ 25 := by
  have h1 := leaves_dp h
  by_cases hd : t.dp ≤ 25
  · exact hd
  · exfalso
    have : 2 ^ 13 ≤ 2 ^ (t.dp / 2) := Nat.pow_le_pow_right (by omega) (by omega)
    omega
theorem pair_big {ta tb : T} {b1 b2 : Nat} {w : World} (n1 : Node w ta b1) (n2 : Node w tb b2) (ha : Big ta) (hb : Big tb) (hs : (ta.text.size : Int) + tb.text.size ≤ 1048576) (hT : Tabs w) :
    Calls Tryd.prog 54 #[.pointer (some ⟨b1, 0, none⟩), .pointer (some ⟨b2, 0, none⟩)] w (NewT (.node ta tb) w) := by
  have := ha.size
  have := hb.size
  have := dp_small ha (by omega)
  have := dp_small hb (by omega)
  exact pair_any ta tb b1 b2 w n1 n2 (by omega) (by omega) hs (by omega) (by omega) hT
theorem Node.mk {w : World} {l r : T} {b : Nat} (h : Node w (.node l r) b) : ∃ bl br, w.heap[b]? = some (.cells (ncells (l.text ++ r.text) (1 + max l.dp r.dp) (.pointer (some ⟨bl, 0, none⟩)) (.pointer (some ⟨br, 0, none⟩)) ⟨#[]⟩) 92) ∧ Node w l bl ∧ Node w r br := h.2
theorem Node.dpth {w : World} {t : T} {b : Nat} (h : Node w t b) : w.cell? ⟨b, 5, none⟩ = some (.int .i64 (t.dp : Nat)) := by
  obtain ⟨l, r, c⟩ := node_cell h
  exact cellOf c rfl

theorem level_any {ta tb : T} {b1 b2 : Nat} {w : World} (n1 : Node w ta b1) (n2 : Node w tb b2) (ha : Big ta) (hb : Big tb) (hs : (ta.text.size : Int) + tb.text.size ≤ 1048576) (d1 : ta.dp ≤ tb.dp + 2) (d2 : tb.dp ≤ ta.dp + 2) (hT : Tabs w) :
    Calls Tryd.prog 53 #[.pointer (some ⟨b1, 0, none⟩), .pointer (some ⟨b2, 0, none⟩)] w (NewT (lev ta tb) w) := by
  have s1 := ha.size
  have s2 := hb.size
  have e1 := dp_small ha (by omega)
  have e2 := dp_small hb (by omega)
  have pa := ta.dp_pos
  have pb := tb.dp_pos
  by_cases c1 : tb.dp + 1 < ta.dp
  · obtain ⟨al, ar, rfl⟩ := not_leaf (t := ta) (by omega)
    obtain ⟨bl, br, hc, nl, nr⟩ := n1.mk
    obtain ⟨hal, har, x1, x2⟩ := ha
    have sl := hal.size
    have sr := har.size
    rw [T.text_node, ByteArray.size_append] at hs
    have pal := al.dp_pos
    by_cases c2 : al.dp < ar.dp
    · obtain ⟨arl, arr, rfl⟩ := not_leaf (t := ar) (by omega)
      obtain ⟨brl, brr, hc2, nrl, nrr⟩ := nr.mk
      obtain ⟨harl, harr, x3, x4⟩ := har
      have y1 := harl.size
      have y2 := harr.size
      rw [T.text_node, ByteArray.size_append] at hs
      rw [lev_left2 c1 c2]
      have g1 : Big (.node al arl) := big_node hal harl (by simp only [T.dp_node] at *; omega) (by simp only [T.dp_node] at *; omega)
      have g2 : Big (.node arr tb) := big_node harr hb (by simp only [T.dp_node] at *; omega) (by simp only [T.dp_node] at *; omega)
      refine level_1 w b1 b2 bl br brl brr (T.node al (T.node arl arr)).dp tb.dp al.dp (T.node arl arr).dp al arl arr tb hT n1.dpth (cellOf hc rfl) (cellOf hc rfl) n2.dpth nl.dpth nr.dpth (cellOf hc2 rfl) (cellOf hc2 rfl) (by omega) (by omega) (by omega) (by omega)
        (fun W hu ht => pair_big (nl.up hu) (nrl.up hu) hal harl (by omega) ht) (fun W hu ht => pair_big (nrr.up hu) (n2.up hu) harr hb (by omega) ht)
        (fun W q1 q2 ht m1 m2 => pair_big m1 m2 g1 g2 (by simp only [T.text_node, ByteArray.size_append]; omega) ht)
    · rw [lev_left c1 c2]
      have g1 : Big (.node ar tb) := big_node har hb (by simp only [T.dp_node] at *; omega) (by simp only [T.dp_node] at *; omega)
      exact level_2 w b1 b2 bl br (T.node al ar).dp tb.dp al.dp ar.dp al ar tb hT n1.dpth (cellOf hc rfl) (cellOf hc rfl) n2.dpth nl.dpth nr.dpth (by omega) (by omega) (by omega) (by omega)
        (fun W hu ht => pair_big (nr.up hu) (n2.up hu) har hb (by omega) ht) (fun W q2 hu ht m2 => pair_big (nl.up hu) m2 hal g1 (by simp only [T.text_node, ByteArray.size_append]; omega) ht)
  · by_cases c3 : ta.dp + 1 < tb.dp
    · obtain ⟨bl, br, rfl⟩ := not_leaf (t := tb) (by omega)
      obtain ⟨bbl, bbr, hc, nl, nr⟩ := n2.mk
      obtain ⟨hbl, hbr, x1, x2⟩ := hb
      have sl := hbl.size
      have sr := hbr.size
      rw [T.text_node, ByteArray.size_append] at hs
      have pbr := br.dp_pos
      by_cases c2 : br.dp < bl.dp
      · obtain ⟨bll, blr, rfl⟩ := not_leaf (t := bl) (by omega)
        obtain ⟨bbll, bblr, hc2, nll, nlr⟩ := nl.mk
        obtain ⟨hbll, hblr, x3, x4⟩ := hbl
        have y1 := hbll.size
        have y2 := hblr.size
        rw [T.text_node, ByteArray.size_append] at hs
        rw [lev_right2 c1 c3 c2]
        have g1 : Big (.node ta bll) := big_node ha hbll (by simp only [T.dp_node] at *; omega) (by simp only [T.dp_node] at *; omega)
        have g2 : Big (.node blr br) := big_node hblr hbr (by simp only [T.dp_node] at *; omega) (by simp only [T.dp_node] at *; omega)
        exact level_3 w b1 b2 bbl bbr bbll bblr ta.dp (T.node (T.node bll blr) br).dp (T.node bll blr).dp br.dp ta bll blr br hT n1.dpth n2.dpth (cellOf hc rfl) (cellOf hc rfl) nl.dpth nr.dpth (cellOf hc2 rfl) (cellOf hc2 rfl) (by omega) (by omega) (by omega) (by omega) (by omega)
          (fun W hu ht => pair_big (n1.up hu) (nll.up hu) ha hbll (by omega) ht) (fun W hu ht => pair_big (nlr.up hu) (nr.up hu) hblr hbr (by omega) ht)
          (fun W q1 q2 ht m1 m2 => pair_big m1 m2 g1 g2 (by simp only [T.text_node, ByteArray.size_append]; omega) ht)
      · rw [lev_right c1 c3 c2]
        have g1 : Big (.node ta bl) := big_node ha hbl (by simp only [T.dp_node] at *; omega) (by simp only [T.dp_node] at *; omega)
        exact level_4 w b1 b2 bbl bbr ta.dp (T.node bl br).dp bl.dp br.dp ta bl br hT n1.dpth n2.dpth (cellOf hc rfl) (cellOf hc rfl) nl.dpth nr.dpth (by omega) (by omega) (by omega) (by omega) (by omega)
          (fun W hu ht => pair_big (n1.up hu) (nl.up hu) ha hbl (by omega) ht) (fun W q1 hu ht m1 => pair_big m1 (nr.up hu) g1 hbr (by simp only [T.text_node, ByteArray.size_append]; omega) ht)
    · rw [lev_mid c1 c3]
      exact level_5 w b1 b2 ta.dp tb.dp ta tb hT n1.dpth n2.dpth (by omega) (by omega) (by omega) (by omega) (fun W hu ht => pair_big (n1.up hu) (n2.up hu) ha hb hs ht)
end Go.Proofs.YtfcpieodgflmnaaDoor

namespace Go.Proofs.YtfcpieodgflmnaaDoor

def cat : List ByteArray → ByteArray
  | [] => ⟨#[]⟩
  | x :: l => x ++ cat l
theorem cat_append (l m : List ByteArray) : cat (l ++ m) = cat l ++ cat m := by
  induction l with
  | nil => show cat m = ByteArray.empty ++ cat m; rw [ByteArray.empty_append]
  | cons x l ih => show x ++ cat (l ++ m) = (x ++ cat l) ++ cat m; rw [ih, ByteArray.append_assoc]
theorem cat_one (x : ByteArray) : cat [x] = x := by
  show x ++ ByteArray.empty = x
  exact ByteArray.append_empty

/-- How deep a tree of n leaves is. -/
def dn (n : Nat) : Nat := if n ≤ 1 then n else 1 + max (dn (n / 2)) (dn (n - n / 2))
decreasing_by all_goals omega
theorem dn_one : dn 1 = 1 := by rw [dn]; rfl
theorem dn_step (n : Nat) (h : 2 ≤ n) : dn n = 1 + max (dn (n / 2)) (dn (n - n / 2)) := by
  conv => lhs; rw [dn]
  rw [if_neg (by omega)]
theorem dn_next : ∀ n, 1 ≤ n → dn n ≤ dn (n + 1) ∧ dn (n + 1) ≤ dn n + 1 := by
  intro n
  induction n using Nat.strongRecOn with
  | ind n ih =>
    intro h
    by_cases h1 : n = 1
    · subst h1
      have h2 : dn 2 = 2 := by rw [dn_step 2 (by omega)]; simp [dn_one]
      rw [dn_one, h2]; omega
    · have e1 := dn_step n (by omega)
      have e2 := dn_step (n + 1) (by omega)
      have a := ih (n / 2) (by omega) (by omega)
      by_cases hp : n % 2 = 0
      · have q1 : n - n / 2 = n / 2 := by omega
        have q2 : (n + 1) / 2 = n / 2 := by omega
        have q3 : n + 1 - n / 2 = n / 2 + 1 := by omega
        rw [q1] at e1
        rw [q2, q3] at e2
        omega
      · have q1 : n - n / 2 = n / 2 + 1 := by omega
        have q2 : (n + 1) / 2 = n / 2 + 1 := by omega
        have q3 : n + 1 - (n / 2 + 1) = n / 2 + 1 := by omega
        rw [q1] at e1
        rw [q2, q3] at e2
        omega
theorem dn_halves (n : Nat) (h : 2 ≤ n) : dn (n / 2) ≤ dn (n - n / 2) ∧ dn (n - n / 2) ≤ dn (n / 2) + 1 := by
  have a := dn_next (n / 2) (by omega)
  by_cases hp : n % 2 = 0
  · rw [show n - n / 2 = n / 2 from by omega]; omega
  · rw [show n - n / 2 = n / 2 + 1 from by omega]; exact a
theorem dn_pos (n : Nat) (h : 1 ≤ n) : 1 ≤ dn n := by
  rw [dn]; split <;> omega
theorem dn_le (n : Nat) : dn n ≤ n := by
  induction n using Nat.strongRecOn with
  | ind n ih =>
    rw [dn]
    split
    · omega
    · have a := ih (n / 2) (by omega)
      have b := ih (n - n / 2) (by omega)
      omega

def Piece (x : ByteArray) : Prop := 256 ≤ x.size ∧ x.size ≤ 512
/-- A tree stacked of leaves. -/
def StkSpec (ts : List ByteArray) (t : T) : Prop := t.text = cat ts ∧ t.dp = dn ts.length ∧ ((∀ x ∈ ts, Piece x) → Big t) ∧ (∀ x, ts = [x] → t = .leaf x)
theorem stk_one (x : ByteArray) : StkSpec [x] (.leaf x) :=
  ⟨(cat_one x).symm, by show 1 = dn 1; rw [dn_one], fun h => h x (by simp), fun y h => by injection h with h; rw [h]⟩
theorem stk_two {l m : List ByteArray} {a b : T} (ha : StkSpec l a) (hb : StkSpec m b) (hl : l.length = (l.length + m.length) / 2) (h2 : 2 ≤ l.length + m.length) : StkSpec (l ++ m) (.node a b) := by
  obtain ⟨a1, a2, a3, _⟩ := ha
  obtain ⟨b1, b2, b3, _⟩ := hb
  have hd := dn_halves (l.length + m.length) h2
  rw [← hl, show l.length + m.length - l.length = m.length from by omega] at hd
  refine ⟨?_, ?_, ?_, ?_⟩
  · rw [T.text_node, cat_append, a1, b1]
  · rw [T.dp_node, a2, b2, List.length_append, dn_step _ h2, ← hl, show l.length + m.length - l.length = m.length from by omega]
  · intro h
    exact big_node (a3 fun x hx => h x (List.mem_append.2 (.inl hx))) (b3 fun x hx => h x (List.mem_append.2 (.inr hx))) (by omega) (by omega)
  · intro x hx
    have := congrArg List.length hx
    simp at this
    omega

theorem cat_size_le {ts : List ByteArray} : ∀ x ∈ ts, x.size ≤ (cat ts).size := by
  induction ts with
  | nil => intro x h; cases h
  | cons y l ih =>
    intro x h
    show x.size ≤ (y ++ cat l).size
    rw [ByteArray.size_append]
    rcases List.mem_cons.1 h with rfl | h
    · omega
    · have := ih x h; omega
theorem cat_pieces {ts : List ByteArray} (h : ∀ x ∈ ts, Piece x) : 256 * ts.length ≤ (cat ts).size := by
  induction ts with
  | nil => simp
  | cons y l ih =>
    have h1 := ih fun x hx => h x (by simp [hx])
    have h2 := (h y (by simp)).1
    show _ ≤ (y ++ cat l).size
    rw [ByteArray.size_append, List.length_cons]
    omega
end Go.Proofs.YtfcpieodgflmnaaDoor
