/- Two trees whose depths differ by two at most, made one: the program's level. -/
import Derived.Test.YtcbmigkdmmmahaaDoorKeep
import Derived.Deep.QuietTactic
import Derived.BigQuiet
namespace Go.Proofs.YtcbmigkdmmmahaaDoor
open Go.RowKit

set_option maxRecDepth 100000 in
set_option maxHeartbeats 1000000 in
theorem level_1 (w : World) (ba bb bal bar barl barr ad bd ald ard : Nat) (tal tarl tarr tb : T) (hT : Tabs w)
    (c_ba_5 : w.cell? ⟨ba, 5, none⟩ = some (.int .i64 (ad : Nat))) (c_ba_6 : w.cell? ⟨ba, 6, none⟩ = some (.pointer (some ⟨bal, 0, none⟩))) (c_ba_7 : w.cell? ⟨ba, 7, none⟩ = some (.pointer (some ⟨bar, 0, none⟩))) (c_bb_5 : w.cell? ⟨bb, 5, none⟩ = some (.int .i64 (bd : Nat))) (c_bal_5 : w.cell? ⟨bal, 5, none⟩ = some (.int .i64 (ald : Nat))) (c_bar_5 : w.cell? ⟨bar, 5, none⟩ = some (.int .i64 (ard : Nat))) (c_bar_6 : w.cell? ⟨bar, 6, none⟩ = some (.pointer (some ⟨barl, 0, none⟩))) (c_bar_7 : w.cell? ⟨bar, 7, none⟩ = some (.pointer (some ⟨barr, 0, none⟩)))
    (hd1 : (bd : Int) ≤ 1048576) (hd2 : (ad : Int) ≤ 1048576) (h1 : (bd : Int) + 1 < ad) (h2 : (ald : Int) < ard)
    (P1 : ∀ W, Up w W → Tabs W → Calls Tryd.prog 46 #[.pointer (some ⟨bal, 0, none⟩), .pointer (some ⟨barl, 0, none⟩)] W (NewT (.node tal tarl) W))
    (P2 : ∀ W, Up w W → Tabs W → Calls Tryd.prog 46 #[.pointer (some ⟨barr, 0, none⟩), .pointer (some ⟨bb, 0, none⟩)] W (NewT (.node tarr tb) W))
    (P3 : ∀ W b1 b2, Tabs W → Node W (.node tal tarl) b1 → Node W (.node tarr tb) b2 → Calls Tryd.prog 46 #[.pointer (some ⟨b1, 0, none⟩), .pointer (some ⟨b2, 0, none⟩)] W (NewT (.node (.node tal tarl) (.node tarr tb)) W)) :
    Calls Tryd.prog 45 #[.pointer (some ⟨ba, 0, none⟩), .pointer (some ⟨bb, 0, none⟩)] w (NewT (.node (.node tal tarl) (.node tarr tb)) w) := by
  have e1 : IntKind.i64.wrap ((bd : Int) + 1) = (bd : Int) + 1 := IntWalk.i64_in _ (by omega)
  have e2 : IntKind.i64.wrap ((ad : Int) + 1) = (ad : Int) + 1 := IntWalk.i64_in _ (by omega)
  have HP1 := Lib.hid P1
  have HP2 := Lib.hid P2
  have HP3 := Lib.hid P3
  clear P1 P2 P3 hd1 hd2
  go_enter Tryd.func45, Tryd.ntmps45
  go_wp2_with fail
  go_quiet (fail)
  obtain ⟨q0, rfl⟩ : ∃ q : Nat, q = nq := ⟨_, rfl⟩
  go_wp2_with fail
  obtain ⟨W, hWW⟩ : ∃ W, w.drewN q0 = W := ⟨_, rfl⟩
  have huW : Up w W := by rw [← hWW]; exact Up.drewN w _
  have hSW : Up w W ∧ Tabs W ∧ W.cell? ⟨ba, 6, none⟩ = some (.pointer (some ⟨bal, 0, none⟩)) ∧ W.cell? ⟨ba, 7, none⟩ = some (.pointer (some ⟨bar, 0, none⟩)) ∧ W.cell? ⟨bar, 6, none⟩ = some (.pointer (some ⟨barl, 0, none⟩)) ∧ W.cell? ⟨bar, 7, none⟩ = some (.pointer (some ⟨barr, 0, none⟩)) := ⟨huW, hT.up huW, cell_up huW c_ba_6, cell_up huW c_ba_7, cell_up huW c_bar_6, cell_up huW c_bar_7⟩
  rw [hWW]
  clear c_ba_5 c_ba_6 c_ba_7 c_bb_5 c_bal_5 c_bar_5 c_bar_6 c_bar_7 huW hWW e1 e2 hT
  go_region_held3 (fun w' => Up w w' ∧ Tabs w' ∧ w'.cell? ⟨ba, 6, none⟩ = some (.pointer (some ⟨bal, 0, none⟩)) ∧ w'.cell? ⟨ba, 7, none⟩ = some (.pointer (some ⟨bar, 0, none⟩)) ∧ w'.cell? ⟨bar, 6, none⟩ = some (.pointer (some ⟨barl, 0, none⟩)) ∧ w'.cell? ⟨bar, 7, none⟩ = some (.pointer (some ⟨barr, 0, none⟩)))
    (first | assumption | with_reducible exact keep4 hu3 (by assumption) | with_reducible exact keep4 hu2 (by assumption) | with_reducible exact keep4 hu1 (by assumption) | with_reducible exact keep4 (Up.drew _) (by assumption))
    (first | (go_at_call 46; ((with_reducible refine (HP1.out _ ?_ ?_).mono ?_); (exact (by assumption : _ ∧ Tabs _ ∧ _).1); (exact (by assumption : _ ∧ Tabs _ ∧ _).2.1); rintro e w1 ⟨g1, rfl, hn1, hu1⟩)) | (go_at_call 46; ((with_reducible refine (HP2.out _ ?_ ?_).mono ?_); (exact (by assumption : _ ∧ Tabs _ ∧ _).1); (exact (by assumption : _ ∧ Tabs _ ∧ _).2.1); rintro e w2 ⟨g2, rfl, hn2, hu2⟩)) | (go_at_call 46; ((with_reducible refine (HP3.out _ _ _ ?_ ?_ ?_).mono ?_); (exact (by assumption : _ ∧ Tabs _ ∧ _).2.1); (exact hn1.up hu2); (exact hn2); rintro e w3 ⟨g3, rfl, hn3, hu3⟩)))
  have HF := Lib.hid (by assumption : Up w w3 ∧ _).1
  go_wp2
  go_ret
  exact ⟨g3, rfl, hn3, HF.out⟩

set_option maxRecDepth 100000 in
set_option maxHeartbeats 1000000 in
theorem level_2 (w : World) (ba bb bal bar ad bd ald ard : Nat) (tal tar tb : T) (hT : Tabs w)
    (c_ba_5 : w.cell? ⟨ba, 5, none⟩ = some (.int .i64 (ad : Nat))) (c_ba_6 : w.cell? ⟨ba, 6, none⟩ = some (.pointer (some ⟨bal, 0, none⟩))) (c_ba_7 : w.cell? ⟨ba, 7, none⟩ = some (.pointer (some ⟨bar, 0, none⟩))) (c_bb_5 : w.cell? ⟨bb, 5, none⟩ = some (.int .i64 (bd : Nat))) (c_bal_5 : w.cell? ⟨bal, 5, none⟩ = some (.int .i64 (ald : Nat))) (c_bar_5 : w.cell? ⟨bar, 5, none⟩ = some (.int .i64 (ard : Nat)))
    (hd1 : (bd : Int) ≤ 1048576) (hd2 : (ad : Int) ≤ 1048576) (h1 : (bd : Int) + 1 < ad) (h2 : (ard : Int) ≤ ald)
    (P1 : ∀ W, Up w W → Tabs W → Calls Tryd.prog 46 #[.pointer (some ⟨bar, 0, none⟩), .pointer (some ⟨bb, 0, none⟩)] W (NewT (.node tar tb) W))
    (P2 : ∀ W b2, Up w W → Tabs W → Node W (.node tar tb) b2 → Calls Tryd.prog 46 #[.pointer (some ⟨bal, 0, none⟩), .pointer (some ⟨b2, 0, none⟩)] W (NewT (.node tal (.node tar tb)) W)) :
    Calls Tryd.prog 45 #[.pointer (some ⟨ba, 0, none⟩), .pointer (some ⟨bb, 0, none⟩)] w (NewT (.node tal (.node tar tb)) w) := by
  have e1 : IntKind.i64.wrap ((bd : Int) + 1) = (bd : Int) + 1 := IntWalk.i64_in _ (by omega)
  have e2 : IntKind.i64.wrap ((ad : Int) + 1) = (ad : Int) + 1 := IntWalk.i64_in _ (by omega)
  have HP1 := Lib.hid P1
  have HP2 := Lib.hid P2
  clear P1 P2 hd1 hd2
  have f2 : decide ((ald : Int) < ard) = false := by simpa using h2
  go_enter Tryd.func45, Tryd.ntmps45
  go_wp2_with fail
  go_quiet (fail)
  obtain ⟨q0, rfl⟩ : ∃ q : Nat, q = nq := ⟨_, rfl⟩
  go_wp2_with fail
  go_quiet (fail)
  obtain ⟨q1, rfl⟩ : ∃ q : Nat, q = nq := ⟨_, rfl⟩
  go_wp2_with fail
  obtain ⟨W, hWW⟩ : ∃ W, (w.drewN q0).drewN q1 = W := ⟨_, rfl⟩
  have huW : Up w W := by rw [← hWW]; exact (Up.drewN w _).trans (Up.drewN _ _)
  have hSW : Up w W ∧ Tabs W ∧ W.cell? ⟨ba, 6, none⟩ = some (.pointer (some ⟨bal, 0, none⟩)) ∧ W.cell? ⟨ba, 7, none⟩ = some (.pointer (some ⟨bar, 0, none⟩)) := ⟨huW, hT.up huW, cell_up huW c_ba_6, cell_up huW c_ba_7⟩
  rw [hWW]
  clear c_ba_5 c_ba_6 c_ba_7 c_bb_5 c_bal_5 c_bar_5 huW hWW e1 e2 hT
  go_region_held3 (fun w' => Up w w' ∧ Tabs w' ∧ w'.cell? ⟨ba, 6, none⟩ = some (.pointer (some ⟨bal, 0, none⟩)) ∧ w'.cell? ⟨ba, 7, none⟩ = some (.pointer (some ⟨bar, 0, none⟩)))
    (first | assumption | with_reducible exact keep2 hu2 (by assumption) | with_reducible exact keep2 hu1 (by assumption) | with_reducible exact keep2 (Up.drew _) (by assumption))
    (first | (go_at_call 46; ((with_reducible refine (HP1.out _ ?_ ?_).mono ?_); (exact (by assumption : _ ∧ Tabs _ ∧ _).1); (exact (by assumption : _ ∧ Tabs _ ∧ _).2.1); rintro e w1 ⟨g1, rfl, hn1, hu1⟩)) | (go_at_call 46; ((with_reducible refine (HP2.out _ _ ?_ ?_ ?_).mono ?_); (exact (by assumption : _ ∧ Tabs _ ∧ _).1); (exact (by assumption : _ ∧ Tabs _ ∧ _).2.1); (exact hn1); rintro e w2 ⟨g2, rfl, hn2, hu2⟩)))
  have HF := Lib.hid (by assumption : Up w w2 ∧ _).1
  go_wp2
  go_ret
  exact ⟨g2, rfl, hn2, HF.out⟩

set_option maxRecDepth 100000 in
set_option maxHeartbeats 1000000 in
theorem level_3 (w : World) (ba bb bbl bbr bbll bblr ad bd bld brd : Nat) (ta tbll tblr tbr : T) (hT : Tabs w)
    (c_ba_5 : w.cell? ⟨ba, 5, none⟩ = some (.int .i64 (ad : Nat))) (c_bb_5 : w.cell? ⟨bb, 5, none⟩ = some (.int .i64 (bd : Nat))) (c_bb_6 : w.cell? ⟨bb, 6, none⟩ = some (.pointer (some ⟨bbl, 0, none⟩))) (c_bb_7 : w.cell? ⟨bb, 7, none⟩ = some (.pointer (some ⟨bbr, 0, none⟩))) (c_bbl_5 : w.cell? ⟨bbl, 5, none⟩ = some (.int .i64 (bld : Nat))) (c_bbr_5 : w.cell? ⟨bbr, 5, none⟩ = some (.int .i64 (brd : Nat))) (c_bbl_6 : w.cell? ⟨bbl, 6, none⟩ = some (.pointer (some ⟨bbll, 0, none⟩))) (c_bbl_7 : w.cell? ⟨bbl, 7, none⟩ = some (.pointer (some ⟨bblr, 0, none⟩)))
    (hd1 : (bd : Int) ≤ 1048576) (hd2 : (ad : Int) ≤ 1048576) (h0 : (ad : Int) ≤ bd + 1) (h1 : (ad : Int) + 1 < bd) (h2 : (brd : Int) < bld)
    (P1 : ∀ W, Up w W → Tabs W → Calls Tryd.prog 46 #[.pointer (some ⟨ba, 0, none⟩), .pointer (some ⟨bbll, 0, none⟩)] W (NewT (.node ta tbll) W))
    (P2 : ∀ W, Up w W → Tabs W → Calls Tryd.prog 46 #[.pointer (some ⟨bblr, 0, none⟩), .pointer (some ⟨bbr, 0, none⟩)] W (NewT (.node tblr tbr) W))
    (P3 : ∀ W b1 b2, Tabs W → Node W (.node ta tbll) b1 → Node W (.node tblr tbr) b2 → Calls Tryd.prog 46 #[.pointer (some ⟨b1, 0, none⟩), .pointer (some ⟨b2, 0, none⟩)] W (NewT (.node (.node ta tbll) (.node tblr tbr)) W)) :
    Calls Tryd.prog 45 #[.pointer (some ⟨ba, 0, none⟩), .pointer (some ⟨bb, 0, none⟩)] w (NewT (.node (.node ta tbll) (.node tblr tbr)) w) := by
  have e1 : IntKind.i64.wrap ((bd : Int) + 1) = (bd : Int) + 1 := IntWalk.i64_in _ (by omega)
  have e2 : IntKind.i64.wrap ((ad : Int) + 1) = (ad : Int) + 1 := IntWalk.i64_in _ (by omega)
  have HP1 := Lib.hid P1
  have HP2 := Lib.hid P2
  have HP3 := Lib.hid P3
  clear P1 P2 P3 hd1 hd2
  have f1 : decide ((bd : Int) + 1 < ad) = false := by simpa using h0
  go_enter Tryd.func45, Tryd.ntmps45
  go_wp2_with fail
  go_quiet (fail)
  obtain ⟨q0, rfl⟩ : ∃ q : Nat, q = nq := ⟨_, rfl⟩
  go_wp2_with fail
  go_quiet (fail)
  obtain ⟨q1, rfl⟩ : ∃ q : Nat, q = nq := ⟨_, rfl⟩
  go_wp2_with fail
  go_quiet (fail)
  obtain ⟨q2, rfl⟩ : ∃ q : Nat, q = nq := ⟨_, rfl⟩
  go_wp2_with fail
  obtain ⟨W, hWW⟩ : ∃ W, ((w.drewN q0).drewN q1).drewN q2 = W := ⟨_, rfl⟩
  have huW : Up w W := by rw [← hWW]; exact ((Up.drewN w _).trans (Up.drewN _ _)).trans (Up.drewN _ _)
  have hSW : Up w W ∧ Tabs W ∧ W.cell? ⟨bb, 6, none⟩ = some (.pointer (some ⟨bbl, 0, none⟩)) ∧ W.cell? ⟨bb, 7, none⟩ = some (.pointer (some ⟨bbr, 0, none⟩)) ∧ W.cell? ⟨bbl, 6, none⟩ = some (.pointer (some ⟨bbll, 0, none⟩)) ∧ W.cell? ⟨bbl, 7, none⟩ = some (.pointer (some ⟨bblr, 0, none⟩)) := ⟨huW, hT.up huW, cell_up huW c_bb_6, cell_up huW c_bb_7, cell_up huW c_bbl_6, cell_up huW c_bbl_7⟩
  rw [hWW]
  clear c_ba_5 c_bb_5 c_bb_6 c_bb_7 c_bbl_5 c_bbr_5 c_bbl_6 c_bbl_7 huW hWW e1 e2 hT
  go_region_held3 (fun w' => Up w w' ∧ Tabs w' ∧ w'.cell? ⟨bb, 6, none⟩ = some (.pointer (some ⟨bbl, 0, none⟩)) ∧ w'.cell? ⟨bb, 7, none⟩ = some (.pointer (some ⟨bbr, 0, none⟩)) ∧ w'.cell? ⟨bbl, 6, none⟩ = some (.pointer (some ⟨bbll, 0, none⟩)) ∧ w'.cell? ⟨bbl, 7, none⟩ = some (.pointer (some ⟨bblr, 0, none⟩)))
    (first | assumption | with_reducible exact keep4 hu3 (by assumption) | with_reducible exact keep4 hu2 (by assumption) | with_reducible exact keep4 hu1 (by assumption) | with_reducible exact keep4 (Up.drew _) (by assumption))
    (first | (go_at_call 46; ((with_reducible refine (HP1.out _ ?_ ?_).mono ?_); (exact (by assumption : _ ∧ Tabs _ ∧ _).1); (exact (by assumption : _ ∧ Tabs _ ∧ _).2.1); rintro e w1 ⟨g1, rfl, hn1, hu1⟩)) | (go_at_call 46; ((with_reducible refine (HP2.out _ ?_ ?_).mono ?_); (exact (by assumption : _ ∧ Tabs _ ∧ _).1); (exact (by assumption : _ ∧ Tabs _ ∧ _).2.1); rintro e w2 ⟨g2, rfl, hn2, hu2⟩)) | (go_at_call 46; ((with_reducible refine (HP3.out _ _ _ ?_ ?_ ?_).mono ?_); (exact (by assumption : _ ∧ Tabs _ ∧ _).2.1); (exact hn1.up hu2); (exact hn2); rintro e w3 ⟨g3, rfl, hn3, hu3⟩)))
  have HF := Lib.hid (by assumption : Up w w3 ∧ _).1
  go_wp2
  go_ret
  exact ⟨g3, rfl, hn3, HF.out⟩

set_option maxRecDepth 100000 in
set_option maxHeartbeats 1000000 in
theorem level_4 (w : World) (ba bb bbl bbr ad bd bld brd : Nat) (ta tbl tbr : T) (hT : Tabs w)
    (c_ba_5 : w.cell? ⟨ba, 5, none⟩ = some (.int .i64 (ad : Nat))) (c_bb_5 : w.cell? ⟨bb, 5, none⟩ = some (.int .i64 (bd : Nat))) (c_bb_6 : w.cell? ⟨bb, 6, none⟩ = some (.pointer (some ⟨bbl, 0, none⟩))) (c_bb_7 : w.cell? ⟨bb, 7, none⟩ = some (.pointer (some ⟨bbr, 0, none⟩))) (c_bbl_5 : w.cell? ⟨bbl, 5, none⟩ = some (.int .i64 (bld : Nat))) (c_bbr_5 : w.cell? ⟨bbr, 5, none⟩ = some (.int .i64 (brd : Nat)))
    (hd1 : (bd : Int) ≤ 1048576) (hd2 : (ad : Int) ≤ 1048576) (h0 : (ad : Int) ≤ bd + 1) (h1 : (ad : Int) + 1 < bd) (h2 : (bld : Int) ≤ brd)
    (P1 : ∀ W, Up w W → Tabs W → Calls Tryd.prog 46 #[.pointer (some ⟨ba, 0, none⟩), .pointer (some ⟨bbl, 0, none⟩)] W (NewT (.node ta tbl) W))
    (P2 : ∀ W b1, Up w W → Tabs W → Node W (.node ta tbl) b1 → Calls Tryd.prog 46 #[.pointer (some ⟨b1, 0, none⟩), .pointer (some ⟨bbr, 0, none⟩)] W (NewT (.node (.node ta tbl) tbr) W)) :
    Calls Tryd.prog 45 #[.pointer (some ⟨ba, 0, none⟩), .pointer (some ⟨bb, 0, none⟩)] w (NewT (.node (.node ta tbl) tbr) w) := by
  have e1 : IntKind.i64.wrap ((bd : Int) + 1) = (bd : Int) + 1 := IntWalk.i64_in _ (by omega)
  have e2 : IntKind.i64.wrap ((ad : Int) + 1) = (ad : Int) + 1 := IntWalk.i64_in _ (by omega)
  have HP1 := Lib.hid P1
  have HP2 := Lib.hid P2
  clear P1 P2 hd1 hd2
  have f1 : decide ((bd : Int) + 1 < ad) = false := by simpa using h0
  have f2 : decide ((brd : Int) < bld) = false := by simpa using h2
  go_enter Tryd.func45, Tryd.ntmps45
  go_wp2_with fail
  go_quiet (fail)
  obtain ⟨q0, rfl⟩ : ∃ q : Nat, q = nq := ⟨_, rfl⟩
  go_wp2_with fail
  go_quiet (fail)
  obtain ⟨q1, rfl⟩ : ∃ q : Nat, q = nq := ⟨_, rfl⟩
  go_wp2_with fail
  go_quiet (fail)
  obtain ⟨q2, rfl⟩ : ∃ q : Nat, q = nq := ⟨_, rfl⟩
  go_wp2_with fail
  go_quiet (fail)
  obtain ⟨q3, rfl⟩ : ∃ q : Nat, q = nq := ⟨_, rfl⟩
  go_wp2_with fail
  obtain ⟨W, hWW⟩ : ∃ W, (((w.drewN q0).drewN q1).drewN q2).drewN q3 = W := ⟨_, rfl⟩
  have huW : Up w W := by rw [← hWW]; exact (((Up.drewN w _).trans (Up.drewN _ _)).trans (Up.drewN _ _)).trans (Up.drewN _ _)
  have hSW : Up w W ∧ Tabs W ∧ W.cell? ⟨bb, 6, none⟩ = some (.pointer (some ⟨bbl, 0, none⟩)) ∧ W.cell? ⟨bb, 7, none⟩ = some (.pointer (some ⟨bbr, 0, none⟩)) := ⟨huW, hT.up huW, cell_up huW c_bb_6, cell_up huW c_bb_7⟩
  rw [hWW]
  clear c_ba_5 c_bb_5 c_bb_6 c_bb_7 c_bbl_5 c_bbr_5 huW hWW e1 e2 hT
  go_region_held3 (fun w' => Up w w' ∧ Tabs w' ∧ w'.cell? ⟨bb, 6, none⟩ = some (.pointer (some ⟨bbl, 0, none⟩)) ∧ w'.cell? ⟨bb, 7, none⟩ = some (.pointer (some ⟨bbr, 0, none⟩)))
    (first | assumption | with_reducible exact keep2 hu2 (by assumption) | with_reducible exact keep2 hu1 (by assumption) | with_reducible exact keep2 (Up.drew _) (by assumption))
    (first | (go_at_call 46; ((with_reducible refine (HP1.out _ ?_ ?_).mono ?_); (exact (by assumption : _ ∧ Tabs _ ∧ _).1); (exact (by assumption : _ ∧ Tabs _ ∧ _).2.1); rintro e w1 ⟨g1, rfl, hn1, hu1⟩)) | (go_at_call 46; ((with_reducible refine (HP2.out _ _ ?_ ?_ ?_).mono ?_); (exact (by assumption : _ ∧ Tabs _ ∧ _).1); (exact (by assumption : _ ∧ Tabs _ ∧ _).2.1); (exact hn1); rintro e w2 ⟨g2, rfl, hn2, hu2⟩)))
  have HF := Lib.hid (by assumption : Up w w2 ∧ _).1
  go_wp2
  go_ret
  exact ⟨g2, rfl, hn2, HF.out⟩

set_option maxRecDepth 100000 in
set_option maxHeartbeats 1000000 in
theorem level_5 (w : World) (ba bb ad bd : Nat) (ta tb : T) (hT : Tabs w)
    (c_ba_5 : w.cell? ⟨ba, 5, none⟩ = some (.int .i64 (ad : Nat))) (c_bb_5 : w.cell? ⟨bb, 5, none⟩ = some (.int .i64 (bd : Nat)))
    (hd1 : (bd : Int) ≤ 1048576) (hd2 : (ad : Int) ≤ 1048576) (h0 : (ad : Int) ≤ bd + 1) (h1 : (bd : Int) ≤ ad + 1)
    (P1 : ∀ W, Up w W → Tabs W → Calls Tryd.prog 46 #[.pointer (some ⟨ba, 0, none⟩), .pointer (some ⟨bb, 0, none⟩)] W (NewT (.node ta tb) W)) :
    Calls Tryd.prog 45 #[.pointer (some ⟨ba, 0, none⟩), .pointer (some ⟨bb, 0, none⟩)] w (NewT (.node ta tb) w) := by
  have e1 : IntKind.i64.wrap ((bd : Int) + 1) = (bd : Int) + 1 := IntWalk.i64_in _ (by omega)
  have e2 : IntKind.i64.wrap ((ad : Int) + 1) = (ad : Int) + 1 := IntWalk.i64_in _ (by omega)
  have HP1 := Lib.hid P1
  clear P1 hd1 hd2
  have f1 : decide ((bd : Int) + 1 < ad) = false := by simpa using h0
  have f3 : decide ((ad : Int) + 1 < bd) = false := by simpa using h1
  go_enter Tryd.func45, Tryd.ntmps45
  go_wp2_with fail
  go_quiet (fail)
  obtain ⟨q0, rfl⟩ : ∃ q : Nat, q = nq := ⟨_, rfl⟩
  go_wp2_with fail
  go_quiet (fail)
  obtain ⟨q1, rfl⟩ : ∃ q : Nat, q = nq := ⟨_, rfl⟩
  go_wp2_with fail
  go_quiet (fail)
  obtain ⟨q2, rfl⟩ : ∃ q : Nat, q = nq := ⟨_, rfl⟩
  go_wp2_with fail
  go_quiet (fail)
  obtain ⟨q3, rfl⟩ : ∃ q : Nat, q = nq := ⟨_, rfl⟩
  go_wp2_with (go_at_call 46; refine (HP1.out _ (Up.drewN w _) (hT.up (Up.drewN w _))).mono ?_; rintro e w1 ⟨g1, rfl, hn1, hu1⟩)
  go_ret
  exact ⟨g1, rfl, hn1, (Up.drewN w _).trans hu1⟩

end Go.Proofs.YtcbmigkdmmmahaaDoor
