/- Two trees made one: the program's join, walked way by way. The program's join, at whatever two trees that are in form. -/
import Derived.Test.YtfcpieodgflmnaaDoorGE
import Derived.Test.YtfcpieodgflmnaaDoorGC
import Derived.Deep.QuietTactic
import Derived.BigQuiet
namespace Go.Proofs.YtfcpieodgflmnaaDoor
open Go.RowKit

set_option maxRecDepth 100000 in
set_option maxHeartbeats 400000 in
theorem isLeaf_yes_q (b : Nat) (w : World) (h : w.cell? ⟨b, 6, none⟩ = some (.pointer none)) : Calls Tryd.prog 51 #[.pointer (some ⟨b, 0, none⟩)] w fun e w' => e = .returned (.bool true) ∧ w' = w := by
  go_enter Tryd.func51, Tryd.ntmps51
  go_wp2
  go_ret
  exact ⟨rfl, rfl⟩
theorem isLeaf_yes (b : Nat) (w : World) (h : w.cell? ⟨b, 6, none⟩ = some (.pointer none)) : Calls Tryd.prog 51 #[.pointer (some ⟨b, 0, none⟩)] w fun e w' => e = .returned (.bool true) ∧ w = w' := (isLeaf_yes_q b w h).mono fun _ _ h => ⟨h.1, h.2.symm⟩
set_option maxRecDepth 100000 in
set_option maxHeartbeats 400000 in
theorem isLeaf_no_q (b c : Nat) (w : World) (h : w.cell? ⟨b, 6, none⟩ = some (.pointer (some ⟨c, 0, none⟩))) : Calls Tryd.prog 51 #[.pointer (some ⟨b, 0, none⟩)] w fun e w' => e = .returned (.bool false) ∧ w' = w := by
  go_enter Tryd.func51, Tryd.ntmps51
  go_wp2
  go_ret
  exact ⟨rfl, rfl⟩
theorem isLeaf_no (b c : Nat) (w : World) (h : w.cell? ⟨b, 6, none⟩ = some (.pointer (some ⟨c, 0, none⟩))) : Calls Tryd.prog 51 #[.pointer (some ⟨b, 0, none⟩)] w fun e w' => e = .returned (.bool false) ∧ w = w' := (isLeaf_no_q b c w h).mono fun _ _ h => ⟨h.1, h.2.symm⟩
set_option maxRecDepth 100000 in
set_option maxHeartbeats 400000 in
theorem isSmall_yes_q (b n : Nat) (w : World) (h : w.cell? ⟨b, 0, none⟩ = some (.int .i64 (n : Nat))) (hn : (n : Int) < 256) : Calls Tryd.prog 52 #[.pointer (some ⟨b, 0, none⟩)] w fun e w' => e = .returned (.bool true) ∧ w' = w := by
  go_enter Tryd.func52, Tryd.ntmps52
  go_wp2
  go_ret
  exact ⟨rfl, rfl⟩
theorem isSmall_yes (b n : Nat) (w : World) (h : w.cell? ⟨b, 0, none⟩ = some (.int .i64 (n : Nat))) (hn : (n : Int) < 256) : Calls Tryd.prog 52 #[.pointer (some ⟨b, 0, none⟩)] w fun e w' => e = .returned (.bool true) ∧ w = w' := (isSmall_yes_q b n w h hn).mono fun _ _ h => ⟨h.1, h.2.symm⟩
set_option maxRecDepth 100000 in
set_option maxHeartbeats 400000 in
theorem isSmall_no_q (b n : Nat) (w : World) (h : w.cell? ⟨b, 0, none⟩ = some (.int .i64 (n : Nat))) (hn : (256 : Int) ≤ n) : Calls Tryd.prog 52 #[.pointer (some ⟨b, 0, none⟩)] w fun e w' => e = .returned (.bool false) ∧ w' = w := by
  go_enter Tryd.func52, Tryd.ntmps52
  go_wp2
  go_ret
  exact ⟨by simp; omega, rfl⟩
theorem isSmall_no (b n : Nat) (w : World) (h : w.cell? ⟨b, 0, none⟩ = some (.int .i64 (n : Nat))) (hn : (256 : Int) ≤ n) : Calls Tryd.prog 52 #[.pointer (some ⟨b, 0, none⟩)] w fun e w' => e = .returned (.bool false) ∧ w = w' := (isSmall_no_q b n w h hn).mono fun _ _ h => ⟨h.1, h.2.symm⟩

/-- What is asked of two trees made one. -/
def JoinSpec (ta tb t : T) : Prop := Ok t ∧ t.text = ta.text ++ tb.text ∧ (max ta.dp tb.dp ≤ t.dp ∧ t.dp ≤ max ta.dp tb.dp + 1) ∧ (256 ≤ ta.text.size + tb.text.size → Big t)
def JoinPost (ta tb : T) (w : World) (e : Ending) (w' : World) : Prop := ∃ t, JoinSpec ta tb t ∧ NewT t w e w'
def JoinL (tal tar tb : T) (w : World) (e : Ending) (w' : World) : Prop := ∃ t, JoinSpec tar tb t ∧ NewT (lev tal t) w e w'
def JoinR (ta tbl tbr : T) (w : World) (e : Ending) (w' : World) : Prop := ∃ t, JoinSpec ta tbl t ∧ NewT (lev t tbr) w e w'
def JoinG (s : ByteArray) (w : World) (e : Ending) (w' : World) : Prop := ∃ t, GrowSpec s t ∧ NewT t w e w'

set_option maxRecDepth 100000 in
set_option maxHeartbeats 1000000 in
theorem join_g1 (w : World) (ba bb an : Nat) (ua ub : ByteArray) (hT : Tabs w)
    (c_ba_0 : w.cell? ⟨ba, 0, none⟩ = some (.int .i64 (an : Nat))) (c_ba_6 : w.cell? ⟨ba, 6, none⟩ = some (.pointer none)) (c_ba_8 : w.cell? ⟨ba, 8, none⟩ = some (.string ua)) (c_bb_6 : w.cell? ⟨bb, 6, none⟩ = some (.pointer none)) (c_bb_8 : w.cell? ⟨bb, 8, none⟩ = some (.string ub))
     (hsa : (an : Int) < 256)
    (hz : (ua.size : Int) + ub.size ≤ 1048576) (hz1 : 1 ≤ ua.size + ub.size) :
    Calls Tryd.prog 34 #[.pointer (some ⟨ba, 0, none⟩), .pointer (some ⟨bb, 0, none⟩)] w (JoinG (ua ++ ub) w) := by
  have hadd : ∀ w, (Op.stringOp .add ua ub).run Tryd.prog w = .ok (.string (ua ++ ub)) w := fun w => run_string_add_sum w _ _ (by omega)
  have HG := Lib.hid (fun W ht => (grow_any (ua ++ ub) (by rw [ByteArray.size_append]; omega) W ht).mono fun _ _ h => h.2 (by rw [ByteArray.size_append]; omega))
  go_enter Tryd.func34, Tryd.ntmps34
  go_wp2_with (first | (go_at_call 51; ((with_reducible refine (isLeaf_yes _ w c_ba_6).mono ?_); rintro e w' ⟨rfl, rfl⟩)) | (go_at_call 51; ((with_reducible refine (isLeaf_yes _ w c_bb_6).mono ?_); rintro e w' ⟨rfl, rfl⟩)) | (go_at_call 52; ((with_reducible refine (isSmall_yes _ _ w c_ba_0 hsa).mono ?_); rintro e w' ⟨rfl, rfl⟩)))
  have hS : Up w w ∧ Tabs w ∧ w.cell? ⟨ba, 8, none⟩ = some (.string ua) ∧ w.cell? ⟨bb, 8, none⟩ = some (.string ub) := ⟨Up.refl w, hT, c_ba_8, c_bb_8⟩
  clear c_ba_0 c_ba_6 c_ba_8 c_bb_6 c_bb_8 hT
  go_region_held3 (fun w' => Up w w' ∧ Tabs w' ∧ w'.cell? ⟨ba, 8, none⟩ = some (.string ua) ∧ w'.cell? ⟨bb, 8, none⟩ = some (.string ub))
    (first | assumption | with_reducible exact keep2 hu1 (by assumption) | with_reducible exact keep2 (Up.drew _) (by assumption))
    (first | (go_at_call 19; ((with_reducible refine (HG.out _ ?_).mono ?_); (exact (by assumption : _ ∧ Tabs _ ∧ _).2.1); rintro e w1 ⟨t1, hs1, g1, rfl, hn1, hu1⟩)))
  have HF := Lib.hid (by assumption : Up w w1 ∧ _).1
  go_wp2
  go_ret
  exact ⟨t1, hs1, g1, rfl, hn1, HF.out⟩

set_option maxRecDepth 100000 in
set_option maxHeartbeats 1000000 in
theorem join_g2 (w : World) (ba bb an bn : Nat) (ua ub : ByteArray) (hT : Tabs w)
    (c_ba_0 : w.cell? ⟨ba, 0, none⟩ = some (.int .i64 (an : Nat))) (c_ba_6 : w.cell? ⟨ba, 6, none⟩ = some (.pointer none)) (c_ba_8 : w.cell? ⟨ba, 8, none⟩ = some (.string ua)) (c_bb_0 : w.cell? ⟨bb, 0, none⟩ = some (.int .i64 (bn : Nat))) (c_bb_6 : w.cell? ⟨bb, 6, none⟩ = some (.pointer none)) (c_bb_8 : w.cell? ⟨bb, 8, none⟩ = some (.string ub))
     (hsa : (256 : Int) ≤ an) (hsb : (bn : Int) < 256)
    (hz : (ua.size : Int) + ub.size ≤ 1048576) (hz1 : 1 ≤ ua.size + ub.size) :
    Calls Tryd.prog 34 #[.pointer (some ⟨ba, 0, none⟩), .pointer (some ⟨bb, 0, none⟩)] w (JoinG (ua ++ ub) w) := by
  have hadd : ∀ w, (Op.stringOp .add ua ub).run Tryd.prog w = .ok (.string (ua ++ ub)) w := fun w => run_string_add_sum w _ _ (by omega)
  have HG := Lib.hid (fun W ht => (grow_any (ua ++ ub) (by rw [ByteArray.size_append]; omega) W ht).mono fun _ _ h => h.2 (by rw [ByteArray.size_append]; omega))
  go_enter Tryd.func34, Tryd.ntmps34
  go_wp2_with (first | (go_at_call 51; ((with_reducible refine (isLeaf_yes _ w c_ba_6).mono ?_); rintro e w' ⟨rfl, rfl⟩)) | (go_at_call 51; ((with_reducible refine (isLeaf_yes _ w c_bb_6).mono ?_); rintro e w' ⟨rfl, rfl⟩)) | (go_at_call 52; ((with_reducible refine (isSmall_no _ _ w c_ba_0 hsa).mono ?_); rintro e w' ⟨rfl, rfl⟩)) | (go_at_call 52; ((with_reducible refine (isSmall_yes _ _ w c_bb_0 hsb).mono ?_); rintro e w' ⟨rfl, rfl⟩)))
  have hS : Up w w ∧ Tabs w ∧ w.cell? ⟨ba, 8, none⟩ = some (.string ua) ∧ w.cell? ⟨bb, 8, none⟩ = some (.string ub) := ⟨Up.refl w, hT, c_ba_8, c_bb_8⟩
  clear c_ba_0 c_ba_6 c_ba_8 c_bb_0 c_bb_6 c_bb_8 hT
  go_region_held3 (fun w' => Up w w' ∧ Tabs w' ∧ w'.cell? ⟨ba, 8, none⟩ = some (.string ua) ∧ w'.cell? ⟨bb, 8, none⟩ = some (.string ub))
    (first | assumption | with_reducible exact keep2 hu1 (by assumption) | with_reducible exact keep2 (Up.drew _) (by assumption))
    (first | (go_at_call 19; ((with_reducible refine (HG.out _ ?_).mono ?_); (exact (by assumption : _ ∧ Tabs _ ∧ _).2.1); rintro e w1 ⟨t1, hs1, g1, rfl, hn1, hu1⟩)))
  have HF := Lib.hid (by assumption : Up w w1 ∧ _).1
  go_wp2
  go_ret
  exact ⟨t1, hs1, g1, rfl, hn1, HF.out⟩

set_option maxRecDepth 100000 in
set_option maxHeartbeats 1000000 in
theorem join_l1 (w : World) (ba bb bal bar ad bd : Nat) (hT : Tabs w)
    (c_ba_5 : w.cell? ⟨ba, 5, none⟩ = some (.int .i64 (ad : Nat))) (c_ba_6 : w.cell? ⟨ba, 6, none⟩ = some (.pointer (some ⟨bal, 0, none⟩))) (c_ba_7 : w.cell? ⟨ba, 7, none⟩ = some (.pointer (some ⟨bar, 0, none⟩))) (c_bb_5 : w.cell? ⟨bb, 5, none⟩ = some (.int .i64 (bd : Nat)))
    (hd1 : (bd : Int) ≤ 1048576) (hd2 : (ad : Int) ≤ 1048576) (h7 : (bd : Int) + 1 < ad)
    (tal tar tb : T) (PJ : ∀ W, Up w W → Tabs W → Calls Tryd.prog 34 #[.pointer (some ⟨bar, 0, none⟩), .pointer (some ⟨bb, 0, none⟩)] W (JoinPost tar tb W)) (PL : ∀ W b2 t, Up w W → Tabs W → JoinSpec tar tb t → Node W t b2 → Calls Tryd.prog 53 #[.pointer (some ⟨bal, 0, none⟩), .pointer (some ⟨b2, 0, none⟩)] W (NewT (lev tal t) W)) :
    Calls Tryd.prog 34 #[.pointer (some ⟨ba, 0, none⟩), .pointer (some ⟨bb, 0, none⟩)] w (JoinL tal tar tb w) := by
  have e1 : IntKind.i64.wrap ((bd : Int) + 1) = (bd : Int) + 1 := IntWalk.i64_in _ (by omega)
  have e2 : IntKind.i64.wrap ((ad : Int) + 1) = (ad : Int) + 1 := IntWalk.i64_in _ (by omega)
  have HPJ := Lib.hid PJ
  clear PJ
  have HPL := Lib.hid PL
  clear PL
  clear hd1 hd2
  go_enter Tryd.func34, Tryd.ntmps34
  go_wp2_with (first | (go_at_call 51; ((with_reducible refine (isLeaf_no _ _ w c_ba_6).mono ?_); rintro e w' ⟨rfl, rfl⟩)))
  go_quiet (fail)
  obtain ⟨q0, rfl⟩ : ∃ q : Nat, q = nq := ⟨_, rfl⟩
  go_wp2_with fail
  obtain ⟨V, hWV⟩ : ∃ V, w.drewN q0 = V := ⟨_, rfl⟩
  have huV : Up w V := by rw [← hWV]; exact Up.drewN w q0
  rw [hWV]
  have c_ba_5V := cell_up huV c_ba_5
  have c_ba_6V := cell_up huV c_ba_6
  have c_ba_7V := cell_up huV c_ba_7
  have c_bb_5V := cell_up huV c_bb_5
  have hTV := hT.up huV
  have hvV : Up w V := huV
  clear c_ba_5 c_ba_6 c_ba_7 c_bb_5 huV hWV hT
  have hS : Up w V ∧ Tabs V ∧ V.cell? ⟨ba, 6, none⟩ = some (.pointer (some ⟨bal, 0, none⟩)) ∧ V.cell? ⟨ba, 7, none⟩ = some (.pointer (some ⟨bar, 0, none⟩)) := ⟨hvV, hTV, c_ba_6V, c_ba_7V⟩
  clear c_ba_5V c_ba_6V c_ba_7V c_bb_5V hTV hvV
  go_region_held3 (fun w' => Up w w' ∧ Tabs w' ∧ w'.cell? ⟨ba, 6, none⟩ = some (.pointer (some ⟨bal, 0, none⟩)) ∧ w'.cell? ⟨ba, 7, none⟩ = some (.pointer (some ⟨bar, 0, none⟩)))
    (first | assumption | with_reducible exact keep2 hu2 (by assumption) | with_reducible exact keep2 hu1 (by assumption) | with_reducible exact keep2 (Up.drew _) (by assumption))
    (first | (go_at_call 34; ((with_reducible refine (HPJ.out _ ?_ ?_).mono ?_); (exact (by assumption : _ ∧ Tabs _ ∧ _).1); (exact (by assumption : _ ∧ Tabs _ ∧ _).2.1); rintro e w1 ⟨t1, hs1, g1, rfl, hn1, hu1⟩)) | (go_at_call 53; ((with_reducible refine (HPL.out _ _ _ ?_ ?_ hs1 hn1).mono ?_); (exact (by assumption : _ ∧ Tabs _ ∧ _).1); (exact (by assumption : _ ∧ Tabs _ ∧ _).2.1); rintro e w2 ⟨g2, rfl, hn2, hu2⟩)))
  have HF := Lib.hid (by assumption : Up w w2 ∧ _).1
  go_wp2
  go_ret
  exact ⟨t1, hs1, g2, rfl, hn2, HF.out⟩

set_option maxRecDepth 100000 in
set_option maxHeartbeats 1000000 in
theorem join_l2 (w : World) (ba bb bal bar ad bn bd : Nat) (hT : Tabs w)
    (c_ba_5 : w.cell? ⟨ba, 5, none⟩ = some (.int .i64 (ad : Nat))) (c_ba_6 : w.cell? ⟨ba, 6, none⟩ = some (.pointer (some ⟨bal, 0, none⟩))) (c_ba_7 : w.cell? ⟨ba, 7, none⟩ = some (.pointer (some ⟨bar, 0, none⟩))) (c_bb_0 : w.cell? ⟨bb, 0, none⟩ = some (.int .i64 (bn : Nat))) (c_bb_5 : w.cell? ⟨bb, 5, none⟩ = some (.int .i64 (bd : Nat)))
    (hd1 : (bd : Int) ≤ 1048576) (hd2 : (ad : Int) ≤ 1048576) (g7 : (ad : Int) ≤ bd + 1) (hsb : (bn : Int) < 256)
    (tal tar tb : T) (PJ : ∀ W, Up w W → Tabs W → Calls Tryd.prog 34 #[.pointer (some ⟨bar, 0, none⟩), .pointer (some ⟨bb, 0, none⟩)] W (JoinPost tar tb W)) (PL : ∀ W b2 t, Up w W → Tabs W → JoinSpec tar tb t → Node W t b2 → Calls Tryd.prog 53 #[.pointer (some ⟨bal, 0, none⟩), .pointer (some ⟨b2, 0, none⟩)] W (NewT (lev tal t) W)) :
    Calls Tryd.prog 34 #[.pointer (some ⟨ba, 0, none⟩), .pointer (some ⟨bb, 0, none⟩)] w (JoinL tal tar tb w) := by
  have e1 : IntKind.i64.wrap ((bd : Int) + 1) = (bd : Int) + 1 := IntWalk.i64_in _ (by omega)
  have e2 : IntKind.i64.wrap ((ad : Int) + 1) = (ad : Int) + 1 := IntWalk.i64_in _ (by omega)
  have HPJ := Lib.hid PJ
  clear PJ
  have HPL := Lib.hid PL
  clear PL
  have f7 : decide ((bd : Int) + 1 < ad) = false := by simpa using g7
  clear hd1 hd2
  go_enter Tryd.func34, Tryd.ntmps34
  go_wp2_with (first | (go_at_call 51; ((with_reducible refine (isLeaf_no _ _ w c_ba_6).mono ?_); rintro e w' ⟨rfl, rfl⟩)))
  go_quiet (first | (go_at_call 52; exact Calls.quiet_of_same (isSmall_yes_q _ _ _ c_bb_0 hsb)) | (go_at_call 51; exact Calls.quiet_of_same (isLeaf_no_q _ _ _ c_ba_6)))
  obtain ⟨q0, rfl⟩ : ∃ q : Nat, q = nq := ⟨_, rfl⟩
  go_wp2_with fail
  obtain ⟨V, hWV⟩ : ∃ V, w.drewN q0 = V := ⟨_, rfl⟩
  have huV : Up w V := by rw [← hWV]; exact Up.drewN w q0
  rw [hWV]
  have c_ba_5V := cell_up huV c_ba_5
  have c_ba_6V := cell_up huV c_ba_6
  have c_ba_7V := cell_up huV c_ba_7
  have c_bb_0V := cell_up huV c_bb_0
  have c_bb_5V := cell_up huV c_bb_5
  have hTV := hT.up huV
  have hvV : Up w V := huV
  clear c_ba_5 c_ba_6 c_ba_7 c_bb_0 c_bb_5 huV hWV hT
  have hS : Up w V ∧ Tabs V ∧ V.cell? ⟨ba, 6, none⟩ = some (.pointer (some ⟨bal, 0, none⟩)) ∧ V.cell? ⟨ba, 7, none⟩ = some (.pointer (some ⟨bar, 0, none⟩)) := ⟨hvV, hTV, c_ba_6V, c_ba_7V⟩
  clear c_ba_5V c_ba_6V c_ba_7V c_bb_0V c_bb_5V hTV hvV
  go_region_held3 (fun w' => Up w w' ∧ Tabs w' ∧ w'.cell? ⟨ba, 6, none⟩ = some (.pointer (some ⟨bal, 0, none⟩)) ∧ w'.cell? ⟨ba, 7, none⟩ = some (.pointer (some ⟨bar, 0, none⟩)))
    (first | assumption | with_reducible exact keep2 hu2 (by assumption) | with_reducible exact keep2 hu1 (by assumption) | with_reducible exact keep2 (Up.drew _) (by assumption))
    (first | (go_at_call 34; ((with_reducible refine (HPJ.out _ ?_ ?_).mono ?_); (exact (by assumption : _ ∧ Tabs _ ∧ _).1); (exact (by assumption : _ ∧ Tabs _ ∧ _).2.1); rintro e w1 ⟨t1, hs1, g1, rfl, hn1, hu1⟩)) | (go_at_call 53; ((with_reducible refine (HPL.out _ _ _ ?_ ?_ hs1 hn1).mono ?_); (exact (by assumption : _ ∧ Tabs _ ∧ _).1); (exact (by assumption : _ ∧ Tabs _ ∧ _).2.1); rintro e w2 ⟨g2, rfl, hn2, hu2⟩)))
  have HF := Lib.hid (by assumption : Up w w2 ∧ _).1
  go_wp2
  go_ret
  exact ⟨t1, hs1, g2, rfl, hn2, HF.out⟩

set_option maxRecDepth 100000 in
set_option maxHeartbeats 1000000 in
theorem join_r1 (w : World) (ba bb bbl bbr ad bn bd : Nat) (hT : Tabs w)
    (c_ba_5 : w.cell? ⟨ba, 5, none⟩ = some (.int .i64 (ad : Nat))) (c_ba_6 : w.cell? ⟨ba, 6, none⟩ = some (.pointer none)) (c_bb_0 : w.cell? ⟨bb, 0, none⟩ = some (.int .i64 (bn : Nat))) (c_bb_5 : w.cell? ⟨bb, 5, none⟩ = some (.int .i64 (bd : Nat))) (c_bb_6 : w.cell? ⟨bb, 6, none⟩ = some (.pointer (some ⟨bbl, 0, none⟩))) (c_bb_7 : w.cell? ⟨bb, 7, none⟩ = some (.pointer (some ⟨bbr, 0, none⟩)))
    (hd1 : (bd : Int) ≤ 1048576) (hd2 : (ad : Int) ≤ 1048576) (g7 : (ad : Int) ≤ bd + 1) (h9 : (ad : Int) + 1 < bd) (hsb : (256 : Int) ≤ bn)
    (ta tbl tbr : T) (PJ : ∀ W, Up w W → Tabs W → Calls Tryd.prog 34 #[.pointer (some ⟨ba, 0, none⟩), .pointer (some ⟨bbl, 0, none⟩)] W (JoinPost ta tbl W)) (PL : ∀ W b1 t, Up w W → Tabs W → JoinSpec ta tbl t → Node W t b1 → Calls Tryd.prog 53 #[.pointer (some ⟨b1, 0, none⟩), .pointer (some ⟨bbr, 0, none⟩)] W (NewT (lev t tbr) W)) :
    Calls Tryd.prog 34 #[.pointer (some ⟨ba, 0, none⟩), .pointer (some ⟨bb, 0, none⟩)] w (JoinR ta tbl tbr w) := by
  have e1 : IntKind.i64.wrap ((bd : Int) + 1) = (bd : Int) + 1 := IntWalk.i64_in _ (by omega)
  have e2 : IntKind.i64.wrap ((ad : Int) + 1) = (ad : Int) + 1 := IntWalk.i64_in _ (by omega)
  have HPJ := Lib.hid PJ
  clear PJ
  have HPL := Lib.hid PL
  clear PL
  have f7 : decide ((bd : Int) + 1 < ad) = false := by simpa using g7
  clear hd1 hd2
  go_enter Tryd.func34, Tryd.ntmps34
  go_wp2_with (first | (go_at_call 51; ((with_reducible refine (isLeaf_yes _ w c_ba_6).mono ?_); rintro e w' ⟨rfl, rfl⟩)) | (go_at_call 51; ((with_reducible refine (isLeaf_no _ _ w c_bb_6).mono ?_); rintro e w' ⟨rfl, rfl⟩)))
  go_quiet (first | (go_at_call 52; exact Calls.quiet_of_same (isSmall_no_q _ _ _ c_bb_0 hsb)))
  obtain ⟨q0, rfl⟩ : ∃ q : Nat, q = nq := ⟨_, rfl⟩
  go_wp2_with fail
  obtain ⟨V, hWV⟩ : ∃ V, w.drewN q0 = V := ⟨_, rfl⟩
  have huV : Up w V := by rw [← hWV]; exact Up.drewN w q0
  rw [hWV]
  have c_ba_5V := cell_up huV c_ba_5
  have c_ba_6V := cell_up huV c_ba_6
  have c_bb_0V := cell_up huV c_bb_0
  have c_bb_5V := cell_up huV c_bb_5
  have c_bb_6V := cell_up huV c_bb_6
  have c_bb_7V := cell_up huV c_bb_7
  have hTV := hT.up huV
  have hvV : Up w V := huV
  clear c_ba_5 c_ba_6 c_bb_0 c_bb_5 c_bb_6 c_bb_7 huV hWV hT
  go_quiet (fail)
  obtain ⟨q1, rfl⟩ : ∃ q : Nat, q = nq := ⟨_, rfl⟩
  go_wp2_with fail
  obtain ⟨U, hWU⟩ : ∃ U, V.drewN q1 = U := ⟨_, rfl⟩
  have huU : Up V U := by rw [← hWU]; exact Up.drewN V q1
  rw [hWU]
  have c_ba_5U := cell_up huU c_ba_5V
  have c_ba_6U := cell_up huU c_ba_6V
  have c_bb_0U := cell_up huU c_bb_0V
  have c_bb_5U := cell_up huU c_bb_5V
  have c_bb_6U := cell_up huU c_bb_6V
  have c_bb_7U := cell_up huU c_bb_7V
  have hTU := hTV.up huU
  have hvU : Up w U := hvV.trans huU
  clear c_ba_5V c_ba_6V c_bb_0V c_bb_5V c_bb_6V c_bb_7V huU hWU hTV hvV
  have hS : Up w U ∧ Tabs U ∧ U.cell? ⟨bb, 6, none⟩ = some (.pointer (some ⟨bbl, 0, none⟩)) ∧ U.cell? ⟨bb, 7, none⟩ = some (.pointer (some ⟨bbr, 0, none⟩)) := ⟨hvU, hTU, c_bb_6U, c_bb_7U⟩
  clear c_ba_5U c_ba_6U c_bb_0U c_bb_5U c_bb_6U c_bb_7U hTU hvU
  go_region_held3 (fun w' => Up w w' ∧ Tabs w' ∧ w'.cell? ⟨bb, 6, none⟩ = some (.pointer (some ⟨bbl, 0, none⟩)) ∧ w'.cell? ⟨bb, 7, none⟩ = some (.pointer (some ⟨bbr, 0, none⟩)))
    (first | assumption | with_reducible exact keep2 hu2 (by assumption) | with_reducible exact keep2 hu1 (by assumption) | with_reducible exact keep2 (Up.drew _) (by assumption))
    (first | (go_at_call 34; ((with_reducible refine (HPJ.out _ ?_ ?_).mono ?_); (exact (by assumption : _ ∧ Tabs _ ∧ _).1); (exact (by assumption : _ ∧ Tabs _ ∧ _).2.1); rintro e w1 ⟨t1, hs1, g1, rfl, hn1, hu1⟩)) | (go_at_call 53; ((with_reducible refine (HPL.out _ _ _ ?_ ?_ hs1 hn1).mono ?_); (exact (by assumption : _ ∧ Tabs _ ∧ _).1); (exact (by assumption : _ ∧ Tabs _ ∧ _).2.1); rintro e w2 ⟨g2, rfl, hn2, hu2⟩)))
  have HF := Lib.hid (by assumption : Up w w2 ∧ _).1
  go_wp2
  go_ret
  exact ⟨t1, hs1, g2, rfl, hn2, HF.out⟩

set_option maxRecDepth 100000 in
set_option maxHeartbeats 1000000 in
theorem join_r1n (w : World) (ba bb bal bbl bbr ad bn bd : Nat) (hT : Tabs w)
    (c_ba_5 : w.cell? ⟨ba, 5, none⟩ = some (.int .i64 (ad : Nat))) (c_ba_6 : w.cell? ⟨ba, 6, none⟩ = some (.pointer (some ⟨bal, 0, none⟩))) (c_bb_0 : w.cell? ⟨bb, 0, none⟩ = some (.int .i64 (bn : Nat))) (c_bb_5 : w.cell? ⟨bb, 5, none⟩ = some (.int .i64 (bd : Nat))) (c_bb_6 : w.cell? ⟨bb, 6, none⟩ = some (.pointer (some ⟨bbl, 0, none⟩))) (c_bb_7 : w.cell? ⟨bb, 7, none⟩ = some (.pointer (some ⟨bbr, 0, none⟩)))
    (hd1 : (bd : Int) ≤ 1048576) (hd2 : (ad : Int) ≤ 1048576) (g7 : (ad : Int) ≤ bd + 1) (h9 : (ad : Int) + 1 < bd) (hsb : (256 : Int) ≤ bn)
    (ta tbl tbr : T) (PJ : ∀ W, Up w W → Tabs W → Calls Tryd.prog 34 #[.pointer (some ⟨ba, 0, none⟩), .pointer (some ⟨bbl, 0, none⟩)] W (JoinPost ta tbl W)) (PL : ∀ W b1 t, Up w W → Tabs W → JoinSpec ta tbl t → Node W t b1 → Calls Tryd.prog 53 #[.pointer (some ⟨b1, 0, none⟩), .pointer (some ⟨bbr, 0, none⟩)] W (NewT (lev t tbr) W)) :
    Calls Tryd.prog 34 #[.pointer (some ⟨ba, 0, none⟩), .pointer (some ⟨bb, 0, none⟩)] w (JoinR ta tbl tbr w) := by
  have e1 : IntKind.i64.wrap ((bd : Int) + 1) = (bd : Int) + 1 := IntWalk.i64_in _ (by omega)
  have e2 : IntKind.i64.wrap ((ad : Int) + 1) = (ad : Int) + 1 := IntWalk.i64_in _ (by omega)
  have HPJ := Lib.hid PJ
  clear PJ
  have HPL := Lib.hid PL
  clear PL
  have f7 : decide ((bd : Int) + 1 < ad) = false := by simpa using g7
  clear hd1 hd2
  go_enter Tryd.func34, Tryd.ntmps34
  go_wp2_with (first | (go_at_call 51; ((with_reducible refine (isLeaf_no _ _ w c_ba_6).mono ?_); rintro e w' ⟨rfl, rfl⟩)))
  go_quiet (first | (go_at_call 52; exact Calls.quiet_of_same (isSmall_no_q _ _ _ c_bb_0 hsb)))
  obtain ⟨q0, rfl⟩ : ∃ q : Nat, q = nq := ⟨_, rfl⟩
  go_wp2_with fail
  obtain ⟨V, hWV⟩ : ∃ V, w.drewN q0 = V := ⟨_, rfl⟩
  have huV : Up w V := by rw [← hWV]; exact Up.drewN w q0
  rw [hWV]
  have c_ba_5V := cell_up huV c_ba_5
  have c_ba_6V := cell_up huV c_ba_6
  have c_bb_0V := cell_up huV c_bb_0
  have c_bb_5V := cell_up huV c_bb_5
  have c_bb_6V := cell_up huV c_bb_6
  have c_bb_7V := cell_up huV c_bb_7
  have hTV := hT.up huV
  have hvV : Up w V := huV
  clear c_ba_5 c_ba_6 c_bb_0 c_bb_5 c_bb_6 c_bb_7 huV hWV hT
  go_quiet (fail)
  obtain ⟨q1, rfl⟩ : ∃ q : Nat, q = nq := ⟨_, rfl⟩
  go_wp2_with fail
  obtain ⟨U, hWU⟩ : ∃ U, V.drewN q1 = U := ⟨_, rfl⟩
  have huU : Up V U := by rw [← hWU]; exact Up.drewN V q1
  rw [hWU]
  have c_ba_5U := cell_up huU c_ba_5V
  have c_ba_6U := cell_up huU c_ba_6V
  have c_bb_0U := cell_up huU c_bb_0V
  have c_bb_5U := cell_up huU c_bb_5V
  have c_bb_6U := cell_up huU c_bb_6V
  have c_bb_7U := cell_up huU c_bb_7V
  have hTU := hTV.up huU
  have hvU : Up w U := hvV.trans huU
  clear c_ba_5V c_ba_6V c_bb_0V c_bb_5V c_bb_6V c_bb_7V huU hWU hTV hvV
  have hS : Up w U ∧ Tabs U ∧ U.cell? ⟨bb, 6, none⟩ = some (.pointer (some ⟨bbl, 0, none⟩)) ∧ U.cell? ⟨bb, 7, none⟩ = some (.pointer (some ⟨bbr, 0, none⟩)) := ⟨hvU, hTU, c_bb_6U, c_bb_7U⟩
  clear c_ba_5U c_ba_6U c_bb_0U c_bb_5U c_bb_6U c_bb_7U hTU hvU
  go_region_held3 (fun w' => Up w w' ∧ Tabs w' ∧ w'.cell? ⟨bb, 6, none⟩ = some (.pointer (some ⟨bbl, 0, none⟩)) ∧ w'.cell? ⟨bb, 7, none⟩ = some (.pointer (some ⟨bbr, 0, none⟩)))
    (first | assumption | with_reducible exact keep2 hu2 (by assumption) | with_reducible exact keep2 hu1 (by assumption) | with_reducible exact keep2 (Up.drew _) (by assumption))
    (first | (go_at_call 34; ((with_reducible refine (HPJ.out _ ?_ ?_).mono ?_); (exact (by assumption : _ ∧ Tabs _ ∧ _).1); (exact (by assumption : _ ∧ Tabs _ ∧ _).2.1); rintro e w1 ⟨t1, hs1, g1, rfl, hn1, hu1⟩)) | (go_at_call 53; ((with_reducible refine (HPL.out _ _ _ ?_ ?_ hs1 hn1).mono ?_); (exact (by assumption : _ ∧ Tabs _ ∧ _).1); (exact (by assumption : _ ∧ Tabs _ ∧ _).2.1); rintro e w2 ⟨g2, rfl, hn2, hu2⟩)))
  have HF := Lib.hid (by assumption : Up w w2 ∧ _).1
  go_wp2
  go_ret
  exact ⟨t1, hs1, g2, rfl, hn2, HF.out⟩

set_option maxRecDepth 100000 in
set_option maxHeartbeats 1000000 in
theorem join_r2 (w : World) (ba bb bbl bbr an ad bn bd : Nat) (hT : Tabs w)
    (c_ba_0 : w.cell? ⟨ba, 0, none⟩ = some (.int .i64 (an : Nat))) (c_ba_5 : w.cell? ⟨ba, 5, none⟩ = some (.int .i64 (ad : Nat))) (c_ba_6 : w.cell? ⟨ba, 6, none⟩ = some (.pointer none)) (c_bb_0 : w.cell? ⟨bb, 0, none⟩ = some (.int .i64 (bn : Nat))) (c_bb_5 : w.cell? ⟨bb, 5, none⟩ = some (.int .i64 (bd : Nat))) (c_bb_6 : w.cell? ⟨bb, 6, none⟩ = some (.pointer (some ⟨bbl, 0, none⟩))) (c_bb_7 : w.cell? ⟨bb, 7, none⟩ = some (.pointer (some ⟨bbr, 0, none⟩)))
    (hd1 : (bd : Int) ≤ 1048576) (hd2 : (ad : Int) ≤ 1048576) (g7 : (ad : Int) ≤ bd + 1) (g9 : (bd : Int) ≤ ad + 1) (hsa : (an : Int) < 256) (hsb : (256 : Int) ≤ bn)
    (ta tbl tbr : T) (PJ : ∀ W, Up w W → Tabs W → Calls Tryd.prog 34 #[.pointer (some ⟨ba, 0, none⟩), .pointer (some ⟨bbl, 0, none⟩)] W (JoinPost ta tbl W)) (PL : ∀ W b1 t, Up w W → Tabs W → JoinSpec ta tbl t → Node W t b1 → Calls Tryd.prog 53 #[.pointer (some ⟨b1, 0, none⟩), .pointer (some ⟨bbr, 0, none⟩)] W (NewT (lev t tbr) W)) :
    Calls Tryd.prog 34 #[.pointer (some ⟨ba, 0, none⟩), .pointer (some ⟨bb, 0, none⟩)] w (JoinR ta tbl tbr w) := by
  have e1 : IntKind.i64.wrap ((bd : Int) + 1) = (bd : Int) + 1 := IntWalk.i64_in _ (by omega)
  have e2 : IntKind.i64.wrap ((ad : Int) + 1) = (ad : Int) + 1 := IntWalk.i64_in _ (by omega)
  have HPJ := Lib.hid PJ
  clear PJ
  have HPL := Lib.hid PL
  clear PL
  have f7 : decide ((bd : Int) + 1 < ad) = false := by simpa using g7
  have f9 : decide ((ad : Int) + 1 < bd) = false := by simpa using g9
  clear hd1 hd2
  go_enter Tryd.func34, Tryd.ntmps34
  go_wp2_with (first | (go_at_call 51; ((with_reducible refine (isLeaf_yes _ w c_ba_6).mono ?_); rintro e w' ⟨rfl, rfl⟩)) | (go_at_call 51; ((with_reducible refine (isLeaf_no _ _ w c_bb_6).mono ?_); rintro e w' ⟨rfl, rfl⟩)))
  go_quiet (first | (go_at_call 52; exact Calls.quiet_of_same (isSmall_no_q _ _ _ c_bb_0 hsb)))
  obtain ⟨q0, rfl⟩ : ∃ q : Nat, q = nq := ⟨_, rfl⟩
  go_wp2_with fail
  obtain ⟨V, hWV⟩ : ∃ V, w.drewN q0 = V := ⟨_, rfl⟩
  have huV : Up w V := by rw [← hWV]; exact Up.drewN w q0
  rw [hWV]
  have c_ba_0V := cell_up huV c_ba_0
  have c_ba_5V := cell_up huV c_ba_5
  have c_ba_6V := cell_up huV c_ba_6
  have c_bb_0V := cell_up huV c_bb_0
  have c_bb_5V := cell_up huV c_bb_5
  have c_bb_6V := cell_up huV c_bb_6
  have c_bb_7V := cell_up huV c_bb_7
  have hTV := hT.up huV
  have hvV : Up w V := huV
  clear c_ba_0 c_ba_5 c_ba_6 c_bb_0 c_bb_5 c_bb_6 c_bb_7 huV hWV hT
  go_quiet (first | (go_at_call 52; exact Calls.quiet_of_same (isSmall_yes_q _ _ _ c_ba_0V hsa)) | (go_at_call 51; exact Calls.quiet_of_same (isLeaf_no_q _ _ _ c_bb_6V)))
  obtain ⟨q1, rfl⟩ : ∃ q : Nat, q = nq := ⟨_, rfl⟩
  go_wp2_with fail
  obtain ⟨U, hWU⟩ : ∃ U, V.drewN q1 = U := ⟨_, rfl⟩
  have huU : Up V U := by rw [← hWU]; exact Up.drewN V q1
  rw [hWU]
  have c_ba_0U := cell_up huU c_ba_0V
  have c_ba_5U := cell_up huU c_ba_5V
  have c_ba_6U := cell_up huU c_ba_6V
  have c_bb_0U := cell_up huU c_bb_0V
  have c_bb_5U := cell_up huU c_bb_5V
  have c_bb_6U := cell_up huU c_bb_6V
  have c_bb_7U := cell_up huU c_bb_7V
  have hTU := hTV.up huU
  have hvU : Up w U := hvV.trans huU
  clear c_ba_0V c_ba_5V c_ba_6V c_bb_0V c_bb_5V c_bb_6V c_bb_7V huU hWU hTV hvV
  have hS : Up w U ∧ Tabs U ∧ U.cell? ⟨bb, 6, none⟩ = some (.pointer (some ⟨bbl, 0, none⟩)) ∧ U.cell? ⟨bb, 7, none⟩ = some (.pointer (some ⟨bbr, 0, none⟩)) := ⟨hvU, hTU, c_bb_6U, c_bb_7U⟩
  clear c_ba_0U c_ba_5U c_ba_6U c_bb_0U c_bb_5U c_bb_6U c_bb_7U hTU hvU
  go_region_held3 (fun w' => Up w w' ∧ Tabs w' ∧ w'.cell? ⟨bb, 6, none⟩ = some (.pointer (some ⟨bbl, 0, none⟩)) ∧ w'.cell? ⟨bb, 7, none⟩ = some (.pointer (some ⟨bbr, 0, none⟩)))
    (first | assumption | with_reducible exact keep2 hu2 (by assumption) | with_reducible exact keep2 hu1 (by assumption) | with_reducible exact keep2 (Up.drew _) (by assumption))
    (first | (go_at_call 34; ((with_reducible refine (HPJ.out _ ?_ ?_).mono ?_); (exact (by assumption : _ ∧ Tabs _ ∧ _).1); (exact (by assumption : _ ∧ Tabs _ ∧ _).2.1); rintro e w1 ⟨t1, hs1, g1, rfl, hn1, hu1⟩)) | (go_at_call 53; ((with_reducible refine (HPL.out _ _ _ ?_ ?_ hs1 hn1).mono ?_); (exact (by assumption : _ ∧ Tabs _ ∧ _).1); (exact (by assumption : _ ∧ Tabs _ ∧ _).2.1); rintro e w2 ⟨g2, rfl, hn2, hu2⟩)))
  have HF := Lib.hid (by assumption : Up w w2 ∧ _).1
  go_wp2
  go_ret
  exact ⟨t1, hs1, g2, rfl, hn2, HF.out⟩

set_option maxRecDepth 100000 in
set_option maxHeartbeats 1000000 in
theorem join_p1 (w : World) (ba bb an ad bn bd : Nat) (hT : Tabs w)
    (c_ba_0 : w.cell? ⟨ba, 0, none⟩ = some (.int .i64 (an : Nat))) (c_ba_5 : w.cell? ⟨ba, 5, none⟩ = some (.int .i64 (ad : Nat))) (c_ba_6 : w.cell? ⟨ba, 6, none⟩ = some (.pointer none)) (c_bb_0 : w.cell? ⟨bb, 0, none⟩ = some (.int .i64 (bn : Nat))) (c_bb_5 : w.cell? ⟨bb, 5, none⟩ = some (.int .i64 (bd : Nat))) (c_bb_6 : w.cell? ⟨bb, 6, none⟩ = some (.pointer none))
    (hd1 : (bd : Int) ≤ 1048576) (hd2 : (ad : Int) ≤ 1048576) (g7 : (ad : Int) ≤ bd + 1) (g9 : (bd : Int) ≤ ad + 1) (hsa : (256 : Int) ≤ an) (hsb : (256 : Int) ≤ bn)
    (ta tb : T) (PP : ∀ W, Up w W → Tabs W → Calls Tryd.prog 54 #[.pointer (some ⟨ba, 0, none⟩), .pointer (some ⟨bb, 0, none⟩)] W (NewT (.node ta tb) W)) :
    Calls Tryd.prog 34 #[.pointer (some ⟨ba, 0, none⟩), .pointer (some ⟨bb, 0, none⟩)] w (NewT (.node ta tb) w) := by
  have e1 : IntKind.i64.wrap ((bd : Int) + 1) = (bd : Int) + 1 := IntWalk.i64_in _ (by omega)
  have e2 : IntKind.i64.wrap ((ad : Int) + 1) = (ad : Int) + 1 := IntWalk.i64_in _ (by omega)
  have HPP := Lib.hid PP
  clear PP
  have f7 : decide ((bd : Int) + 1 < ad) = false := by simpa using g7
  have f9 : decide ((ad : Int) + 1 < bd) = false := by simpa using g9
  clear hd1 hd2
  go_enter Tryd.func34, Tryd.ntmps34
  go_wp2_with (first | (go_at_call 51; ((with_reducible refine (isLeaf_yes _ w c_ba_6).mono ?_); rintro e w' ⟨rfl, rfl⟩)) | (go_at_call 51; ((with_reducible refine (isLeaf_yes _ w c_bb_6).mono ?_); rintro e w' ⟨rfl, rfl⟩)) | (go_at_call 52; ((with_reducible refine (isSmall_no _ _ w c_ba_0 hsa).mono ?_); rintro e w' ⟨rfl, rfl⟩)) | (go_at_call 52; ((with_reducible refine (isSmall_no _ _ w c_bb_0 hsb).mono ?_); rintro e w' ⟨rfl, rfl⟩)))
  go_quiet (first | (go_at_call 52; exact Calls.quiet_of_same (isSmall_no_q _ _ _ c_bb_0 hsb)))
  obtain ⟨q0, rfl⟩ : ∃ q : Nat, q = nq := ⟨_, rfl⟩
  go_wp2_with fail
  obtain ⟨V, hWV⟩ : ∃ V, w.drewN q0 = V := ⟨_, rfl⟩
  have huV : Up w V := by rw [← hWV]; exact Up.drewN w q0
  rw [hWV]
  have c_ba_0V := cell_up huV c_ba_0
  have c_ba_5V := cell_up huV c_ba_5
  have c_ba_6V := cell_up huV c_ba_6
  have c_bb_0V := cell_up huV c_bb_0
  have c_bb_5V := cell_up huV c_bb_5
  have c_bb_6V := cell_up huV c_bb_6
  have hTV := hT.up huV
  have hvV : Up w V := huV
  clear c_ba_0 c_ba_5 c_ba_6 c_bb_0 c_bb_5 c_bb_6 huV hWV hT
  go_quiet (first | (go_at_call 52; exact Calls.quiet_of_same (isSmall_no_q _ _ _ c_ba_0V hsa)))
  obtain ⟨q1, rfl⟩ : ∃ q : Nat, q = nq := ⟨_, rfl⟩
  have hvX : Up w (V.drewN q1) := hvV.trans (Up.drewN V q1)
  have hTX : Tabs (V.drewN q1) := hTV.up (Up.drewN V q1)
  go_wp2_with (go_at_call 54; refine (HPP.out _ hvX hTX).mono ?_; rintro e w1 ⟨g1, rfl, hn1, hu1⟩)
  go_ret
  exact ⟨g1, rfl, hn1, hvX.trans hu1⟩

set_option maxRecDepth 100000 in
set_option maxHeartbeats 1000000 in
theorem join_p2 (w : World) (ba bb bal an ad bn bd : Nat) (hT : Tabs w)
    (c_ba_0 : w.cell? ⟨ba, 0, none⟩ = some (.int .i64 (an : Nat))) (c_ba_5 : w.cell? ⟨ba, 5, none⟩ = some (.int .i64 (ad : Nat))) (c_ba_6 : w.cell? ⟨ba, 6, none⟩ = some (.pointer (some ⟨bal, 0, none⟩))) (c_bb_0 : w.cell? ⟨bb, 0, none⟩ = some (.int .i64 (bn : Nat))) (c_bb_5 : w.cell? ⟨bb, 5, none⟩ = some (.int .i64 (bd : Nat)))
    (hd1 : (bd : Int) ≤ 1048576) (hd2 : (ad : Int) ≤ 1048576) (g7 : (ad : Int) ≤ bd + 1) (g9 : (bd : Int) ≤ ad + 1) (hsa : (256 : Int) ≤ an) (hsb : (256 : Int) ≤ bn)
    (ta tb : T) (PP : ∀ W, Up w W → Tabs W → Calls Tryd.prog 54 #[.pointer (some ⟨ba, 0, none⟩), .pointer (some ⟨bb, 0, none⟩)] W (NewT (.node ta tb) W)) :
    Calls Tryd.prog 34 #[.pointer (some ⟨ba, 0, none⟩), .pointer (some ⟨bb, 0, none⟩)] w (NewT (.node ta tb) w) := by
  have e1 : IntKind.i64.wrap ((bd : Int) + 1) = (bd : Int) + 1 := IntWalk.i64_in _ (by omega)
  have e2 : IntKind.i64.wrap ((ad : Int) + 1) = (ad : Int) + 1 := IntWalk.i64_in _ (by omega)
  have HPP := Lib.hid PP
  clear PP
  have f7 : decide ((bd : Int) + 1 < ad) = false := by simpa using g7
  have f9 : decide ((ad : Int) + 1 < bd) = false := by simpa using g9
  clear hd1 hd2
  go_enter Tryd.func34, Tryd.ntmps34
  go_wp2_with (first | (go_at_call 51; ((with_reducible refine (isLeaf_no _ _ w c_ba_6).mono ?_); rintro e w' ⟨rfl, rfl⟩)))
  go_quiet (first | (go_at_call 52; exact Calls.quiet_of_same (isSmall_no_q _ _ _ c_bb_0 hsb)))
  obtain ⟨q0, rfl⟩ : ∃ q : Nat, q = nq := ⟨_, rfl⟩
  go_wp2_with fail
  obtain ⟨V, hWV⟩ : ∃ V, w.drewN q0 = V := ⟨_, rfl⟩
  have huV : Up w V := by rw [← hWV]; exact Up.drewN w q0
  rw [hWV]
  have c_ba_0V := cell_up huV c_ba_0
  have c_ba_5V := cell_up huV c_ba_5
  have c_ba_6V := cell_up huV c_ba_6
  have c_bb_0V := cell_up huV c_bb_0
  have c_bb_5V := cell_up huV c_bb_5
  have hTV := hT.up huV
  have hvV : Up w V := huV
  clear c_ba_0 c_ba_5 c_ba_6 c_bb_0 c_bb_5 huV hWV hT
  go_quiet (first | (go_at_call 52; exact Calls.quiet_of_same (isSmall_no_q _ _ _ c_ba_0V hsa)))
  obtain ⟨q1, rfl⟩ : ∃ q : Nat, q = nq := ⟨_, rfl⟩
  have hvX : Up w (V.drewN q1) := hvV.trans (Up.drewN V q1)
  have hTX : Tabs (V.drewN q1) := hTV.up (Up.drewN V q1)
  go_wp2_with (go_at_call 54; refine (HPP.out _ hvX hTX).mono ?_; rintro e w1 ⟨g1, rfl, hn1, hu1⟩)
  go_ret
  exact ⟨g1, rfl, hn1, hvX.trans hu1⟩

set_option maxRecDepth 100000 in
set_option maxHeartbeats 1000000 in
theorem join_p3 (w : World) (ba bb bbl an ad bn bd : Nat) (hT : Tabs w)
    (c_ba_0 : w.cell? ⟨ba, 0, none⟩ = some (.int .i64 (an : Nat))) (c_ba_5 : w.cell? ⟨ba, 5, none⟩ = some (.int .i64 (ad : Nat))) (c_ba_6 : w.cell? ⟨ba, 6, none⟩ = some (.pointer none)) (c_bb_0 : w.cell? ⟨bb, 0, none⟩ = some (.int .i64 (bn : Nat))) (c_bb_5 : w.cell? ⟨bb, 5, none⟩ = some (.int .i64 (bd : Nat))) (c_bb_6 : w.cell? ⟨bb, 6, none⟩ = some (.pointer (some ⟨bbl, 0, none⟩)))
    (hd1 : (bd : Int) ≤ 1048576) (hd2 : (ad : Int) ≤ 1048576) (g7 : (ad : Int) ≤ bd + 1) (g9 : (bd : Int) ≤ ad + 1) (hsa : (256 : Int) ≤ an) (hsb : (256 : Int) ≤ bn)
    (ta tb : T) (PP : ∀ W, Up w W → Tabs W → Calls Tryd.prog 54 #[.pointer (some ⟨ba, 0, none⟩), .pointer (some ⟨bb, 0, none⟩)] W (NewT (.node ta tb) W)) :
    Calls Tryd.prog 34 #[.pointer (some ⟨ba, 0, none⟩), .pointer (some ⟨bb, 0, none⟩)] w (NewT (.node ta tb) w) := by
  have e1 : IntKind.i64.wrap ((bd : Int) + 1) = (bd : Int) + 1 := IntWalk.i64_in _ (by omega)
  have e2 : IntKind.i64.wrap ((ad : Int) + 1) = (ad : Int) + 1 := IntWalk.i64_in _ (by omega)
  have HPP := Lib.hid PP
  clear PP
  have f7 : decide ((bd : Int) + 1 < ad) = false := by simpa using g7
  have f9 : decide ((ad : Int) + 1 < bd) = false := by simpa using g9
  clear hd1 hd2
  go_enter Tryd.func34, Tryd.ntmps34
  go_wp2_with (first | (go_at_call 51; ((with_reducible refine (isLeaf_yes _ w c_ba_6).mono ?_); rintro e w' ⟨rfl, rfl⟩)) | (go_at_call 51; ((with_reducible refine (isLeaf_no _ _ w c_bb_6).mono ?_); rintro e w' ⟨rfl, rfl⟩)))
  go_quiet (first | (go_at_call 52; exact Calls.quiet_of_same (isSmall_no_q _ _ _ c_bb_0 hsb)))
  obtain ⟨q0, rfl⟩ : ∃ q : Nat, q = nq := ⟨_, rfl⟩
  go_wp2_with fail
  obtain ⟨V, hWV⟩ : ∃ V, w.drewN q0 = V := ⟨_, rfl⟩
  have huV : Up w V := by rw [← hWV]; exact Up.drewN w q0
  rw [hWV]
  have c_ba_0V := cell_up huV c_ba_0
  have c_ba_5V := cell_up huV c_ba_5
  have c_ba_6V := cell_up huV c_ba_6
  have c_bb_0V := cell_up huV c_bb_0
  have c_bb_5V := cell_up huV c_bb_5
  have c_bb_6V := cell_up huV c_bb_6
  have hTV := hT.up huV
  have hvV : Up w V := huV
  clear c_ba_0 c_ba_5 c_ba_6 c_bb_0 c_bb_5 c_bb_6 huV hWV hT
  go_quiet (first | (go_at_call 52; exact Calls.quiet_of_same (isSmall_no_q _ _ _ c_ba_0V hsa)))
  obtain ⟨q1, rfl⟩ : ∃ q : Nat, q = nq := ⟨_, rfl⟩
  have hvX : Up w (V.drewN q1) := hvV.trans (Up.drewN V q1)
  have hTX : Tabs (V.drewN q1) := hTV.up (Up.drewN V q1)
  go_wp2_with (go_at_call 54; refine (HPP.out _ hvX hTX).mono ?_; rintro e w1 ⟨g1, rfl, hn1, hu1⟩)
  go_ret
  exact ⟨g1, rfl, hn1, hvX.trans hu1⟩

set_option maxRecDepth 100000 in
set_option maxHeartbeats 1000000 in
theorem join_p4 (w : World) (ba bb bal an ad bn bd : Nat) (hT : Tabs w)
    (c_ba_0 : w.cell? ⟨ba, 0, none⟩ = some (.int .i64 (an : Nat))) (c_ba_5 : w.cell? ⟨ba, 5, none⟩ = some (.int .i64 (ad : Nat))) (c_ba_6 : w.cell? ⟨ba, 6, none⟩ = some (.pointer (some ⟨bal, 0, none⟩))) (c_bb_0 : w.cell? ⟨bb, 0, none⟩ = some (.int .i64 (bn : Nat))) (c_bb_5 : w.cell? ⟨bb, 5, none⟩ = some (.int .i64 (bd : Nat)))
    (hd1 : (bd : Int) ≤ 1048576) (hd2 : (ad : Int) ≤ 1048576) (g7 : (ad : Int) ≤ bd + 1) (g9 : (bd : Int) ≤ ad + 1) (hsa : (256 : Int) ≤ an) (hsb : (256 : Int) ≤ bn)
    (ta tb : T) (PP : ∀ W, Up w W → Tabs W → Calls Tryd.prog 54 #[.pointer (some ⟨ba, 0, none⟩), .pointer (some ⟨bb, 0, none⟩)] W (NewT (.node ta tb) W)) :
    Calls Tryd.prog 34 #[.pointer (some ⟨ba, 0, none⟩), .pointer (some ⟨bb, 0, none⟩)] w (NewT (.node ta tb) w) := by
  have e1 : IntKind.i64.wrap ((bd : Int) + 1) = (bd : Int) + 1 := IntWalk.i64_in _ (by omega)
  have e2 : IntKind.i64.wrap ((ad : Int) + 1) = (ad : Int) + 1 := IntWalk.i64_in _ (by omega)
  have HPP := Lib.hid PP
  clear PP
  have f7 : decide ((bd : Int) + 1 < ad) = false := by simpa using g7
  have f9 : decide ((ad : Int) + 1 < bd) = false := by simpa using g9
  clear hd1 hd2
  go_enter Tryd.func34, Tryd.ntmps34
  go_wp2_with (first | (go_at_call 51; ((with_reducible refine (isLeaf_no _ _ w c_ba_6).mono ?_); rintro e w' ⟨rfl, rfl⟩)))
  go_quiet (first | (go_at_call 52; exact Calls.quiet_of_same (isSmall_no_q _ _ _ c_bb_0 hsb)))
  obtain ⟨q0, rfl⟩ : ∃ q : Nat, q = nq := ⟨_, rfl⟩
  go_wp2_with fail
  obtain ⟨V, hWV⟩ : ∃ V, w.drewN q0 = V := ⟨_, rfl⟩
  have huV : Up w V := by rw [← hWV]; exact Up.drewN w q0
  rw [hWV]
  have c_ba_0V := cell_up huV c_ba_0
  have c_ba_5V := cell_up huV c_ba_5
  have c_ba_6V := cell_up huV c_ba_6
  have c_bb_0V := cell_up huV c_bb_0
  have c_bb_5V := cell_up huV c_bb_5
  have hTV := hT.up huV
  have hvV : Up w V := huV
  clear c_ba_0 c_ba_5 c_ba_6 c_bb_0 c_bb_5 huV hWV hT
  go_quiet (first | (go_at_call 52; exact Calls.quiet_of_same (isSmall_no_q _ _ _ c_ba_0V hsa)))
  obtain ⟨q1, rfl⟩ : ∃ q : Nat, q = nq := ⟨_, rfl⟩
  have hvX : Up w (V.drewN q1) := hvV.trans (Up.drewN V q1)
  have hTX : Tabs (V.drewN q1) := hTV.up (Up.drewN V q1)
  go_wp2_with (go_at_call 54; refine (HPP.out _ hvX hTX).mono ?_; rintro e w1 ⟨g1, rfl, hn1, hu1⟩)
  go_ret
  exact ⟨g1, rfl, hn1, hvX.trans hu1⟩

end Go.Proofs.YtfcpieodgflmnaaDoor

namespace Go.Proofs.YtfcpieodgflmnaaDoor
open Go.RowKit

theorem Ok.big {t : T} (h : Ok t) (hs : 256 ≤ t.text.size) : Big t := by
  cases t with
  | leaf s => exact ⟨hs, h.2⟩
  | node l r => exact h
theorem Ok.leaf_of_small {t : T} (h : Ok t) (hs : t.text.size < 256) : ∃ s, t = .leaf s := by
  cases t with
  | leaf s => exact ⟨s, rfl⟩
  | node l r => have := Big.size h; omega
theorem joinSpec_l {al ar tb t : T} (ha : Big (.node al ar)) (hj : JoinSpec ar tb t) (hc : tb.dp + 1 < (T.node al ar).dp ∨ ((T.node al ar).dp ≤ tb.dp + 1 ∧ tb.dp = 1)) :
    (Big al ∧ Big t ∧ al.dp ≤ t.dp + 2 ∧ t.dp ≤ al.dp + 2) ∧ JoinSpec (.node al ar) tb (lev al t) := by
  obtain ⟨hal, har, d1, d2⟩ := ha
  obtain ⟨j1, j2, ⟨j3, j4⟩, j5⟩ := hj
  have hs := har.size
  have hb := j5 (by omega)
  have pl := al.dp_pos
  have pr := ar.dp_pos
  have pb := tb.dp_pos
  rw [T.dp_node] at hc
  have k1 : al.dp ≤ t.dp + 2 := by omega
  have k2 : t.dp ≤ al.dp + 2 := by omega
  obtain ⟨l1, l2, ⟨l3, l4⟩, l5⟩ := lev_spec hal hb k1 k2
  refine ⟨⟨hal, hb, k1, k2⟩, l1.ok, ?_, ?_, fun _ => l1⟩
  · rw [l2, j2, T.text_node, ByteArray.append_assoc]
  · rw [T.dp_node]
    by_cases hd : al.dp ≤ t.dp + 1 ∧ t.dp ≤ al.dp + 1
    · have := l5 hd.1 hd.2; omega
    · omega
theorem joinSpec_r {ta bl br t : T} (hb : Big (.node bl br)) (hj : JoinSpec ta bl t) (hc : ta.dp + 1 < (T.node bl br).dp ∨ ((T.node bl br).dp ≤ ta.dp + 1 ∧ ta.dp = 1)) :
    (Big t ∧ Big br ∧ t.dp ≤ br.dp + 2 ∧ br.dp ≤ t.dp + 2) ∧ JoinSpec ta (.node bl br) (lev t br) := by
  obtain ⟨hbl, hbr, d1, d2⟩ := hb
  obtain ⟨j1, j2, ⟨j3, j4⟩, j5⟩ := hj
  have hs := hbl.size
  have ht := j5 (by omega)
  have pl := bl.dp_pos
  have pr := br.dp_pos
  have pa := ta.dp_pos
  rw [T.dp_node] at hc
  have k1 : t.dp ≤ br.dp + 2 := by omega
  have k2 : br.dp ≤ t.dp + 2 := by omega
  obtain ⟨l1, l2, ⟨l3, l4⟩, l5⟩ := lev_spec ht hbr k1 k2
  refine ⟨⟨ht, hbr, k1, k2⟩, l1.ok, ?_, ?_, fun _ => l1⟩
  · rw [l2, j2, T.text_node, ByteArray.append_assoc]
  · rw [T.dp_node]
    by_cases hd : t.dp ≤ br.dp + 1 ∧ br.dp ≤ t.dp + 1
    · have := l5 hd.1 hd.2; omega
    · omega
theorem joinSpec_p {ta tb : T} (ha : Big ta) (hb : Big tb) (h1 : ta.dp ≤ tb.dp + 1) (h2 : tb.dp ≤ ta.dp + 1) : JoinSpec ta tb (.node ta tb) :=
  ⟨big_node ha hb h1 h2, rfl, by rw [T.dp_node]; omega, fun _ => big_node ha hb h1 h2⟩
theorem joinSpec_g {x y : ByteArray} {t : T} (hx : x.size ≤ 512) (hy : y.size ≤ 512) (hg : GrowSpec (x ++ y) t) : JoinSpec (.leaf x) (.leaf y) t := by
  obtain ⟨g1, g2, g3, g4, g5⟩ := hg
  rw [ByteArray.size_append] at g3 g4 g5
  have p := t.dp_pos
  have := g5 (by omega)
  exact ⟨g1, g2, ⟨by show max 1 1 ≤ t.dp; omega, by show t.dp ≤ max 1 1 + 1; omega⟩, g3⟩

theorem Node.sz {w : World} {t : T} {b : Nat} (h : Node w t b) : w.cell? ⟨b, 0, none⟩ = some (.int .i64 (t.text.size : Nat)) := by
  obtain ⟨l, r, c⟩ := node_cell h
  exact cellOf c rfl
theorem Node.leaf_cells {w : World} {x : ByteArray} {b : Nat} (h : Node w (.leaf x) b) : w.cell? ⟨b, 6, none⟩ = some (.pointer none) ∧ w.cell? ⟨b, 8, none⟩ = some (.string x) := ⟨cellOf h.2 rfl, cellOf h.2 rfl⟩
theorem Ok.dp_small {t : T} (h : Ok t) (hs : (t.text.size : Int) ≤ 1048576) : t.dp ≤ 25 := by
  by_cases h2 : 256 ≤ t.text.size
  · exact Go.Proofs.YtfcpieodgflmnaaDoor.dp_small (h.big h2) hs
  · obtain ⟨s, rfl⟩ := h.leaf_of_small (by omega)
    show 1 ≤ 25; omega

theorem join_any : ∀ (n : Nat) (ta tb : T) (b1 b2 : Nat) (w : World), ta.dp + tb.dp ≤ n → Ok ta → Ok tb → Node w ta b1 → Node w tb b2 → (ta.text.size : Int) + tb.text.size ≤ 1048576 → Tabs w →
    Calls Tryd.prog 34 #[.pointer (some ⟨b1, 0, none⟩), .pointer (some ⟨b2, 0, none⟩)] w (JoinPost ta tb w) := by
  intro n
  induction n with
  | zero => intro ta tb b1 b2 w h; have := ta.dp_pos; omega
  | succ n ih =>
    intro ta tb b1 b2 w hn ha hb n1 n2 hs hT
    have q1 := ha.dp_small (by omega)
    have q2 := hb.dp_small (by omega)
    have pa := ta.dp_pos
    have pb := tb.dp_pos
    have za := ha.size
    have zb := hb.size
    -- the left one is opened
    have wayL : ∀ al ar, ta = .node al ar → (tb.dp + 1 < ta.dp ∨ (ta.dp ≤ tb.dp + 1 ∧ tb.text.size < 256)) → Calls Tryd.prog 34 #[.pointer (some ⟨b1, 0, none⟩), .pointer (some ⟨b2, 0, none⟩)] w (JoinPost ta tb w) := by
      rintro al ar rfl hc
      obtain ⟨bl, br, hcell, nl, nr⟩ := n1.mk
      have hbig : Big (.node al ar) := ha
      have hal := hbig.1
      have har := hbig.2.1
      have hsl := hal.size
      have hsr := har.size
      rw [T.text_node, ByteArray.size_append] at hs
      rw [T.dp_node] at hn
      have hc' : tb.dp + 1 < (T.node al ar).dp ∨ ((T.node al ar).dp ≤ tb.dp + 1 ∧ tb.dp = 1) := by
        rcases hc with h | ⟨h, h2⟩
        · exact .inl h
        · obtain ⟨x, rfl⟩ := hb.leaf_of_small h2
          exact .inr ⟨h, rfl⟩
      have PJ : ∀ W, Up w W → Tabs W → Calls Tryd.prog 34 #[.pointer (some ⟨br, 0, none⟩), .pointer (some ⟨b2, 0, none⟩)] W (JoinPost ar tb W) := fun W hu ht => ih ar tb br b2 W (by omega) har.ok hb (nr.up hu) (n2.up hu) (by omega) ht
      have PL : ∀ W q t, Up w W → Tabs W → JoinSpec ar tb t → Node W t q → Calls Tryd.prog 53 #[.pointer (some ⟨bl, 0, none⟩), .pointer (some ⟨q, 0, none⟩)] W (NewT (lev al t) W) := fun W q t hu ht hj hq => by
        obtain ⟨⟨k1, k2, k3, k4⟩, _⟩ := joinSpec_l hbig hj hc'
        exact level_any (nl.up hu) hq k1 k2 (by rw [hj.2.1, ByteArray.size_append]; omega) k3 k4 ht
      have fin : ∀ {e w'}, JoinL al ar tb w e w' → JoinPost (.node al ar) tb w e w' := fun {e w'} ⟨t, hj, hn⟩ => ⟨_, (joinSpec_l hbig hj hc').2, hn⟩
      by_cases h1 : tb.dp + 1 < (T.node al ar).dp
      · exact (join_l1 w b1 b2 bl br (T.node al ar).dp tb.dp hT n1.dpth (cellOf hcell rfl) (cellOf hcell rfl) n2.dpth (by omega) (by omega) (by omega) al ar tb PJ PL).mono fun _ _ => fin
      · have h2 : tb.text.size < 256 := by rcases hc with h | h <;> omega
        exact (join_l2 w b1 b2 bl br (T.node al ar).dp tb.text.size tb.dp hT n1.dpth (cellOf hcell rfl) (cellOf hcell rfl) n2.sz n2.dpth (by omega) (by omega) (by omega) (by omega) al ar tb PJ PL).mono fun _ _ => fin
    -- the right one is opened
    have wayR : ∀ bl br, tb = .node bl br → ta.dp ≤ tb.dp + 1 → (ta.dp + 1 < tb.dp ∨ (tb.dp ≤ ta.dp + 1 ∧ ta.text.size < 256)) → Calls Tryd.prog 34 #[.pointer (some ⟨b1, 0, none⟩), .pointer (some ⟨b2, 0, none⟩)] w (JoinPost ta tb w) := by
      rintro bl br rfl h7 hc
      obtain ⟨cl, cr, hcell, nl, nr⟩ := n2.mk
      have hbig : Big (.node bl br) := hb
      have hbl := hbig.1
      have hbr := hbig.2.1
      have hsl := hbl.size
      have hsr := hbr.size
      have hsb : 256 ≤ (T.node bl br).text.size := Big.size hbig
      rw [T.text_node, ByteArray.size_append] at hs
      rw [T.dp_node] at hn
      have hc' : ta.dp + 1 < (T.node bl br).dp ∨ ((T.node bl br).dp ≤ ta.dp + 1 ∧ ta.dp = 1) := by
        rcases hc with h | ⟨h, h2⟩
        · exact .inl h
        · obtain ⟨x, rfl⟩ := ha.leaf_of_small h2
          exact .inr ⟨h, rfl⟩
      have PJ : ∀ W, Up w W → Tabs W → Calls Tryd.prog 34 #[.pointer (some ⟨b1, 0, none⟩), .pointer (some ⟨cl, 0, none⟩)] W (JoinPost ta bl W) := fun W hu ht => ih ta bl b1 cl W (by omega) ha hbl.ok (n1.up hu) (nl.up hu) (by omega) ht
      have PL : ∀ W q t, Up w W → Tabs W → JoinSpec ta bl t → Node W t q → Calls Tryd.prog 53 #[.pointer (some ⟨q, 0, none⟩), .pointer (some ⟨cr, 0, none⟩)] W (NewT (lev t br) W) := fun W q t hu ht hj hq => by
        obtain ⟨⟨k1, k2, k3, k4⟩, _⟩ := joinSpec_r hbig hj hc'
        exact level_any hq (nr.up hu) k1 k2 (by rw [hj.2.1, ByteArray.size_append]; omega) k3 k4 ht
      have fin : ∀ {e w'}, JoinR ta bl br w e w' → JoinPost ta (.node bl br) w e w' := fun {e w'} ⟨t, hj, hn⟩ => ⟨_, (joinSpec_r hbig hj hc').2, hn⟩
      by_cases h1 : ta.dp + 1 < (T.node bl br).dp
      · cases ta with
        | leaf x =>
          obtain ⟨c6, c8⟩ := n1.leaf_cells
          exact (join_r1 w b1 b2 cl cr (T.leaf x).dp (T.node bl br).text.size (T.node bl br).dp hT n1.dpth c6 n2.sz n2.dpth (cellOf hcell rfl) (cellOf hcell rfl) (by omega) (by omega) (by omega) (by omega) (by omega) (.leaf x) bl br PJ PL).mono fun _ _ => fin
        | node al ar =>
          obtain ⟨dl, dr, hcell2, _, _⟩ := n1.mk
          exact (join_r1n w b1 b2 dl cl cr (T.node al ar).dp (T.node bl br).text.size (T.node bl br).dp hT n1.dpth (cellOf hcell2 rfl) n2.sz n2.dpth (cellOf hcell rfl) (cellOf hcell rfl) (by omega) (by omega) (by omega) (by omega) (by omega) (.node al ar) bl br PJ PL).mono fun _ _ => fin
      · have h2 : ta.text.size < 256 := by rcases hc with h | h <;> omega
        obtain ⟨x, rfl⟩ := ha.leaf_of_small h2
        obtain ⟨c6, c8⟩ := n1.leaf_cells
        exact (join_r2 w b1 b2 cl cr (T.leaf x).text.size (T.leaf x).dp (T.node bl br).text.size (T.node bl br).dp hT n1.sz n1.dpth c6 n2.sz n2.dpth (cellOf hcell rfl) (cellOf hcell rfl) (by omega) (by omega) (by omega) (by omega) (by omega) (by omega) (.leaf x) bl br PJ PL).mono fun _ _ => fin
    have wayP : ta.dp ≤ tb.dp + 1 → tb.dp ≤ ta.dp + 1 → 256 ≤ ta.text.size → 256 ≤ tb.text.size → Calls Tryd.prog 34 #[.pointer (some ⟨b1, 0, none⟩), .pointer (some ⟨b2, 0, none⟩)] w (JoinPost ta tb w) := by
      intro g7 g9 g1 g2
      have PP : ∀ W, Up w W → Tabs W → Calls Tryd.prog 54 #[.pointer (some ⟨b1, 0, none⟩), .pointer (some ⟨b2, 0, none⟩)] W (NewT (.node ta tb) W) := fun W hu ht => pair_big (n1.up hu) (n2.up hu) (ha.big g1) (hb.big g2) hs ht
      have fin : ∀ {e w'}, NewT (.node ta tb) w e w' → JoinPost ta tb w e w' := fun {e w'} hn => ⟨_, joinSpec_p (ha.big g1) (hb.big g2) g7 g9, hn⟩
      cases ta with
      | leaf x =>
        obtain ⟨c6, c8⟩ := n1.leaf_cells
        cases tb with
        | leaf y =>
          obtain ⟨d6, d8⟩ := n2.leaf_cells
          exact (join_p1 w b1 b2 (T.leaf x).text.size (T.leaf x).dp (T.leaf y).text.size (T.leaf y).dp hT n1.sz n1.dpth c6 n2.sz n2.dpth d6 (by omega) (by omega) (by omega) (by omega) (by omega) (by omega) (.leaf x) (.leaf y) PP).mono fun _ _ => fin
        | node bl br =>
          obtain ⟨dl, dr, hcell2, _, _⟩ := n2.mk
          exact (join_p3 w b1 b2 dl (T.leaf x).text.size (T.leaf x).dp (T.node bl br).text.size (T.node bl br).dp hT n1.sz n1.dpth c6 n2.sz n2.dpth (cellOf hcell2 rfl) (by omega) (by omega) (by omega) (by omega) (by omega) (by omega) (.leaf x) (.node bl br) PP).mono fun _ _ => fin
      | node al ar =>
        obtain ⟨el, er, hcell1, _, _⟩ := n1.mk
        cases tb with
        | leaf y =>
          exact (join_p2 w b1 b2 el (T.node al ar).text.size (T.node al ar).dp (T.leaf y).text.size (T.leaf y).dp hT n1.sz n1.dpth (cellOf hcell1 rfl) n2.sz n2.dpth (by omega) (by omega) (by omega) (by omega) (by omega) (by omega) (.node al ar) (.leaf y) PP).mono fun _ _ => fin
        | node bl br =>
          exact (join_p4 w b1 b2 el (T.node al ar).text.size (T.node al ar).dp (T.node bl br).text.size (T.node bl br).dp hT n1.sz n1.dpth (cellOf hcell1 rfl) n2.sz n2.dpth (by omega) (by omega) (by omega) (by omega) (by omega) (by omega) (.node al ar) (.node bl br) PP).mono fun _ _ => fin
    by_cases c1 : tb.dp + 1 < ta.dp
    · obtain ⟨al, ar, e⟩ := not_leaf (t := ta) (by omega)
      exact wayL al ar e (.inl c1)
    by_cases c2 : ta.dp + 1 < tb.dp
    · obtain ⟨bl, br, e⟩ := not_leaf (t := tb) (by omega)
      exact wayR bl br e (by omega) (.inl c2)
    by_cases c3 : tb.text.size < 256
    · obtain ⟨y, rfl⟩ := hb.leaf_of_small c3
      cases ta with
      | node al ar => exact wayL al ar rfl (.inr ⟨by omega, c3⟩)
      | leaf x =>
        obtain ⟨c6, c8⟩ := n1.leaf_cells
        obtain ⟨d6, d8⟩ := n2.leaf_cells
        have hs' : (x.size : Int) + y.size ≤ 1048576 := hs
        have za' : 1 ≤ x.size := za
        have fin : ∀ {e w'}, JoinG (x ++ y) w e w' → JoinPost (.leaf x) (.leaf y) w e w' := fun {e w'} ⟨t, hg, hn⟩ => ⟨_, joinSpec_g ha.2 hb.2 hg, hn⟩
        by_cases c4 : x.size < 256
        · exact (join_g1 w b1 b2 x.size x y hT n1.sz c6 c8 d6 d8 (by omega) hs' (by omega)).mono fun _ _ => fin
        · have c3' : y.size < 256 := c3
          exact (join_g2 w b1 b2 x.size y.size x y hT n1.sz c6 c8 n2.sz d6 d8 (by omega) (by omega) hs' (by omega)).mono fun _ _ => fin
    by_cases c4 : ta.text.size < 256
    · obtain ⟨x, rfl⟩ := ha.leaf_of_small c4
      cases tb with
      | node bl br => exact wayR bl br rfl (by omega) (.inr ⟨by omega, c4⟩)
      | leaf y =>
        obtain ⟨c6, c8⟩ := n1.leaf_cells
        obtain ⟨d6, d8⟩ := n2.leaf_cells
        have hs' : (x.size : Int) + y.size ≤ 1048576 := hs
        have za' : 1 ≤ x.size := za
        have c4' : x.size < 256 := c4
        exact (join_g1 w b1 b2 x.size x y hT n1.sz c6 c8 d6 d8 (by omega) hs' (by omega)).mono fun _ _ ⟨t, hg, hn⟩ => ⟨_, joinSpec_g ha.2 hb.2 hg, hn⟩
    · exact wayP (by omega) (by omega) (by omega) (by omega)
end Go.Proofs.YtfcpieodgflmnaaDoor
