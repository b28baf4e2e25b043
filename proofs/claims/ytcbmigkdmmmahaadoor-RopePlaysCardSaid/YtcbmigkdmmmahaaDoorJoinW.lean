/- Two trees made one: the program's join, walked way by way. -/
import Derived.Test.YtcbmigkdmmmahaaDoorGrowAny
import Derived.Test.YtcbmigkdmmmahaaDoorLevelAny
import Derived.Deep.QuietTactic
import Derived.BigQuiet
namespace Go.Proofs.YtcbmigkdmmmahaaDoor
open Go.RowKit

set_option maxRecDepth 100000 in
set_option maxHeartbeats 400000 in
theorem isLeaf_yes_q (b : Nat) (w : World) (h : w.cell? ⟨b, 6, none⟩ = some (.pointer none)) : Calls Tryd.prog 43 #[.pointer (some ⟨b, 0, none⟩)] w fun e w' => e = .returned (.bool true) ∧ w' = w := by
  go_enter Tryd.func43, Tryd.ntmps43
  go_wp2
  go_ret
  exact ⟨rfl, rfl⟩
theorem isLeaf_yes (b : Nat) (w : World) (h : w.cell? ⟨b, 6, none⟩ = some (.pointer none)) : Calls Tryd.prog 43 #[.pointer (some ⟨b, 0, none⟩)] w fun e w' => e = .returned (.bool true) ∧ w = w' := (isLeaf_yes_q b w h).mono fun _ _ h => ⟨h.1, h.2.symm⟩
set_option maxRecDepth 100000 in
set_option maxHeartbeats 400000 in
theorem isLeaf_no_q (b c : Nat) (w : World) (h : w.cell? ⟨b, 6, none⟩ = some (.pointer (some ⟨c, 0, none⟩))) : Calls Tryd.prog 43 #[.pointer (some ⟨b, 0, none⟩)] w fun e w' => e = .returned (.bool false) ∧ w' = w := by
  go_enter Tryd.func43, Tryd.ntmps43
  go_wp2
  go_ret
  exact ⟨rfl, rfl⟩
theorem isLeaf_no (b c : Nat) (w : World) (h : w.cell? ⟨b, 6, none⟩ = some (.pointer (some ⟨c, 0, none⟩))) : Calls Tryd.prog 43 #[.pointer (some ⟨b, 0, none⟩)] w fun e w' => e = .returned (.bool false) ∧ w = w' := (isLeaf_no_q b c w h).mono fun _ _ h => ⟨h.1, h.2.symm⟩
set_option maxRecDepth 100000 in
set_option maxHeartbeats 400000 in
theorem isSmall_yes_q (b n : Nat) (w : World) (h : w.cell? ⟨b, 0, none⟩ = some (.int .i64 (n : Nat))) (hn : (n : Int) < 256) : Calls Tryd.prog 44 #[.pointer (some ⟨b, 0, none⟩)] w fun e w' => e = .returned (.bool true) ∧ w' = w := by
  go_enter Tryd.func44, Tryd.ntmps44
  go_wp2
  go_ret
  exact ⟨rfl, rfl⟩
theorem isSmall_yes (b n : Nat) (w : World) (h : w.cell? ⟨b, 0, none⟩ = some (.int .i64 (n : Nat))) (hn : (n : Int) < 256) : Calls Tryd.prog 44 #[.pointer (some ⟨b, 0, none⟩)] w fun e w' => e = .returned (.bool true) ∧ w = w' := (isSmall_yes_q b n w h hn).mono fun _ _ h => ⟨h.1, h.2.symm⟩
set_option maxRecDepth 100000 in
set_option maxHeartbeats 400000 in
theorem isSmall_no_q (b n : Nat) (w : World) (h : w.cell? ⟨b, 0, none⟩ = some (.int .i64 (n : Nat))) (hn : (256 : Int) ≤ n) : Calls Tryd.prog 44 #[.pointer (some ⟨b, 0, none⟩)] w fun e w' => e = .returned (.bool false) ∧ w' = w := by
  go_enter Tryd.func44, Tryd.ntmps44
  go_wp2
  go_ret
  exact ⟨by simp; omega, rfl⟩
theorem isSmall_no (b n : Nat) (w : World) (h : w.cell? ⟨b, 0, none⟩ = some (.int .i64 (n : Nat))) (hn : (256 : Int) ≤ n) : Calls Tryd.prog 44 #[.pointer (some ⟨b, 0, none⟩)] w fun e w' => e = .returned (.bool false) ∧ w = w' := (isSmall_no_q b n w h hn).mono fun _ _ h => ⟨h.1, h.2.symm⟩

/-- What is asked of two trees made one. -/
def JoinSpec (ta tb t : T) : Prop := Ok t ∧ t.text = ta.text ++ tb.text ∧ (max ta.dp tb.dp ≤ t.dp ∧ t.dp ≤ max ta.dp tb.dp + 1) ∧ (256 ≤ ta.text.size + tb.text.size → Big t)
def JoinPost (ta tb : T) (w : World) (e : Ending) (w' : World) : Prop := ∃ t, JoinSpec ta tb t ∧ NewT t w e w'
def JoinL (tal tar tb : T) (w : World) (e : Ending) (w' : World) : Prop := ∃ t, JoinSpec tar tb t ∧ NewT (lev tal t) w e w'
def JoinR (ta tbl tbr : T) (w : World) (e : Ending) (w' : World) : Prop := ∃ t, JoinSpec ta tbl t ∧ NewT (lev t tbr) w e w'
def JoinG (s : ByteArray) (w : World) (e : Ending) (w' : World) : Prop := ∃ t, GrowSpec s t ∧ NewT t w e w'

set_option maxRecDepth 100000 in
set_option maxHeartbeats 1000000 in
theorem join_g1 (w : World) (ba bb an : Nat) (ua ub : ByteArray) (hT : Tabs w)
    (c_ba_0 : w.cell? ⟨ba, 0, none⟩ = some (.int .i64 (an : Nat))) (c_ba_6 : w.cell? ⟨ba, 6, none⟩ = some (.pointer none)) (c_ba_8 : w.cell? ⟨ba, 8, none⟩ = some (.string ua)) (c_bb_6 : w.cell? ⟨bb, 6, none⟩ = some (.pointer none)) (c_bb_8 : w.cell? ⟨bb, 8, none⟩ = some (.string ub))
     (hsa : (an : Int) < 256)
    (hz : (ua.size : Int) + ub.size ≤ 1048576) (hz1 : 1 ≤ ua.size + ub.size) :
    Calls Tryd.prog 32 #[.pointer (some ⟨ba, 0, none⟩), .pointer (some ⟨bb, 0, none⟩)] w (JoinG (ua ++ ub) w) := by
  have hadd : ∀ w, (Op.stringOp .add ua ub).run Tryd.prog w = .ok (.string (ua ++ ub)) w := fun w => run_string_add_sum w _ _ (by omega)
  have HG := Lib.hid (fun W ht => (grow_any (ua ++ ub) (by rw [ByteArray.size_append]; omega) W ht).mono fun _ _ h => h.2 (by rw [ByteArray.size_append]; omega))
  go_enter Tryd.func32, Tryd.ntmps32
  go_wp2_with (first | (go_at_call 43; ((with_reducible refine (isLeaf_yes _ w c_ba_6).mono ?_); rintro e w' ⟨rfl, rfl⟩)) | (go_at_call 43; ((with_reducible refine (isLeaf_yes _ w c_bb_6).mono ?_); rintro e w' ⟨rfl, rfl⟩)) | (go_at_call 44; ((with_reducible refine (isSmall_yes _ _ w c_ba_0 hsa).mono ?_); rintro e w' ⟨rfl, rfl⟩)))
  have hS : Up w w ∧ Tabs w ∧ w.cell? ⟨ba, 8, none⟩ = some (.string ua) ∧ w.cell? ⟨bb, 8, none⟩ = some (.string ub) := ⟨Up.refl w, hT, c_ba_8, c_bb_8⟩
  clear c_ba_0 c_ba_6 c_ba_8 c_bb_6 c_bb_8 hT
  go_region_held3 (fun w' => Up w w' ∧ Tabs w' ∧ w'.cell? ⟨ba, 8, none⟩ = some (.string ua) ∧ w'.cell? ⟨bb, 8, none⟩ = some (.string ub))
    (first | assumption | with_reducible exact keep2 hu1 (by assumption) | with_reducible exact keep2 (Up.drew _) (by assumption))
    (first | (go_at_call 24; ((with_reducible refine (HG.out _ ?_).mono ?_); (exact (by assumption : _ ∧ Tabs _ ∧ _).2.1); rintro e w1 ⟨t1, hs1, g1, rfl, hn1, hu1⟩)))
  have HF := Lib.hid (by assumption : Up w w1 ∧ _).1
  go_wp2
  go_ret
  exact ⟨t1, hs1, g1, rfl, hn1, HF.out⟩

set_option maxRecDepth 100000 in
set_option maxHeartbeats 1000000 in
theorem join_g2 (w : World) (ba bb an bn : Nat) (ua ub : ByteArray) (hT : Tabs w)
    (c_ba_0 : w.cell? ⟨ba, 0, none⟩ = some (.int .i64 (an : Nat))) (c_ba_6 : w.cell? ⟨ba, 6, none⟩ = some (.pointer none)) (c_ba_8 : w.cell? ⟨ba, 8, none⟩ = some (.string ua)) (c_bb_0 : w.cell? ⟨bb, 0, none⟩ = some (.int .i64 (bn : Nat))) (c_bb_6 : w.cell? ⟨bb, 6, none⟩ = some (.pointer none)) (c_bb_8 : w.cell? ⟨bb, 8, none⟩ = some (.string ub))
     (hsa : (256 : Int) ≤ an) (hsb : (bn : Int) < 256)
    (hz : (ua.size : Int) + ub.size ≤ 1048576) (hz1 : 1 ≤ ua.size + ub.size) :
    Calls Tryd.prog 32 #[.pointer (some ⟨ba, 0, none⟩), .pointer (some ⟨bb, 0, none⟩)] w (JoinG (ua ++ ub) w) := by
  have hadd : ∀ w, (Op.stringOp .add ua ub).run Tryd.prog w = .ok (.string (ua ++ ub)) w := fun w => run_string_add_sum w _ _ (by omega)
  have HG := Lib.hid (fun W ht => (grow_any (ua ++ ub) (by rw [ByteArray.size_append]; omega) W ht).mono fun _ _ h => h.2 (by rw [ByteArray.size_append]; omega))
  go_enter Tryd.func32, Tryd.ntmps32
  go_wp2_with (first | (go_at_call 43; ((with_reducible refine (isLeaf_yes _ w c_ba_6).mono ?_); rintro e w' ⟨rfl, rfl⟩)) | (go_at_call 43; ((with_reducible refine (isLeaf_yes _ w c_bb_6).mono ?_); rintro e w' ⟨rfl, rfl⟩)) | (go_at_call 44; ((with_reducible refine (isSmall_no _ _ w c_ba_0 hsa).mono ?_); rintro e w' ⟨rfl, rfl⟩)) | (go_at_call 44; ((with_reducible refine (isSmall_yes _ _ w c_bb_0 hsb).mono ?_); rintro e w' ⟨rfl, rfl⟩)))
  have hS : Up w w ∧ Tabs w ∧ w.cell? ⟨ba, 8, none⟩ = some (.string ua) ∧ w.cell? ⟨bb, 8, none⟩ = some (.string ub) := ⟨Up.refl w, hT, c_ba_8, c_bb_8⟩
  clear c_ba_0 c_ba_6 c_ba_8 c_bb_0 c_bb_6 c_bb_8 hT
  go_region_held3 (fun w' => Up w w' ∧ Tabs w' ∧ w'.cell? ⟨ba, 8, none⟩ = some (.string ua) ∧ w'.cell? ⟨bb, 8, none⟩ = some (.string ub))
    (first | assumption | with_reducible exact keep2 hu1 (by assumption) | with_reducible exact keep2 (Up.drew _) (by assumption))
    (first | (go_at_call 24; ((with_reducible refine (HG.out _ ?_).mono ?_); (exact (by assumption : _ ∧ Tabs _ ∧ _).2.1); rintro e w1 ⟨t1, hs1, g1, rfl, hn1, hu1⟩)))
  have HF := Lib.hid (by assumption : Up w w1 ∧ _).1
  go_wp2
  go_ret
  exact ⟨t1, hs1, g1, rfl, hn1, HF.out⟩

set_option maxRecDepth 100000 in
set_option maxHeartbeats 1000000 in
theorem join_l1 (w : World) (ba bb bal bar ad bd : Nat) (hT : Tabs w)
    (c_ba_5 : w.cell? ⟨ba, 5, none⟩ = some (.int .i64 (ad : Nat))) (c_ba_6 : w.cell? ⟨ba, 6, none⟩ = some (.pointer (some ⟨bal, 0, none⟩))) (c_ba_7 : w.cell? ⟨ba, 7, none⟩ = some (.pointer (some ⟨bar, 0, none⟩))) (c_bb_5 : w.cell? ⟨bb, 5, none⟩ = some (.int .i64 (bd : Nat)))
    (hd1 : (bd : Int) ≤ 1048576) (hd2 : (ad : Int) ≤ 1048576) (h7 : (bd : Int) + 1 < ad)
    (tal tar tb : T) (PJ : ∀ W, Up w W → Tabs W → Calls Tryd.prog 32 #[.pointer (some ⟨bar, 0, none⟩), .pointer (some ⟨bb, 0, none⟩)] W (JoinPost tar tb W)) (PL : ∀ W b2 t, Up w W → Tabs W → JoinSpec tar tb t → Node W t b2 → Calls Tryd.prog 45 #[.pointer (some ⟨bal, 0, none⟩), .pointer (some ⟨b2, 0, none⟩)] W (NewT (lev tal t) W)) :
    Calls Tryd.prog 32 #[.pointer (some ⟨ba, 0, none⟩), .pointer (some ⟨bb, 0, none⟩)] w (JoinL tal tar tb w) := by
  have e1 : IntKind.i64.wrap ((bd : Int) + 1) = (bd : Int) + 1 := IntWalk.i64_in _ (by omega)
  have e2 : IntKind.i64.wrap ((ad : Int) + 1) = (ad : Int) + 1 := IntWalk.i64_in _ (by omega)
  have HPJ := Lib.hid PJ
  clear PJ
  have HPL := Lib.hid PL
  clear PL
  clear hd1 hd2
  go_enter Tryd.func32, Tryd.ntmps32
  go_wp2_with (first | (go_at_call 43; ((with_reducible refine (isLeaf_no _ _ w c_ba_6).mono ?_); rintro e w' ⟨rfl, rfl⟩)))
  go_quiet (fail)
  obtain ⟨q0, rfl⟩ : ∃ q : Nat, q = nq := ⟨_, rfl⟩
  go_wp2_with fail
  obtain ⟨V, hWV⟩ : ∃ V, w.drewN q0 = V := ⟨_, rfl⟩
  have huV : Up w V := by rw [← hWV]; exact Up.drewN w q0
  rw [hWV]
  have c_ba_5V := cell_up huV c_ba_5
  have c_ba_6V := cell_up huV c_ba_6
  have c_ba_7V := cell_up huV c_ba_7
  have c_bb_5V := cell_up huV c_bb_5
  have hTV := hT.up huV
  have hvV : Up w V := huV
  clear c_ba_5 c_ba_6 c_ba_7 c_bb_5 huV hWV hT
  have hS : Up w V ∧ Tabs V ∧ V.cell? ⟨ba, 6, none⟩ = some (.pointer (some ⟨bal, 0, none⟩)) ∧ V.cell? ⟨ba, 7, none⟩ = some (.pointer (some ⟨bar, 0, none⟩)) := ⟨hvV, hTV, c_ba_6V, c_ba_7V⟩
  clear c_ba_5V c_ba_6V c_ba_7V c_bb_5V hTV hvV
  go_region_held3 (fun w' => Up w w' ∧ Tabs w' ∧ w'.cell? ⟨ba, 6, none⟩ = some (.pointer (some ⟨bal, 0, none⟩)) ∧ w'.cell? ⟨ba, 7, none⟩ = some (.pointer (some ⟨bar, 0, none⟩)))
    (first | assumption | with_reducible exact keep2 hu2 (by assumption) | with_reducible exact keep2 hu1 (by assumption) | with_reducible exact keep2 (Up.drew _) (by assumption))
    (first | (go_at_call 32; ((with_reducible refine (HPJ.out _ ?_ ?_).mono ?_); (exact (by assumption : _ ∧ Tabs _ ∧ _).1); (exact (by assumption : _ ∧ Tabs _ ∧ _).2.1); rintro e w1 ⟨t1, hs1, g1, rfl, hn1, hu1⟩)) | (go_at_call 45; ((with_reducible refine (HPL.out _ _ _ ?_ ?_ hs1 hn1).mono ?_); (exact (by assumption : _ ∧ Tabs _ ∧ _).1); (exact (by assumption : _ ∧ Tabs _ ∧ _).2.1); rintro e w2 ⟨g2, rfl, hn2, hu2⟩)))
  have HF := Lib.hid (by assumption : Up w w2 ∧ _).1
  go_wp2
  go_ret
  exact ⟨t1, hs1, g2, rfl, hn2, HF.out⟩

set_option maxRecDepth 100000 in
set_option maxHeartbeats 1000000 in
theorem join_l2 (w : World) (ba bb bal bar ad bn bd : Nat) (hT : Tabs w)
    (c_ba_5 : w.cell? ⟨ba, 5, none⟩ = some (.int .i64 (ad : Nat))) (c_ba_6 : w.cell? ⟨ba, 6, none⟩ = some (.pointer (some ⟨bal, 0, none⟩))) (c_ba_7 : w.cell? ⟨ba, 7, none⟩ = some (.pointer (some ⟨bar, 0, none⟩))) (c_bb_0 : w.cell? ⟨bb, 0, none⟩ = some (.int .i64 (bn : Nat))) (c_bb_5 : w.cell? ⟨bb, 5, none⟩ = some (.int .i64 (bd : Nat)))
    (hd1 : (bd : Int) ≤ 1048576) (hd2 : (ad : Int) ≤ 1048576) (g7 : (ad : Int) ≤ bd + 1) (hsb : (bn : Int) < 256)
    (tal tar tb : T) (PJ : ∀ W, Up w W → Tabs W → Calls Tryd.prog 32 #[.pointer (some ⟨bar, 0, none⟩), .pointer (some ⟨bb, 0, none⟩)] W (JoinPost tar tb W)) (PL : ∀ W b2 t, Up w W → Tabs W → JoinSpec tar tb t → Node W t b2 → Calls Tryd.prog 45 #[.pointer (some ⟨bal, 0, none⟩), .pointer (some ⟨b2, 0, none⟩)] W (NewT (lev tal t) W)) :
    Calls Tryd.prog 32 #[.pointer (some ⟨ba, 0, none⟩), .pointer (some ⟨bb, 0, none⟩)] w (JoinL tal tar tb w) := by
  have e1 : IntKind.i64.wrap ((bd : Int) + 1) = (bd : Int) + 1 := IntWalk.i64_in _ (by omega)
  have e2 : IntKind.i64.wrap ((ad : Int) + 1) = (ad : Int) + 1 := IntWalk.i64_in _ (by omega)
  have HPJ := Lib.hid PJ
  clear PJ
  have HPL := Lib.hid PL
  clear PL
  have f7 : decide ((bd : Int) + 1 < ad) = false := by simpa using g7
  clear hd1 hd2
  go_enter Tryd.func32, Tryd.ntmps32
  go_wp2_with (first | (go_at_call 43; ((with_reducible refine (isLeaf_no _ _ w c_ba_6).mono ?_); rintro e w' ⟨rfl, rfl⟩)))
  go_quiet (first | (go_at_call 44; exact Calls.quiet_of_same (isSmall_yes_q _ _ _ c_bb_0 hsb)) | (go_at_call 43; exact Calls.quiet_of_same (isLeaf_no_q _ _ _ c_ba_6)))
  obtain ⟨q0, rfl⟩ : ∃ q : Nat, q = nq := ⟨_, rfl⟩
  go_wp2_with fail
  obtain ⟨V, hWV⟩ : ∃ V, w.drewN q0 = V := ⟨_, rfl⟩
  have huV : Up w V := by rw [← hWV]; exact Up.drewN w q0
  rw [hWV]
  have c_ba_5V := cell_up huV c_ba_5
  have c_ba_6V := cell_up huV c_ba_6
  have c_ba_7V := cell_up huV c_ba_7
  have c_bb_0V := cell_up huV c_bb_0
  have c_bb_5V := cell_up huV c_bb_5
  have hTV := hT.up huV
  have hvV : Up w V := huV
  clear c_ba_5 c_ba_6 c_ba_7 c_bb_0 c_bb_5 huV hWV hT
  have hS : Up w V ∧ Tabs V ∧ V.cell? ⟨ba, 6, none⟩ = some (.pointer (some ⟨bal, 0, none⟩)) ∧ V.cell? ⟨ba, 7, none⟩ = some (.pointer (some ⟨bar, 0, none⟩)) := ⟨hvV, hTV, c_ba_6V, c_ba_7V⟩
  clear c_ba_5V c_ba_6V c_ba_7V c_bb_0V c_bb_5V hTV hvV
  go_region_held3 (fun w' => Up w w' ∧ Tabs w' ∧ w'.cell? ⟨ba, 6, none⟩ = some (.pointer (some ⟨bal, 0, none⟩)) ∧ w'.cell? ⟨ba, 7, none⟩ = some (.pointer (some ⟨bar, 0, none⟩)))
    (first | assumption | with_reducible exact keep2 hu2 (by assumption) | with_reducible exact keep2 hu1 (by assumption) | with_reducible exact keep2 (Up.drew _) (by assumption))
    (first | (go_at_call 32; ((with_reducible refine (HPJ.out _ ?_ ?_).mono ?_); (exact (by assumption : _ ∧ Tabs _ ∧ _).1); (exact (by assumption : _ ∧ Tabs _ ∧ _).2.1); rintro e w1 ⟨t1, hs1, g1, rfl, hn1, hu1⟩)) | (go_at_call 45; ((with_reducible refine (HPL.out _ _ _ ?_ ?_ hs1 hn1).mono ?_); (exact (by assumption : _ ∧ Tabs _ ∧ _).1); (exact (by assumption : _ ∧ Tabs _ ∧ _).2.1); rintro e w2 ⟨g2, rfl, hn2, hu2⟩)))
  have HF := Lib.hid (by assumption : Up w w2 ∧ _).1
  go_wp2
  go_ret
  exact ⟨t1, hs1, g2, rfl, hn2, HF.out⟩

set_option maxRecDepth 100000 in
set_option maxHeartbeats 1000000 in
theorem join_r1 (w : World) (ba bb bbl bbr ad bn bd : Nat) (hT : Tabs w)
    (c_ba_5 : w.cell? ⟨ba, 5, none⟩ = some (.int .i64 (ad : Nat))) (c_ba_6 : w.cell? ⟨ba, 6, none⟩ = some (.pointer none)) (c_bb_0 : w.cell? ⟨bb, 0, none⟩ = some (.int .i64 (bn : Nat))) (c_bb_5 : w.cell? ⟨bb, 5, none⟩ = some (.int .i64 (bd : Nat))) (c_bb_6 : w.cell? ⟨bb, 6, none⟩ = some (.pointer (some ⟨bbl, 0, none⟩))) (c_bb_7 : w.cell? ⟨bb, 7, none⟩ = some (.pointer (some ⟨bbr, 0, none⟩)))
    (hd1 : (bd : Int) ≤ 1048576) (hd2 : (ad : Int) ≤ 1048576) (g7 : (ad : Int) ≤ bd + 1) (h9 : (ad : Int) + 1 < bd) (hsb : (256 : Int) ≤ bn)
    (ta tbl tbr : T) (PJ : ∀ W, Up w W → Tabs W → Calls Tryd.prog 32 #[.pointer (some ⟨ba, 0, none⟩), .pointer (some ⟨bbl, 0, none⟩)] W (JoinPost ta tbl W)) (PL : ∀ W b1 t, Up w W → Tabs W → JoinSpec ta tbl t → Node W t b1 → Calls Tryd.prog 45 #[.pointer (some ⟨b1, 0, none⟩), .pointer (some ⟨bbr, 0, none⟩)] W (NewT (lev t tbr) W)) :
    Calls Tryd.prog 32 #[.pointer (some ⟨ba, 0, none⟩), .pointer (some ⟨bb, 0, none⟩)] w (JoinR ta tbl tbr w) := by
  have e1 : IntKind.i64.wrap ((bd : Int) + 1) = (bd : Int) + 1 := IntWalk.i64_in _ (by omega)
  have e2 : IntKind.i64.wrap ((ad : Int) + 1) = (ad : Int) + 1 := IntWalk.i64_in _ (by omega)
  have HPJ := Lib.hid PJ
  clear PJ
  have HPL := Lib.hid PL
  clear PL
  have f7 : decide ((bd : Int) + 1 < ad) = false := by simpa using g7
  clear hd1 hd2
  go_enter Tryd.func32, Tryd.ntmps32
  go_wp2_with (first | (go_at_call 43; ((with_reducible refine (isLeaf_yes _ w c_ba_6).mono ?_); rintro e w' ⟨rfl, rfl⟩)) | (go_at_call 43; ((with_reducible refine (isLeaf_no _ _ w c_bb_6).mono ?_); rintro e w' ⟨rfl, rfl⟩)))
  go_quiet (first | (go_at_call 44; exact Calls.quiet_of_same (isSmall_no_q _ _ _ c_bb_0 hsb)))
  obtain ⟨q0, rfl⟩ : ∃ q : Nat, q = nq := ⟨_, rfl⟩
  go_wp2_with fail
  obtain ⟨V, hWV⟩ : ∃ V, w.drewN q0 = V := ⟨_, rfl⟩
  have huV : Up w V := by rw [← hWV]; exact Up.drewN w q0
  rw [hWV]
  have c_ba_5V := cell_up huV c_ba_5
  have c_ba_6V := cell_up huV c_ba_6
  have c_bb_0V := cell_up huV c_bb_0
  have c_bb_5V := cell_up huV c_bb_5
  have c_bb_6V := cell_up huV c_bb_6
  have c_bb_7V := cell_up huV c_bb_7
  have hTV := hT.up huV
  have hvV : Up w V := huV
  clear c_ba_5 c_ba_6 c_bb_0 c_bb_5 c_bb_6 c_bb_7 huV hWV hT
  go_quiet (fail)
  obtain ⟨q1, rfl⟩ : ∃ q : Nat, q = nq := ⟨_, rfl⟩
  go_wp2_with fail
  obtain ⟨U, hWU⟩ : ∃ U, V.drewN q1 = U := ⟨_, rfl⟩
  have huU : Up V U := by rw [← hWU]; exact Up.drewN V q1
  rw [hWU]
  have c_ba_5U := cell_up huU c_ba_5V
  have c_ba_6U := cell_up huU c_ba_6V
  have c_bb_0U := cell_up huU c_bb_0V
  have c_bb_5U := cell_up huU c_bb_5V
  have c_bb_6U := cell_up huU c_bb_6V
  have c_bb_7U := cell_up huU c_bb_7V
  have hTU := hTV.up huU
  have hvU : Up w U := hvV.trans huU
  clear c_ba_5V c_ba_6V c_bb_0V c_bb_5V c_bb_6V c_bb_7V huU hWU hTV hvV
  have hS : Up w U ∧ Tabs U ∧ U.cell? ⟨bb, 6, none⟩ = some (.pointer (some ⟨bbl, 0, none⟩)) ∧ U.cell? ⟨bb, 7, none⟩ = some (.pointer (some ⟨bbr, 0, none⟩)) := ⟨hvU, hTU, c_bb_6U, c_bb_7U⟩
  clear c_ba_5U c_ba_6U c_bb_0U c_bb_5U c_bb_6U c_bb_7U hTU hvU
  go_region_held3 (fun w' => Up w w' ∧ Tabs w' ∧ w'.cell? ⟨bb, 6, none⟩ = some (.pointer (some ⟨bbl, 0, none⟩)) ∧ w'.cell? ⟨bb, 7, none⟩ = some (.pointer (some ⟨bbr, 0, none⟩)))
    (first | assumption | with_reducible exact keep2 hu2 (by assumption) | with_reducible exact keep2 hu1 (by assumption) | with_reducible exact keep2 (Up.drew _) (by assumption))
    (first | (go_at_call 32; ((with_reducible refine (HPJ.out _ ?_ ?_).mono ?_); (exact (by assumption : _ ∧ Tabs _ ∧ _).1); (exact (by assumption : _ ∧ Tabs _ ∧ _).2.1); rintro e w1 ⟨t1, hs1, g1, rfl, hn1, hu1⟩)) | (go_at_call 45; ((with_reducible refine (HPL.out _ _ _ ?_ ?_ hs1 hn1).mono ?_); (exact (by assumption : _ ∧ Tabs _ ∧ _).1); (exact (by assumption : _ ∧ Tabs _ ∧ _).2.1); rintro e w2 ⟨g2, rfl, hn2, hu2⟩)))
  have HF := Lib.hid (by assumption : Up w w2 ∧ _).1
  go_wp2
  go_ret
  exact ⟨t1, hs1, g2, rfl, hn2, HF.out⟩

set_option maxRecDepth 100000 in
set_option maxHeartbeats 1000000 in
theorem join_r1n (w : World) (ba bb bal bbl bbr ad bn bd : Nat) (hT : Tabs w)
    (c_ba_5 : w.cell? ⟨ba, 5, none⟩ = some (.int .i64 (ad : Nat))) (c_ba_6 : w.cell? ⟨ba, 6, none⟩ = some (.pointer (some ⟨bal, 0, none⟩))) (c_bb_0 : w.cell? ⟨bb, 0, none⟩ = some (.int .i64 (bn : Nat))) (c_bb_5 : w.cell? ⟨bb, 5, none⟩ = some (.int .i64 (bd : Nat))) (c_bb_6 : w.cell? ⟨bb, 6, none⟩ = some (.pointer (some ⟨bbl, 0, none⟩))) (c_bb_7 : w.cell? ⟨bb, 7, none⟩ = some (.pointer (some ⟨bbr, 0, none⟩)))
    (hd1 : (bd : Int) ≤ 1048576) (hd2 : (ad : Int) ≤ 1048576) (g7 : (ad : Int) ≤ bd + 1) (h9 : (ad : Int) + 1 < bd) (hsb : (256 : Int) ≤ bn)
    (ta tbl tbr : T) (PJ : ∀ W, Up w W → Tabs W → Calls Tryd.prog 32 #[.pointer (some ⟨ba, 0, none⟩), .pointer (some ⟨bbl, 0, none⟩)] W (JoinPost ta tbl W)) (PL : ∀ W b1 t, Up w W → Tabs W → JoinSpec ta tbl t → Node W t b1 → Calls Tryd.prog 45 #[.pointer (some ⟨b1, 0, none⟩), .pointer (some ⟨bbr, 0, none⟩)] W (NewT (lev t tbr) W)) :
    Calls Tryd.prog 32 #[.pointer (some ⟨ba, 0, none⟩), .pointer (some ⟨bb, 0, none⟩)] w (JoinR ta tbl tbr w) := by
  have e1 : IntKind.i64.wrap ((bd : Int) + 1) = (bd : Int) + 1 := IntWalk.i64_in _ (by omega)
  have e2 : IntKind.i64.wrap ((ad : Int) + 1) = (ad : Int) + 1 := IntWalk.i64_in _ (by omega)
  have HPJ := Lib.hid PJ
  clear PJ
  have HPL := Lib.hid PL
  clear PL
  have f7 : decide ((bd : Int) + 1 < ad) = false := by simpa using g7
  clear hd1 hd2
  go_enter Tryd.func32, Tryd.ntmps32
  go_wp2_with (first | (go_at_call 43; ((with_reducible refine (isLeaf_no _ _ w c_ba_6).mono ?_); rintro e w' ⟨rfl, rfl⟩)))
  go_quiet (first | (go_at_call 44; exact Calls.quiet_of_same (isSmall_no_q _ _ _ c_bb_0 hsb)))
  obtain ⟨q0, rfl⟩ : ∃ q : Nat, q = nq := ⟨_, rfl⟩
  go_wp2_with fail
  obtain ⟨V, hWV⟩ : ∃ V, w.drewN q0 = V := ⟨_, rfl⟩
  have huV : Up w V := by rw [← hWV]; exact Up.drewN w q0
  rw [hWV]
  have c_ba_5V := cell_up huV c_ba_5
  have c_ba_6V := cell_up huV c_ba_6
  have c_bb_0V := cell_up huV c_bb_0
  have c_bb_5V := cell_up huV c_bb_5
  have c_bb_6V := cell_up huV c_bb_6
  have c_bb_7V := cell_up huV c_bb_7
  have hTV := hT.up huV
  have hvV : Up w V := huV
  clear c_ba_5 c_ba_6 c_bb_0 c_bb_5 c_bb_6 c_bb_7 huV hWV hT
  go_quiet (fail)
  obtain ⟨q1, rfl⟩ : ∃ q : Nat, q = nq := ⟨_, rfl⟩
  go_wp2_with fail
  obtain ⟨U, hWU⟩ : ∃ U, V.drewN q1 = U := ⟨_, rfl⟩
  have huU : Up V U := by rw [← hWU]; exact Up.drewN V q1
  rw [hWU]
  have c_ba_5U := cell_up huU c_ba_5V
  have c_ba_6U := cell_up huU c_ba_6V
  have c_bb_0U := cell_up huU c_bb_0V
  have c_bb_5U := cell_up huU c_bb_5V
  have c_bb_6U := cell_up huU c_bb_6V
  have c_bb_7U := cell_up huU c_bb_7V
  have hTU := hTV.up huU
  have hvU : Up w U := hvV.trans huU
  clear c_ba_5V c_ba_6V c_bb_0V c_bb_5V c_bb_6V c_bb_7V huU hWU hTV hvV
  have hS : Up w U ∧ Tabs U ∧ U.cell? ⟨bb, 6, none⟩ = some (.pointer (some ⟨bbl, 0, none⟩)) ∧ U.cell? ⟨bb, 7, none⟩ = some (.pointer (some ⟨bbr, 0, none⟩)) := ⟨hvU, hTU, c_bb_6U, c_bb_7U⟩
  clear c_ba_5U c_ba_6U c_bb_0U c_bb_5U c_bb_6U c_bb_7U hTU hvU
  go_region_held3 (fun w' => Up w w' ∧ Tabs w' ∧ w'.cell? ⟨bb, 6, none⟩ = some (.pointer (some ⟨bbl, 0, none⟩)) ∧ w'.cell? ⟨bb, 7, none⟩ = some (.pointer (some ⟨bbr, 0, none⟩)))
    (first | assumption | with_reducible exact keep2 hu2 (by assumption) | with_reducible exact keep2 hu1 (by assumption) | with_reducible exact keep2 (Up.drew _) (by assumption))
    (first | (go_at_call 32; ((with_reducible refine (HPJ.out _ ?_ ?_).mono ?_); (exact (by assumption : _ ∧ Tabs _ ∧ _).1); (exact (by assumption : _ ∧ Tabs _ ∧ _).2.1); rintro e w1 ⟨t1, hs1, g1, rfl, hn1, hu1⟩)) | (go_at_call 45; ((with_reducible refine (HPL.out _ _ _ ?_ ?_ hs1 hn1).mono ?_); (exact (by assumption : _ ∧ Tabs _ ∧ _).1); (exact (by assumption : _ ∧ Tabs _ ∧ _).2.1); rintro e w2 ⟨g2, rfl, hn2, hu2⟩)))
  have HF := Lib.hid (by assumption : Up w w2 ∧ _).1
  go_wp2
  go_ret
  exact ⟨t1, hs1, g2, rfl, hn2, HF.out⟩

set_option maxRecDepth 100000 in
set_option maxHeartbeats 1000000 in
theorem join_r2 (w : World) (ba bb bbl bbr an ad bn bd : Nat) (hT : Tabs w)
    (c_ba_0 : w.cell? ⟨ba, 0, none⟩ = some (.int .i64 (an : Nat))) (c_ba_5 : w.cell? ⟨ba, 5, none⟩ = some (.int .i64 (ad : Nat))) (c_ba_6 : w.cell? ⟨ba, 6, none⟩ = some (.pointer none)) (c_bb_0 : w.cell? ⟨bb, 0, none⟩ = some (.int .i64 (bn : Nat))) (c_bb_5 : w.cell? ⟨bb, 5, none⟩ = some (.int .i64 (bd : Nat))) (c_bb_6 : w.cell? ⟨bb, 6, none⟩ = some (.pointer (some ⟨bbl, 0, none⟩))) (c_bb_7 : w.cell? ⟨bb, 7, none⟩ = some (.pointer (some ⟨bbr, 0, none⟩)))
    (hd1 : (bd : Int) ≤ 1048576) (hd2 : (ad : Int) ≤ 1048576) (g7 : (ad : Int) ≤ bd + 1) (g9 : (bd : Int) ≤ ad + 1) (hsa : (an : Int) < 256) (hsb : (256 : Int) ≤ bn)
    (ta tbl tbr : T) (PJ : ∀ W, Up w W → Tabs W → Calls Tryd.prog 32 #[.pointer (some ⟨ba, 0, none⟩), .pointer (some ⟨bbl, 0, none⟩)] W (JoinPost ta tbl W)) (PL : ∀ W b1 t, Up w W → Tabs W → JoinSpec ta tbl t → Node W t b1 → Calls Tryd.prog 45 #[.pointer (some ⟨b1, 0, none⟩), .pointer (some ⟨bbr, 0, none⟩)] W (NewT (lev t tbr) W)) :
    Calls Tryd.prog 32 #[.pointer (some ⟨ba, 0, none⟩), .pointer (some ⟨bb, 0, none⟩)] w (JoinR ta tbl tbr w) := by
  have e1 : IntKind.i64.wrap ((bd : Int) + 1) = (bd : Int) + 1 := IntWalk.i64_in _ (by omega)
  have e2 : IntKind.i64.wrap ((ad : Int) + 1) = (ad : Int) + 1 := IntWalk.i64_in _ (by omega)
  have HPJ := Lib.hid PJ
  clear PJ
  have HPL := Lib.hid PL
  clear PL
  have f7 : decide ((bd : Int) + 1 < ad) = false := by simpa using g7
  have f9 : decide ((ad : Int) + 1 < bd) = false := by simpa using g9
  clear hd1 hd2
  go_enter Tryd.func32, Tryd.ntmps32
  go_wp2_with (first | (go_at_call 43; ((with_reducible refine (isLeaf_yes _ w c_ba_6).mono ?_); rintro e w' ⟨rfl, rfl⟩)) | (go_at_call 43; ((with_reducible refine (isLeaf_no _ _ w c_bb_6).mono ?_); rintro e w' ⟨rfl, rfl⟩)))
  go_quiet (first | (go_at_call 44; exact Calls.quiet_of_same (isSmall_no_q _ _ _ c_bb_0 hsb)))
  obtain ⟨q0, rfl⟩ : ∃ q : Nat, q = nq := ⟨_, rfl⟩
  go_wp2_with fail
  obtain ⟨V, hWV⟩ : ∃ V, w.drewN q0 = V := ⟨_, rfl⟩
  have huV : Up w V := by rw [← hWV]; exact Up.drewN w q0
  rw [hWV]
  have c_ba_0V := cell_up huV c_ba_0
  have c_ba_5V := cell_up huV c_ba_5
  have c_ba_6V := cell_up huV c_ba_6
  have c_bb_0V := cell_up huV c_bb_0
  have c_bb_5V := cell_up huV c_bb_5
  have c_bb_6V := cell_up huV c_bb_6
  have c_bb_7V := cell_up huV c_bb_7
  have hTV := hT.up huV
  have hvV : Up w V := huV
  clear c_ba_0 c_ba_5 c_ba_6 c_bb_0 c_bb_5 c_bb_6 c_bb_7 huV hWV hT
  go_quiet (first | (go_at_call 44; exact Calls.quiet_of_same (isSmall_yes_q _ _ _ c_ba_0V hsa)) | (go_at_call 43; exact Calls.quiet_of_same (isLeaf_no_q _ _ _ c_bb_6V)))
  obtain ⟨q1, rfl⟩ : ∃ q : Nat, q = nq := ⟨_, rfl⟩
  go_wp2_with fail
  obtain ⟨U, hWU⟩ : ∃ U, V.drewN q1 = U := ⟨_, rfl⟩
  have huU : Up V U := by rw [← hWU]; exact Up.drewN V q1
  rw [hWU]
  have c_ba_0U := cell_up huU c_ba_0V
  have c_ba_5U := cell_up huU c_ba_5V
  have c_ba_6U := cell_up huU c_ba_6V
  have c_bb_0U := cell_up huU c_bb_0V
  have c_bb_5U := cell_up huU c_bb_5V
  have c_bb_6U := cell_up huU c_bb_6V
  have c_bb_7U := cell_up huU c_bb_7V
  have hTU := hTV.up huU
  have hvU : Up w U := hvV.trans huU
  clear c_ba_0V c_ba_5V c_ba_6V c_bb_0V c_bb_5V c_bb_6V c_bb_7V huU hWU hTV hvV
  have hS : Up w U ∧ Tabs U ∧ U.cell? ⟨bb, 6, none⟩ = some (.pointer (some ⟨bbl, 0, none⟩)) ∧ U.cell? ⟨bb, 7, none⟩ = some (.pointer (some ⟨bbr, 0, none⟩)) := ⟨hvU, hTU, c_bb_6U, c_bb_7U⟩
  clear c_ba_0U c_ba_5U c_ba_6U c_bb_0U c_bb_5U c_bb_6U c_bb_7U hTU hvU
  go_region_held3 (fun w' => Up w w' ∧ Tabs w' ∧ w'.cell? ⟨bb, 6, none⟩ = some (.pointer (some ⟨bbl, 0, none⟩)) ∧ w'.cell? ⟨bb, 7, none⟩ = some (.pointer (some ⟨bbr, 0, none⟩)))
    (first | assumption | with_reducible exact keep2 hu2 (by assumption) | with_reducible exact keep2 hu1 (by assumption) | with_reducible exact keep2 (Up.drew _) (by assumption))
    (first | (go_at_call 32; ((with_reducible refine (HPJ.out _ ?_ ?_).mono ?_); (exact (by assumption : _ ∧ Tabs _ ∧ _).1); (exact (by assumption : _ ∧ Tabs _ ∧ _).2.1); rintro e w1 ⟨t1, hs1, g1, rfl, hn1, hu1⟩)) | (go_at_call 45; ((with_reducible refine (HPL.out _ _ _ ?_ ?_ hs1 hn1).mono ?_); (exact (by assumption : _ ∧ Tabs _ ∧ _).1); (exact (by assumption : _ ∧ Tabs _ ∧ _).2.1); rintro e w2 ⟨g2, rfl, hn2, hu2⟩)))
  have HF := Lib.hid (by assumption : Up w w2 ∧ _).1
  go_wp2
  go_ret
  exact ⟨t1, hs1, g2, rfl, hn2, HF.out⟩

set_option maxRecDepth 100000 in
set_option maxHeartbeats 1000000 in
theorem join_p1 (w : World) (ba bb an ad bn bd : Nat) (hT : Tabs w)
    (c_ba_0 : w.cell? ⟨ba, 0, none⟩ = some (.int .i64 (an : Nat))) (c_ba_5 : w.cell? ⟨ba, 5, none⟩ = some (.int .i64 (ad : Nat))) (c_ba_6 : w.cell? ⟨ba, 6, none⟩ = some (.pointer none)) (c_bb_0 : w.cell? ⟨bb, 0, none⟩ = some (.int .i64 (bn : Nat))) (c_bb_5 : w.cell? ⟨bb, 5, none⟩ = some (.int .i64 (bd : Nat))) (c_bb_6 : w.cell? ⟨bb, 6, none⟩ = some (.pointer none))
    (hd1 : (bd : Int) ≤ 1048576) (hd2 : (ad : Int) ≤ 1048576) (g7 : (ad : Int) ≤ bd + 1) (g9 : (bd : Int) ≤ ad + 1) (hsa : (256 : Int) ≤ an) (hsb : (256 : Int) ≤ bn)
    (ta tb : T) (PP : ∀ W, Up w W → Tabs W → Calls Tryd.prog 46 #[.pointer (some ⟨ba, 0, none⟩), .pointer (some ⟨bb, 0, none⟩)] W (NewT (.node ta tb) W)) :
    Calls Tryd.prog 32 #[.pointer (some ⟨ba, 0, none⟩), .pointer (some ⟨bb, 0, none⟩)] w (NewT (.node ta tb) w) := by
  have e1 : IntKind.i64.wrap ((bd : Int) + 1) = (bd : Int) + 1 := IntWalk.i64_in _ (by omega)
  have e2 : IntKind.i64.wrap ((ad : Int) + 1) = (ad : Int) + 1 := IntWalk.i64_in _ (by omega)
  have HPP := Lib.hid PP
  clear PP
  have f7 : decide ((bd : Int) + 1 < ad) = false := by simpa using g7
  have f9 : decide ((ad : Int) + 1 < bd) = false := by simpa using g9
  clear hd1 hd2
  go_enter Tryd.func32, Tryd.ntmps32
  go_wp2_with (first | (go_at_call 43; ((with_reducible refine (isLeaf_yes _ w c_ba_6).mono ?_); rintro e w' ⟨rfl, rfl⟩)) | (go_at_call 43; ((with_reducible refine (isLeaf_yes _ w c_bb_6).mono ?_); rintro e w' ⟨rfl, rfl⟩)) | (go_at_call 44; ((with_reducible refine (isSmall_no _ _ w c_ba_0 hsa).mono ?_); rintro e w' ⟨rfl, rfl⟩)) | (go_at_call 44; ((with_reducible refine (isSmall_no _ _ w c_bb_0 hsb).mono ?_); rintro e w' ⟨rfl, rfl⟩)))
  go_quiet (first | (go_at_call 44; exact Calls.quiet_of_same (isSmall_no_q _ _ _ c_bb_0 hsb)))
  obtain ⟨q0, rfl⟩ : ∃ q : Nat, q = nq := ⟨_, rfl⟩
  go_wp2_with fail
  obtain ⟨V, hWV⟩ : ∃ V, w.drewN q0 = V := ⟨_, rfl⟩
  have huV : Up w V := by rw [← hWV]; exact Up.drewN w q0
  rw [hWV]
  have c_ba_0V := cell_up huV c_ba_0
  have c_ba_5V := cell_up huV c_ba_5
  have c_ba_6V := cell_up huV c_ba_6
  have c_bb_0V := cell_up huV c_bb_0
  have c_bb_5V := cell_up huV c_bb_5
  have c_bb_6V := cell_up huV c_bb_6
  have hTV := hT.up huV
  have hvV : Up w V := huV
  clear c_ba_0 c_ba_5 c_ba_6 c_bb_0 c_bb_5 c_bb_6 huV hWV hT
  go_quiet (first | (go_at_call 44; exact Calls.quiet_of_same (isSmall_no_q _ _ _ c_ba_0V hsa)))
  obtain ⟨q1, rfl⟩ : ∃ q : Nat, q = nq := ⟨_, rfl⟩
  have hvX : Up w (V.drewN q1) := hvV.trans (Up.drewN V q1)
  have hTX : Tabs (V.drewN q1) := hTV.up (Up.drewN V q1)
  go_wp2_with (go_at_call 46; refine (HPP.out _ hvX hTX).mono ?_; rintro e w1 ⟨g1, rfl, hn1, hu1⟩)
  go_ret
  exact ⟨g1, rfl, hn1, hvX.trans hu1⟩

set_option maxRecDepth 100000 in
set_option maxHeartbeats 1000000 in
theorem join_p2 (w : World) (ba bb bal an ad bn bd : Nat) (hT : Tabs w)
    (c_ba_0 : w.cell? ⟨ba, 0, none⟩ = some (.int .i64 (an : Nat))) (c_ba_5 : w.cell? ⟨ba, 5, none⟩ = some (.int .i64 (ad : Nat))) (c_ba_6 : w.cell? ⟨ba, 6, none⟩ = some (.pointer (some ⟨bal, 0, none⟩))) (c_bb_0 : w.cell? ⟨bb, 0, none⟩ = some (.int .i64 (bn : Nat))) (c_bb_5 : w.cell? ⟨bb, 5, none⟩ = some (.int .i64 (bd : Nat)))
    (hd1 : (bd : Int) ≤ 1048576) (hd2 : (ad : Int) ≤ 1048576) (g7 : (ad : Int) ≤ bd + 1) (g9 : (bd : Int) ≤ ad + 1) (hsa : (256 : Int) ≤ an) (hsb : (256 : Int) ≤ bn)
    (ta tb : T) (PP : ∀ W, Up w W → Tabs W → Calls Tryd.prog 46 #[.pointer (some ⟨ba, 0, none⟩), .pointer (some ⟨bb, 0, none⟩)] W (NewT (.node ta tb) W)) :
    Calls Tryd.prog 32 #[.pointer (some ⟨ba, 0, none⟩), .pointer (some ⟨bb, 0, none⟩)] w (NewT (.node ta tb) w) := by
  have e1 : IntKind.i64.wrap ((bd : Int) + 1) = (bd : Int) + 1 := IntWalk.i64_in _ (by omega)
  have e2 : IntKind.i64.wrap ((ad : Int) + 1) = (ad : Int) + 1 := IntWalk.i64_in _ (by omega)
  have HPP := Lib.hid PP
  clear PP
  have f7 : decide ((bd : Int) + 1 < ad) = false := by simpa using g7
  have f9 : decide ((ad : Int) + 1 < bd) = false := by simpa using g9
  clear hd1 hd2
  go_enter Tryd.func32, Tryd.ntmps32
  go_wp2_with (first | (go_at_call 43; ((with_reducible refine (isLeaf_no _ _ w c_ba_6).mono ?_); rintro e w' ⟨rfl, rfl⟩)))
  go_quiet (first | (go_at_call 44; exact Calls.quiet_of_same (isSmall_no_q _ _ _ c_bb_0 hsb)))
  obtain ⟨q0, rfl⟩ : ∃ q : Nat, q = nq := ⟨_, rfl⟩
  go_wp2_with fail
  obtain ⟨V, hWV⟩ : ∃ V, w.drewN q0 = V := ⟨_, rfl⟩
  have huV : Up w V := by rw [← hWV]; exact Up.drewN w q0
  rw [hWV]
  have c_ba_0V := cell_up huV c_ba_0
  have c_ba_5V := cell_up huV c_ba_5
  have c_ba_6V := cell_up huV c_ba_6
  have c_bb_0V := cell_up huV c_bb_0
  have c_bb_5V := cell_up huV c_bb_5
  have hTV := hT.up huV
  have hvV : Up w V := huV
  clear c_ba_0 c_ba_5 c_ba_6 c_bb_0 c_bb_5 huV hWV hT
  go_quiet (first | (go_at_call 44; exact Calls.quiet_of_same (isSmall_no_q _ _ _ c_ba_0V hsa)))
  obtain ⟨q1, rfl⟩ : ∃ q : Nat, q = nq := ⟨_, rfl⟩
  have hvX : Up w (V.drewN q1) := hvV.trans (Up.drewN V q1)
  have hTX : Tabs (V.drewN q1) := hTV.up (Up.drewN V q1)
  go_wp2_with (go_at_call 46; refine (HPP.out _ hvX hTX).mono ?_; rintro e w1 ⟨g1, rfl, hn1, hu1⟩)
  go_ret
  exact ⟨g1, rfl, hn1, hvX.trans hu1⟩

set_option maxRecDepth 100000 in
set_option maxHeartbeats 1000000 in
theorem join_p3 (w : World) (ba bb bbl an ad bn bd : Nat) (hT : Tabs w)
    (c_ba_0 : w.cell? ⟨ba, 0, none⟩ = some (.int .i64 (an : Nat))) (c_ba_5 : w.cell? ⟨ba, 5, none⟩ = some (.int .i64 (ad : Nat))) (c_ba_6 : w.cell? ⟨ba, 6, none⟩ = some (.pointer none)) (c_bb_0 : w.cell? ⟨bb, 0, none⟩ = some (.int .i64 (bn : Nat))) (c_bb_5 : w.cell? ⟨bb, 5, none⟩ = some (.int .i64 (bd : Nat))) (c_bb_6 : w.cell? ⟨bb, 6, none⟩ = some (.pointer (some ⟨bbl, 0, none⟩)))
    (hd1 : (bd : Int) ≤ 1048576) (hd2 : (ad : Int) ≤ 1048576) (g7 : (ad : Int) ≤ bd + 1) (g9 : (bd : Int) ≤ ad + 1) (hsa : (256 : Int) ≤ an) (hsb : (256 : Int) ≤ bn)
    (ta tb : T) (PP : ∀ W, Up w W → Tabs W → Calls Tryd.prog 46 #[.pointer (some ⟨ba, 0, none⟩), .pointer (some ⟨bb, 0, none⟩)] W (NewT (.node ta tb) W)) :
    Calls Tryd.prog 32 #[.pointer (some ⟨ba, 0, none⟩), .pointer (some ⟨bb, 0, none⟩)] w (NewT (.node ta tb) w) := by
  have e1 : IntKind.i64.wrap ((bd : Int) + 1) = (bd : Int) + 1 := IntWalk.i64_in _ (by omega)
  have e2 : IntKind.i64.wrap ((ad : Int) + 1) = (ad : Int) + 1 := IntWalk.i64_in _ (by omega)
  have HPP := Lib.hid PP
  clear PP
  have f7 : decide ((bd : Int) + 1 < ad) = false := by simpa using g7
  have f9 : decide ((ad : Int) + 1 < bd) = false := by simpa using g9
  clear hd1 hd2
  go_enter Tryd.func32, Tryd.ntmps32
  go_wp2_with (first | (go_at_call 43; ((with_reducible refine (isLeaf_yes _ w c_ba_6).mono ?_); rintro e w' ⟨rfl, rfl⟩)) | (go_at_call 43; ((with_reducible refine (isLeaf_no _ _ w c_bb_6).mono ?_); rintro e w' ⟨rfl, rfl⟩)))
  go_quiet (first | (go_at_call 44; exact Calls.quiet_of_same (isSmall_no_q _ _ _ c_bb_0 hsb)))
  obtain ⟨q0, rfl⟩ : ∃ q : Nat, q = nq := ⟨_, rfl⟩
  go_wp2_with fail
  obtain ⟨V, hWV⟩ : ∃ V, w.drewN q0 = V := ⟨_, rfl⟩
  have huV : Up w V := by rw [← hWV]; exact Up.drewN w q0
  rw [hWV]
  have c_ba_0V := cell_up huV c_ba_0
  have c_ba_5V := cell_up huV c_ba_5
  have c_ba_6V := cell_up huV c_ba_6
  have c_bb_0V := cell_up huV c_bb_0
  have c_bb_5V := cell_up huV c_bb_5
  have c_bb_6V := cell_up huV c_bb_6
  have hTV := hT.up huV
  have hvV : Up w V := huV
  clear c_ba_0 c_ba_5 c_ba_6 c_bb_0 c_bb_5 c_bb_6 huV hWV hT
  go_quiet (first | (go_at_call 44; exact Calls.quiet_of_same (isSmall_no_q _ _ _ c_ba_0V hsa)))
  obtain ⟨q1, rfl⟩ : ∃ q : Nat, q = nq := ⟨_, rfl⟩
  have hvX : Up w (V.drewN q1) := hvV.trans (Up.drewN V q1)
  have hTX : Tabs (V.drewN q1) := hTV.up (Up.drewN V q1)
  go_wp2_with (go_at_call 46; refine (HPP.out _ hvX hTX).mono ?_; rintro e w1 ⟨g1, rfl, hn1, hu1⟩)
  go_ret
  exact ⟨g1, rfl, hn1, hvX.trans hu1⟩

set_option maxRecDepth 100000 in
set_option maxHeartbeats 1000000 in
theorem join_p4 (w : World) (ba bb bal an ad bn bd : Nat) (hT : Tabs w)
    (c_ba_0 : w.cell? ⟨ba, 0, none⟩ = some (.int .i64 (an : Nat))) (c_ba_5 : w.cell? ⟨ba, 5, none⟩ = some (.int .i64 (ad : Nat))) (c_ba_6 : w.cell? ⟨ba, 6, none⟩ = some (.pointer (some ⟨bal, 0, none⟩))) (c_bb_0 : w.cell? ⟨bb, 0, none⟩ = some (.int .i64 (bn : Nat))) (c_bb_5 : w.cell? ⟨bb, 5, none⟩ = some (.int .i64 (bd : Nat)))
    (hd1 : (bd : Int) ≤ 1048576) (hd2 : (ad : Int) ≤ 1048576) (g7 : (ad : Int) ≤ bd + 1) (g9 : (bd : Int) ≤ ad + 1) (hsa : (256 : Int) ≤ an) (hsb : (256 : Int) ≤ bn)
    (ta tb : T) (PP : ∀ W, Up w W → Tabs W → Calls Tryd.prog 46 #[.pointer (some ⟨ba, 0, none⟩), .pointer (some ⟨bb, 0, none⟩)] W (NewT (.node ta tb) W)) :
    Calls Tryd.prog 32 #[.pointer (some ⟨ba, 0, none⟩), .pointer (some ⟨bb, 0, none⟩)] w (NewT (.node ta tb) w) := by
  have e1 : IntKind.i64.wrap ((bd : Int) + 1) = (bd : Int) + 1 := IntWalk.i64_in _ (by omega)
  have e2 : IntKind.i64.wrap ((ad : Int) + 1) = (ad : Int) + 1 := IntWalk.i64_in _ (by omega)
  have HPP := Lib.hid PP
  clear PP
  have f7 : decide ((bd : Int) + 1 < ad) = false := by simpa using g7
  have f9 : decide ((ad : Int) + 1 < bd) = false := by simpa using g9
  clear hd1 hd2
  go_enter Tryd.func32, Tryd.ntmps32
  go_wp2_with (first | (go_at_call 43; ((with_reducible refine (isLeaf_no _ _ w c_ba_6).mono ?_); rintro e w' ⟨rfl, rfl⟩)))
  go_quiet (first | (go_at_call 44; exact Calls.quiet_of_same (isSmall_no_q _ _ _ c_bb_0 hsb)))
  obtain ⟨q0, rfl⟩ : ∃ q : Nat, q = nq := ⟨_, rfl⟩
  go_wp2_with fail
  obtain ⟨V, hWV⟩ : ∃ V, w.drewN q0 = V := ⟨_, rfl⟩
  have huV : Up w V := by rw [← hWV]; exact Up.drewN w q0
  rw [hWV]
  have c_ba_0V := cell_up huV c_ba_0
  have c_ba_5V := cell_up huV c_ba_5
  have c_ba_6V := cell_up huV c_ba_6
  have c_bb_0V := cell_up huV c_bb_0
  have c_bb_5V := cell_up huV c_bb_5
  have hTV := hT.up huV
  have hvV : Up w V := huV
  clear c_ba_0 c_ba_5 c_ba_6 c_bb_0 c_bb_5 huV hWV hT
  go_quiet (first | (go_at_call 44; exact Calls.quiet_of_same (isSmall_no_q _ _ _ c_ba_0V hsa)))
  obtain ⟨q1, rfl⟩ : ∃ q : Nat, q = nq := ⟨_, rfl⟩
  have hvX : Up w (V.drewN q1) := hvV.trans (Up.drewN V q1)
  have hTX : Tabs (V.drewN q1) := hTV.up (Up.drewN V q1)
  go_wp2_with (go_at_call 46; refine (HPP.out _ hvX hTX).mono ?_; rintro e w1 ⟨g1, rfl, hn1, hu1⟩)
  go_ret
  exact ⟨g1, rfl, hn1, hvX.trans hu1⟩

end Go.Proofs.YtcbmigkdmmmahaaDoor
