/- The known rope: the call that each statement of the rope ends with returns true. -/
import Derived.Test.YtcbmigkdmmmahaaDoorLine
namespace Go.Proofs.YtcbmigkdmmmahaaDoor
open Go.RowKit

def wkS : ByteArray := ⟨#[97, 10, 98, 99]⟩
theorem wk_0 : Stands wkS 0 97 1 := ⟨by decide, by omega, by decide, fun i h1 h2 => by omega, by decide, by decide, by decide⟩
theorem wk_1 : Stands wkS 1 10 1 := ⟨by decide, by omega, by decide, fun i h1 h2 => by omega, by decide, by decide, by decide⟩
theorem wk_2 : Stands wkS 2 98 1 := ⟨by decide, by omega, by decide, fun i h1 h2 => by omega, by decide, by decide, by decide⟩
theorem wk_3 : Stands wkS 3 99 1 := ⟨by decide, by omega, by decide, fun i h1 h2 => by omega, by decide, by decide, by decide⟩
theorem wk_step {s : ByteArray} {i c : Nat} (h : Stands s i c 1) : stepLen s i = 1 := by unfold stepLen; rw [dec_some h]; rfl
theorem wk_count : countS wkS = 4 := by
  unfold countS
  rw [stepsFrom_cons (by decide), wk_step wk_0, stepsFrom_cons (by decide), wk_step wk_1, stepsFrom_cons (by decide), wk_step wk_2, stepsFrom_cons (by decide), wk_step wk_3, stepsFrom_nil (by decide)]
  rfl
theorem wk_nl : nl wkS = 1 := by decide
theorem wk_bh : bh wkS 1 = 2 := by decide
theorem wk_end : lineEnd wkS 1 = 4 := by unfold lineEnd; rw [wk_nl]; rfl
theorem wk_edited : edited wkS 1 1 ⟨#[88]⟩ = ⟨#[97, 88, 98, 99]⟩ := by
  have z : (edited wkS 1 1 ⟨#[88]⟩).size = 4 := edited_size (by decide)
  refine ext_bt z fun k hk => ?_
  rw [z] at hk
  have : k = 0 ∨ k = 1 ∨ k = 2 ∨ k = 3 := by omega
  rcases this with rfl | rfl | rfl | rfl <;> decide

set_option maxRecDepth 100000 in
set_option maxHeartbeats 2000000 in
theorem rwakes_any (w : World) (ht : Tabs w) : Calls Tryd.prog 10 #[] w fun e w' => e = .returned (.bool true) ∧ Up w w' := by
  have H1 := Lib.hid (show Calls Tryd.prog 9 #[.string ⟨#[97, 10, 98, 99]⟩] w (RopePost wkS w) from of_any wkS (by decide) w ht)
  have H2 := Lib.hid (fun (W : World) (rb : Nat) (hr : RopeIs W rb wkS) (ht : Tabs W) => show Calls Tryd.prog 14 #[.pointer (some ⟨rb, 0, none⟩), .agg #[.int .i64 1, .int .i64 1, .string ⟨#[88]⟩]] W (fun e w' => ∃ rb', e = .returned (.tuple #[.pointer (some ⟨rb', 0, none⟩), .int .i64 0]) ∧ RopeIs w' rb' ⟨#[97, 88, 98, 99]⟩ ∧ Up W w') by
    have := splice_in hr ht 1 1 ⟨#[88]⟩ (by decide) (by decide)
    rw [wk_edited] at this
    exact this)
  have H3 := Lib.hid (fun (W : World) (rb : Nat) (hr : RopeIs W rb wkS) => show Calls Tryd.prog 20 #[.pointer (some ⟨rb, 0, none⟩), .int .i64 1] W (fun e w' => e = .returned (.tuple #[.agg #[.int .i64 2, .int .i64 4], .int .i64 0]) ∧ Up W w') by
    have := line_in hr 1 (by decide)
    rw [wk_bh, wk_end] at this
    exact this)
  have H4 := Lib.hid (fun (W : World) (rb : Nat) (hr : RopeIs W rb wkS) => show Calls Tryd.prog 17 #[.pointer (some ⟨rb, 0, none⟩)] W (fun e w' => e = .returned (.int .i64 4) ∧ Up W w') from rope_len_any hr)
  have H5 := Lib.hid (fun (W : World) (rb : Nat) (hr : RopeIs W rb wkS) => show Calls Tryd.prog 22 #[.pointer (some ⟨rb, 0, none⟩)] W (fun e w' => e = .returned (.int .i64 2) ∧ Up W w') by
    have := rope_lines_any hr
    rw [wk_nl] at this
    exact this)
  have H6 := Lib.hid (fun (W : World) (rb : Nat) (hr : RopeIs W rb wkS) => show Calls Tryd.prog 16 #[.pointer (some ⟨rb, 0, none⟩)] W (fun e w' => e = .returned (.string ⟨#[97, 10, 98, 99]⟩) ∧ Up W w') from text_any hr)
  have H7 := Lib.hid (fun (W : World) (rb : Nat) (hr : RopeIs W rb ⟨#[97, 88, 98, 99]⟩) => show Calls Tryd.prog 16 #[.pointer (some ⟨rb, 0, none⟩)] W (fun e w' => e = .returned (.string ⟨#[97, 88, 98, 99]⟩) ∧ Up W w') from text_any hr)
  have H8 := Lib.hid (fun (W : World) (rb : Nat) (hr : RopeIs W rb wkS) => show Calls Tryd.prog 12 #[.pointer (some ⟨rb, 0, none⟩)] W (fun e w' => e = .returned (.int .i64 4) ∧ Up W w') by
    have := rope_steps_any hr
    rw [wk_count] at this
    exact this)
  have HT := Lib.hid ht
  clear ht
  go_enter Tryd.func10, Tryd.ntmps10
  go_wp2_with (first
    | (go_at_call 9; ((with_reducible refine H1.out.mono ?_); rintro e w1 ⟨rb, rfl, r1, hu1⟩; have HR1 := Lib.hid r1; clear r1; have HT1 := Lib.hid (HT.out.up hu1)))
    | (go_at_call 14; ((with_reducible refine (H2.out _ _ HR1.out HT1.out).mono ?_); rintro e w2 ⟨xb, rfl, r2, hu2⟩; have HX := Lib.hid r2; clear r2; have HR2 := Lib.hid (HR1.out.up hu2)))
    | (go_at_call 20; ((with_reducible refine (H3.out _ _ HR2.out).mono ?_); rintro e w3 ⟨rfl, hu3⟩; have u3 := hu3.trans (Up.alloc w3 (.cells #[.int .i64 2, .int .i64 4] 45)); have c3 : _ ∧ _ := ⟨cellOf (Go.heap_alloc_new w3 (.cells #[.int .i64 2, .int .i64 4] 45)) (j := 0) rfl, cellOf (Go.heap_alloc_new w3 (.cells #[.int .i64 2, .int .i64 4] 45)) (j := 1) rfl⟩; have HR3 := Lib.hid (HR2.out.up u3); have HX3 := Lib.hid (HX.out.up u3)))
    | (go_at_call 17; ((with_reducible refine (H4.out _ _ HR3.out).mono ?_); rintro e w4 ⟨rfl, hu4⟩; have HR4 := Lib.hid (HR3.out.up hu4)))
    | (go_at_call 22; ((with_reducible refine (H5.out _ _ HR4.out).mono ?_); rintro e w5 ⟨rfl, hu5⟩; have HR5 := Lib.hid (HR4.out.up hu5); have HX5 := Lib.hid (HX3.out.up (hu4.trans hu5))))
    | (go_at_call 16; ((with_reducible refine (H7.out _ _ HX5.out).mono ?_); rintro e w6 ⟨rfl, hu6⟩; have HR6 := Lib.hid (HR5.out.up hu6)))
    | (go_at_call 16; ((with_reducible refine (H6.out _ _ HR6.out).mono ?_); rintro e w7 ⟨rfl, hu7⟩; have HR7 := Lib.hid (HR6.out.up hu7); have HU := Lib.hid (hu4.trans (hu5.trans (hu6.trans hu7))); have d0 := cell_up HU.out c3.1; have d1 := cell_up HU.out c3.2))
    | (go_at_call 12; ((with_reducible refine (H8.out _ _ HR7.out).mono ?_); rintro e w8 ⟨rfl, hu8⟩)))
  go_ret
  exact ⟨rfl, hu1.trans (hu2.trans (u3.trans (HU.out.trans hu8)))⟩
end Go.Proofs.YtcbmigkdmmmahaaDoor
