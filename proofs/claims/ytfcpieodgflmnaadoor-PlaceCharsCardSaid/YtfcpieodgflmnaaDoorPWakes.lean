/- The known places: the call that each statement of place ends with returns true. -/
import Derived.Test.YtfcpieodgflmnaaDoorPTell
namespace Go.Proofs.YtfcpieodgflmnaaDoor
open Go.RowKit

def wkP : ByteArray := ⟨#[97, 10, 195, 169, 98]⟩
theorem wp_nl : nl wkP = 1 := by decide
theorem wp_na : na wkP 5 = 1 := by decide
theorem wp_bh : bh wkP 1 = 2 := by decide
theorem wp_be : be wkP 1 = 5 := by unfold be; rw [wp_nl]; rfl
theorem wp_ln : lnB wkP 1 = ⟨#[195, 169, 98]⟩ := by
  unfold lnB; rw [wp_bh, wp_be]
  have z : (wkP.extract 2 5).size = 3 := by rw [ByteArray.size_extract]; rfl
  refine ext_bt z fun k hk => ?_
  rw [z] at hk
  have : k = 0 ∨ k = 1 ∨ k = 2 := by omega
  rcases this with rfl | rfl | rfl <;> decide
theorem wp_e9 : Stands ⟨#[195, 169, 98]⟩ 0 233 2 := by
  refine ⟨by decide, by omega, by decide, fun i h1 h2 => ?_, by decide, by decide, by decide⟩
  obtain rfl : i = 1 := by omega
  decide
theorem wp_step : stepLen ⟨#[195, 169, 98]⟩ 0 = 2 := by unfold stepLen; rw [dec_some wp_e9]; rfl
theorem wp_pos : pos ⟨#[195, 169, 98]⟩ 1 = 2 := by
  rw [pos_add_one (by rw [pos]; decide)]
  show 0 + stepLen ⟨#[195, 169, 98]⟩ 0 = 2
  rw [wp_step]
theorem wp_count : 0 < countS ⟨#[195, 169, 98]⟩ := pos_lt_iff.1 (by rw [pos]; decide)
theorem wp_of : ofL wkP 5 = 1 ∧ ofC wkP 5 = 3 ∧ fdE wkP 5 = 0 := by
  have h : (0 : Int) ≤ 5 ∧ (5 : Int) ≤ wkP.size := by decide
  unfold ofL ofC fdE
  rw [if_pos h, if_pos h, if_pos h, show (5 : Int).toNat = 5 from rfl, wp_na, wp_bh]
  decide
theorem wp_os : osV wkP 1 3 = 5 ∧ osE wkP 1 3 = 0 := by
  have h : OsOk wkP 1 3 := by
    unfold OsOk
    rw [show (1 : Int).toNat = 1 from rfl, wp_be, wp_bh, wp_nl]
    decide
  unfold osV osE
  rw [if_pos h, if_pos h, show (1 : Int).toNat = 1 from rfl, wp_bh]
  decide
theorem wp_co : coV wkP 1 1 = 4 ∧ coE wkP 1 1 = 0 := by
  have hc := wp_count
  have h : CoOk wkP 1 1 := by
    unfold CoOk
    rw [show (1 : Int).toNat = 1 from rfl, wp_ln, wp_nl]
    refine ⟨by decide, by omega, by omega⟩
  unfold coV coE
  rw [if_pos h, if_pos h, show (1 : Int).toNat = 1 from rfl, wp_bh, wp_ln, wp_pos]
  decide

set_option maxRecDepth 100000 in
set_option maxHeartbeats 2000000 in
theorem pwakes_any (w : World) (ht : Tabs w) : Calls Tryd.prog 7 #[] w fun e w' => e = .returned (.bool true) ∧ Up w w' := by
  have H1 := Lib.hid (show Calls Tryd.prog 8 #[.string ⟨#[97, 10, 195, 169, 98]⟩] w (RopePost wkP w) from of_any wkP (by decide) w ht)
  have H2 := Lib.hid (fun (W : World) (rb : Nat) (hr : RopeIs W rb wkP) => show Calls Tryd.prog 9 #[.pointer (some ⟨rb, 0, none⟩), .int .i64 5] W (fun e w' => e = .returned (.tuple #[.int .i64 1, .int .i64 3, .int .i64 0]) ∧ Up W w') by
    have := ofT hr 5
    rw [wp_of.1, wp_of.2.1, wp_of.2.2] at this
    exact this)
  have H3 := Lib.hid (fun (W : World) (rb : Nat) (hr : RopeIs W rb wkP) => show Calls Tryd.prog 11 #[.pointer (some ⟨rb, 0, none⟩), .int .i64 1, .int .i64 3] W (fun e w' => e = .returned (.tuple #[.int .i64 5, .int .i64 0]) ∧ Up W w') by
    have := osT hr 1 3
    rw [wp_os.1, wp_os.2] at this
    exact this)
  have H4 := Lib.hid (fun (W : World) (rb : Nat) (hr : RopeIs W rb wkP) (hT : Tabs W) => show Calls Tryd.prog 15 #[.pointer (some ⟨rb, 0, none⟩), .int .i64 1, .int .i64 1] W (fun e w' => e = .returned (.tuple #[.int .i64 4, .int .i64 0]) ∧ Up W w') by
    have := coT hr hT 1 1
    rw [wp_co.1, wp_co.2] at this
    exact this)
  have HT := Lib.hid ht
  clear ht
  go_enter Tryd.func7, Tryd.ntmps7
  go_wp2_with (first
    | (go_at_call 8; ((with_reducible refine H1.out.mono ?_); rintro e w1 ⟨rb, rfl, r1, hu⟩; have HS := Lib.hid (St1.mk r1 hu (HT.out.up hu)); clear r1 hu))
    | (go_at_call 9; ((with_reducible refine (H2.out _ _ HS.out.r).mono ?_); rintro e w2 ⟨rfl, hu⟩; have HS := Lib.hid (HS.out.up hu); clear hu))
    | (go_at_call 11; ((with_reducible refine (H3.out _ _ HS.out.r).mono ?_); rintro e w3 ⟨rfl, hu⟩; have HS := Lib.hid (HS.out.up hu); clear hu))
    | (go_at_call 15; ((with_reducible refine (H4.out _ _ HS.out.r HS.out.t).mono ?_); rintro e w4 ⟨rfl, hu⟩; have HS := Lib.hid (HS.out.up hu); clear hu)))
  go_ret
  exact ⟨rfl, HS.out.u⟩

set_option maxRecDepth 100000 in
set_option maxHeartbeats 2000000 in
theorem pnil_walk (w : World) (ht : Tabs w) (i k c : Int) : Calls Tryd.prog 4 #[.int .i64 i, .int .i64 k, .int .i64 c] w fun e w' => e = .returned (.bool true) ∧ Up w w' := by
  have HU := Lib.hid (Up.refl w)
  have HT := Lib.hid ht
  clear ht
  go_enter Tryd.func4, Tryd.ntmps4
  go_wp2_with (first
    | (go_at_call 9; ((with_reducible refine (of_none i _).mono ?_); rintro e w1 ⟨rfl, hu⟩; have HU := Lib.hid (HU.out.trans hu); clear hu))
    | (go_at_call 11; ((with_reducible refine (off_none k c _).mono ?_); rintro e w2 ⟨rfl, hu⟩; have HU := Lib.hid (HU.out.trans hu); clear hu))
    | (go_at_call 13; ((with_reducible refine (char_none i _).mono ?_); rintro e w3 ⟨rfl, hu⟩; have HU := Lib.hid (HU.out.trans hu); clear hu))
    | (go_at_call 15; ((with_reducible refine (cho_none k c _).mono ?_); rintro e w4 ⟨rfl, hu⟩; have HU := Lib.hid (HU.out.trans hu); clear hu))
    | (go_at_call 7; ((with_reducible refine (pwakes_any _ (HT.out.up HU.out)).mono ?_); rintro e wb ⟨rfl, hub⟩)))
  go_ret
  exact ⟨rfl, HU.out.trans hub⟩
end Go.Proofs.YtfcpieodgflmnaaDoor
