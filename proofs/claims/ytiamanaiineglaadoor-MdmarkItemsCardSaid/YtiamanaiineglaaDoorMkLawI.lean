/- MdmarkItems, walked. -/
import Derived.Test.YtiamanaiineglaaDoorMkReads
import Derived.Test.YtiamanaiineglaaDoorMkP5I
import Derived.Test.YtiamanaiineglaaDoorMkRefI
namespace Go.Proofs.YtiamanaiineglaaDoor
open Go.RowKit

set_option maxRecDepth 100000 in
set_option maxHeartbeats 4000000 in
theorem mdmarkitems_walk (w : World) (s : ByteArray) (a : Int) (hE : ErrT w) : Calls Tryd.prog 7 #[.string s, .int .i64 a] w fun e w' => e = .returned (.bool true) ∧ Up w w' := by
  by_cases hs : (s.size : Int) ≤ 3000
  case neg =>
    have hU := Up.refl w
    obtain ⟨Z, hZ⟩ : ∃ Z : Int, (s.size : Int) = Z := ⟨_, rfl⟩
    have hz : 3000 < Z := by omega
    clear hs hE
    go_enter Tryd.func7, Tryd.ntmps7
    go_wp2
    go_ret
    exact ⟨rfl, hU⟩
  have HEr := Lib.hid hE
  clear hE
  have HR := Lib.hid (fun W => reads_any W)
  have HS0 := (fun m0 m1 m2 m3 m4 m5 B W => lsame_any m0 m1 m2 m3 m4 m5 B W)
  have H10 := (fun W (h : ErrT W) => pItem_any s a W (by omega) h)
  have H20 := (fun W => rItem_any s a W (by omega))
  obtain ⟨r, hr⟩ : ∃ r, itemL a.toNat (restL (bl s) a) = r := ⟨_, rfl⟩
  rw [hr] at H10 H20
  obtain ⟨⟨m0, m1, m2, m3, m4, m5⟩, B⟩ := r
  have HS := Lib.hid (HS0 m0 m1 m2 m3 m4 m5 B)
  have H1 := Lib.hid (fun W (h : ErrT W) => (show Calls Tryd.prog 22 #[.string s, .int .i64 a] W fun e w' => e = .returned (.tuple #[.agg #[.int .u8 (m0 : Nat), .int .i64 (m1 : Nat), .int .i64 (m2 : Nat), .int .i64 (m3 : Nat), .int .i64 (m4 : Nat), .int .i64 (m5 : Nat)], .bool B]) ∧ Up W w' from H10 W h))
  have H2 := Lib.hid (fun W => (show Calls Tryd.prog 23 #[.string s, .int .i64 a] W fun e w' => e = .returned (.tuple #[.agg #[.int .u8 (m0 : Nat), .int .i64 (m1 : Nat), .int .i64 (m2 : Nat), .int .i64 (m3 : Nat), .int .i64 (m4 : Nat), .int .i64 (m5 : Nat)], .bool B]) ∧ Up W w' from H20 W))
  have hk : itemL (0 : Int).toNat (restL (bl ⟨#[49, 50, 41, 32, 98]⟩) 0) = (⟨41, 12, 3, 0, 0, 5⟩, true) := by kernel_rfl
  have H3 := Lib.hid (fun W (hq : ErrT W) => by
    have h := pItem_any ⟨#[49, 50, 41, 32, 98]⟩ 0 W (by decide) hq
    rw [hk] at h
    exact (show Calls Tryd.prog 22 #[.string ⟨#[49, 50, 41, 32, 98]⟩, .int .i64 0] W fun e w' => e = .returned (.tuple #[.agg #[.int .u8 41, .int .i64 12, .int .i64 3, .int .i64 0, .int .i64 0, .int .i64 5], .bool true]) ∧ Up W w' from h))
  clear hk
  obtain ⟨Z, hZ⟩ : ∃ Z : Int, (s.size : Int) = Z := ⟨_, rfl⟩
  have hz : ¬ (3000 < Z) := by omega
  clear hs hr H10 H20 HS0
  go_enter Tryd.func7, Tryd.ntmps7
  go_wp2_with (first
    | (go_at_call 22; ((with_reducible refine (H1.out _ HEr.out).mono ?_); rintro e w1 ⟨rfl, h1⟩; have HU1 := Lib.hid (h1.trans (Up.alloc w1 (.cells #[.int .u8 (m0 : Nat), .int .i64 (m1 : Nat), .int .i64 (m2 : Nat), .int .i64 (m3 : Nat), .int .i64 (m4 : Nat), .int .i64 (m5 : Nat)] 23))); have HA1 := Lib.hid (six_new w1 23 (.int .u8 (m0 : Nat)) (.int .i64 (m1 : Nat)) (.int .i64 (m2 : Nat)) (.int .i64 (m3 : Nat)) (.int .i64 (m4 : Nat)) (.int .i64 (m5 : Nat))); clear h1))
    | (go_at_call 23; ((with_reducible refine (H2.out _).mono ?_); rintro e w2 ⟨rfl, h2⟩; have HA2 := Lib.hid ((HA1.out.up h2).up (Up.alloc w2 (.cells #[.int .u8 (m0 : Nat), .int .i64 (m1 : Nat), .int .i64 (m2 : Nat), .int .i64 (m3 : Nat), .int .i64 (m4 : Nat), .int .i64 (m5 : Nat)] 26))); have HU2 := Lib.hid ((HU1.out.trans h2).trans (Up.alloc w2 (.cells #[.int .u8 (m0 : Nat), .int .i64 (m1 : Nat), .int .i64 (m2 : Nat), .int .i64 (m3 : Nat), .int .i64 (m4 : Nat), .int .i64 (m5 : Nat)] 26))); have HB2 := Lib.hid (six_new w2 26 (.int .u8 (m0 : Nat)) (.int .i64 (m1 : Nat)) (.int .i64 (m2 : Nat)) (.int .i64 (m3 : Nat)) (.int .i64 (m4 : Nat)) (.int .i64 (m5 : Nat))); clear h2))
    | (go_at_call 22; ((with_reducible refine (H3.out _ (HEr.out.up HU2.out)).mono ?_); rintro e w3 ⟨rfl, h3⟩; have HA3 := Lib.hid ((HA2.out.up h3).up (Up.alloc w3 (.cells #[.int .u8 41, .int .i64 12, .int .i64 3, .int .i64 0, .int .i64 0, .int .i64 5] 23))); have HB3 := Lib.hid ((HB2.out.up h3).up (Up.alloc w3 (.cells #[.int .u8 41, .int .i64 12, .int .i64 3, .int .i64 0, .int .i64 0, .int .i64 5] 23))); have HU3 := Lib.hid ((HU2.out.trans h3).trans (Up.alloc w3 (.cells #[.int .u8 41, .int .i64 12, .int .i64 3, .int .i64 0, .int .i64 0, .int .i64 5] 23))); have HC3 := Lib.hid (six_new w3 23 (.int .u8 41) (.int .i64 12) (.int .i64 3) (.int .i64 0) (.int .i64 0) (.int .i64 5)); obtain ⟨a0, a1, a2, a3, a4, a5⟩ := HA3.out; obtain ⟨b0, b1, b2, b3, b4, b5⟩ := HB3.out; clear h3))
    | (go_at_call 14; ((with_reducible refine (HS.out _).mono ?_); rintro e w4 ⟨rfl, h4⟩; have HU4 := Lib.hid (HU3.out.trans h4); have HC4 := Lib.hid (HC3.out.up h4); obtain ⟨c0, c1, c2, c3, c4, c5⟩ := HC4.out; clear h4))
    | (go_at_call 15; ((with_reducible refine (HR.out _).mono ?_); rintro e w5 ⟨rfl, h5⟩; have HU5 := Lib.hid (HU4.out.trans h5); clear h5)))
  go_ret
  exact ⟨rfl, HU5.out⟩
end Go.Proofs.YtiamanaiineglaaDoor
