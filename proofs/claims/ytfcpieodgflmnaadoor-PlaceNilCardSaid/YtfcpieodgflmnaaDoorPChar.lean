/- The closures of Char and CharOffset. -/
import Derived.Test.YtfcpieodgflmnaaDoorPReach
namespace Go.Proofs.YtfcpieodgflmnaaDoor
open Go.RowKit

theorem slice_at {w : World} {rb : Nat} {s : ByteArray} (hr : RopeIs w rb s) (x z : Nat) (h : x ≤ z) (hz : z ≤ s.size) : Calls Tryd.prog 26 #[.pointer (some ⟨rb, 0, none⟩), .int .i64 (x : Nat), .int .i64 (z : Nat)] w fun e w' => e = .returned (.tuple #[.string (s.extract x z), .int .i64 0]) ∧ Up w w' := by
  have hf := sliceT hr x z
  unfold slV slE at hf
  rw [if_pos (by omega), if_pos (by omega), Int.toNat_natCast, Int.toNat_natCast] at hf
  exact hf
set_option maxRecDepth 100000 in
set_option maxHeartbeats 1000000 in
theorem char1_walk (w : World) (rb pb qb i x y z c : Nat) (t : ByteArray) (h0 : x ≤ i) (h2 : (i : Int) ≤ 1048576) (_hy : (y : Int) ≤ 1048576) (hz : z = min y (i + 3))
    (hp : w.cell? ⟨pb, 0, none⟩ = some (.int .i64 (i : Nat))) (hq : w.cell? ⟨qb, 0, none⟩ = some (.pointer (some ⟨rb, 0, none⟩)))
    (hS : ∀ W, Up w W → Calls Tryd.prog 26 #[.pointer (some ⟨rb, 0, none⟩), .int .i64 (x : Nat), .int .i64 (z : Nat)] W fun e w' => e = .returned (.tuple #[.string t, .int .i64 0]) ∧ Up W w')
    (hB : ∀ W, Up w W → Calls Tryd.prog 27 #[.string t, .int .i64 ((i : Int) - (x : Nat))] W fun e w' => e = .returned (.int .i64 (c : Nat)) ∧ Up W w') :
    Calls Tryd.prog 25 #[.agg #[.int .i64 (x : Nat), .int .i64 (y : Nat)], .pointer (some ⟨pb, 0, none⟩), .pointer (some ⟨qb, 0, none⟩)] w fun e w' => e = .returned (.int .i64 (c : Nat)) ∧ Up w w' := by
  have hu := Up.alloc w (.cells #[.int .i64 (x : Nat), .int .i64 (y : Nat)] 50)
  have c0 := cell_up hu hp
  have c1 := cell_up hu hq
  obtain ⟨d0, d1, -⟩ := rg_cells w (x : Nat) (y : Nat)
  have HU := Lib.hid hu
  have HS := Lib.hid hS
  have HB := Lib.hid hB
  have hm : min (y : Int) ((i : Int) + 4 - 1) = (z : Nat) := by omega
  clear hp hq hu hS hB hz
  go_enter Tryd.func25, Tryd.ntmps25
  go_wp2_with (first
    | (go_at_call 26; ((with_reducible refine (HS.out _ HU.out).mono ?_); rintro e w1 ⟨rfl, hu1⟩; have e0 := cell_up hu1 c0; have e2 := cell_up hu1 d0; have HU1 := Lib.hid (HU.out.trans hu1); clear hu1))
    | (go_at_call 27; ((with_reducible refine (HB.out _ HU1.out).mono ?_); rintro e w2 ⟨rfl, hu2⟩; have HU2 := Lib.hid (HU1.out.trans hu2); clear hu2)))
  go_ret
  exact ⟨rfl, HU2.out⟩
set_option maxRecDepth 100000 in
set_option maxHeartbeats 1000000 in
theorem cho1_no (w : World) (pb qb x y : Nat) (n : Int) (hy : (y : Int) ≤ 1048576) (hx : x ≤ y) (h : ¬ (0 ≤ n ∧ n ≤ (y : Int) - x))
    (hp : w.cell? ⟨pb, 0, none⟩ = some (.int .i64 n)) :
    Calls Tryd.prog 30 #[.agg #[.int .i64 (x : Nat), .int .i64 (y : Nat)], .pointer (some ⟨pb, 0, none⟩), .pointer (some ⟨qb, 0, none⟩)] w fun e w' => e = .returned (.tuple #[.int .i64 0, .bool false]) ∧ Up w w' := by
  have hu := Up.alloc w (.cells #[.int .i64 (x : Nat), .int .i64 (y : Nat)] 50)
  have c0 := cell_up hu hp
  obtain ⟨d0, d1, -⟩ := rg_cells w (x : Nat) (y : Nat)
  have HU := Lib.hid hu
  clear hp hu
  by_cases h0 : n < 0
  · have f0 : decide (n < 0) = true := decide_eq_true h0
    clear h h0
    go_enter Tryd.func30, Tryd.ntmps30
    go_wp2
    go_ret2
    exact ⟨rfl, HU.out⟩
  · have f0 : decide (n < 0) = false := decide_eq_false h0
    have f1 : decide ((y : Int) - x < n) = true := decide_eq_true (by omega)
    clear h h0
    go_enter Tryd.func30, Tryd.ntmps30
    go_wp2
    go_ret2
    exact ⟨rfl, HU.out⟩
set_option maxRecDepth 100000 in
set_option maxHeartbeats 1000000 in
theorem cho1_walk (w : World) (rb pb qb x y z n : Nat) (c : Int) (b : Bool) (t : ByteArray) (hx : x ≤ y) (hy : (y : Int) ≤ 1048576) (hn : n ≤ y - x) (hz : z = min y (x + 4 * n))
    (hp : w.cell? ⟨pb, 0, none⟩ = some (.int .i64 (n : Nat))) (hq : w.cell? ⟨qb, 0, none⟩ = some (.pointer (some ⟨rb, 0, none⟩)))
    (hS : ∀ W, Up w W → Calls Tryd.prog 26 #[.pointer (some ⟨rb, 0, none⟩), .int .i64 (x : Nat), .int .i64 (z : Nat)] W fun e w' => e = .returned (.tuple #[.string t, .int .i64 0]) ∧ Up W w')
    (hB : ∀ W, Up w W → Calls Tryd.prog 31 #[.string t, .int .i64 (n : Nat)] W fun e w' => e = .returned (.tuple #[.int .i64 c, .bool b]) ∧ Up W w') :
    Calls Tryd.prog 30 #[.agg #[.int .i64 (x : Nat), .int .i64 (y : Nat)], .pointer (some ⟨pb, 0, none⟩), .pointer (some ⟨qb, 0, none⟩)] w fun e w' => e = .returned (.tuple #[.int .i64 c, .bool b]) ∧ Up w w' := by
  have hu := Up.alloc w (.cells #[.int .i64 (x : Nat), .int .i64 (y : Nat)] 50)
  have c0 := cell_up hu hp
  have c1 := cell_up hu hq
  obtain ⟨d0, d1, -⟩ := rg_cells w (x : Nat) (y : Nat)
  have HU := Lib.hid hu
  have HS := Lib.hid hS
  have HB := Lib.hid hB
  have hm : min (y : Int) ((x : Int) + 4 * (n : Int)) = (z : Nat) := by omega
  have hni : (n : Int) ≤ 1048576 := by omega
  have f0 : decide ((n : Int) < 0) = false := decide_eq_false (by omega)
  have f1 : decide ((y : Int) - x < n) = false := decide_eq_false (by omega)
  clear hp hq hu hS hB hz
  go_enter Tryd.func30, Tryd.ntmps30
  go_wp2_with (first
    | (go_at_call 26; ((with_reducible refine (HS.out _ HU.out).mono ?_); rintro e w1 ⟨rfl, hu1⟩; have e0 := cell_up hu1 c0; have e2 := cell_up hu1 d0; have HU1 := Lib.hid (HU.out.trans hu1); clear hu1))
    | (go_at_call 31; ((with_reducible refine (HB.out _ HU1.out).mono ?_); rintro e w2 ⟨rfl, hu2⟩; have HU2 := Lib.hid (HU1.out.trans hu2); clear hu2)))
  go_ret2
  exact ⟨rfl, HU2.out⟩
end Go.Proofs.YtfcpieodgflmnaaDoor
