/- MdmarkApart, walked: one theorem for each class of what stands there. -/
import Derived.Test.YtopdbilkpkgccaaDoorMkTabM
import Derived.Test.YtopdbilkpkgccaaDoorLnEnd
namespace Go.Proofs.YtopdbilkpkgccaaDoor
open Go.RowKit
set_option linter.unusedVariables false
set_option maxRecDepth 100000 in
set_option maxHeartbeats 16000000 in
theorem apart_none (w : World) (s : ByteArray) (a : Int) (hs : (s.size : Int) ≤ 20000)
    (hRule : ∀ W, Up w W → Calls Tryd.prog 7 #[.string s, .int .i64 a] W fun e w' => e = .returned (.tuple #[.agg #[.int .u8 0, .int .i64 0, .int .i64 0, .int .i64 0, .int .i64 0, .int .i64 0], .bool false]) ∧ Up W w')
    (hHead : ∀ W, Up w W → Calls Tryd.prog 8 #[.string s, .int .i64 a] W fun e w' => e = .returned (.tuple #[.agg #[.int .u8 0, .int .i64 0, .int .i64 0, .int .i64 0, .int .i64 0, .int .i64 0], .bool false]) ∧ Up W w')
    (hUnder : ∀ W, Up w W → Calls Tryd.prog 9 #[.string s, .int .i64 a] W fun e w' => e = .returned (.tuple #[.agg #[.int .u8 0, .int .i64 0, .int .i64 0, .int .i64 0, .int .i64 0, .int .i64 0], .bool false]) ∧ Up W w')
    (hFence : ∀ W, Up w W → Calls Tryd.prog 10 #[.string s, .int .i64 a] W fun e w' => e = .returned (.tuple #[.agg #[.int .u8 0, .int .i64 0, .int .i64 0, .int .i64 0, .int .i64 0, .int .i64 0], .bool false]) ∧ Up W w')
    (hItem : ∀ W, Up w W → Calls Tryd.prog 11 #[.string s, .int .i64 a] W fun e w' => e = .returned (.tuple #[.agg #[.int .u8 0, .int .i64 0, .int .i64 0, .int .i64 0, .int .i64 0, .int .i64 0], .bool false]) ∧ Up W w')
    : Calls Tryd.prog 3 #[.string s, .int .i64 a] w fun e w' => e = .returned (.bool true) ∧ Up w w' := by
  have HRule := Lib.hid hRule
  have HHead := Lib.hid hHead
  have HUnder := Lib.hid hUnder
  have HFence := Lib.hid hFence
  have HItem := Lib.hid hItem
  have HRd := Lib.hid (fun W => reads_any W)
  have HBk := Lib.hid (fun c W => rbk_any c W)
  have HEn := Lib.hid (fun W => end_any s W (by omega))
  obtain ⟨E, hE⟩ : ∃ E, endL (bl s) = E := ⟨_, rfl⟩
  have hEs : E ≤ s.size := by have := endL_le (bl s); rw [bl_len] at this; omega
  rw [hE] at HEn
  have HS := Lib.hid (And.intro hEs hs)
  have hz : ¬ (20000 < (s.size : Int)) := by omega
  have hz2 : decide (20000 < s.size) = false := decide_eq_false (by omega)
  clear hs hE hEs hRule hHead hUnder hFence hItem
  go_enter Tryd.func3, Tryd.ntmps3
  go_upto_region 8 with (first
    | (go_at_call 7; ((with_reducible refine (HRule.out _ (Up.refl w)).mono ?_); rintro e v0 ⟨rfl, h0⟩; have HU0 := Lib.hid (Up.trans (Up.refl w) (h0.trans (Up.alloc v0 (.cells #[.int .u8 0, .int .i64 0, .int .i64 0, .int .i64 0, .int .i64 0, .int .i64 0] 23)))); have HX0 := Lib.hid (six_new v0 23 (.int .u8 0) (.int .i64 0) (.int .i64 0) (.int .i64 0) (.int .i64 0) (.int .i64 0)); clear h0))
    | (go_at_call 8; ((with_reducible refine (HHead.out _ HU0.out).mono ?_); rintro e v1 ⟨rfl, h1⟩; have HU1 := Lib.hid (Up.trans HU0.out (h1.trans (Up.alloc v1 (.cells #[.int .u8 0, .int .i64 0, .int .i64 0, .int .i64 0, .int .i64 0, .int .i64 0] 23)))); have HX0 := Lib.hid ((HX0.out.up h1).up (Up.alloc v1 (.cells #[.int .u8 0, .int .i64 0, .int .i64 0, .int .i64 0, .int .i64 0, .int .i64 0] 23))); have HX1 := Lib.hid (six_new v1 23 (.int .u8 0) (.int .i64 0) (.int .i64 0) (.int .i64 0) (.int .i64 0) (.int .i64 0)); clear h1))
    | (go_at_call 9; ((with_reducible refine (HUnder.out _ HU1.out).mono ?_); rintro e v2 ⟨rfl, h2⟩; have HU2 := Lib.hid (Up.trans HU1.out (h2.trans (Up.alloc v2 (.cells #[.int .u8 0, .int .i64 0, .int .i64 0, .int .i64 0, .int .i64 0, .int .i64 0] 23)))); have HX0 := Lib.hid ((HX0.out.up h2).up (Up.alloc v2 (.cells #[.int .u8 0, .int .i64 0, .int .i64 0, .int .i64 0, .int .i64 0, .int .i64 0] 23))); have HX1 := Lib.hid ((HX1.out.up h2).up (Up.alloc v2 (.cells #[.int .u8 0, .int .i64 0, .int .i64 0, .int .i64 0, .int .i64 0, .int .i64 0] 23))); have HX2 := Lib.hid (six_new v2 23 (.int .u8 0) (.int .i64 0) (.int .i64 0) (.int .i64 0) (.int .i64 0) (.int .i64 0)); clear h2))
    | (go_at_call 10; ((with_reducible refine (HFence.out _ HU2.out).mono ?_); rintro e v3 ⟨rfl, h3⟩; have HU3 := Lib.hid (Up.trans HU2.out (h3.trans (Up.alloc v3 (.cells #[.int .u8 0, .int .i64 0, .int .i64 0, .int .i64 0, .int .i64 0, .int .i64 0] 23)))); have HX0 := Lib.hid ((HX0.out.up h3).up (Up.alloc v3 (.cells #[.int .u8 0, .int .i64 0, .int .i64 0, .int .i64 0, .int .i64 0, .int .i64 0] 23))); have HX1 := Lib.hid ((HX1.out.up h3).up (Up.alloc v3 (.cells #[.int .u8 0, .int .i64 0, .int .i64 0, .int .i64 0, .int .i64 0, .int .i64 0] 23))); have HX2 := Lib.hid ((HX2.out.up h3).up (Up.alloc v3 (.cells #[.int .u8 0, .int .i64 0, .int .i64 0, .int .i64 0, .int .i64 0, .int .i64 0] 23))); have HX3 := Lib.hid (six_new v3 23 (.int .u8 0) (.int .i64 0) (.int .i64 0) (.int .i64 0) (.int .i64 0) (.int .i64 0)); clear h3))
    | (go_at_call 11; ((with_reducible refine (HItem.out _ HU3.out).mono ?_); rintro e v4 ⟨rfl, h4⟩; have HU4 := Lib.hid (Up.trans HU3.out (h4.trans (Up.alloc v4 (.cells #[.int .u8 0, .int .i64 0, .int .i64 0, .int .i64 0, .int .i64 0, .int .i64 0] 23)))); have HX0 := Lib.hid ((HX0.out.up h4).up (Up.alloc v4 (.cells #[.int .u8 0, .int .i64 0, .int .i64 0, .int .i64 0, .int .i64 0, .int .i64 0] 23))); have HX1 := Lib.hid ((HX1.out.up h4).up (Up.alloc v4 (.cells #[.int .u8 0, .int .i64 0, .int .i64 0, .int .i64 0, .int .i64 0, .int .i64 0] 23))); have HX2 := Lib.hid ((HX2.out.up h4).up (Up.alloc v4 (.cells #[.int .u8 0, .int .i64 0, .int .i64 0, .int .i64 0, .int .i64 0, .int .i64 0] 23))); have HX3 := Lib.hid ((HX3.out.up h4).up (Up.alloc v4 (.cells #[.int .u8 0, .int .i64 0, .int .i64 0, .int .i64 0, .int .i64 0, .int .i64 0] 23))); have HX4 := Lib.hid (six_new v4 23 (.int .u8 0) (.int .i64 0) (.int .i64 0) (.int .i64 0) (.int .i64 0) (.int .i64 0)); clear h4))
    )
  refine gen_world ?_
  intro W5 h5
  have HX0 := Lib.hid (show Six W5 v0.heap.size (.int .u8 0) (.int .i64 0) (.int .i64 0) (.int .i64 0) (.int .i64 0) (.int .i64 0) from by rw [← h5]; exact HX0.out)
  have HX1 := Lib.hid (show Six W5 v1.heap.size (.int .u8 0) (.int .i64 0) (.int .i64 0) (.int .i64 0) (.int .i64 0) (.int .i64 0) from by rw [← h5]; exact HX1.out)
  have HX2 := Lib.hid (show Six W5 v2.heap.size (.int .u8 0) (.int .i64 0) (.int .i64 0) (.int .i64 0) (.int .i64 0) (.int .i64 0) from by rw [← h5]; exact HX2.out)
  have HX3 := Lib.hid (show Six W5 v3.heap.size (.int .u8 0) (.int .i64 0) (.int .i64 0) (.int .i64 0) (.int .i64 0) (.int .i64 0) from by rw [← h5]; exact HX3.out)
  have HX4 := Lib.hid (show Six W5 v4.heap.size (.int .u8 0) (.int .i64 0) (.int .i64 0) (.int .i64 0) (.int .i64 0) (.int .i64 0) from by rw [← h5]; exact HX4.out)
  have HU := Lib.hid (show Up w W5 from by rw [← h5]; exact HU4.out)
  clear h5
  generalize v0.heap.size = b0 at *
  generalize v1.heap.size = b1 at *
  generalize v2.heap.size = b2 at *
  generalize v3.heap.size = b3 at *
  generalize v4.heap.size = b4 at *
  obtain ⟨W6, h6⟩ : ∃ W6, W5.alloc (.cells #[.int .u8 0, .int .i64 0, .int .i64 0, .int .i64 0, .int .i64 0, .int .i64 0] 23) = W6 := ⟨_, rfl⟩
  have HN := Lib.hid (show Six (W5.alloc (.cells #[.int .u8 0, .int .i64 0, .int .i64 0, .int .i64 0, .int .i64 0, .int .i64 0] 23)) W5.heap.size (.int .u8 0) (.int .i64 0) (.int .i64 0) (.int .i64 0) (.int .i64 0) (.int .i64 0) from six_new _ _ _ _ _ _ _ _)
  have HX0 := Lib.hid (show Six (W5.alloc (.cells #[.int .u8 0, .int .i64 0, .int .i64 0, .int .i64 0, .int .i64 0, .int .i64 0] 23)) b0 (.int .u8 0) (.int .i64 0) (.int .i64 0) (.int .i64 0) (.int .i64 0) (.int .i64 0) from HX0.out.up (Up.alloc _ _))
  have HX1 := Lib.hid (show Six (W5.alloc (.cells #[.int .u8 0, .int .i64 0, .int .i64 0, .int .i64 0, .int .i64 0, .int .i64 0] 23)) b1 (.int .u8 0) (.int .i64 0) (.int .i64 0) (.int .i64 0) (.int .i64 0) (.int .i64 0) from HX1.out.up (Up.alloc _ _))
  have HX2 := Lib.hid (show Six (W5.alloc (.cells #[.int .u8 0, .int .i64 0, .int .i64 0, .int .i64 0, .int .i64 0, .int .i64 0] 23)) b2 (.int .u8 0) (.int .i64 0) (.int .i64 0) (.int .i64 0) (.int .i64 0) (.int .i64 0) from HX2.out.up (Up.alloc _ _))
  have HX3 := Lib.hid (show Six (W5.alloc (.cells #[.int .u8 0, .int .i64 0, .int .i64 0, .int .i64 0, .int .i64 0, .int .i64 0] 23)) b3 (.int .u8 0) (.int .i64 0) (.int .i64 0) (.int .i64 0) (.int .i64 0) (.int .i64 0) from HX3.out.up (Up.alloc _ _))
  have HX4 := Lib.hid (show Six (W5.alloc (.cells #[.int .u8 0, .int .i64 0, .int .i64 0, .int .i64 0, .int .i64 0, .int .i64 0] 23)) b4 (.int .u8 0) (.int .i64 0) (.int .i64 0) (.int .i64 0) (.int .i64 0) (.int .i64 0) from HX4.out.up (Up.alloc _ _))
  clear h6 W6
  obtain ⟨x00, x01, x02, x03, x04, x05⟩ := HX0.out
  obtain ⟨x10, x11, x12, x13, x14, x15⟩ := HX1.out
  obtain ⟨x20, x21, x22, x23, x24, x25⟩ := HX2.out
  obtain ⟨x30, x31, x32, x33, x34, x35⟩ := HX3.out
  obtain ⟨x40, x41, x42, x43, x44, x45⟩ := HX4.out
  obtain ⟨z0, z1, z2, z3, z4, z5⟩ := HN.out
  go_upto_region 19 with (first | (go_at_call 13; ((with_reducible refine (HEn.out _).mono ?_); rintro e w9 ⟨rfl, rfl⟩)))
  refine gen_world ?_
  intro W7 h7
  have HT0 := Lib.hid (show MTab W7 (W5.heap.size + 1) [⟨0, 0, 0, 0, 0, 0⟩, ⟨0, 0, 0, 0, 0, 0⟩, ⟨0, 0, 0, 0, 0, 0⟩, ⟨0, 0, 0, 0, 0, 0⟩, ⟨0, 0, 0, 0, 0, 0⟩] from by have h := mtab_new (W5.alloc (.cells #[.int .u8 0, .int .i64 0, .int .i64 0, .int .i64 0, .int .i64 0, .int .i64 0] 23)) [⟨0, 0, 0, 0, 0, 0⟩, ⟨0, 0, 0, 0, 0, 0⟩, ⟨0, 0, 0, 0, 0, 0⟩, ⟨0, 0, 0, 0, 0, 0⟩, ⟨0, 0, 0, 0, 0, 0⟩] _ 23 rfl; rw [World.size_alloc] at h; rw [← h7]; exact h)
  have HN0 := Lib.hid (show Six W7 W5.heap.size (.int .u8 0) (.int .i64 0) (.int .i64 0) (.int .i64 0) (.int .i64 0) (.int .i64 0) from by rw [← h7]; exact HN.out.up (Up.alloc _ _))
  have HU0 := Lib.hid (show Up w W7 from by rw [← h7]; exact (HU.out.trans (Up.alloc _ _)).trans (Up.alloc _ _))
  clear h7 x00 x01 x02 x03 x04 x05 x10 x11 x12 x13 x14 x15 x20 x21 x22 x23 x24 x25 x30 x31 x32 x33 x34 x35 x40 x41 x42 x43 x44 x45 z0 z1 z2 z3 z4 z5
  clear HN HU HX0 HX1 HX2 HX3 HX4
  generalize W5.heap.size = nb at *
  generalize nb + 1 = tb at *
  go_wp2
  go_loopg [18] 5 (fun g iv wr => ∃ k : Nat, g = 5 - k ∧ iv = .int .i64 (k : Nat) ∧ Hid (k ≤ 5) ∧ Hid (MTab wr tb [⟨0, 0, 0, 0, 0, 0⟩, ⟨0, 0, 0, 0, 0, 0⟩, ⟨0, 0, 0, 0, 0, 0⟩, ⟨0, 0, 0, 0, 0, 0⟩, ⟨0, 0, 0, 0, 0, 0⟩]) ∧ Hid (Six wr nb (.int .u8 0) (.int .i64 0) (.int .i64 0) (.int .i64 0) (.int .i64 0) (.int .i64 0)) ∧ Hid (Up w wr))
  case atStart => exact ⟨0, rfl, rfl, Lib.hid (by decide), HT0, HN0, HU0⟩
  case round =>
    clear HT0 HN0 HU0
    obtain ⟨k, hg, rfl, HK, HT, HN, HU⟩ := hrel
    have HG := Lib.hid hg
    clear hg
    by_cases hlt : k < 5
    · obtain ⟨m, hm⟩ : ∃ m, ([⟨0, 0, 0, 0, 0, 0⟩, ⟨0, 0, 0, 0, 0, 0⟩, ⟨0, 0, 0, 0, 0, 0⟩, ⟨0, 0, 0, 0, 0, 0⟩, ⟨0, 0, 0, 0, 0, 0⟩] : List Mk)[k]? = some m := ⟨_, List.getElem?_eq_getElem (show k < ([⟨0, 0, 0, 0, 0, 0⟩, ⟨0, 0, 0, 0, 0, 0⟩, ⟨0, 0, 0, 0, 0, 0⟩, ⟨0, 0, 0, 0, 0, 0⟩, ⟨0, 0, 0, 0, 0, 0⟩] : List Mk).length from hlt)⟩
      obtain ⟨c0, c1, c2, c3, c4, c5⟩ := HT.out.row hm
      have p0 : (0 : Int) ≤ (k : Int) := by omega
      have p1 : (k : Int) < 5 := by omega
      have e1 : IntKind.i64.wrap ((k : Int) + 1) = (k : Int) + 1 := IntWalk.i64_in _ (by omega)
      have HLT := Lib.hid hlt
      have hmz : m = noM := by
        have := List.mem_of_getElem? hm
        simp at this
        rw [this]; rfl
      subst hmz
      clear c0 c1 c2 c3 c4 c5 hlt
      obtain ⟨c0, c1, c2, c3, c4, c5⟩ := HT.out.row0 hm
      obtain ⟨z0, z1, z2, z3, z4, z5⟩ := HN.out.up (Up.alloc wr (.cells #[.int .u8 0, .int .i64 0, .int .i64 0, .int .i64 0, .int .i64 0, .int .i64 0] 23))
      clear hm
      go_wp2
      go_roundg (5 - (k + 1))
      case measure => rw [HG.out]; have := HLT.out; omega
      case rel => exact ⟨k + 1, rfl, by go_num, Lib.hid HLT.out, Lib.hid (HT.out.up (Up.alloc _ _)), Lib.hid (HN.out.up (Up.alloc _ _)), Lib.hid (HU.out.trans (Up.alloc _ _))⟩
    · have hk5 : k = 5 := by have := HK.out; omega
      subst hk5
      clear hlt
      go_wp2_with (go_at_call 14; ((with_reducible refine (HRd.out _).mono ?_); rintro e w9 ⟨rfl, h9⟩; have HU9 := Lib.hid (HU.out.trans h9); clear h9))
      go_ret
      exact ⟨rfl, HU9.out⟩
set_option maxRecDepth 100000 in
set_option maxHeartbeats 16000000 in
theorem apart_r (w : World) (s : ByteArray) (p LA : Nat) (kr0 kr1 kr2 kr3 kr4 : Nat) (hs : (s.size : Int) ≤ 20000)
    (hRule : ∀ W, Up w W → Calls Tryd.prog 7 #[.string s, .int .i64 (p : Int)] W fun e w' => e = .returned (.tuple #[.agg #[.int .u8 (kr0 : Nat), .int .i64 (kr1 : Nat), .int .i64 (kr2 : Nat), .int .i64 (kr3 : Nat), .int .i64 (kr4 : Nat), .int .i64 (LA : Nat)], .bool true]) ∧ Up W w')
    (hHead : ∀ W, Up w W → Calls Tryd.prog 8 #[.string s, .int .i64 (p : Int)] W fun e w' => e = .returned (.tuple #[.agg #[.int .u8 0, .int .i64 0, .int .i64 0, .int .i64 0, .int .i64 0, .int .i64 0], .bool false]) ∧ Up W w')
    (hUnder : ∀ W, Up w W → Calls Tryd.prog 9 #[.string s, .int .i64 (p : Int)] W fun e w' => e = .returned (.tuple #[.agg #[.int .u8 0, .int .i64 0, .int .i64 0, .int .i64 0, .int .i64 0, .int .i64 0], .bool false]) ∧ Up W w')
    (hFence : ∀ W, Up w W → Calls Tryd.prog 10 #[.string s, .int .i64 (p : Int)] W fun e w' => e = .returned (.tuple #[.agg #[.int .u8 0, .int .i64 0, .int .i64 0, .int .i64 0, .int .i64 0, .int .i64 0], .bool false]) ∧ Up W w')
    (hItem : ∀ W, Up w W → Calls Tryd.prog 11 #[.string s, .int .i64 (p : Int)] W fun e w' => e = .returned (.tuple #[.agg #[.int .u8 0, .int .i64 0, .int .i64 0, .int .i64 0, .int .i64 0, .int .i64 0], .bool false]) ∧ Up W w')
    (hpL : p < LA) (hLE : LA ≤ endL (bl s))
    (hNb : ∃ y, (bl s)[LA - 1]? = some y ∧ bk y = false)
    (hBl : ∀ j, LA ≤ j → j < endL (bl s) → ∃ y, (bl s)[j]? = some y ∧ bk y = true)
    (hG : ∀ m ∈ ([⟨kr0, kr1, kr2, kr3, kr4, LA⟩, ⟨0, 0, 0, 0, 0, 0⟩, ⟨0, 0, 0, 0, 0, 0⟩, ⟨0, 0, 0, 0, 0, 0⟩, ⟨0, 0, 0, 0, 0, 0⟩] : List Mk), m = noM ∨ GoodM LA m)
    : Calls Tryd.prog 3 #[.string s, .int .i64 (p : Int)] w fun e w' => e = .returned (.bool true) ∧ Up w w' := by
  have HRule := Lib.hid hRule
  have HHead := Lib.hid hHead
  have HUnder := Lib.hid hUnder
  have HFence := Lib.hid hFence
  have HItem := Lib.hid hItem
  have HRd := Lib.hid (fun W => reads_any W)
  have HBk := Lib.hid (fun c W => rbk_any c W)
  have HEn := Lib.hid (fun W => end_any s W (by omega))
  obtain ⟨E, hE⟩ : ∃ E, endL (bl s) = E := ⟨_, rfl⟩
  have hEs : E ≤ s.size := by have := endL_le (bl s); rw [bl_len] at this; omega
  rw [hE] at HEn hLE hBl
  have HS := Lib.hid (And.intro hEs hs)
  have HLE := Lib.hid (And.intro hpL hLE)
  have HNb := Lib.hid hNb
  have HBl := Lib.hid hBl
  have HGd := Lib.hid hG
  have hz : ¬ (20000 < (s.size : Int)) := by omega
  have hz2 : decide (20000 < s.size) = false := decide_eq_false (by omega)
  clear hs hE hEs hRule hHead hUnder hFence hItem hpL hLE hNb hBl hG
  go_enter Tryd.func3, Tryd.ntmps3
  go_upto_region 8 with (first
    | (go_at_call 7; ((with_reducible refine (HRule.out _ (Up.refl w)).mono ?_); rintro e v0 ⟨rfl, h0⟩; have HU0 := Lib.hid (Up.trans (Up.refl w) (h0.trans (Up.alloc v0 (.cells #[.int .u8 (kr0 : Nat), .int .i64 (kr1 : Nat), .int .i64 (kr2 : Nat), .int .i64 (kr3 : Nat), .int .i64 (kr4 : Nat), .int .i64 (LA : Nat)] 23)))); have HX0 := Lib.hid (six_new v0 23 (.int .u8 (kr0 : Nat)) (.int .i64 (kr1 : Nat)) (.int .i64 (kr2 : Nat)) (.int .i64 (kr3 : Nat)) (.int .i64 (kr4 : Nat)) (.int .i64 (LA : Nat))); clear h0))
    | (go_at_call 8; ((with_reducible refine (HHead.out _ HU0.out).mono ?_); rintro e v1 ⟨rfl, h1⟩; have HU1 := Lib.hid (Up.trans HU0.out (h1.trans (Up.alloc v1 (.cells #[.int .u8 0, .int .i64 0, .int .i64 0, .int .i64 0, .int .i64 0, .int .i64 0] 23)))); have HX0 := Lib.hid ((HX0.out.up h1).up (Up.alloc v1 (.cells #[.int .u8 0, .int .i64 0, .int .i64 0, .int .i64 0, .int .i64 0, .int .i64 0] 23))); have HX1 := Lib.hid (six_new v1 23 (.int .u8 0) (.int .i64 0) (.int .i64 0) (.int .i64 0) (.int .i64 0) (.int .i64 0)); clear h1))
    | (go_at_call 9; ((with_reducible refine (HUnder.out _ HU1.out).mono ?_); rintro e v2 ⟨rfl, h2⟩; have HU2 := Lib.hid (Up.trans HU1.out (h2.trans (Up.alloc v2 (.cells #[.int .u8 0, .int .i64 0, .int .i64 0, .int .i64 0, .int .i64 0, .int .i64 0] 23)))); have HX0 := Lib.hid ((HX0.out.up h2).up (Up.alloc v2 (.cells #[.int .u8 0, .int .i64 0, .int .i64 0, .int .i64 0, .int .i64 0, .int .i64 0] 23))); have HX1 := Lib.hid ((HX1.out.up h2).up (Up.alloc v2 (.cells #[.int .u8 0, .int .i64 0, .int .i64 0, .int .i64 0, .int .i64 0, .int .i64 0] 23))); have HX2 := Lib.hid (six_new v2 23 (.int .u8 0) (.int .i64 0) (.int .i64 0) (.int .i64 0) (.int .i64 0) (.int .i64 0)); clear h2))
    | (go_at_call 10; ((with_reducible refine (HFence.out _ HU2.out).mono ?_); rintro e v3 ⟨rfl, h3⟩; have HU3 := Lib.hid (Up.trans HU2.out (h3.trans (Up.alloc v3 (.cells #[.int .u8 0, .int .i64 0, .int .i64 0, .int .i64 0, .int .i64 0, .int .i64 0] 23)))); have HX0 := Lib.hid ((HX0.out.up h3).up (Up.alloc v3 (.cells #[.int .u8 0, .int .i64 0, .int .i64 0, .int .i64 0, .int .i64 0, .int .i64 0] 23))); have HX1 := Lib.hid ((HX1.out.up h3).up (Up.alloc v3 (.cells #[.int .u8 0, .int .i64 0, .int .i64 0, .int .i64 0, .int .i64 0, .int .i64 0] 23))); have HX2 := Lib.hid ((HX2.out.up h3).up (Up.alloc v3 (.cells #[.int .u8 0, .int .i64 0, .int .i64 0, .int .i64 0, .int .i64 0, .int .i64 0] 23))); have HX3 := Lib.hid (six_new v3 23 (.int .u8 0) (.int .i64 0) (.int .i64 0) (.int .i64 0) (.int .i64 0) (.int .i64 0)); clear h3))
    | (go_at_call 11; ((with_reducible refine (HItem.out _ HU3.out).mono ?_); rintro e v4 ⟨rfl, h4⟩; have HU4 := Lib.hid (Up.trans HU3.out (h4.trans (Up.alloc v4 (.cells #[.int .u8 0, .int .i64 0, .int .i64 0, .int .i64 0, .int .i64 0, .int .i64 0] 23)))); have HX0 := Lib.hid ((HX0.out.up h4).up (Up.alloc v4 (.cells #[.int .u8 0, .int .i64 0, .int .i64 0, .int .i64 0, .int .i64 0, .int .i64 0] 23))); have HX1 := Lib.hid ((HX1.out.up h4).up (Up.alloc v4 (.cells #[.int .u8 0, .int .i64 0, .int .i64 0, .int .i64 0, .int .i64 0, .int .i64 0] 23))); have HX2 := Lib.hid ((HX2.out.up h4).up (Up.alloc v4 (.cells #[.int .u8 0, .int .i64 0, .int .i64 0, .int .i64 0, .int .i64 0, .int .i64 0] 23))); have HX3 := Lib.hid ((HX3.out.up h4).up (Up.alloc v4 (.cells #[.int .u8 0, .int .i64 0, .int .i64 0, .int .i64 0, .int .i64 0, .int .i64 0] 23))); have HX4 := Lib.hid (six_new v4 23 (.int .u8 0) (.int .i64 0) (.int .i64 0) (.int .i64 0) (.int .i64 0) (.int .i64 0)); clear h4))
    )
  refine gen_world ?_
  intro W5 h5
  have HX0 := Lib.hid (show Six W5 v0.heap.size (.int .u8 (kr0 : Nat)) (.int .i64 (kr1 : Nat)) (.int .i64 (kr2 : Nat)) (.int .i64 (kr3 : Nat)) (.int .i64 (kr4 : Nat)) (.int .i64 (LA : Nat)) from by rw [← h5]; exact HX0.out)
  have HX1 := Lib.hid (show Six W5 v1.heap.size (.int .u8 0) (.int .i64 0) (.int .i64 0) (.int .i64 0) (.int .i64 0) (.int .i64 0) from by rw [← h5]; exact HX1.out)
  have HX2 := Lib.hid (show Six W5 v2.heap.size (.int .u8 0) (.int .i64 0) (.int .i64 0) (.int .i64 0) (.int .i64 0) (.int .i64 0) from by rw [← h5]; exact HX2.out)
  have HX3 := Lib.hid (show Six W5 v3.heap.size (.int .u8 0) (.int .i64 0) (.int .i64 0) (.int .i64 0) (.int .i64 0) (.int .i64 0) from by rw [← h5]; exact HX3.out)
  have HX4 := Lib.hid (show Six W5 v4.heap.size (.int .u8 0) (.int .i64 0) (.int .i64 0) (.int .i64 0) (.int .i64 0) (.int .i64 0) from by rw [← h5]; exact HX4.out)
  have HU := Lib.hid (show Up w W5 from by rw [← h5]; exact HU4.out)
  clear h5
  generalize v0.heap.size = b0 at *
  generalize v1.heap.size = b1 at *
  generalize v2.heap.size = b2 at *
  generalize v3.heap.size = b3 at *
  generalize v4.heap.size = b4 at *
  obtain ⟨W6, h6⟩ : ∃ W6, W5.alloc (.cells #[.int .u8 0, .int .i64 0, .int .i64 0, .int .i64 0, .int .i64 0, .int .i64 0] 23) = W6 := ⟨_, rfl⟩
  have HN := Lib.hid (show Six (W5.alloc (.cells #[.int .u8 0, .int .i64 0, .int .i64 0, .int .i64 0, .int .i64 0, .int .i64 0] 23)) W5.heap.size (.int .u8 0) (.int .i64 0) (.int .i64 0) (.int .i64 0) (.int .i64 0) (.int .i64 0) from six_new _ _ _ _ _ _ _ _)
  have HX0 := Lib.hid (show Six (W5.alloc (.cells #[.int .u8 0, .int .i64 0, .int .i64 0, .int .i64 0, .int .i64 0, .int .i64 0] 23)) b0 (.int .u8 (kr0 : Nat)) (.int .i64 (kr1 : Nat)) (.int .i64 (kr2 : Nat)) (.int .i64 (kr3 : Nat)) (.int .i64 (kr4 : Nat)) (.int .i64 (LA : Nat)) from HX0.out.up (Up.alloc _ _))
  have HX1 := Lib.hid (show Six (W5.alloc (.cells #[.int .u8 0, .int .i64 0, .int .i64 0, .int .i64 0, .int .i64 0, .int .i64 0] 23)) b1 (.int .u8 0) (.int .i64 0) (.int .i64 0) (.int .i64 0) (.int .i64 0) (.int .i64 0) from HX1.out.up (Up.alloc _ _))
  have HX2 := Lib.hid (show Six (W5.alloc (.cells #[.int .u8 0, .int .i64 0, .int .i64 0, .int .i64 0, .int .i64 0, .int .i64 0] 23)) b2 (.int .u8 0) (.int .i64 0) (.int .i64 0) (.int .i64 0) (.int .i64 0) (.int .i64 0) from HX2.out.up (Up.alloc _ _))
  have HX3 := Lib.hid (show Six (W5.alloc (.cells #[.int .u8 0, .int .i64 0, .int .i64 0, .int .i64 0, .int .i64 0, .int .i64 0] 23)) b3 (.int .u8 0) (.int .i64 0) (.int .i64 0) (.int .i64 0) (.int .i64 0) (.int .i64 0) from HX3.out.up (Up.alloc _ _))
  have HX4 := Lib.hid (show Six (W5.alloc (.cells #[.int .u8 0, .int .i64 0, .int .i64 0, .int .i64 0, .int .i64 0, .int .i64 0] 23)) b4 (.int .u8 0) (.int .i64 0) (.int .i64 0) (.int .i64 0) (.int .i64 0) (.int .i64 0) from HX4.out.up (Up.alloc _ _))
  clear h6 W6
  obtain ⟨x00, x01, x02, x03, x04, x05⟩ := HX0.out
  obtain ⟨x10, x11, x12, x13, x14, x15⟩ := HX1.out
  obtain ⟨x20, x21, x22, x23, x24, x25⟩ := HX2.out
  obtain ⟨x30, x31, x32, x33, x34, x35⟩ := HX3.out
  obtain ⟨x40, x41, x42, x43, x44, x45⟩ := HX4.out
  obtain ⟨z0, z1, z2, z3, z4, z5⟩ := HN.out
  go_upto_region 19 with (first | (go_at_call 13; ((with_reducible refine (HEn.out _).mono ?_); rintro e w9 ⟨rfl, rfl⟩)))
  refine gen_world ?_
  intro W7 h7
  have HT0 := Lib.hid (show MTab W7 (W5.heap.size + 1) [⟨kr0, kr1, kr2, kr3, kr4, LA⟩, ⟨0, 0, 0, 0, 0, 0⟩, ⟨0, 0, 0, 0, 0, 0⟩, ⟨0, 0, 0, 0, 0, 0⟩, ⟨0, 0, 0, 0, 0, 0⟩] from by have h := mtab_new (W5.alloc (.cells #[.int .u8 0, .int .i64 0, .int .i64 0, .int .i64 0, .int .i64 0, .int .i64 0] 23)) [⟨kr0, kr1, kr2, kr3, kr4, LA⟩, ⟨0, 0, 0, 0, 0, 0⟩, ⟨0, 0, 0, 0, 0, 0⟩, ⟨0, 0, 0, 0, 0, 0⟩, ⟨0, 0, 0, 0, 0, 0⟩] _ 23 rfl; rw [World.size_alloc] at h; rw [← h7]; exact h)
  have HN0 := Lib.hid (show Six W7 W5.heap.size (.int .u8 0) (.int .i64 0) (.int .i64 0) (.int .i64 0) (.int .i64 0) (.int .i64 0) from by rw [← h7]; exact HN.out.up (Up.alloc _ _))
  have HU0 := Lib.hid (show Up w W7 from by rw [← h7]; exact (HU.out.trans (Up.alloc _ _)).trans (Up.alloc _ _))
  clear h7 x00 x01 x02 x03 x04 x05 x10 x11 x12 x13 x14 x15 x20 x21 x22 x23 x24 x25 x30 x31 x32 x33 x34 x35 x40 x41 x42 x43 x44 x45 z0 z1 z2 z3 z4 z5
  clear HN HU HX0 HX1 HX2 HX3 HX4
  generalize W5.heap.size = nb at *
  generalize nb + 1 = tb at *
  go_wp2
  go_loopg [18] 5 (fun g iv wr => ∃ k : Nat, g = 5 - k ∧ iv = .int .i64 (k : Nat) ∧ Hid (k ≤ 5) ∧ Hid (MTab wr tb [⟨kr0, kr1, kr2, kr3, kr4, LA⟩, ⟨0, 0, 0, 0, 0, 0⟩, ⟨0, 0, 0, 0, 0, 0⟩, ⟨0, 0, 0, 0, 0, 0⟩, ⟨0, 0, 0, 0, 0, 0⟩]) ∧ Hid (Six wr nb (.int .u8 0) (.int .i64 0) (.int .i64 0) (.int .i64 0) (.int .i64 0) (.int .i64 0)) ∧ Hid (Up w wr))
  case atStart => exact ⟨0, rfl, rfl, Lib.hid (by decide), HT0, HN0, HU0⟩
  case round =>
    clear HT0 HN0 HU0
    obtain ⟨k, hg, rfl, HK, HT, HN, HU⟩ := hrel
    have HG := Lib.hid hg
    clear hg
    by_cases hlt : k < 5
    · obtain ⟨m, hm⟩ : ∃ m, ([⟨kr0, kr1, kr2, kr3, kr4, LA⟩, ⟨0, 0, 0, 0, 0, 0⟩, ⟨0, 0, 0, 0, 0, 0⟩, ⟨0, 0, 0, 0, 0, 0⟩, ⟨0, 0, 0, 0, 0, 0⟩] : List Mk)[k]? = some m := ⟨_, List.getElem?_eq_getElem (show k < ([⟨kr0, kr1, kr2, kr3, kr4, LA⟩, ⟨0, 0, 0, 0, 0, 0⟩, ⟨0, 0, 0, 0, 0, 0⟩, ⟨0, 0, 0, 0, 0, 0⟩, ⟨0, 0, 0, 0, 0, 0⟩] : List Mk).length from hlt)⟩
      obtain ⟨c0, c1, c2, c3, c4, c5⟩ := HT.out.row hm
      have p0 : (0 : Int) ≤ (k : Int) := by omega
      have p1 : (k : Int) < 5 := by omega
      have e1 : IntKind.i64.wrap ((k : Int) + 1) = (k : Int) + 1 := IntWalk.i64_in _ (by omega)
      have HLT := Lib.hid hlt
      have hgm := HGd.out m (List.mem_of_getElem? hm)
      have HM := Lib.hid hm
      clear hlt
      rcases hgm with rfl | hgm
      · clear c0 c1 c2 c3 c4 c5
        obtain ⟨c0, c1, c2, c3, c4, c5⟩ := HT.out.row0 hm
        obtain ⟨z0, z1, z2, z3, z4, z5⟩ := HN.out.up (Up.alloc wr (.cells #[.int .u8 0, .int .i64 0, .int .i64 0, .int .i64 0, .int .i64 0, .int .i64 0] 23))
        clear hm
        go_wp2
        go_roundg (5 - (k + 1))
        case measure => rw [HG.out]; have := HLT.out; omega
        case rel => exact ⟨k + 1, rfl, by go_num, Lib.hid HLT.out, Lib.hid (HT.out.up (Up.alloc _ _)), Lib.hid (HN.out.up (Up.alloc _ _)), Lib.hid (HU.out.trans (Up.alloc _ _))⟩
      · clear hm
        obtain ⟨m0, m1, m2, m3, m4, m5⟩ := m
        obtain ⟨g1, g2, g3, g4⟩ := hgm
        dsimp only at c0 c1 c2 c3 c4 c5 g1 g2 g3 g4
        subst g1
        obtain ⟨z0, z1, z2, z3, z4, z5⟩ := HN.out.up (Up.alloc wr (.cells #[.int .u8 (m0 : Nat), .int .i64 (m1 : Nat), .int .i64 (m2 : Nat), .int .i64 (m3 : Nat), .int .i64 (m4 : Nat), .int .i64 (m5 : Nat)] 23))
        obtain ⟨hpL, hLE⟩ := HLE.out
        obtain ⟨y, hy, hyb⟩ := HNb.out
        obtain ⟨q, hq⟩ : ∃ q, m5 - 1 = q := ⟨_, rfl⟩
        rw [hq] at hy
        have hql : q < s.size := by have := (List.getElem?_eq_some_iff.1 hy).1; rwa [bl_len] at this
        have hyy : (s[q]'hql).toNat = y := by rw [bl_at hql] at hy; injection hy with hy; rw [bt_eq hql]; exact hy
        have f0 : ((m5 : Int) == 0) = false := beq_eq_false_iff_ne.2 (by omega)
        have f1 : (m5 == 0) = false := beq_eq_false_iff_ne.2 (by omega)
        have f2 : ¬ ((p : Int) < 0) := by omega
        have f3 : ¬ ((m5 : Int) ≤ (p : Int)) := by omega
        have f4 : ¬ ((E : Int) < (m5 : Int)) := by omega
        have f5 : ¬ ((m5 : Int) < (m2 : Int)) := by omega
        have f6 : ¬ ((m4 : Int) < (m3 : Int)) := by omega
        have f7 : ¬ ((m5 : Int) < (m4 : Int)) := by omega
        have e2 : IntKind.i64.wrap ((m5 : Int) - 1) = (q : Nat) := (IntWalk.i64_in _ (by have := HS.out; omega)).trans (by omega)
        have d3 : decide (m5 ≤ p) = false := decide_eq_false (by omega)
        have d4 : decide (E < m5) = false := decide_eq_false (by omega)
        have d5 : decide (m5 < m2) = false := decide_eq_false (by omega)
        have d6 : decide (m4 < m3) = false := decide_eq_false (by omega)
        have d7 : decide (m5 < m4) = false := decide_eq_false (by omega)
        have q0 : (0 : Int) ≤ (q : Int) := by omega
        have q1 : (q : Int) < s.size := by omega
        have HBK := Lib.hid (fun W => by have h := HBk.out y W; rw [hyb] at h; exact h)
        have HLE5 := Lib.hid hLE
        clear hy hyb hpL hLE g2 g3 g4 hq
        go_upto_region 26 with (go_at_call 12; ((with_reducible refine (HBK.out _).mono ?_); rintro e w9 ⟨rfl, rfl⟩))
        clear f0 f1 f2 f3 f4 f5 f6 f7 e2 d3 d4 d5 d6 d7 q0 q1 hyy
        go_wp2
        go_loopg [20] (E - m5) (fun g iv wr2 => wr.alloc (.cells #[.int .u8 (m0 : Nat), .int .i64 (m1 : Nat), .int .i64 (m2 : Nat), .int .i64 (m3 : Nat), .int .i64 (m4 : Nat), .int .i64 (m5 : Nat)] 23) = wr2 ∧ ∃ j : Nat, g = E - j ∧ iv = .int .i64 (j : Nat) ∧ Hid (m5 ≤ j ∧ j ≤ E))
        case atStart => exact ⟨rfl, m5, rfl, rfl, Lib.hid ⟨Nat.le_refl _, HLE5.out⟩⟩
        case round =>
          obtain ⟨hwr, j, hg2, rfl, HJ⟩ := hrel
          subst hwr
          have HG2 := Lib.hid hg2
          clear hg2
          by_cases hj : j < E
          · obtain ⟨y, hy, hyb⟩ := HBl.out j HJ.out.1 hj
            have hjl : j < s.size := by have := HS.out; omega
            have hyy : (s[j]'hjl).toNat = y := by rw [bl_at hjl] at hy; injection hy with hy; rw [bt_eq hjl]; exact hy
            have q0 : (0 : Int) ≤ (j : Int) := by omega
            have q1 : (j : Int) < s.size := by omega
            have q2 : (j : Int) < (E : Int) := by omega
            have e3 : IntKind.i64.wrap ((j : Int) + 1) = (j : Int) + 1 := IntWalk.i64_in _ (by have := HS.out; omega)
            have HBK := Lib.hid (fun W => by have h := HBk.out y W; rw [hyb] at h; exact h)
            have HJL := Lib.hid hj
            clear hy hyb
            go_wp2_with (go_at_call 12; ((with_reducible refine (HBK.out _).mono ?_); rintro e w9 ⟨rfl, rfl⟩))
            go_roundg (E - (j + 1))
            case measure => rw [HG2.out]; have := HJL.out; omega
            case rel => exact ⟨rfl, j + 1, rfl, by go_num, Lib.hid ⟨by have := HJ.out; omega, HJL.out⟩⟩
          · have hj1 : decide (j < E) = false := decide_eq_false hj
            have hj2 : decide ((j : Int) < (E : Int)) = false := decide_eq_false (by omega)
            clear hj
            go_wp2
            go_roundg (5 - (k + 1))
            case measure => rw [HG.out]; have := HLT.out; omega
            case rel => exact ⟨k + 1, rfl, by go_num, Lib.hid HLT.out, Lib.hid (HT.out.up (Up.alloc _ _)), Lib.hid (HN.out.up (Up.alloc _ _)), Lib.hid (HU.out.trans (Up.alloc _ _))⟩
    · have hk5 : k = 5 := by have := HK.out; omega
      subst hk5
      clear hlt
      go_wp2_with (go_at_call 14; ((with_reducible refine (HRd.out _).mono ?_); rintro e w9 ⟨rfl, h9⟩; have HU9 := Lib.hid (HU.out.trans h9); clear h9))
      go_ret
      exact ⟨rfl, HU9.out⟩
set_option maxRecDepth 100000 in
set_option maxHeartbeats 16000000 in
theorem apart_h (w : World) (s : ByteArray) (p LA : Nat) (kh0 kh1 kh2 kh3 kh4 : Nat) (hs : (s.size : Int) ≤ 20000)
    (hRule : ∀ W, Up w W → Calls Tryd.prog 7 #[.string s, .int .i64 (p : Int)] W fun e w' => e = .returned (.tuple #[.agg #[.int .u8 0, .int .i64 0, .int .i64 0, .int .i64 0, .int .i64 0, .int .i64 0], .bool false]) ∧ Up W w')
    (hHead : ∀ W, Up w W → Calls Tryd.prog 8 #[.string s, .int .i64 (p : Int)] W fun e w' => e = .returned (.tuple #[.agg #[.int .u8 (kh0 : Nat), .int .i64 (kh1 : Nat), .int .i64 (kh2 : Nat), .int .i64 (kh3 : Nat), .int .i64 (kh4 : Nat), .int .i64 (LA : Nat)], .bool true]) ∧ Up W w')
    (hUnder : ∀ W, Up w W → Calls Tryd.prog 9 #[.string s, .int .i64 (p : Int)] W fun e w' => e = .returned (.tuple #[.agg #[.int .u8 0, .int .i64 0, .int .i64 0, .int .i64 0, .int .i64 0, .int .i64 0], .bool false]) ∧ Up W w')
    (hFence : ∀ W, Up w W → Calls Tryd.prog 10 #[.string s, .int .i64 (p : Int)] W fun e w' => e = .returned (.tuple #[.agg #[.int .u8 0, .int .i64 0, .int .i64 0, .int .i64 0, .int .i64 0, .int .i64 0], .bool false]) ∧ Up W w')
    (hItem : ∀ W, Up w W → Calls Tryd.prog 11 #[.string s, .int .i64 (p : Int)] W fun e w' => e = .returned (.tuple #[.agg #[.int .u8 0, .int .i64 0, .int .i64 0, .int .i64 0, .int .i64 0, .int .i64 0], .bool false]) ∧ Up W w')
    (hpL : p < LA) (hLE : LA ≤ endL (bl s))
    (hNb : ∃ y, (bl s)[LA - 1]? = some y ∧ bk y = false)
    (hBl : ∀ j, LA ≤ j → j < endL (bl s) → ∃ y, (bl s)[j]? = some y ∧ bk y = true)
    (hG : ∀ m ∈ ([⟨0, 0, 0, 0, 0, 0⟩, ⟨kh0, kh1, kh2, kh3, kh4, LA⟩, ⟨0, 0, 0, 0, 0, 0⟩, ⟨0, 0, 0, 0, 0, 0⟩, ⟨0, 0, 0, 0, 0, 0⟩] : List Mk), m = noM ∨ GoodM LA m)
    : Calls Tryd.prog 3 #[.string s, .int .i64 (p : Int)] w fun e w' => e = .returned (.bool true) ∧ Up w w' := by
  have HRule := Lib.hid hRule
  have HHead := Lib.hid hHead
  have HUnder := Lib.hid hUnder
  have HFence := Lib.hid hFence
  have HItem := Lib.hid hItem
  have HRd := Lib.hid (fun W => reads_any W)
  have HBk := Lib.hid (fun c W => rbk_any c W)
  have HEn := Lib.hid (fun W => end_any s W (by omega))
  obtain ⟨E, hE⟩ : ∃ E, endL (bl s) = E := ⟨_, rfl⟩
  have hEs : E ≤ s.size := by have := endL_le (bl s); rw [bl_len] at this; omega
  rw [hE] at HEn hLE hBl
  have HS := Lib.hid (And.intro hEs hs)
  have HLE := Lib.hid (And.intro hpL hLE)
  have HNb := Lib.hid hNb
  have HBl := Lib.hid hBl
  have HGd := Lib.hid hG
  have hz : ¬ (20000 < (s.size : Int)) := by omega
  have hz2 : decide (20000 < s.size) = false := decide_eq_false (by omega)
  clear hs hE hEs hRule hHead hUnder hFence hItem hpL hLE hNb hBl hG
  go_enter Tryd.func3, Tryd.ntmps3
  go_upto_region 8 with (first
    | (go_at_call 7; ((with_reducible refine (HRule.out _ (Up.refl w)).mono ?_); rintro e v0 ⟨rfl, h0⟩; have HU0 := Lib.hid (Up.trans (Up.refl w) (h0.trans (Up.alloc v0 (.cells #[.int .u8 0, .int .i64 0, .int .i64 0, .int .i64 0, .int .i64 0, .int .i64 0] 23)))); have HX0 := Lib.hid (six_new v0 23 (.int .u8 0) (.int .i64 0) (.int .i64 0) (.int .i64 0) (.int .i64 0) (.int .i64 0)); clear h0))
    | (go_at_call 8; ((with_reducible refine (HHead.out _ HU0.out).mono ?_); rintro e v1 ⟨rfl, h1⟩; have HU1 := Lib.hid (Up.trans HU0.out (h1.trans (Up.alloc v1 (.cells #[.int .u8 (kh0 : Nat), .int .i64 (kh1 : Nat), .int .i64 (kh2 : Nat), .int .i64 (kh3 : Nat), .int .i64 (kh4 : Nat), .int .i64 (LA : Nat)] 23)))); have HX0 := Lib.hid ((HX0.out.up h1).up (Up.alloc v1 (.cells #[.int .u8 (kh0 : Nat), .int .i64 (kh1 : Nat), .int .i64 (kh2 : Nat), .int .i64 (kh3 : Nat), .int .i64 (kh4 : Nat), .int .i64 (LA : Nat)] 23))); have HX1 := Lib.hid (six_new v1 23 (.int .u8 (kh0 : Nat)) (.int .i64 (kh1 : Nat)) (.int .i64 (kh2 : Nat)) (.int .i64 (kh3 : Nat)) (.int .i64 (kh4 : Nat)) (.int .i64 (LA : Nat))); clear h1))
    | (go_at_call 9; ((with_reducible refine (HUnder.out _ HU1.out).mono ?_); rintro e v2 ⟨rfl, h2⟩; have HU2 := Lib.hid (Up.trans HU1.out (h2.trans (Up.alloc v2 (.cells #[.int .u8 0, .int .i64 0, .int .i64 0, .int .i64 0, .int .i64 0, .int .i64 0] 23)))); have HX0 := Lib.hid ((HX0.out.up h2).up (Up.alloc v2 (.cells #[.int .u8 0, .int .i64 0, .int .i64 0, .int .i64 0, .int .i64 0, .int .i64 0] 23))); have HX1 := Lib.hid ((HX1.out.up h2).up (Up.alloc v2 (.cells #[.int .u8 0, .int .i64 0, .int .i64 0, .int .i64 0, .int .i64 0, .int .i64 0] 23))); have HX2 := Lib.hid (six_new v2 23 (.int .u8 0) (.int .i64 0) (.int .i64 0) (.int .i64 0) (.int .i64 0) (.int .i64 0)); clear h2))
    | (go_at_call 10; ((with_reducible refine (HFence.out _ HU2.out).mono ?_); rintro e v3 ⟨rfl, h3⟩; have HU3 := Lib.hid (Up.trans HU2.out (h3.trans (Up.alloc v3 (.cells #[.int .u8 0, .int .i64 0, .int .i64 0, .int .i64 0, .int .i64 0, .int .i64 0] 23)))); have HX0 := Lib.hid ((HX0.out.up h3).up (Up.alloc v3 (.cells #[.int .u8 0, .int .i64 0, .int .i64 0, .int .i64 0, .int .i64 0, .int .i64 0] 23))); have HX1 := Lib.hid ((HX1.out.up h3).up (Up.alloc v3 (.cells #[.int .u8 0, .int .i64 0, .int .i64 0, .int .i64 0, .int .i64 0, .int .i64 0] 23))); have HX2 := Lib.hid ((HX2.out.up h3).up (Up.alloc v3 (.cells #[.int .u8 0, .int .i64 0, .int .i64 0, .int .i64 0, .int .i64 0, .int .i64 0] 23))); have HX3 := Lib.hid (six_new v3 23 (.int .u8 0) (.int .i64 0) (.int .i64 0) (.int .i64 0) (.int .i64 0) (.int .i64 0)); clear h3))
    | (go_at_call 11; ((with_reducible refine (HItem.out _ HU3.out).mono ?_); rintro e v4 ⟨rfl, h4⟩; have HU4 := Lib.hid (Up.trans HU3.out (h4.trans (Up.alloc v4 (.cells #[.int .u8 0, .int .i64 0, .int .i64 0, .int .i64 0, .int .i64 0, .int .i64 0] 23)))); have HX0 := Lib.hid ((HX0.out.up h4).up (Up.alloc v4 (.cells #[.int .u8 0, .int .i64 0, .int .i64 0, .int .i64 0, .int .i64 0, .int .i64 0] 23))); have HX1 := Lib.hid ((HX1.out.up h4).up (Up.alloc v4 (.cells #[.int .u8 0, .int .i64 0, .int .i64 0, .int .i64 0, .int .i64 0, .int .i64 0] 23))); have HX2 := Lib.hid ((HX2.out.up h4).up (Up.alloc v4 (.cells #[.int .u8 0, .int .i64 0, .int .i64 0, .int .i64 0, .int .i64 0, .int .i64 0] 23))); have HX3 := Lib.hid ((HX3.out.up h4).up (Up.alloc v4 (.cells #[.int .u8 0, .int .i64 0, .int .i64 0, .int .i64 0, .int .i64 0, .int .i64 0] 23))); have HX4 := Lib.hid (six_new v4 23 (.int .u8 0) (.int .i64 0) (.int .i64 0) (.int .i64 0) (.int .i64 0) (.int .i64 0)); clear h4))
    )
  refine gen_world ?_
  intro W5 h5
  have HX0 := Lib.hid (show Six W5 v0.heap.size (.int .u8 0) (.int .i64 0) (.int .i64 0) (.int .i64 0) (.int .i64 0) (.int .i64 0) from by rw [← h5]; exact HX0.out)
  have HX1 := Lib.hid (show Six W5 v1.heap.size (.int .u8 (kh0 : Nat)) (.int .i64 (kh1 : Nat)) (.int .i64 (kh2 : Nat)) (.int .i64 (kh3 : Nat)) (.int .i64 (kh4 : Nat)) (.int .i64 (LA : Nat)) from by rw [← h5]; exact HX1.out)
  have HX2 := Lib.hid (show Six W5 v2.heap.size (.int .u8 0) (.int .i64 0) (.int .i64 0) (.int .i64 0) (.int .i64 0) (.int .i64 0) from by rw [← h5]; exact HX2.out)
  have HX3 := Lib.hid (show Six W5 v3.heap.size (.int .u8 0) (.int .i64 0) (.int .i64 0) (.int .i64 0) (.int .i64 0) (.int .i64 0) from by rw [← h5]; exact HX3.out)
  have HX4 := Lib.hid (show Six W5 v4.heap.size (.int .u8 0) (.int .i64 0) (.int .i64 0) (.int .i64 0) (.int .i64 0) (.int .i64 0) from by rw [← h5]; exact HX4.out)
  have HU := Lib.hid (show Up w W5 from by rw [← h5]; exact HU4.out)
  clear h5
  generalize v0.heap.size = b0 at *
  generalize v1.heap.size = b1 at *
  generalize v2.heap.size = b2 at *
  generalize v3.heap.size = b3 at *
  generalize v4.heap.size = b4 at *
  obtain ⟨W6, h6⟩ : ∃ W6, W5.alloc (.cells #[.int .u8 0, .int .i64 0, .int .i64 0, .int .i64 0, .int .i64 0, .int .i64 0] 23) = W6 := ⟨_, rfl⟩
  have HN := Lib.hid (show Six (W5.alloc (.cells #[.int .u8 0, .int .i64 0, .int .i64 0, .int .i64 0, .int .i64 0, .int .i64 0] 23)) W5.heap.size (.int .u8 0) (.int .i64 0) (.int .i64 0) (.int .i64 0) (.int .i64 0) (.int .i64 0) from six_new _ _ _ _ _ _ _ _)
  have HX0 := Lib.hid (show Six (W5.alloc (.cells #[.int .u8 0, .int .i64 0, .int .i64 0, .int .i64 0, .int .i64 0, .int .i64 0] 23)) b0 (.int .u8 0) (.int .i64 0) (.int .i64 0) (.int .i64 0) (.int .i64 0) (.int .i64 0) from HX0.out.up (Up.alloc _ _))
  have HX1 := Lib.hid (show Six (W5.alloc (.cells #[.int .u8 0, .int .i64 0, .int .i64 0, .int .i64 0, .int .i64 0, .int .i64 0] 23)) b1 (.int .u8 (kh0 : Nat)) (.int .i64 (kh1 : Nat)) (.int .i64 (kh2 : Nat)) (.int .i64 (kh3 : Nat)) (.int .i64 (kh4 : Nat)) (.int .i64 (LA : Nat)) from HX1.out.up (Up.alloc _ _))
  have HX2 := Lib.hid (show Six (W5.alloc (.cells #[.int .u8 0, .int .i64 0, .int .i64 0, .int .i64 0, .int .i64 0, .int .i64 0] 23)) b2 (.int .u8 0) (.int .i64 0) (.int .i64 0) (.int .i64 0) (.int .i64 0) (.int .i64 0) from HX2.out.up (Up.alloc _ _))
  have HX3 := Lib.hid (show Six (W5.alloc (.cells #[.int .u8 0, .int .i64 0, .int .i64 0, .int .i64 0, .int .i64 0, .int .i64 0] 23)) b3 (.int .u8 0) (.int .i64 0) (.int .i64 0) (.int .i64 0) (.int .i64 0) (.int .i64 0) from HX3.out.up (Up.alloc _ _))
  have HX4 := Lib.hid (show Six (W5.alloc (.cells #[.int .u8 0, .int .i64 0, .int .i64 0, .int .i64 0, .int .i64 0, .int .i64 0] 23)) b4 (.int .u8 0) (.int .i64 0) (.int .i64 0) (.int .i64 0) (.int .i64 0) (.int .i64 0) from HX4.out.up (Up.alloc _ _))
  clear h6 W6
  obtain ⟨x00, x01, x02, x03, x04, x05⟩ := HX0.out
  obtain ⟨x10, x11, x12, x13, x14, x15⟩ := HX1.out
  obtain ⟨x20, x21, x22, x23, x24, x25⟩ := HX2.out
  obtain ⟨x30, x31, x32, x33, x34, x35⟩ := HX3.out
  obtain ⟨x40, x41, x42, x43, x44, x45⟩ := HX4.out
  obtain ⟨z0, z1, z2, z3, z4, z5⟩ := HN.out
  go_upto_region 19 with (first | (go_at_call 13; ((with_reducible refine (HEn.out _).mono ?_); rintro e w9 ⟨rfl, rfl⟩)))
  refine gen_world ?_
  intro W7 h7
  have HT0 := Lib.hid (show MTab W7 (W5.heap.size + 1) [⟨0, 0, 0, 0, 0, 0⟩, ⟨kh0, kh1, kh2, kh3, kh4, LA⟩, ⟨0, 0, 0, 0, 0, 0⟩, ⟨0, 0, 0, 0, 0, 0⟩, ⟨0, 0, 0, 0, 0, 0⟩] from by have h := mtab_new (W5.alloc (.cells #[.int .u8 0, .int .i64 0, .int .i64 0, .int .i64 0, .int .i64 0, .int .i64 0] 23)) [⟨0, 0, 0, 0, 0, 0⟩, ⟨kh0, kh1, kh2, kh3, kh4, LA⟩, ⟨0, 0, 0, 0, 0, 0⟩, ⟨0, 0, 0, 0, 0, 0⟩, ⟨0, 0, 0, 0, 0, 0⟩] _ 23 rfl; rw [World.size_alloc] at h; rw [← h7]; exact h)
  have HN0 := Lib.hid (show Six W7 W5.heap.size (.int .u8 0) (.int .i64 0) (.int .i64 0) (.int .i64 0) (.int .i64 0) (.int .i64 0) from by rw [← h7]; exact HN.out.up (Up.alloc _ _))
  have HU0 := Lib.hid (show Up w W7 from by rw [← h7]; exact (HU.out.trans (Up.alloc _ _)).trans (Up.alloc _ _))
  clear h7 x00 x01 x02 x03 x04 x05 x10 x11 x12 x13 x14 x15 x20 x21 x22 x23 x24 x25 x30 x31 x32 x33 x34 x35 x40 x41 x42 x43 x44 x45 z0 z1 z2 z3 z4 z5
  clear HN HU HX0 HX1 HX2 HX3 HX4
  generalize W5.heap.size = nb at *
  generalize nb + 1 = tb at *
  go_wp2
  go_loopg [18] 5 (fun g iv wr => ∃ k : Nat, g = 5 - k ∧ iv = .int .i64 (k : Nat) ∧ Hid (k ≤ 5) ∧ Hid (MTab wr tb [⟨0, 0, 0, 0, 0, 0⟩, ⟨kh0, kh1, kh2, kh3, kh4, LA⟩, ⟨0, 0, 0, 0, 0, 0⟩, ⟨0, 0, 0, 0, 0, 0⟩, ⟨0, 0, 0, 0, 0, 0⟩]) ∧ Hid (Six wr nb (.int .u8 0) (.int .i64 0) (.int .i64 0) (.int .i64 0) (.int .i64 0) (.int .i64 0)) ∧ Hid (Up w wr))
  case atStart => exact ⟨0, rfl, rfl, Lib.hid (by decide), HT0, HN0, HU0⟩
  case round =>
    clear HT0 HN0 HU0
    obtain ⟨k, hg, rfl, HK, HT, HN, HU⟩ := hrel
    have HG := Lib.hid hg
    clear hg
    by_cases hlt : k < 5
    · obtain ⟨m, hm⟩ : ∃ m, ([⟨0, 0, 0, 0, 0, 0⟩, ⟨kh0, kh1, kh2, kh3, kh4, LA⟩, ⟨0, 0, 0, 0, 0, 0⟩, ⟨0, 0, 0, 0, 0, 0⟩, ⟨0, 0, 0, 0, 0, 0⟩] : List Mk)[k]? = some m := ⟨_, List.getElem?_eq_getElem (show k < ([⟨0, 0, 0, 0, 0, 0⟩, ⟨kh0, kh1, kh2, kh3, kh4, LA⟩, ⟨0, 0, 0, 0, 0, 0⟩, ⟨0, 0, 0, 0, 0, 0⟩, ⟨0, 0, 0, 0, 0, 0⟩] : List Mk).length from hlt)⟩
      obtain ⟨c0, c1, c2, c3, c4, c5⟩ := HT.out.row hm
      have p0 : (0 : Int) ≤ (k : Int) := by omega
      have p1 : (k : Int) < 5 := by omega
      have e1 : IntKind.i64.wrap ((k : Int) + 1) = (k : Int) + 1 := IntWalk.i64_in _ (by omega)
      have HLT := Lib.hid hlt
      have hgm := HGd.out m (List.mem_of_getElem? hm)
      have HM := Lib.hid hm
      clear hlt
      rcases hgm with rfl | hgm
      · clear c0 c1 c2 c3 c4 c5
        obtain ⟨c0, c1, c2, c3, c4, c5⟩ := HT.out.row0 hm
        obtain ⟨z0, z1, z2, z3, z4, z5⟩ := HN.out.up (Up.alloc wr (.cells #[.int .u8 0, .int .i64 0, .int .i64 0, .int .i64 0, .int .i64 0, .int .i64 0] 23))
        clear hm
        go_wp2
        go_roundg (5 - (k + 1))
        case measure => rw [HG.out]; have := HLT.out; omega
        case rel => exact ⟨k + 1, rfl, by go_num, Lib.hid HLT.out, Lib.hid (HT.out.up (Up.alloc _ _)), Lib.hid (HN.out.up (Up.alloc _ _)), Lib.hid (HU.out.trans (Up.alloc _ _))⟩
      · clear hm
        obtain ⟨m0, m1, m2, m3, m4, m5⟩ := m
        obtain ⟨g1, g2, g3, g4⟩ := hgm
        dsimp only at c0 c1 c2 c3 c4 c5 g1 g2 g3 g4
        subst g1
        obtain ⟨z0, z1, z2, z3, z4, z5⟩ := HN.out.up (Up.alloc wr (.cells #[.int .u8 (m0 : Nat), .int .i64 (m1 : Nat), .int .i64 (m2 : Nat), .int .i64 (m3 : Nat), .int .i64 (m4 : Nat), .int .i64 (m5 : Nat)] 23))
        obtain ⟨hpL, hLE⟩ := HLE.out
        obtain ⟨y, hy, hyb⟩ := HNb.out
        obtain ⟨q, hq⟩ : ∃ q, m5 - 1 = q := ⟨_, rfl⟩
        rw [hq] at hy
        have hql : q < s.size := by have := (List.getElem?_eq_some_iff.1 hy).1; rwa [bl_len] at this
        have hyy : (s[q]'hql).toNat = y := by rw [bl_at hql] at hy; injection hy with hy; rw [bt_eq hql]; exact hy
        have f0 : ((m5 : Int) == 0) = false := beq_eq_false_iff_ne.2 (by omega)
        have f1 : (m5 == 0) = false := beq_eq_false_iff_ne.2 (by omega)
        have f2 : ¬ ((p : Int) < 0) := by omega
        have f3 : ¬ ((m5 : Int) ≤ (p : Int)) := by omega
        have f4 : ¬ ((E : Int) < (m5 : Int)) := by omega
        have f5 : ¬ ((m5 : Int) < (m2 : Int)) := by omega
        have f6 : ¬ ((m4 : Int) < (m3 : Int)) := by omega
        have f7 : ¬ ((m5 : Int) < (m4 : Int)) := by omega
        have e2 : IntKind.i64.wrap ((m5 : Int) - 1) = (q : Nat) := (IntWalk.i64_in _ (by have := HS.out; omega)).trans (by omega)
        have d3 : decide (m5 ≤ p) = false := decide_eq_false (by omega)
        have d4 : decide (E < m5) = false := decide_eq_false (by omega)
        have d5 : decide (m5 < m2) = false := decide_eq_false (by omega)
        have d6 : decide (m4 < m3) = false := decide_eq_false (by omega)
        have d7 : decide (m5 < m4) = false := decide_eq_false (by omega)
        have q0 : (0 : Int) ≤ (q : Int) := by omega
        have q1 : (q : Int) < s.size := by omega
        have HBK := Lib.hid (fun W => by have h := HBk.out y W; rw [hyb] at h; exact h)
        have HLE5 := Lib.hid hLE
        clear hy hyb hpL hLE g2 g3 g4 hq
        go_upto_region 26 with (go_at_call 12; ((with_reducible refine (HBK.out _).mono ?_); rintro e w9 ⟨rfl, rfl⟩))
        clear f0 f1 f2 f3 f4 f5 f6 f7 e2 d3 d4 d5 d6 d7 q0 q1 hyy
        go_wp2
        go_loopg [20] (E - m5) (fun g iv wr2 => wr.alloc (.cells #[.int .u8 (m0 : Nat), .int .i64 (m1 : Nat), .int .i64 (m2 : Nat), .int .i64 (m3 : Nat), .int .i64 (m4 : Nat), .int .i64 (m5 : Nat)] 23) = wr2 ∧ ∃ j : Nat, g = E - j ∧ iv = .int .i64 (j : Nat) ∧ Hid (m5 ≤ j ∧ j ≤ E))
        case atStart => exact ⟨rfl, m5, rfl, rfl, Lib.hid ⟨Nat.le_refl _, HLE5.out⟩⟩
        case round =>
          obtain ⟨hwr, j, hg2, rfl, HJ⟩ := hrel
          subst hwr
          have HG2 := Lib.hid hg2
          clear hg2
          by_cases hj : j < E
          · obtain ⟨y, hy, hyb⟩ := HBl.out j HJ.out.1 hj
            have hjl : j < s.size := by have := HS.out; omega
            have hyy : (s[j]'hjl).toNat = y := by rw [bl_at hjl] at hy; injection hy with hy; rw [bt_eq hjl]; exact hy
            have q0 : (0 : Int) ≤ (j : Int) := by omega
            have q1 : (j : Int) < s.size := by omega
            have q2 : (j : Int) < (E : Int) := by omega
            have e3 : IntKind.i64.wrap ((j : Int) + 1) = (j : Int) + 1 := IntWalk.i64_in _ (by have := HS.out; omega)
            have HBK := Lib.hid (fun W => by have h := HBk.out y W; rw [hyb] at h; exact h)
            have HJL := Lib.hid hj
            clear hy hyb
            go_wp2_with (go_at_call 12; ((with_reducible refine (HBK.out _).mono ?_); rintro e w9 ⟨rfl, rfl⟩))
            go_roundg (E - (j + 1))
            case measure => rw [HG2.out]; have := HJL.out; omega
            case rel => exact ⟨rfl, j + 1, rfl, by go_num, Lib.hid ⟨by have := HJ.out; omega, HJL.out⟩⟩
          · have hj1 : decide (j < E) = false := decide_eq_false hj
            have hj2 : decide ((j : Int) < (E : Int)) = false := decide_eq_false (by omega)
            clear hj
            go_wp2
            go_roundg (5 - (k + 1))
            case measure => rw [HG.out]; have := HLT.out; omega
            case rel => exact ⟨k + 1, rfl, by go_num, Lib.hid HLT.out, Lib.hid (HT.out.up (Up.alloc _ _)), Lib.hid (HN.out.up (Up.alloc _ _)), Lib.hid (HU.out.trans (Up.alloc _ _))⟩
    · have hk5 : k = 5 := by have := HK.out; omega
      subst hk5
      clear hlt
      go_wp2_with (go_at_call 14; ((with_reducible refine (HRd.out _).mono ?_); rintro e w9 ⟨rfl, h9⟩; have HU9 := Lib.hid (HU.out.trans h9); clear h9))
      go_ret
      exact ⟨rfl, HU9.out⟩
end Go.Proofs.YtopdbilkpkgccaaDoor
