/- MdmarkKnown, walked. -/
import Derived.Test.YtopdbilkpkgccaaDoorMkTab
import Derived.Test.YtopdbilkpkgccaaDoorMkP5U
import Derived.Test.YtopdbilkpkgccaaDoorMkP5F
import Derived.Test.YtopdbilkpkgccaaDoorMkP5R
import Derived.Test.YtopdbilkpkgccaaDoorMkP5I
namespace Go.Proofs.YtopdbilkpkgccaaDoor
open Go.RowKit
set_option linter.unusedVariables false

theorem gen_world {P : Program} {s : Code} {Q : Exit → Act → World → Prop} {a : Act} {W : World} (h : ∀ W', W = W' → s.wp P Q a W') : s.wp P Q a W := h W rfl
def ctB (m : Mk) : Bool := decide (0 < m.ct)
def ttB (m : Mk) : Bool := decide (0 < m.tt)
def tbHead : List (ByteArray × Mk) := [(⟨#[35, 35, 32, 97, 32, 98, 32, 35, 35]⟩, ⟨0, 2, 2, 3, 6, 9⟩), (⟨#[35]⟩, ⟨0, 1, 1, 1, 1, 1⟩), (⟨#[35, 97]⟩, ⟨0, 0, 0, 0, 0, 0⟩), (⟨#[35, 32, 97, 35]⟩, ⟨0, 1, 1, 2, 4, 4⟩), (⟨#[35, 32, 35]⟩, ⟨0, 1, 1, 1, 1, 3⟩), (⟨#[35, 35, 35, 35, 35, 35, 35]⟩, ⟨0, 0, 0, 0, 0, 0⟩), (⟨#[35, 35, 35, 35, 35, 35, 32, 120]⟩, ⟨0, 6, 6, 7, 8, 8⟩), (⟨#[35, 9, 32, 97, 32, 9, 35, 32, 32, 13, 10]⟩, ⟨0, 1, 1, 3, 4, 7⟩), (⟨#[35, 35, 32, 35, 35]⟩, ⟨0, 2, 2, 2, 2, 5⟩), (⟨#[35, 32, 92, 35]⟩, ⟨0, 1, 1, 2, 4, 4⟩)]
theorem okHead : okT (headL 0) ctB tbHead := okT_cons (by decide) (by kernel_rfl) (okT_cons (by decide) (by kernel_rfl) (okT_cons (by decide) (by kernel_rfl) (okT_cons (by decide) (by kernel_rfl) (okT_cons (by decide) (by kernel_rfl) (okT_cons (by decide) (by kernel_rfl) (okT_cons (by decide) (by kernel_rfl) (okT_cons (by decide) (by kernel_rfl) (okT_cons (by decide) (by kernel_rfl) (okT_cons (by decide) (by kernel_rfl) (okT_nil _ _))))))))))
def tbRule : List (ByteArray × Mk) := [(⟨#[42, 32, 42, 32, 42]⟩, ⟨42, 3, 0, 0, 0, 5⟩), (⟨#[45, 45]⟩, ⟨0, 0, 0, 0, 0, 0⟩), (⟨#[95, 32, 95, 45, 95]⟩, ⟨0, 0, 0, 0, 0, 0⟩), (⟨#[42, 42, 42, 97]⟩, ⟨0, 0, 0, 0, 0, 0⟩), (⟨#[45, 9, 45, 45, 45, 32, 10]⟩, ⟨45, 4, 0, 0, 0, 5⟩), (⟨#[43, 43, 43]⟩, ⟨0, 0, 0, 0, 0, 0⟩)]
theorem okRule : okT (ruleL 0) ctB tbRule := okT_cons (by decide) (by kernel_rfl) (okT_cons (by decide) (by kernel_rfl) (okT_cons (by decide) (by kernel_rfl) (okT_cons (by decide) (by kernel_rfl) (okT_cons (by decide) (by kernel_rfl) (okT_cons (by decide) (by kernel_rfl) (okT_nil _ _))))))
def tbUnder : List (ByteArray × Mk) := [(⟨#[61, 61]⟩, ⟨61, 2, 0, 0, 0, 2⟩), (⟨#[45, 32]⟩, ⟨45, 1, 0, 0, 0, 1⟩), (⟨#[61, 45]⟩, ⟨0, 0, 0, 0, 0, 0⟩), (⟨#[61, 32, 61]⟩, ⟨0, 0, 0, 0, 0, 0⟩), (⟨#[95]⟩, ⟨0, 0, 0, 0, 0, 0⟩)]
theorem okUnder : okT (underL 0) ctB tbUnder := okT_cons (by decide) (by kernel_rfl) (okT_cons (by decide) (by kernel_rfl) (okT_cons (by decide) (by kernel_rfl) (okT_cons (by decide) (by kernel_rfl) (okT_cons (by decide) (by kernel_rfl) (okT_nil _ _)))))
def tbFence : List (ByteArray × Mk) := [(⟨#[126, 126, 126, 32, 97]⟩, ⟨126, 3, 3, 0, 0, 5⟩), (⟨#[96, 96, 96, 97, 126, 98]⟩, ⟨96, 3, 3, 0, 0, 6⟩), (⟨#[96, 96, 96, 32, 96, 96, 96]⟩, ⟨0, 0, 0, 0, 0, 0⟩), (⟨#[126, 126]⟩, ⟨0, 0, 0, 0, 0, 0⟩), (⟨#[126, 126, 126, 126, 32, 126, 126, 126]⟩, ⟨126, 4, 4, 0, 0, 8⟩), (⟨#[96, 96, 96, 32, 10, 96, 96, 96]⟩, ⟨96, 3, 3, 0, 0, 3⟩)]
theorem okFence : okT (fenceL 0) ctB tbFence := okT_cons (by decide) (by kernel_rfl) (okT_cons (by decide) (by kernel_rfl) (okT_cons (by decide) (by kernel_rfl) (okT_cons (by decide) (by kernel_rfl) (okT_cons (by decide) (by kernel_rfl) (okT_cons (by decide) (by kernel_rfl) (okT_nil _ _))))))
def tbItem : List (ByteArray × Mk) := [(⟨#[45, 32, 97]⟩, ⟨45, 0, 1, 0, 0, 3⟩), (⟨#[45]⟩, ⟨45, 0, 1, 0, 0, 1⟩), (⟨#[45, 97]⟩, ⟨0, 0, 0, 0, 0, 0⟩), (⟨#[49, 50, 41, 32, 98]⟩, ⟨41, 12, 3, 0, 0, 5⟩), (⟨#[49, 50, 51, 52, 53, 54, 55, 56, 57, 48, 46, 32, 97]⟩, ⟨0, 0, 0, 0, 0, 0⟩), (⟨#[49, 50, 51, 52, 53, 54, 55, 56, 57, 46, 9, 97]⟩, ⟨46, 123456789, 10, 0, 0, 12⟩), (⟨#[43, 32, 32, 10]⟩, ⟨43, 0, 1, 0, 0, 1⟩), (⟨#[48, 48, 55, 46]⟩, ⟨46, 7, 4, 0, 0, 4⟩), (⟨#[49]⟩, ⟨0, 0, 0, 0, 0, 0⟩), (⟨#[49, 46, 97]⟩, ⟨0, 0, 0, 0, 0, 0⟩), (⟨#[49, 45, 32, 97]⟩, ⟨0, 0, 0, 0, 0, 0⟩), (⟨#[46, 32, 97]⟩, ⟨0, 0, 0, 0, 0, 0⟩)]
theorem okItem : okT (itemL 0) ttB tbItem := okT_cons (by decide) (by kernel_rfl) (okT_cons (by decide) (by kernel_rfl) (okT_cons (by decide) (by kernel_rfl) (okT_cons (by decide) (by kernel_rfl) (okT_cons (by decide) (by kernel_rfl) (okT_cons (by decide) (by kernel_rfl) (okT_cons (by decide) (by kernel_rfl) (okT_cons (by decide) (by kernel_rfl) (okT_cons (by decide) (by kernel_rfl) (okT_cons (by decide) (by kernel_rfl) (okT_cons (by decide) (by kernel_rfl) (okT_cons (by decide) (by kernel_rfl) (okT_nil _ _))))))))))))
set_option maxRecDepth 100000 in
set_option maxHeartbeats 16000000 in
theorem known_walk (w : World) (hE : ErrT w) :
    Calls Tryd.prog 6 #[] w fun e w' => e = .returned (.bool true) ∧ Up w w' := by
  have HRd := Lib.hid (fun W => reads_any W)
  have HER := Lib.hid hE
  clear hE
  have HHead := Lib.hid (fun (S : ByteArray) (a : Int) (W : World) (h : (S.size : Int) ≤ 1000000) => pHead_any S a W h)
  have HRule := Lib.hid (fun (S : ByteArray) (a : Int) (W : World) (h : (S.size : Int) ≤ 1000000) => pRule_any S a W h)
  have HUnder := Lib.hid (fun (S : ByteArray) (a : Int) (W : World) (h : (S.size : Int) ≤ 1000000) => pUnder_any S a W h)
  have HFence := Lib.hid (fun (S : ByteArray) (a : Int) (W : World) (h : (S.size : Int) ≤ 1000000) => pFence_any S a W h)
  have HItem := Lib.hid (fun (S : ByteArray) (a : Int) (W : World) (hu : Up w W) (h : (S.size : Int) ≤ 1000000) => pItem_any S a W h (HER.out.up hu))
  go_enter Tryd.func6, Tryd.ntmps6
  go_upto_region 2 with fail
  refine gen_world ?_
  intro W1 hW1
  have HT0 := Lib.hid (show TabAt W1 w.heap.size tbHead from by rw [← hW1]; exact tab_new w tbHead _ _ (by kernel_rfl))
  have HU0 := Lib.hid (show Up w W1 from by rw [← hW1]; exact (Up.refl w).trans (Up.alloc _ _))
  clear hW1
  generalize w.heap.size = tb1 at *
  go_wp2
  go_loopg [2] 10 (fun g iv wr => ∃ i : Nat, g = 10 - i ∧ iv = .int .i64 (i : Nat) ∧ Hid (i ≤ 10) ∧ Hid (TabAt wr tb1 tbHead) ∧ Hid (Up w wr))
  case atStart => exact ⟨0, rfl, rfl, Lib.hid (by decide), HT0, HU0⟩
  case round =>
    clear HT0 HU0
    obtain ⟨i, hg, rfl, HI, HT, HU⟩ := hrel
    have HG := Lib.hid hg
    clear hg
    by_cases hlt : i < 10
    · obtain ⟨S, m, hSm⟩ : ∃ S m, tbHead[i]? = some (S, m) := ⟨_, _, List.getElem?_eq_getElem (show i < tbHead.length from hlt)⟩
      obtain ⟨hSs, hSf⟩ := okHead i S m hSm
      obtain ⟨c0, c1, c2, c3, c4, c5, c6⟩ := HT.out.row hSm
      obtain ⟨m0, m1, m2, m3, m4, m5⟩ := m
      have HC := Lib.hid (fun (h : Up w wr) => by
        have h := HHead.out S 0 wr (by omega)
        rw [show (0 : Int).toNat = 0 from rfl, hSf] at h
        exact (show Calls Tryd.prog 8 #[.string S, .int .i64 0] wr fun e w' => e = .returned (.tuple #[.agg #[.int .u8 (m0 : Nat), .int .i64 (m1 : Nat), .int .i64 (m2 : Nat), .int .i64 (m3 : Nat), .int .i64 (m4 : Nat), .int .i64 (m5 : Nat)], .bool (decide (0 < m1))]) ∧ Up wr w' from h))
      have p0 : (0 : Int) ≤ (i : Int) := by omega
      have p1 : (i : Int) < 10 := by omega
      have e1 : IntKind.i64.wrap ((i : Int) + 1) = (i : Int) + 1 := IntWalk.i64_in _ (by omega)
      have HLT := Lib.hid hlt
      have hSM := Lib.hid hSm
      clear hSm hSf hSs hlt
      go_upto_region 6 with (go_at_call 8; ((with_reducible refine (HC.out HU.out).mono ?_); rintro e w1 ⟨rfl, h1⟩; have HU1 := Lib.hid (HU.out.trans (h1.trans (Up.alloc w1 (.cells #[.int .u8 (m0 : Nat), .int .i64 (m1 : Nat), .int .i64 (m2 : Nat), .int .i64 (m3 : Nat), .int .i64 (m4 : Nat), .int .i64 (m5 : Nat)] 23)))); have HX := Lib.hid (six_new w1 23 (.int .u8 (m0 : Nat)) (.int .i64 (m1 : Nat)) (.int .i64 (m2 : Nat)) (.int .i64 (m3 : Nat)) (.int .i64 (m4 : Nat)) (.int .i64 (m5 : Nat))); have HT1 := Lib.hid ((HT.out.up h1).up (Up.alloc w1 (.cells #[.int .u8 (m0 : Nat), .int .i64 (m1 : Nat), .int .i64 (m2 : Nat), .int .i64 (m3 : Nat), .int .i64 (m4 : Nat), .int .i64 (m5 : Nat)] 23))); clear h1))
      obtain ⟨x0, x1, x2, x3, x4, x5⟩ := HX.out
      obtain ⟨W8, hW8⟩ : ∃ W8, w1.alloc (.cells #[.int .u8 (m0 : Nat), .int .i64 (m1 : Nat), .int .i64 (m2 : Nat), .int .i64 (m3 : Nat), .int .i64 (m4 : Nat), .int .i64 (m5 : Nat)] 23) = W8 := ⟨_, rfl⟩
      rw [hW8] at x0 x1 x2 x3 x4 x5 HT1 HU1 ⊢
      clear hW8 c0 c1 c2 c3 c4 c5 c6
      obtain ⟨c0, c1, c2, c3, c4, c5, c6⟩ := HT1.out.row hSM.out
      clear c0
      by_cases hm : 0 < m1
      · have k1 : (0 : Int) < (m1 : Int) := by omega
        have k2 : decide (0 < m1) = true := decide_eq_true hm
        have k3 : decide ((0 : Int) < (m1 : Int)) = true := decide_eq_true k1
        rw [k2]
        go_region
        go_wp2
        go_roundg (10 - (i + 1))
        case measure => rw [HG.out]; have := HLT.out; omega
        case rel => exact ⟨i + 1, rfl, by go_num, Lib.hid HLT.out, Lib.hid (HT1.out.up (Up.drew _)), Lib.hid (HU1.out.trans (Up.drew _))⟩
      · have k1 : ¬ ((0 : Int) < (m1 : Int)) := by omega
        have k2 : decide (0 < m1) = false := decide_eq_false hm
        have k3 : decide ((0 : Int) < (m1 : Int)) = false := decide_eq_false k1
        rw [k2]
        go_region
        go_wp2
        go_roundg (10 - (i + 1))
        case measure => rw [HG.out]; have := HLT.out; omega
        case rel => exact ⟨i + 1, rfl, by go_num, Lib.hid HLT.out, Lib.hid (HT1.out.up (Up.drew _)), Lib.hid (HU1.out.trans (Up.drew _))⟩
    · have hin : i = 10 := by have := HI.out; omega
      subst hin
      go_upto_region 9 with fail
      refine gen_world ?_
      intro W2 hW2
      have HT0 := Lib.hid (show TabAt W2 wr.heap.size tbRule from by rw [← hW2]; exact tab_new wr tbRule _ _ (by kernel_rfl))
      have HU0 := Lib.hid (show Up w W2 from by rw [← hW2]; exact HU.out.trans (Up.alloc _ _))
      clear hW2
      generalize wr.heap.size = tb2 at *
      go_wp2
      go_loopg [6] 6 (fun g iv wr => ∃ i : Nat, g = 6 - i ∧ iv = .int .i64 (i : Nat) ∧ Hid (i ≤ 6) ∧ Hid (TabAt wr tb2 tbRule) ∧ Hid (Up w wr))
      case atStart => exact ⟨0, rfl, rfl, Lib.hid (by decide), HT0, HU0⟩
      case round =>
        clear HT0 HU0
        obtain ⟨i, hg, rfl, HI, HT, HU⟩ := hrel
        have HG := Lib.hid hg
        clear hg
        by_cases hlt : i < 6
        · obtain ⟨S, m, hSm⟩ : ∃ S m, tbRule[i]? = some (S, m) := ⟨_, _, List.getElem?_eq_getElem (show i < tbRule.length from hlt)⟩
          obtain ⟨hSs, hSf⟩ := okRule i S m hSm
          obtain ⟨c0, c1, c2, c3, c4, c5, c6⟩ := HT.out.row hSm
          obtain ⟨m0, m1, m2, m3, m4, m5⟩ := m
          have HC := Lib.hid (fun (h : Up w wr) => by
            have h := HRule.out S 0 wr (by omega)
            rw [show (0 : Int).toNat = 0 from rfl, hSf] at h
            exact (show Calls Tryd.prog 7 #[.string S, .int .i64 0] wr fun e w' => e = .returned (.tuple #[.agg #[.int .u8 (m0 : Nat), .int .i64 (m1 : Nat), .int .i64 (m2 : Nat), .int .i64 (m3 : Nat), .int .i64 (m4 : Nat), .int .i64 (m5 : Nat)], .bool (decide (0 < m1))]) ∧ Up wr w' from h))
          have p0 : (0 : Int) ≤ (i : Int) := by omega
          have p1 : (i : Int) < 6 := by omega
          have e1 : IntKind.i64.wrap ((i : Int) + 1) = (i : Int) + 1 := IntWalk.i64_in _ (by omega)
          have HLT := Lib.hid hlt
          have hSM := Lib.hid hSm
          clear hSm hSf hSs hlt
          go_upto_region 13 with (go_at_call 7; ((with_reducible refine (HC.out HU.out).mono ?_); rintro e w1 ⟨rfl, h1⟩; have HU1 := Lib.hid (HU.out.trans (h1.trans (Up.alloc w1 (.cells #[.int .u8 (m0 : Nat), .int .i64 (m1 : Nat), .int .i64 (m2 : Nat), .int .i64 (m3 : Nat), .int .i64 (m4 : Nat), .int .i64 (m5 : Nat)] 23)))); have HX := Lib.hid (six_new w1 23 (.int .u8 (m0 : Nat)) (.int .i64 (m1 : Nat)) (.int .i64 (m2 : Nat)) (.int .i64 (m3 : Nat)) (.int .i64 (m4 : Nat)) (.int .i64 (m5 : Nat))); have HT1 := Lib.hid ((HT.out.up h1).up (Up.alloc w1 (.cells #[.int .u8 (m0 : Nat), .int .i64 (m1 : Nat), .int .i64 (m2 : Nat), .int .i64 (m3 : Nat), .int .i64 (m4 : Nat), .int .i64 (m5 : Nat)] 23))); clear h1))
          obtain ⟨x0, x1, x2, x3, x4, x5⟩ := HX.out
          obtain ⟨W8, hW8⟩ : ∃ W8, w1.alloc (.cells #[.int .u8 (m0 : Nat), .int .i64 (m1 : Nat), .int .i64 (m2 : Nat), .int .i64 (m3 : Nat), .int .i64 (m4 : Nat), .int .i64 (m5 : Nat)] 23) = W8 := ⟨_, rfl⟩
          rw [hW8] at x0 x1 x2 x3 x4 x5 HT1 HU1 ⊢
          clear hW8 c0 c1 c2 c3 c4 c5 c6
          obtain ⟨c0, c1, c2, c3, c4, c5, c6⟩ := HT1.out.row hSM.out
          clear c0
          by_cases hm : 0 < m1
          · have k1 : (0 : Int) < (m1 : Int) := by omega
            have k2 : decide (0 < m1) = true := decide_eq_true hm
            have k3 : decide ((0 : Int) < (m1 : Int)) = true := decide_eq_true k1
            rw [k2]
            go_region
            go_wp2
            go_roundg (6 - (i + 1))
            case measure => rw [HG.out]; have := HLT.out; omega
            case rel => exact ⟨i + 1, rfl, by go_num, Lib.hid HLT.out, Lib.hid (HT1.out.up (Up.drew _)), Lib.hid (HU1.out.trans (Up.drew _))⟩
          · have k1 : ¬ ((0 : Int) < (m1 : Int)) := by omega
            have k2 : decide (0 < m1) = false := decide_eq_false hm
            have k3 : decide ((0 : Int) < (m1 : Int)) = false := decide_eq_false k1
            rw [k2]
            go_region
            go_wp2
            go_roundg (6 - (i + 1))
            case measure => rw [HG.out]; have := HLT.out; omega
            case rel => exact ⟨i + 1, rfl, by go_num, Lib.hid HLT.out, Lib.hid (HT1.out.up (Up.drew _)), Lib.hid (HU1.out.trans (Up.drew _))⟩
        · have hin : i = 6 := by have := HI.out; omega
          subst hin
          go_upto_region 16 with fail
          refine gen_world ?_
          intro W3 hW3
          have HT0 := Lib.hid (show TabAt W3 wr.heap.size tbUnder from by rw [← hW3]; exact tab_new wr tbUnder _ _ (by kernel_rfl))
          have HU0 := Lib.hid (show Up w W3 from by rw [← hW3]; exact HU.out.trans (Up.alloc _ _))
          clear hW3
          generalize wr.heap.size = tb3 at *
          go_wp2
          go_loopg [10] 5 (fun g iv wr => ∃ i : Nat, g = 5 - i ∧ iv = .int .i64 (i : Nat) ∧ Hid (i ≤ 5) ∧ Hid (TabAt wr tb3 tbUnder) ∧ Hid (Up w wr))
          case atStart => exact ⟨0, rfl, rfl, Lib.hid (by decide), HT0, HU0⟩
          case round =>
            clear HT0 HU0
            obtain ⟨i, hg, rfl, HI, HT, HU⟩ := hrel
            have HG := Lib.hid hg
            clear hg
            by_cases hlt : i < 5
            · obtain ⟨S, m, hSm⟩ : ∃ S m, tbUnder[i]? = some (S, m) := ⟨_, _, List.getElem?_eq_getElem (show i < tbUnder.length from hlt)⟩
              obtain ⟨hSs, hSf⟩ := okUnder i S m hSm
              obtain ⟨c0, c1, c2, c3, c4, c5, c6⟩ := HT.out.row hSm
              obtain ⟨m0, m1, m2, m3, m4, m5⟩ := m
              have HC := Lib.hid (fun (h : Up w wr) => by
                have h := HUnder.out S 0 wr (by omega)
                rw [show (0 : Int).toNat = 0 from rfl, hSf] at h
                exact (show Calls Tryd.prog 9 #[.string S, .int .i64 0] wr fun e w' => e = .returned (.tuple #[.agg #[.int .u8 (m0 : Nat), .int .i64 (m1 : Nat), .int .i64 (m2 : Nat), .int .i64 (m3 : Nat), .int .i64 (m4 : Nat), .int .i64 (m5 : Nat)], .bool (decide (0 < m1))]) ∧ Up wr w' from h))
              have p0 : (0 : Int) ≤ (i : Int) := by omega
              have p1 : (i : Int) < 5 := by omega
              have e1 : IntKind.i64.wrap ((i : Int) + 1) = (i : Int) + 1 := IntWalk.i64_in _ (by omega)
              have HLT := Lib.hid hlt
              have hSM := Lib.hid hSm
              clear hSm hSf hSs hlt
              go_upto_region 20 with (go_at_call 9; ((with_reducible refine (HC.out HU.out).mono ?_); rintro e w1 ⟨rfl, h1⟩; have HU1 := Lib.hid (HU.out.trans (h1.trans (Up.alloc w1 (.cells #[.int .u8 (m0 : Nat), .int .i64 (m1 : Nat), .int .i64 (m2 : Nat), .int .i64 (m3 : Nat), .int .i64 (m4 : Nat), .int .i64 (m5 : Nat)] 23)))); have HX := Lib.hid (six_new w1 23 (.int .u8 (m0 : Nat)) (.int .i64 (m1 : Nat)) (.int .i64 (m2 : Nat)) (.int .i64 (m3 : Nat)) (.int .i64 (m4 : Nat)) (.int .i64 (m5 : Nat))); have HT1 := Lib.hid ((HT.out.up h1).up (Up.alloc w1 (.cells #[.int .u8 (m0 : Nat), .int .i64 (m1 : Nat), .int .i64 (m2 : Nat), .int .i64 (m3 : Nat), .int .i64 (m4 : Nat), .int .i64 (m5 : Nat)] 23))); clear h1))
              obtain ⟨x0, x1, x2, x3, x4, x5⟩ := HX.out
              obtain ⟨W8, hW8⟩ : ∃ W8, w1.alloc (.cells #[.int .u8 (m0 : Nat), .int .i64 (m1 : Nat), .int .i64 (m2 : Nat), .int .i64 (m3 : Nat), .int .i64 (m4 : Nat), .int .i64 (m5 : Nat)] 23) = W8 := ⟨_, rfl⟩
              rw [hW8] at x0 x1 x2 x3 x4 x5 HT1 HU1 ⊢
              clear hW8 c0 c1 c2 c3 c4 c5 c6
              obtain ⟨c0, c1, c2, c3, c4, c5, c6⟩ := HT1.out.row hSM.out
              clear c0
              by_cases hm : 0 < m1
              · have k1 : (0 : Int) < (m1 : Int) := by omega
                have k2 : decide (0 < m1) = true := decide_eq_true hm
                have k3 : decide ((0 : Int) < (m1 : Int)) = true := decide_eq_true k1
                rw [k2]
                go_region
                go_wp2
                go_roundg (5 - (i + 1))
                case measure => rw [HG.out]; have := HLT.out; omega
                case rel => exact ⟨i + 1, rfl, by go_num, Lib.hid HLT.out, Lib.hid (HT1.out.up (Up.drew _)), Lib.hid (HU1.out.trans (Up.drew _))⟩
              · have k1 : ¬ ((0 : Int) < (m1 : Int)) := by omega
                have k2 : decide (0 < m1) = false := decide_eq_false hm
                have k3 : decide ((0 : Int) < (m1 : Int)) = false := decide_eq_false k1
                rw [k2]
                go_region
                go_wp2
                go_roundg (5 - (i + 1))
                case measure => rw [HG.out]; have := HLT.out; omega
                case rel => exact ⟨i + 1, rfl, by go_num, Lib.hid HLT.out, Lib.hid (HT1.out.up (Up.drew _)), Lib.hid (HU1.out.trans (Up.drew _))⟩
            · have hin : i = 5 := by have := HI.out; omega
              subst hin
              have hcv := run_convert_bytes_back (P := Tryd.prog) (wr.alloc (.cells #[.int .u8 96, .int .u8 96, .int .u8 96] 5)) 31 9 5 ⟨wr.heap.size, 0, none⟩ 3 [96, 96, 96] Tryd.underlying31 Tryd.underlying5 Tryd.underlying9 (fun j hj => by
                match j, hj with
                | 0, _ => exact cellOf (Go.heap_alloc_new _ _) rfl
                | 1, _ => exact cellOf (Go.heap_alloc_new _ _) rfl
                | 2, _ => exact cellOf (Go.heap_alloc_new _ _) rfl
                )
              have hcv2 : (convert 31 9 (.slice (some ⟨wr.heap.size, 0, none⟩) 3 3)).run Tryd.prog (wr.alloc (.cells #[.int .u8 96, .int .u8 96, .int .u8 96] 5)) = .ok (.string ⟨#[96, 96, 96]⟩) (wr.alloc (.cells #[.int .u8 96, .int .u8 96, .int .u8 96] 5)) := hcv
              clear hcv
              go_upto_region 23 with fail
              clear hcv2
              refine gen_world ?_
              intro wt hwt
              have HU4 := Lib.hid (show Up w wt from by rw [← hwt]; exact HU.out.trans (Up.alloc _ _))
              clear hwt
              go_upto_region 24 with fail
              refine gen_world ?_
              intro W4 hW4
              have HT0 := Lib.hid (show TabAt W4 wt.heap.size tbFence from by rw [← hW4]; exact tab_new wt tbFence _ _ (by kernel_rfl))
              have HU0 := Lib.hid (show Up w W4 from by rw [← hW4]; exact HU4.out.trans (Up.alloc _ _))
              clear hW4
              generalize wt.heap.size = tb4 at *
              go_wp2
              go_loopg [15] 6 (fun g iv wr => ∃ i : Nat, g = 6 - i ∧ iv = .int .i64 (i : Nat) ∧ Hid (i ≤ 6) ∧ Hid (TabAt wr tb4 tbFence) ∧ Hid (Up w wr))
              case atStart => exact ⟨0, rfl, rfl, Lib.hid (by decide), HT0, HU0⟩
              case round =>
                clear HT0 HU0
                obtain ⟨i, hg, rfl, HI, HT, HU⟩ := hrel
                have HG := Lib.hid hg
                clear hg
                by_cases hlt : i < 6
                · obtain ⟨S, m, hSm⟩ : ∃ S m, tbFence[i]? = some (S, m) := ⟨_, _, List.getElem?_eq_getElem (show i < tbFence.length from hlt)⟩
                  obtain ⟨hSs, hSf⟩ := okFence i S m hSm
                  obtain ⟨c0, c1, c2, c3, c4, c5, c6⟩ := HT.out.row hSm
                  obtain ⟨m0, m1, m2, m3, m4, m5⟩ := m
                  have HC := Lib.hid (fun (h : Up w wr) => by
                    have h := HFence.out S 0 wr (by omega)
                    rw [show (0 : Int).toNat = 0 from rfl, hSf] at h
                    exact (show Calls Tryd.prog 10 #[.string S, .int .i64 0] wr fun e w' => e = .returned (.tuple #[.agg #[.int .u8 (m0 : Nat), .int .i64 (m1 : Nat), .int .i64 (m2 : Nat), .int .i64 (m3 : Nat), .int .i64 (m4 : Nat), .int .i64 (m5 : Nat)], .bool (decide (0 < m1))]) ∧ Up wr w' from h))
                  have p0 : (0 : Int) ≤ (i : Int) := by omega
                  have p1 : (i : Int) < 6 := by omega
                  have e1 : IntKind.i64.wrap ((i : Int) + 1) = (i : Int) + 1 := IntWalk.i64_in _ (by omega)
                  have HLT := Lib.hid hlt
                  have hSM := Lib.hid hSm
                  clear hSm hSf hSs hlt
                  go_upto_region 28 with (go_at_call 10; ((with_reducible refine (HC.out HU.out).mono ?_); rintro e w1 ⟨rfl, h1⟩; have HU1 := Lib.hid (HU.out.trans (h1.trans (Up.alloc w1 (.cells #[.int .u8 (m0 : Nat), .int .i64 (m1 : Nat), .int .i64 (m2 : Nat), .int .i64 (m3 : Nat), .int .i64 (m4 : Nat), .int .i64 (m5 : Nat)] 23)))); have HX := Lib.hid (six_new w1 23 (.int .u8 (m0 : Nat)) (.int .i64 (m1 : Nat)) (.int .i64 (m2 : Nat)) (.int .i64 (m3 : Nat)) (.int .i64 (m4 : Nat)) (.int .i64 (m5 : Nat))); have HT1 := Lib.hid ((HT.out.up h1).up (Up.alloc w1 (.cells #[.int .u8 (m0 : Nat), .int .i64 (m1 : Nat), .int .i64 (m2 : Nat), .int .i64 (m3 : Nat), .int .i64 (m4 : Nat), .int .i64 (m5 : Nat)] 23))); clear h1))
                  obtain ⟨x0, x1, x2, x3, x4, x5⟩ := HX.out
                  obtain ⟨W8, hW8⟩ : ∃ W8, w1.alloc (.cells #[.int .u8 (m0 : Nat), .int .i64 (m1 : Nat), .int .i64 (m2 : Nat), .int .i64 (m3 : Nat), .int .i64 (m4 : Nat), .int .i64 (m5 : Nat)] 23) = W8 := ⟨_, rfl⟩
                  rw [hW8] at x0 x1 x2 x3 x4 x5 HT1 HU1 ⊢
                  clear hW8 c0 c1 c2 c3 c4 c5 c6
                  obtain ⟨c0, c1, c2, c3, c4, c5, c6⟩ := HT1.out.row hSM.out
                  clear c0
                  by_cases hm : 0 < m1
                  · have k1 : (0 : Int) < (m1 : Int) := by omega
                    have k2 : decide (0 < m1) = true := decide_eq_true hm
                    have k3 : decide ((0 : Int) < (m1 : Int)) = true := decide_eq_true k1
                    rw [k2]
                    go_region
                    go_wp2
                    go_roundg (6 - (i + 1))
                    case measure => rw [HG.out]; have := HLT.out; omega
                    case rel => exact ⟨i + 1, rfl, by go_num, Lib.hid HLT.out, Lib.hid (HT1.out.up (Up.drew _)), Lib.hid (HU1.out.trans (Up.drew _))⟩
                  · have k1 : ¬ ((0 : Int) < (m1 : Int)) := by omega
                    have k2 : decide (0 < m1) = false := decide_eq_false hm
                    have k3 : decide ((0 : Int) < (m1 : Int)) = false := decide_eq_false k1
                    rw [k2]
                    go_region
                    go_wp2
                    go_roundg (6 - (i + 1))
                    case measure => rw [HG.out]; have := HLT.out; omega
                    case rel => exact ⟨i + 1, rfl, by go_num, Lib.hid HLT.out, Lib.hid (HT1.out.up (Up.drew _)), Lib.hid (HU1.out.trans (Up.drew _))⟩
                · have hin : i = 6 := by have := HI.out; omega
                  subst hin
                  go_upto_region 31 with fail
                  refine gen_world ?_
                  intro W5 hW5
                  have HT0 := Lib.hid (show TabAt W5 wr.heap.size tbItem from by rw [← hW5]; exact tab_new wr tbItem _ _ (by kernel_rfl))
                  have HU0 := Lib.hid (show Up w W5 from by rw [← hW5]; exact HU.out.trans (Up.alloc _ _))
                  clear hW5
                  generalize wr.heap.size = tb5 at *
                  go_wp2
                  go_loopg [19] 12 (fun g iv wr => ∃ i : Nat, g = 12 - i ∧ iv = .int .i64 (i : Nat) ∧ Hid (i ≤ 12) ∧ Hid (TabAt wr tb5 tbItem) ∧ Hid (Up w wr))
                  case atStart => exact ⟨0, rfl, rfl, Lib.hid (by decide), HT0, HU0⟩
                  case round =>
                    clear HT0 HU0
                    obtain ⟨i, hg, rfl, HI, HT, HU⟩ := hrel
                    have HG := Lib.hid hg
                    clear hg
                    by_cases hlt : i < 12
                    · obtain ⟨S, m, hSm⟩ : ∃ S m, tbItem[i]? = some (S, m) := ⟨_, _, List.getElem?_eq_getElem (show i < tbItem.length from hlt)⟩
                      obtain ⟨hSs, hSf⟩ := okItem i S m hSm
                      obtain ⟨c0, c1, c2, c3, c4, c5, c6⟩ := HT.out.row hSm
                      obtain ⟨m0, m1, m2, m3, m4, m5⟩ := m
                      have HC := Lib.hid (fun (h : Up w wr) => by
                        have h := HItem.out S 0 wr h (by omega)
                        rw [show (0 : Int).toNat = 0 from rfl, hSf] at h
                        exact (show Calls Tryd.prog 11 #[.string S, .int .i64 0] wr fun e w' => e = .returned (.tuple #[.agg #[.int .u8 (m0 : Nat), .int .i64 (m1 : Nat), .int .i64 (m2 : Nat), .int .i64 (m3 : Nat), .int .i64 (m4 : Nat), .int .i64 (m5 : Nat)], .bool (decide (0 < m2))]) ∧ Up wr w' from h))
                      have p0 : (0 : Int) ≤ (i : Int) := by omega
                      have p1 : (i : Int) < 12 := by omega
                      have e1 : IntKind.i64.wrap ((i : Int) + 1) = (i : Int) + 1 := IntWalk.i64_in _ (by omega)
                      have HLT := Lib.hid hlt
                      have hSM := Lib.hid hSm
                      clear hSm hSf hSs hlt
                      go_upto_region 35 with (go_at_call 11; ((with_reducible refine (HC.out HU.out).mono ?_); rintro e w1 ⟨rfl, h1⟩; have HU1 := Lib.hid (HU.out.trans (h1.trans (Up.alloc w1 (.cells #[.int .u8 (m0 : Nat), .int .i64 (m1 : Nat), .int .i64 (m2 : Nat), .int .i64 (m3 : Nat), .int .i64 (m4 : Nat), .int .i64 (m5 : Nat)] 23)))); have HX := Lib.hid (six_new w1 23 (.int .u8 (m0 : Nat)) (.int .i64 (m1 : Nat)) (.int .i64 (m2 : Nat)) (.int .i64 (m3 : Nat)) (.int .i64 (m4 : Nat)) (.int .i64 (m5 : Nat))); have HT1 := Lib.hid ((HT.out.up h1).up (Up.alloc w1 (.cells #[.int .u8 (m0 : Nat), .int .i64 (m1 : Nat), .int .i64 (m2 : Nat), .int .i64 (m3 : Nat), .int .i64 (m4 : Nat), .int .i64 (m5 : Nat)] 23))); clear h1))
                      obtain ⟨x0, x1, x2, x3, x4, x5⟩ := HX.out
                      obtain ⟨W8, hW8⟩ : ∃ W8, w1.alloc (.cells #[.int .u8 (m0 : Nat), .int .i64 (m1 : Nat), .int .i64 (m2 : Nat), .int .i64 (m3 : Nat), .int .i64 (m4 : Nat), .int .i64 (m5 : Nat)] 23) = W8 := ⟨_, rfl⟩
                      rw [hW8] at x0 x1 x2 x3 x4 x5 HT1 HU1 ⊢
                      clear hW8 c0 c1 c2 c3 c4 c5 c6
                      obtain ⟨c0, c1, c2, c3, c4, c5, c6⟩ := HT1.out.row hSM.out
                      clear c0
                      by_cases hm : 0 < m2
                      · have k1 : (0 : Int) < (m2 : Int) := by omega
                        have k2 : decide (0 < m2) = true := decide_eq_true hm
                        have k3 : decide ((0 : Int) < (m2 : Int)) = true := decide_eq_true k1
                        rw [k2]
                        go_region
                        go_wp2
                        go_roundg (12 - (i + 1))
                        case measure => rw [HG.out]; have := HLT.out; omega
                        case rel => exact ⟨i + 1, rfl, by go_num, Lib.hid HLT.out, Lib.hid (HT1.out.up (Up.drew _)), Lib.hid (HU1.out.trans (Up.drew _))⟩
                      · have k1 : ¬ ((0 : Int) < (m2 : Int)) := by omega
                        have k2 : decide (0 < m2) = false := decide_eq_false hm
                        have k3 : decide ((0 : Int) < (m2 : Int)) = false := decide_eq_false k1
                        rw [k2]
                        go_region
                        go_wp2
                        go_roundg (12 - (i + 1))
                        case measure => rw [HG.out]; have := HLT.out; omega
                        case rel => exact ⟨i + 1, rfl, by go_num, Lib.hid HLT.out, Lib.hid (HT1.out.up (Up.drew _)), Lib.hid (HU1.out.trans (Up.drew _))⟩
                    · have hin : i = 12 := by have := HI.out; omega
                      subst hin
                      have CRule := Lib.hid (fun (W : World) => by
                        have h := HRule.out ⟨#[42, 42, 42]⟩ 3 W (by decide)
                        rw [show ruleL (3 : Int).toNat (restL (bl ⟨#[42, 42, 42]⟩) 3) = (noM, false) from by kernel_rfl] at h
                        exact (show Calls Tryd.prog 7 #[.string ⟨#[42, 42, 42]⟩, .int .i64 3] W fun e w' => e = .returned (.tuple #[.agg #[.int .u8 0, .int .i64 0, .int .i64 0, .int .i64 0, .int .i64 0, .int .i64 0], .bool false]) ∧ Up W w' from h))
                      have CHead := Lib.hid (fun (W : World) => by
                        have h := HHead.out ⟨#[35]⟩ (-1) W (by decide)
                        rw [show headL ((-1) : Int).toNat (restL (bl ⟨#[35]⟩) (-1)) = (noM, false) from by kernel_rfl] at h
                        exact (show Calls Tryd.prog 8 #[.string ⟨#[35]⟩, .int .i64 (-1)] W fun e w' => e = .returned (.tuple #[.agg #[.int .u8 0, .int .i64 0, .int .i64 0, .int .i64 0, .int .i64 0, .int .i64 0], .bool false]) ∧ Up W w' from h))
                      have CUnder := Lib.hid (fun (W : World) => by
                        have h := HUnder.out ⟨#[]⟩ 0 W (by decide)
                        rw [show underL (0 : Int).toNat (restL (bl ⟨#[]⟩) 0) = (noM, false) from by kernel_rfl] at h
                        exact (show Calls Tryd.prog 9 #[.string ⟨#[]⟩, .int .i64 0] W fun e w' => e = .returned (.tuple #[.agg #[.int .u8 0, .int .i64 0, .int .i64 0, .int .i64 0, .int .i64 0, .int .i64 0], .bool false]) ∧ Up W w' from h))
                      have CFence := Lib.hid (fun (W : World) => by
                        have h := HFence.out ⟨#[10, 126, 126, 126]⟩ 1 W (by decide)
                        rw [show fenceL (1 : Int).toNat (restL (bl ⟨#[10, 126, 126, 126]⟩) 1) = (noM, false) from by kernel_rfl] at h
                        exact (show Calls Tryd.prog 10 #[.string ⟨#[10, 126, 126, 126]⟩, .int .i64 1] W fun e w' => e = .returned (.tuple #[.agg #[.int .u8 0, .int .i64 0, .int .i64 0, .int .i64 0, .int .i64 0, .int .i64 0], .bool false]) ∧ Up W w' from h))
                      have CItem := Lib.hid (fun (W : World) (hu : Up w W) => by
                        have h := HItem.out ⟨#[45]⟩ 9 W hu (by decide)
                        rw [show itemL (9 : Int).toNat (restL (bl ⟨#[45]⟩) 9) = (noM, false) from by kernel_rfl] at h
                        exact (show Calls Tryd.prog 11 #[.string ⟨#[45]⟩, .int .i64 9] W fun e w' => e = .returned (.tuple #[.agg #[.int .u8 0, .int .i64 0, .int .i64 0, .int .i64 0, .int .i64 0, .int .i64 0], .bool false]) ∧ Up W w' from h))
                      go_wp2_with (first
                        | (go_at_call 7; ((with_reducible refine (CRule.out _).mono ?_); rintro e v0 ⟨rfl, h0⟩; have HV0 := Lib.hid (HU.out.trans (h0.trans (Up.alloc v0 (.cells #[.int .u8 0, .int .i64 0, .int .i64 0, .int .i64 0, .int .i64 0, .int .i64 0] 23)))); clear h0))
                        | (go_at_call 8; ((with_reducible refine (CHead.out _).mono ?_); rintro e v1 ⟨rfl, h1⟩; have HV1 := Lib.hid (HV0.out.trans (h1.trans (Up.alloc v1 (.cells #[.int .u8 0, .int .i64 0, .int .i64 0, .int .i64 0, .int .i64 0, .int .i64 0] 23)))); clear h1))
                        | (go_at_call 9; ((with_reducible refine (CUnder.out _).mono ?_); rintro e v2 ⟨rfl, h2⟩; have HV2 := Lib.hid (HV1.out.trans (h2.trans (Up.alloc v2 (.cells #[.int .u8 0, .int .i64 0, .int .i64 0, .int .i64 0, .int .i64 0, .int .i64 0] 23)))); clear h2))
                        | (go_at_call 10; ((with_reducible refine (CFence.out _).mono ?_); rintro e v3 ⟨rfl, h3⟩; have HV3 := Lib.hid (HV2.out.trans (h3.trans (Up.alloc v3 (.cells #[.int .u8 0, .int .i64 0, .int .i64 0, .int .i64 0, .int .i64 0, .int .i64 0] 23)))); clear h3))
                        | (go_at_call 11; ((with_reducible refine (CItem.out _ HV3.out).mono ?_); rintro e v4 ⟨rfl, h4⟩; have HV4 := Lib.hid (HV3.out.trans (h4.trans (Up.alloc v4 (.cells #[.int .u8 0, .int .i64 0, .int .i64 0, .int .i64 0, .int .i64 0, .int .i64 0] 23)))); clear h4))
                        | (go_at_call 14; ((with_reducible refine (HRd.out _).mono ?_); rintro e v9 ⟨rfl, h9⟩; have HV9 := Lib.hid (HV4.out.trans h9); clear h9))
                        )
                      go_ret
                      exact ⟨rfl, HV9.out⟩
end Go.Proofs.YtopdbilkpkgccaaDoor
