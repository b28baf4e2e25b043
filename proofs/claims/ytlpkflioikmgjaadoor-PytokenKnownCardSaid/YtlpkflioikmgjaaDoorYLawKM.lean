/- PytokenKnown, walked over its pieces. -/
import Derived.Test.YtlpkflioikmgjaaDoorYLawKP1
import Derived.Test.YtlpkflioikmgjaaDoorYLawKP5
import Derived.Test.YtlpkflioikmgjaaDoorYLawKP6
import Derived.Test.YtlpkflioikmgjaaDoorYLawKP12
import Derived.Test.YtlpkflioikmgjaaDoorYLawKP18
import Derived.Test.YtlpkflioikmgjaaDoorYLawKP19
import Derived.Test.YtlpkflioikmgjaaDoorYLawKP25
import Derived.Test.YtlpkflioikmgjaaDoorYLawKP28
import Derived.Test.YtlpkflioikmgjaaDoorYLawKP29
import Derived.Test.YtlpkflioikmgjaaDoorYLawKP30
import Derived.Test.YtlpkflioikmgjaaDoorYLawKP31
import Derived.Test.YtlpkflioikmgjaaDoorYLawKP32
import Derived.Test.YtlpkflioikmgjaaDoorYLawKP33
import Derived.Deep.CutBlock
namespace Go.Proofs.YtlpkflioikmgjaaDoor
open Go.RowKit

section
variable (hC : ScanC)
include hC
set_option maxRecDepth 1000000 in
set_option maxHeartbeats 40000000 in
theorem known_walk (w : World) (hT : TabsP w) : Calls Tryd.prog 4 #[] w fun e w' => e = .returned (.bool true) ∧ Up w w' := by
  have HR := Lib.hid (fun W (h : TabsP W) => reads_any hC W h)
  have HSC := Lib.hid (fun W (h : TabsP W) line a m d => hC.scan W h line a m d)
  have HT := Lib.hid hT
  clear hT hC
  go_enter Tryd.func4, Tryd.ntmps4
  go_upto_region 1 with fail
  refine piece11_1 w _ _ _ _ _ _ _ _ _ _ _ _ _ _ _ _ _ _ _ _ _ _ _ _ _ _ _ _ _ _ _ _ _ _ _ _ _ _ _ _ _ _ _ _ _ _ _ _ _ _ _ _ _ _ _ _ _ _ _ _ _ _ _ _ _ _ _ _ _ _ _ _ _ _ _ _ _ _ _ _ _ _ _ _ _ _ _ _ _ _ _ _ _ _ _ _ _ _ _ _ _ _ _ _ _ _ _ _ _ _ _ _ _ _ _ _ _ _ _ _ _ _ _ _ _ _ _ _ _ _ _ _ _ _ _ _ _ _ _ _ _ _ _ _ _ _ _ _ _ _ _ _ _ _ _ _ _ _ _ _ _ _ _ _ _ _ _ _ _ _ _ _ _ _ _ _ _ _ _ _ _ _ _ _ _ _ _ _ _ _ _ _ _ _ _ _ _ _ _ _ _ _ _ _ _ _ _ _ _ _ _ _ _ _ _ _ _ _ _ _ _ _ _ _ _ _ _ _ _ _ _ _ _ _ _ _ _ _ _ _ _ _ _ _ _ _ _ _ _ _ _ _ _ _ _ _ _ _ _ _ _ _ _ _ _ _ _ _ _ _ _ _ _ _ _ _ _ _ _ _ _ _ _ _ _ _ _ _ _ _ _ _ _ _ _ _ _ _ _ _ _ _ ?_
  intro _ _ _ _ _ _ _ _ _ _ _ _ _ _ _ _ _ _ _ _ _ _ _ _ _ _ _ _ _ _ _ _ _ _ _ _ _ _ _ _ _ _ _ _ _ _ _ _ _ _ _ _ _ _ _ _ _ _ _ _ _ _ _ _ _ _ _ _ _ _ _ wc HKW HU
  ·
    obtain ⟨N, hN⟩ : ∃ N, w.heap.size = N := ⟨_, rfl⟩
    rw [hN] at HKW ⊢
    clear hN
    go_wp2
    go_loopg [2] 24 (fun g iv wr => ∃ i : Nat, g = 24 - i ∧ iv = .int .i64 (i : Nat) ∧ Hid (i ≤ 24) ∧ Hid (KW wr N) ∧ Hid (Up w wr))
    case atStart => exact ⟨0, rfl, rfl, Lib.hid (by omega), HKW, HU⟩
    case round =>
      clear HKW HU
      obtain ⟨i, hg, rfl, HI, HKW, HU⟩ := hrel
      have HG := Lib.hid hg
      clear hg
      by_cases hlt : i < 24
      ·
        have HLT := Lib.hid hlt
        obtain ⟨c0, c1, -, -, -, -⟩ := HKW.out.row hlt
        obtain ⟨s1, s2, s3⟩ := kSmall hlt
        have H1 := Lib.hid (fun W (h : TabsP W) => HSC.out W h (fLn i) (-3) (fMk i) 0 (by omega) (by decide) s2 (by decide))
        have HOK := Lib.hid (kRow_ok hlt)
        generalize scanE (bl (fLn i)) (-3) (fMk i) 0 = RR at H1 HOK
        obtain ⟨es, st⟩ := RR
        have e0 : IntKind.i64.wrap ((i : Int) + 1) = (i : Int) + 1 := IntWalk.i64_in _ (by omega)
        have HN3 := Lib.hid s3
        have n0 : (0 : Int) ≤ (i : Int) := by omega
        have n1 : (i : Int) < 24 := by omega
        clear hlt c0 c1 s1 s2 s3
        go_upto_region 5 with fail
        refine piece11_5 w _ N i HLT.out HT HKW HU es st H1 _ _ _ _ _ _ _ _ _ _ _ _ _ _ _ _ _ _ _ _ _ _ _ _ _ _ _ _ _ _ _ _ _ _ _ _ _ _ _ _ _ _ _ _ _ _ _ _ _ _ _ _ _ _ _ _ _ _ _ _ _ _ _ _ _ _ _ _ _ _ _ _ _ _ _ _ _ _ _ _ _ _ _ _ _ _ _ _ _ _ _ _ _ _ _ _ _ _ _ _ _ _ _ _ _ _ _ _ _ _ _ _ _ _ _ _ _ _ _ _ _ _ _ _ _ _ _ _ _ _ _ _ _ _ _ _ _ _ _ _ _ _ _ _ _ _ _ _ _ _ _ _ _ _ _ _ _ _ _ _ _ _ _ _ _ _ _ _ _ _ _ _ _ _ _ _ _ _ _ _ _ _ _ _ _ _ _ _ _ _ _ _ _ _ _ _ _ _ _ _ _ _ _ _ _ _ _ _ _ _ _ _ _ _ _ _ _ _ _ _ _ _ _ _ _ _ _ _ _ _ _ _ _ _ _ _ _ _ _ _ _ _ _ _ _ _ _ _ _ _ _ _ _ _ _ _ _ _ _ _ _ _ _ _ _ _ _ _ _ _ _ _ _ _ _ _ _ _ _ _ _ _ _ _ _ _ _ _ _ _ _ _ _ _ _ _ _ _ _ _ ?_
        intro bx A c _ _ _ _ _ _ _ _ _ _ _ wc HBX HEV HKWn HUn
        ·
          clear HKW HU H1
          have HKW := HKWn
          have HU := HUn
          clear HKWn HUn
          obtain ⟨k1, k2, k3, k4⟩ := HOK.out
          dsimp only at k1 k2 k3 k4
          have HK4 := Lib.hid k4
          have HK1 := Lib.hid k1
          go_upto_region 6 with fail
          refine piece11_6 _ N i bx HLT.out HKW A c es st HBX k1 k2 k3 _ _ _ _ _ _ _ _ _ _ _ _ _ _ _ _ _ _ _ _ _ _ _ _ _ _ _ _ _ _ _ _ _ _ _ _ _ _ _ _ _ _ _ _ _ _ _ _ _ _ _ _ _ _ _ _ _ _ _ _ _ _ _ _ _ _ _ _ _ _ _ _ _ _ _ _ _ _ _ _ _ _ _ _ _ _ _ _ _ _ _ _ _ _ _ _ _ _ _ _ _ _ _ _ _ _ _ _ _ _ _ _ _ _ _ _ _ _ _ _ _ _ _ _ _ _ _ _ _ _ _ _ _ _ _ _ _ _ _ _ _ _ _ _ _ _ _ _ _ _ _ _ _ _ _ _ _ _ _ _ _ _ _ _ _ _ _ _ _ _ _ _ _ _ _ _ _ _ _ _ _ _ _ _ _ _ _ _ _ _ _ _ _ _ _ _ _ _ _ _ _ _ _ _ _ _ _ _ _ _ _ _ _ _ _ _ _ _ _ _ _ _ _ _ _ _ _ _ _ _ _ _ _ _ _ _ _ _ _ _ _ _ _ _ _ _ _ _ _ _ _ _ _ _ _ _ _ _ _ _ _ _ _ _ _ _ _ _ _ _ _ _ _ _ _ _ _ _ _ _ _ _ _ _ _ _ _ _ _ _ _ _ _ _ _ _ _ _ _ ?_
          intro _ _ _ _ _ _ _ _ _ _ _ _ _ _ _ _ _ _ _ _ _ _ _ _ _ _ _ _ _ wd HD
          have HBX := Lib.hid ((Below.block HD.out bx (Array.getElem?_eq_some_iff.1 HBX.out).1).trans HBX.out)
          have HEV := Lib.hid (HEV.out.up HD.out)
          have HKW := Lib.hid (HKW.out.up HD.out)
          have HU := Lib.hid (HU.out.trans HD.out)
          have n0 : (0 : Int) ≤ (i : Int) := by omega
          have n1 : (i : Int) < 24 := by have := HLT.out; omega
          clear k1 k2 k3 k4 HOK HD
          go_wp2
          go_loopg [4] es.length (fun g kv wr2 => ∃ k : Nat, g = es.length - k ∧ kv = .int .i64 (k : Nat) ∧ Hid (k ≤ es.length) ∧ Hid (Up wd wr2))
          case atStart => exact ⟨0, rfl, rfl, Lib.hid (Nat.zero_le _), Lib.hid (by first | with_reducible exact Up.refl _ | with_reducible exact Up.drew _)⟩
          case round =>
            obtain ⟨k, hg2, rfl, HK, HV⟩ := hrel
            have HG2 := Lib.hid hg2
            clear hg2
            have b0 := cell_up HV.out (boxOut HBX.out).1
            by_cases hkl : k < es.length
            ·
              have HKL := Lib.hid hkl
              obtain ⟨be, o1, rfl, -, c0, c1, c2, c3⟩ := HEV.out.at_ k hkl
              obtain ⟨g1, g2⟩ := HK4.out k hkl
              have hk2 : k < (fKd i).length := by rw [← HK1.out]; exact hkl
              have hsz := kSzB HLT.out k
              generalize es[k]'hkl = e at c0 c1 c2 c3 g1 g2
              obtain ⟨kd, ea, eb⟩ := e
              dsimp only at c1 c2 c3 g1 g2
              have HEL := Lib.hid ((HKW.out.elem HLT.out hk2))
              rw [← g1] at HEL
              generalize (fSz i).getD k 0 = sz at g2 hsz HEL
              have d0 := cell_up HV.out c0
              have d1 := cell_up HV.out c1
              have d2 := cell_up HV.out c2
              have d3 := cell_up HV.out c3
              have e2 : IntKind.i64.wrap ((eb : Int) - (ea : Int)) = (sz : Int) := by rw [g2]; rw [IntWalk.i64_in _ (by omega)]; omega
              have k0 : (0 : Int) ≤ (k : Int) := by omega
              have k1 : (k : Int) < es.length := by omega
              have e4 : IntKind.i64.wrap ((k : Int) + 1) = (k : Int) + 1 := IntWalk.i64_in _ (by have := HN3.out; omega)
              have HSZ := Lib.hid hsz
              have HG0 := Lib.hid g2
              clear hkl c0 c1 c2 c3 g1 g2 hk2 hsz
              go_upto_region 11 with fail
              go_cut [5] (fun v5 wx => ∃ bv, v5 = .pointer (some ⟨bv, 0, none⟩) ∧ Hid (wx.heap[bv]? = some (.cells #[.int .u8 3, .int .u8 (kd : Nat), .int .i64 (ea : Nat), .int .i64 (eb : Nat)] 37)) ∧ Hid (Up wr wx))
              case first =>
                go_wp2
                go_meet
                case rel => exact ⟨_, rfl, Lib.hid (Go.heap_alloc_new _ _), Lib.hid (Up.alloc _ _)⟩
              case rest =>
                clear d0 d1 d2 d3 b0
                have HKF := Lib.hid (show k < (fKd i).length by rw [← HK1.out]; exact HKL.out)
                obtain ⟨bv, rfl, HBV, HX⟩ := hcut
                have HW := Lib.hid (HV.out.trans HX.out)
                go_upto_region 12 with fail
                refine piece11_12 _ N i k bv kd ea eb sz HLT.out HKF.out HSZ.out (Lib.hid (HKW.out.up HW.out)) (Lib.hid ⟨HEL.out.1, HEL.out.2.1, cell_up HW.out HEL.out.2.2.1, cell_up HW.out HEL.out.2.2.2⟩) HBV HG0.out _ _ _ _ _ _ _ _ _ _ _ _ _ _ _ _ _ _ _ _ _ _ _ _ _ _ _ _ _ _ _ _ _ _ _ _ _ _ _ _ _ _ _ _ _ _ _ _ _ _ _ _ _ _ _ _ _ _ _ _ _ _ _ _ _ _ _ _ _ _ _ _ _ _ _ _ _ _ _ _ _ _ _ _ _ _ _ _ _ _ _ _ _ _ _ _ _ _ _ _ _ _ _ _ _ _ _ _ _ _ _ _ _ _ _ _ _ _ _ _ _ _ _ _ _ _ _ _ _ _ _ _ _ _ _ _ _ _ _ _ _ _ _ _ _ _ _ _ _ _ _ _ _ _ _ _ _ _ _ _ _ _ _ _ _ _ _ _ _ _ _ _ _ _ _ _ _ _ _ _ _ _ _ _ _ _ _ _ _ _ _ _ _ _ _ _ _ _ _ _ _ _ _ _ _ _ _ _ _ _ _ _ _ _ _ _ _ _ _ _ _ _ _ _ _ _ _ _ _ _ _ _ _ _ _ _ _ _ _ _ _ _ _ _ _ _ _ _ _ _ _ _ _ _ _ _ _ _ _ _ _ _ _ _ _ _ _ _ _ _ _ _ _ _ _ _ _ _ _ _ _ _ _ _ _ _ _ _ _ _ _ _ _ _ _ _ _ _ ?_
                intro _ _ _ _ _ _ _ _ _ _ _ _ _ _ _ _ _ _ _ _ _ _ _ _ _ _ wd2 HD2
                have HW := Lib.hid (HW.out.trans HD2.out)
                go_wp2
                go_roundg (es.length - (k + 1))
                case measure => rw [HG2.out]; have := HKL.out; omega
                case rel => exact ⟨k + 1, rfl, by go_num, Lib.hid HKL.out, Lib.hid (by first | with_reducible exact HW.out.trans (Up.drew _) | with_reducible exact HW.out)⟩
            · have g0 : decide (k < es.length) = false := decide_eq_false hkl
              clear hkl
              go_wp2
              go_roundg (24 - (i + 1))
              case measure => rw [HG.out]; have := HLT.out; omega
              case rel => exact ⟨i + 1, rfl, by go_num, Lib.hid HLT.out, Lib.hid (HKW.out.up HV.out), Lib.hid (HU.out.trans HV.out)⟩
      · have hi0 : True := trivial
        have hi : i = 24 := by have := HI.out; omega
        have g0 : decide (i < 24) = false := decide_eq_false hlt
        have g1 : ¬ (i : Int) < 24 := by omega
        clear hi hlt HKW HG
        go_upto_region 14 with fail
        go_cut [6] (fun v6 wx => ∃ g, v6 = .slice (some ⟨g, 0, none⟩) 47 47 ∧ Hid (wx.heap[g]? = some (strObj kOps)) ∧ Hid (Up w wx))
        case first =>
          go_wp2
          go_meet
          case rel => exact ⟨_, rfl, Lib.hid (Go.heap_alloc_new _ _), Lib.hid (HU.out.trans (Up.alloc _ _))⟩
        case rest =>
          clear HU g0 g1
          obtain ⟨g, rfl, HST, HU⟩ := hcut
          go_wp2
          go_loopg [7] 47 (fun g2 kv wr => ∃ k : Nat, g2 = 47 - k ∧ kv = .int .i64 (k : Nat) ∧ Hid (k ≤ 47) ∧ Hid (Up wc wr))
          case atStart => exact ⟨0, rfl, rfl, Lib.hid (Nat.zero_le _), Lib.hid (Up.refl _)⟩
          case round =>
            obtain ⟨k, hg2, rfl, HK, HV⟩ := hrel
            have HG2 := Lib.hid hg2
            clear hg2
            by_cases hk : k < 47
            ·
              have HLT := Lib.hid hk
              obtain ⟨q1, q2, q3⟩ := gOp_ok hk
              have hz : (gOp k ++ (⟨#[32, 120]⟩ : ByteArray)).size ≤ 6 := by rw [ByteArray.size_append]; show (gOp k).size + 2 ≤ 6; omega
              have H1 : Hid (ScP (gOp k ++ (⟨#[32, 120]⟩ : ByteArray)) 0 0 1 (scanE (bl (gOp k ++ (⟨#[32, 120]⟩ : ByteArray))) 0 0 1).1 (scanE (bl (gOp k ++ (⟨#[32, 120]⟩ : ByteArray))) 0 0 1).2) := Lib.hid (fun W h => HSC.out W h (gOp k ++ (⟨#[32, 120]⟩ : ByteArray)) 0 0 1 (by omega) (by decide) (by decide) (by decide))
              generalize scanE (bl (gOp k ++ (⟨#[32, 120]⟩ : ByteArray))) 0 0 1 = RR at H1 q1 q2
              obtain ⟨es, st⟩ := RR
              dsimp only at q1 q2 H1
              have e4 : IntKind.i64.wrap ((k : Int) + 1) = (k : Int) + 1 := IntWalk.i64_in _ (by omega)
              have k0 : (0 : Int) ≤ (k : Int) := by omega
              have k1 : (k : Int) < 47 := by omega
              clear hz hk
              go_upto_region 18 with fail
              refine piece11_18 w _ g k HLT.out q3 HT (Lib.hid (HU.out.trans HV.out)) (Lib.hid (obj_up HV.out HST.out)) es st H1 _ _ _ _ _ _ _ _ _ _ _ _ _ _ _ _ _ _ _ _ _ _ _ _ _ _ _ _ _ _ _ _ _ _ _ _ _ _ _ _ _ _ _ _ _ _ _ _ _ _ _ _ _ _ _ _ _ _ _ _ _ _ _ _ _ _ _ _ _ _ _ _ _ _ _ _ _ _ _ _ _ _ _ _ _ _ _ _ _ _ _ _ _ _ _ _ _ _ _ _ _ _ _ _ _ _ _ _ _ _ _ _ _ _ _ _ _ _ _ _ _ _ _ _ _ _ _ _ _ _ _ _ _ _ _ _ _ _ _ _ _ _ _ _ _ _ _ _ _ _ _ _ _ _ _ _ _ _ _ _ _ _ _ _ _ _ _ _ _ _ _ _ _ _ _ _ _ _ _ _ _ _ _ _ _ _ _ _ _ _ _ _ _ _ _ _ _ _ _ _ _ _ _ _ _ _ _ _ _ _ _ _ _ _ _ _ _ _ _ _ _ _ _ _ _ _ _ _ _ _ _ _ _ _ _ _ _ _ _ _ _ _ _ _ _ _ _ _ _ _ _ _ _ _ _ _ _ _ _ _ _ _ _ _ _ _ _ _ _ _ _ _ _ _ _ _ _ _ _ _ _ _ _ _ _ _ _ _ _ _ _ _ _ _ _ _ _ _ _ _ ?_
              intro bx A c _ _ _ _ _ _ wc2 HBX HEV HD
              go_upto_region 19 with fail
              refine piece11_19 _ g k bx HLT.out (Lib.hid (obj_up (HV.out.trans HD.out) HST.out)) A c es st HBX HEV q1 q2 _ _ _ _ _ _ _ _ _ _ _ _ _ _ _ _ _ _ _ _ _ _ _ _ _ _ _ _ _ _ _ _ _ _ _ _ _ _ _ _ _ _ _ _ _ _ _ _ _ _ _ _ _ _ _ _ _ _ _ _ _ _ _ _ _ _ _ _ _ _ _ _ _ _ _ _ _ _ _ _ _ _ _ _ _ _ _ _ _ _ _ _ _ _ _ _ _ _ _ _ _ _ _ _ _ _ _ _ _ _ _ _ _ _ _ _ _ _ _ _ _ _ _ _ _ _ _ _ _ _ _ _ _ _ _ _ _ _ _ _ _ _ _ _ _ _ _ _ _ _ _ _ _ _ _ _ _ _ _ _ _ _ _ _ _ _ _ _ _ _ _ _ _ _ _ _ _ _ _ _ _ _ _ _ _ _ _ _ _ _ _ _ _ _ _ _ _ _ _ _ _ _ _ _ _ _ _ _ _ _ _ _ _ _ _ _ _ _ _ _ _ _ _ _ _ _ _ _ _ _ _ _ _ _ _ _ _ _ _ _ _ _ _ _ _ _ _ _ _ _ _ _ _ _ _ _ _ _ _ _ _ _ _ _ _ _ _ _ _ _ _ _ _ _ _ _ _ _ _ _ _ _ _ _ _ _ _ _ _ _ _ _ _ _ _ _ _ _ _ ?_
              intro _ _ _ _ _ _ _ _ _ _ _ _ _ _ _ _ _ _ _ _ _ _ _ _ wc3 HD3
              clear q1 q2
              go_wp2
              go_roundg (47 - (k + 1))
              case measure => rw [HG2.out]; have := HLT.out; omega
              case rel => exact ⟨k + 1, rfl, by go_num, Lib.hid HLT.out, Lib.hid ((HV.out.trans HD.out).trans HD3.out)⟩
            · have hi0 : True := trivial
              have g0 : decide (k < 47) = false := decide_eq_false hk
              have g1 : ¬ (k : Int) < 47 := by omega
              have HU4 := Lib.hid (HU.out.trans HV.out)
              clear hk HST HG2
              go_upto_region 21 with fail
              go_cut [9] (fun v9 wx => ∃ g, v9 = .slice (some ⟨g, 0, none⟩) 9 9 ∧ Hid (wx.heap[g]? = some (strObj kHds)) ∧ Hid (Up w wx))
              case first =>
                go_wp2
                go_meet
                case rel => exact ⟨_, rfl, Lib.hid (Go.heap_alloc_new _ _), Lib.hid (HU4.out.trans (Up.alloc _ _))⟩
              case rest =>
                clear HU HV HU4 g0 g1
                obtain ⟨g3, rfl, HST, HU⟩ := hcut
                obtain ⟨wo, hwo⟩ : ∃ wo : World, wo = wr := ⟨_, rfl⟩
                subst hwo
                obtain ⟨wd, hwd⟩ : ∃ wd : World, wd = wc := ⟨_, rfl⟩
                subst hwd
                go_wp2
                go_loopg [10] 9 (fun g2 kv wr => ∃ k : Nat, g2 = 9 - k ∧ kv = .int .i64 (k : Nat) ∧ Hid (k ≤ 9) ∧ Hid (Up wd wr))
                case atStart => exact ⟨0, rfl, rfl, Lib.hid (Nat.zero_le _), Lib.hid (Up.refl _)⟩
                case round =>
                  clear HK
                  obtain ⟨m, hg4, rfl, HK, HV⟩ := hrel
                  have HG4 := Lib.hid hg4
                  clear hg4
                  by_cases hm : m < 9
                  ·
                    have HLT := Lib.hid hm
                    obtain ⟨q1, q2, q3⟩ := gHd_ok hm
                    have hz : (gHd m ++ (⟨#[39, 120, 39]⟩ : ByteArray)).size ≤ 6 := by rw [ByteArray.size_append]; show (gHd m).size + 3 ≤ 6; omega
                    have H1 : Hid (ScP (gHd m ++ (⟨#[39, 120, 39]⟩ : ByteArray)) 0 0 0 (scanE (bl (gHd m ++ (⟨#[39, 120, 39]⟩ : ByteArray))) 0 0 0).1 (scanE (bl (gHd m ++ (⟨#[39, 120, 39]⟩ : ByteArray))) 0 0 0).2) := Lib.hid (fun W h => HSC.out W h (gHd m ++ (⟨#[39, 120, 39]⟩ : ByteArray)) 0 0 0 (by omega) (by decide) (by decide) (by decide))
                    generalize scanE (bl (gHd m ++ (⟨#[39, 120, 39]⟩ : ByteArray))) 0 0 0 = RR at H1 q1 q2
                    obtain ⟨es, st⟩ := RR
                    dsimp only at q1 q2 H1
                    have e4 : IntKind.i64.wrap ((m : Int) + 1) = (m : Int) + 1 := IntWalk.i64_in _ (by omega)
                    have k0 : (0 : Int) ≤ (m : Int) := by omega
                    have k1 : (m : Int) < 9 := by omega
                    clear hz hm
                    go_upto_region 25 with fail
                    refine piece11_25 w _ g3 m HLT.out q3 HT (Lib.hid (HU.out.trans HV.out)) (Lib.hid (obj_up HV.out HST.out)) es st H1 _ _ _ _ _ _ _ _ _ _ _ _ _ _ _ _ _ _ _ _ _ _ _ _ _ _ _ _ _ _ _ _ _ _ _ _ _ _ _ _ _ _ _ _ _ _ _ _ _ _ _ _ _ _ _ _ _ _ _ _ _ _ _ _ _ _ _ _ _ _ _ _ _ _ _ _ _ _ _ _ _ _ _ _ _ _ _ _ _ _ _ _ _ _ _ _ _ _ _ _ _ _ _ _ _ _ _ _ _ _ _ _ _ _ _ _ _ _ _ _ _ _ _ _ _ _ _ _ _ _ _ _ _ _ _ _ _ _ _ _ _ _ _ _ _ _ _ _ _ _ _ _ _ _ _ _ _ _ _ _ _ _ _ _ _ _ _ _ _ _ _ _ _ _ _ _ _ _ _ _ _ _ _ _ _ _ _ _ _ _ _ _ _ _ _ _ _ _ _ _ _ _ _ _ _ _ _ _ _ _ _ _ _ _ _ _ _ _ _ _ _ _ _ _ _ _ _ _ _ _ _ _ _ _ _ _ _ _ _ _ _ _ _ _ _ _ _ _ _ _ _ _ _ _ _ _ _ _ _ _ _ _ _ _ _ _ _ _ _ _ _ _ _ _ _ _ _ _ _ _ _ _ _ _ _ _ _ _ _ _ _ _ _ _ _ _ _ _ _ _ ?_
                    intro bx A c _ _ _ _ _ _ wc2 HBX HEV HD
                    have q0 : 0 < es.length := by omega
                    obtain ⟨be, o1, rfl, -, c0, c1, c2, c3⟩ := HEV.out.at_ 0 q0
                    rw [q2 q0] at c1
                    rw [Nat.zero_mul, Nat.add_zero] at c1
                    obtain ⟨b0, -, -⟩ := boxOut HBX.out
                    rw [q1] at b0
                    clear c0 c2 c3 q0 q1 q2
                    go_wp2
                    go_roundg (9 - (m + 1))
                    case measure => rw [HG4.out]; have := HLT.out; omega
                    case rel => exact ⟨m + 1, rfl, by go_num, Lib.hid HLT.out, Lib.hid (HV.out.trans HD.out)⟩
                  · have hi0 : True := trivial
                    have g0 : decide (m < 9) = false := decide_eq_false hm
                    have g1 : ¬ (m : Int) < 9 := by omega
                    have HU5 := Lib.hid (HU.out.trans HV.out)
                    clear hm HST HG4 HU HV
                    have H28 := Lib.hid (fun W (h : TabsP W) => HSC.out W h ⟨#[105, 102, 32, 97, 58, 32, 35, 32, 120]⟩ 0 0 0 (by decide) (by decide) (by decide) (by decide))
                    rw [kn28, show ((0 : Nat) : Int) = 0 from rfl] at H28
                    unfold outA at H28
                    go_upto_region 29 with (go_at_call 6; ((with_reducible refine (H28.out _ (HT.out.up HU5.out)).mono ?_); rintro e w28 ⟨v28, rfl, hr, hu⟩; obtain ⟨A28, c28, rfl, -, -⟩ := evs_row hr; have HUS28 := Lib.hid (HU5.out.trans hu); have HVS28 := Lib.hid hu; clear hr hu))
                    have hb28 := Go.heap_alloc_new w28 (.cells (outA (.slice A28 (scanE (bl ⟨#[105, 102, 32, 97, 58, 32, 35, 32, 120]⟩) 0 0 0).1.length c28) ⟨0, 0, false, true, true⟩) 25)
                    have hv28 : Up w28 (w28.alloc (.cells (outA (.slice A28 (scanE (bl ⟨#[105, 102, 32, 97, 58, 32, 35, 32, 120]⟩) 0 0 0).1.length c28) ⟨0, 0, false, true, true⟩) 25)) := Up.alloc _ _
                    unfold outA at hb28 hv28
                    generalize hq28 : w28.heap.size = b28 at hb28 ⊢
                    generalize hx28 : World.alloc w28 _ = x28 at hb28 hv28 ⊢
                    have HB28 := Lib.hid hb28
                    have HUX28 := Lib.hid (HUS28.out.trans hv28)
                    clear hb28 hv28 hq28 hx28
                    have H29 : Hid (ScP ⟨#[123, 97, 58]⟩ 0 0 0 (scanE (bl ⟨#[123, 97, 58]⟩) 0 0 0).1 (scanE (bl ⟨#[123, 97, 58]⟩) 0 0 0).2) := Lib.hid (fun W h => HSC.out W h ⟨#[123, 97, 58]⟩ 0 0 0 (by decide) (by decide) (by decide) (by decide))
                    go_upto_region 29 with fail
                    refine piece11_29 w _ HT HUX28 _ _ H29 _ _ _ _ _ _ _ _ _ _ _ _ _ _ _ _ _ _ _ _ _ _ _ _ _ _ _ _ _ _ _ _ _ _ _ _ _ _ _ _ _ _ _ _ _ _ _ _ _ _ _ _ _ _ _ _ _ _ _ _ _ _ _ _ _ _ _ _ _ _ _ _ _ _ _ _ _ _ _ _ _ _ _ _ _ _ _ _ _ _ _ _ _ _ _ _ _ _ _ _ _ _ _ _ _ _ _ _ _ _ _ _ _ _ _ _ _ _ _ _ _ _ _ _ _ _ _ _ _ _ _ _ _ _ _ _ _ _ _ _ _ _ _ _ _ _ _ _ _ _ _ _ _ _ _ _ _ _ _ _ _ _ _ _ _ _ _ _ _ _ _ _ _ _ _ _ _ _ _ _ _ _ _ _ _ _ _ _ _ _ _ _ _ _ _ _ _ _ _ _ _ _ _ _ _ _ _ _ _ _ _ _ _ _ _ _ _ _ _ _ _ _ _ _ _ _ _ _ _ _ _ _ _ _ _ _ _ _ _ _ _ _ _ _ _ _ _ _ _ _ _ _ _ _ _ _ _ _ _ _ _ _ _ _ _ _ _ _ _ _ _ _ _ _ _ _ _ _ _ _ _ _ _ _ _ _ _ _ _ _ _ _ _ _ _ _ _ _ _ _ _ _ ?_
                    intro b29 A29 c29 _ x29 HB29 _ HD29
                    have HX29 := Lib.hid (HUX28.out.trans HD29.out)
                    have HB28 := Lib.hid (obj_up HD29.out HB28.out)
                    have H30 : Hid (ScP ⟨#[35, 32, 120]⟩ 0 0 0 (scanE (bl ⟨#[35, 32, 120]⟩) 0 0 0).1 (scanE (bl ⟨#[35, 32, 120]⟩) 0 0 0).2) := Lib.hid (fun W h => HSC.out W h ⟨#[35, 32, 120]⟩ 0 0 0 (by decide) (by decide) (by decide) (by decide))
                    go_upto_region 30 with fail
                    refine piece11_30 w _ HT HX29 _ _ H30 _ _ _ _ _ _ _ _ _ _ _ _ _ _ _ _ _ _ _ _ _ _ _ _ _ _ _ _ _ _ _ _ _ _ _ _ _ _ _ _ _ _ _ _ _ _ _ _ _ _ _ _ _ _ _ _ _ _ _ _ _ _ _ _ _ _ _ _ _ _ _ _ _ _ _ _ _ _ _ _ _ _ _ _ _ _ _ _ _ _ _ _ _ _ _ _ _ _ _ _ _ _ _ _ _ _ _ _ _ _ _ _ _ _ _ _ _ _ _ _ _ _ _ _ _ _ _ _ _ _ _ _ _ _ _ _ _ _ _ _ _ _ _ _ _ _ _ _ _ _ _ _ _ _ _ _ _ _ _ _ _ _ _ _ _ _ _ _ _ _ _ _ _ _ _ _ _ _ _ _ _ _ _ _ _ _ _ _ _ _ _ _ _ _ _ _ _ _ _ _ _ _ _ _ _ _ _ _ _ _ _ _ _ _ _ _ _ _ _ _ _ _ _ _ _ _ _ _ _ _ _ _ _ _ _ _ _ _ _ _ _ _ _ _ _ _ _ _ _ _ _ _ _ _ _ _ _ _ _ _ _ _ _ _ _ _ _ _ _ _ _ _ _ _ _ _ _ _ _ _ _ _ _ _ _ _ _ _ _ _ _ _ _ _ _ _ _ _ _ _ _ _ ?_
                    intro b30 A30 c30 _ x30 HB30 _ HD30
                    have HX30 := Lib.hid (HX29.out.trans HD30.out)
                    have HB28 := Lib.hid (obj_up HD30.out HB28.out)
                    have HB29 := Lib.hid (obj_up HD30.out HB29.out)
                    have H31 : Hid (ScP ⟨#[120, 58, 61]⟩ 0 0 (-5) (scanE (bl ⟨#[120, 58, 61]⟩) 0 0 (-5)).1 (scanE (bl ⟨#[120, 58, 61]⟩) 0 0 (-5)).2) := Lib.hid (fun W h => HSC.out W h ⟨#[120, 58, 61]⟩ 0 0 (-5) (by decide) (by decide) (by decide) (by decide))
                    go_upto_region 31 with fail
                    refine piece11_31 w _ HT HX30 _ _ H31 _ _ _ _ _ _ _ _ _ _ _ _ _ _ _ _ _ _ _ _ _ _ _ _ _ _ _ _ _ _ _ _ _ _ _ _ _ _ _ _ _ _ _ _ _ _ _ _ _ _ _ _ _ _ _ _ _ _ _ _ _ _ _ _ _ _ _ _ _ _ _ _ _ _ _ _ _ _ _ _ _ _ _ _ _ _ _ _ _ _ _ _ _ _ _ _ _ _ _ _ _ _ _ _ _ _ _ _ _ _ _ _ _ _ _ _ _ _ _ _ _ _ _ _ _ _ _ _ _ _ _ _ _ _ _ _ _ _ _ _ _ _ _ _ _ _ _ _ _ _ _ _ _ _ _ _ _ _ _ _ _ _ _ _ _ _ _ _ _ _ _ _ _ _ _ _ _ _ _ _ _ _ _ _ _ _ _ _ _ _ _ _ _ _ _ _ _ _ _ _ _ _ _ _ _ _ _ _ _ _ _ _ _ _ _ _ _ _ _ _ _ _ _ _ _ _ _ _ _ _ _ _ _ _ _ _ _ _ _ _ _ _ _ _ _ _ _ _ _ _ _ _ _ _ _ _ _ _ _ _ _ _ _ _ _ _ _ _ _ _ _ _ _ _ _ _ _ _ _ _ _ _ _ _ _ _ _ _ _ _ _ _ _ _ _ _ _ _ _ _ _ _ ?_
                    intro b31 A31 c31 _ x31 HB31 _ HD31
                    have HX31 := Lib.hid (HX30.out.trans HD31.out)
                    have HB28 := Lib.hid (obj_up HD31.out HB28.out)
                    have HB29 := Lib.hid (obj_up HD31.out HB29.out)
                    have HB30 := Lib.hid (obj_up HD31.out HB30.out)
                    have H32 : Hid (ScP ⟨#[40]⟩ 0 0 1048581 (scanE (bl ⟨#[40]⟩) 0 0 1048581).1 (scanE (bl ⟨#[40]⟩) 0 0 1048581).2) := Lib.hid (fun W h => HSC.out W h ⟨#[40]⟩ 0 0 1048581 (by decide) (by decide) (by decide) (by decide))
                    go_upto_region 32 with fail
                    refine piece11_32 w _ HT HX31 _ _ H32 _ _ _ _ _ _ _ _ _ _ _ _ _ _ _ _ _ _ _ _ _ _ _ _ _ _ _ _ _ _ _ _ _ _ _ _ _ _ _ _ _ _ _ _ _ _ _ _ _ _ _ _ _ _ _ _ _ _ _ _ _ _ _ _ _ _ _ _ _ _ _ _ _ _ _ _ _ _ _ _ _ _ _ _ _ _ _ _ _ _ _ _ _ _ _ _ _ _ _ _ _ _ _ _ _ _ _ _ _ _ _ _ _ _ _ _ _ _ _ _ _ _ _ _ _ _ _ _ _ _ _ _ _ _ _ _ _ _ _ _ _ _ _ _ _ _ _ _ _ _ _ _ _ _ _ _ _ _ _ _ _ _ _ _ _ _ _ _ _ _ _ _ _ _ _ _ _ _ _ _ _ _ _ _ _ _ _ _ _ _ _ _ _ _ _ _ _ _ _ _ _ _ _ _ _ _ _ _ _ _ _ _ _ _ _ _ _ _ _ _ _ _ _ _ _ _ _ _ _ _ _ _ _ _ _ _ _ _ _ _ _ _ _ _ _ _ _ _ _ _ _ _ _ _ _ _ _ _ _ _ _ _ _ _ _ _ _ _ _ _ _ _ _ _ _ _ _ _ _ _ _ _ _ _ _ _ _ _ _ _ _ _ _ _ _ _ _ _ _ _ _ _ ?_
                    intro b32 A32 c32 _ x32 HB32 _ HD32
                    have HX32 := Lib.hid (HX31.out.trans HD32.out)
                    have HB28 := Lib.hid (obj_up HD32.out HB28.out)
                    have HB29 := Lib.hid (obj_up HD32.out HB29.out)
                    have HB30 := Lib.hid (obj_up HD32.out HB30.out)
                    have HB31 := Lib.hid (obj_up HD32.out HB31.out)
                    have H33 : Hid (ScP ⟨#[120]⟩ 5 3 2 (scanE (bl ⟨#[120]⟩) 5 3 2).1 (scanE (bl ⟨#[120]⟩) 5 3 2).2) := Lib.hid (fun W h => HSC.out W h ⟨#[120]⟩ 5 3 2 (by decide) (by decide) (by decide) (by decide))
                    go_upto_region 33 with fail
                    refine piece11_33 w _ HT HX32 _ _ H33 _ _ _ _ _ _ _ _ _ _ _ _ _ _ _ _ _ _ _ _ _ _ _ _ _ _ _ _ _ _ _ _ _ _ _ _ _ _ _ _ _ _ _ _ _ _ _ _ _ _ _ _ _ _ _ _ _ _ _ _ _ _ _ _ _ _ _ _ _ _ _ _ _ _ _ _ _ _ _ _ _ _ _ _ _ _ _ _ _ _ _ _ _ _ _ _ _ _ _ _ _ _ _ _ _ _ _ _ _ _ _ _ _ _ _ _ _ _ _ _ _ _ _ _ _ _ _ _ _ _ _ _ _ _ _ _ _ _ _ _ _ _ _ _ _ _ _ _ _ _ _ _ _ _ _ _ _ _ _ _ _ _ _ _ _ _ _ _ _ _ _ _ _ _ _ _ _ _ _ _ _ _ _ _ _ _ _ _ _ _ _ _ _ _ _ _ _ _ _ _ _ _ _ _ _ _ _ _ _ _ _ _ _ _ _ _ _ _ _ _ _ _ _ _ _ _ _ _ _ _ _ _ _ _ _ _ _ _ _ _ _ _ _ _ _ _ _ _ _ _ _ _ _ _ _ _ _ _ _ _ _ _ _ _ _ _ _ _ _ _ _ _ _ _ _ _ _ _ _ _ _ _ _ _ _ _ _ _ _ _ _ _ _ _ _ _ _ _ _ _ _ _ ?_
                    intro b33 A33 c33 _ x33 HB33 _ HD33
                    have HX33 := Lib.hid (HX32.out.trans HD33.out)
                    have HB28 := Lib.hid (obj_up HD33.out HB28.out)
                    have HB29 := Lib.hid (obj_up HD33.out HB29.out)
                    have HB30 := Lib.hid (obj_up HD33.out HB30.out)
                    have HB31 := Lib.hid (obj_up HD33.out HB31.out)
                    have HB32 := Lib.hid (obj_up HD33.out HB32.out)
                    have g28 := HB28.out
                    have g29 := HB29.out
                    rw [kn29] at g29
                    unfold outA at g29
                    have g30 := HB30.out
                    rw [kn30] at g30
                    unfold outA at g30
                    have g31 := HB31.out
                    rw [kn31] at g31
                    unfold outA at g31
                    have g32 := HB32.out
                    rw [kn32] at g32
                    unfold outA at g32
                    have g33 := HB33.out
                    rw [kn33] at g33
                    unfold outA at g33
                    have y28_5 := cellOf (j := 5) g28 rfl
                    have y29_5 := cellOf (j := 5) g29 rfl
                    have y29_2 := cellOf (j := 2) g29 rfl
                    have y30_4 := cellOf (j := 4) g30 rfl
                    have y30_5 := cellOf (j := 5) g30 rfl
                    have y31_5 := cellOf (j := 5) g31 rfl
                    have y31_2 := cellOf (j := 2) g31 rfl
                    have y32_2 := cellOf (j := 2) g32 rfl
                    have y33_0 := cellOf (j := 0) g33 rfl
                    have y33_1 := cellOf (j := 1) g33 rfl
                    have y33_2 := cellOf (j := 2) g33 rfl
                    rw [kn33e] at y33_0
                    clear g28 g29 g30 g31 g32 g33
                    go_wp2_with (go_at_call 8; ((with_reducible refine (HR.out _ (HT.out.up HX33.out)).mono ?_); rintro e wz ⟨rfl, hu⟩; have HZ := Lib.hid (HX33.out.trans hu); clear hu))
                    go_ret
                    exact ⟨rfl, HZ.out⟩
end
end Go.Proofs.YtlpkflioikmgjaaDoor
