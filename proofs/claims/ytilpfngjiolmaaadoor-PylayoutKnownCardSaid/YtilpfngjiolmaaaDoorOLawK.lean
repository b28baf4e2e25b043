/- PylayoutKnown, walked. -/
import Derived.Test.YtilpfngjiolmaaaDoorOLawKP2
import Derived.Test.YtilpfngjiolmaaaDoorOLawKP4
import Derived.Test.YtilpfngjiolmaaaDoorOLawKP6
import Derived.Test.YtilpfngjiolmaaaDoorOLawKP8
namespace Go.Proofs.YtilpfngjiolmaaaDoor
open Go.RowKit
attribute [local go_sem ↓] ldS_eq stS_eq elS_eq neS_eq zrS_eq bsS_eq bdS_eq
attribute [local go_sem] ldS_run stS_run elS_run neS_run zrS_run bsS_run bdS_run0 bdS_run1 g0_rule ldV_drew ldV_drewN

set_option maxRecDepth 100000 in
set_option maxHeartbeats 16000000 in
theorem pknown_walk (hC : LayC) (w : World) (hT : TabsP w) : Calls Tryd.prog 5 #[] w fun e w' => e = .returned (.bool true) ∧ Up w w' := by
  have HT := Lib.hid hT
  have HC := Lib.hid hC
  have HLF := Lib.hid (fun W' k a b => kLeaf_any W' k a b)
  have HOP := Lib.hid (fun W' k a => kOpens_any W' k a)
  have HEN := Lib.hid (fun W' k a => kEnds_any W' k a)
  clear hT hC
  go_enter Tryd.func5, Tryd.ntmps5
  go_upto_region 1 with fail
  go_cut [1] (fun v1 wx => ∃ b1 AH cH, v1 = .pointer (some ⟨b1, 0, none⟩) ∧ Hid (wx.cell? ⟨b1, 0, none⟩ = some (.string xHead) ∧ wx.cell? ⟨b1, 1, none⟩ = some (.slice AH 5 cH)) ∧ Hid (Levs wx AH 5 eHead) ∧ Hid (Up w wx))
  case first =>
    go_wp2_with (first
      | (go_at_call 11; ((with_reducible refine (HLF.out _ _ _ _).mono ?_); rintro e wn ⟨rfl, hu⟩; have HUC := Lib.hid hu; clear hu))
      | (go_at_call 10; ((with_reducible refine (HOP.out _ _ _).mono ?_); rintro e wn ⟨rfl, hu⟩; have HUC := Lib.hid hu; clear hu))
      | (go_at_call 12; ((with_reducible refine (HEN.out _ _ _).mono ?_); rintro e wn ⟨rfl, hu⟩; have HUC := Lib.hid hu; clear hu)))
    go_meet
    case rel => exact ⟨_, _, _, rfl, Lib.hid ⟨cellOf (heap_new1 _ _ _) rfl, cellOf (heap_new1 _ _ _) rfl⟩, Lib.hid (by (first | ((with_reducible apply lev_new); (focus (repeat first | with_reducible exact Up.refl _ | with_reducible refine Up.trans ?_ (Up.drew _) | with_reducible refine upHid (by with_reducible assumption) ?_ | with_reducible refine Up.trans ?_ (Up.alloc _ _))); rfl; rfl) | ((with_reducible apply lev_new1); (focus (repeat first | with_reducible exact Up.refl _ | with_reducible refine Up.trans ?_ (Up.drew _) | with_reducible refine upHid (by with_reducible assumption) ?_ | with_reducible refine Up.trans ?_ (Up.alloc _ _))); rfl; rfl))), Lib.hid (by (repeat first | with_reducible exact Up.refl _ | with_reducible refine Up.trans ?_ (Up.drew _) | with_reducible refine upHid (by with_reducible assumption) ?_ | with_reducible refine Up.trans ?_ (Up.alloc _ _)))⟩
  case rest =>
    obtain ⟨b1, AH, cH, rfl, HB1, HLH, HU⟩ := hcut
    go_upto_region 2 with fail
    refine piece2 HC.out w _ HT.out b1 AH cH HB1 HLH HU _ _ _ _ _ _ _ _ _ _ _ _ _ _ _ _ _ _ _ _ _ _ _ _ _ _ _ _ _ _ _ _ _ _ _ _ _ _ _ _ _ _ _ _ _ _ _ _ _ _ _ _ _ _ _ _ _ _ _ _ _ _ _ _ _ _ _ _ _ _ _ _ _ _ _ _ _ _ _ _ _ _ _ _ _ _ _ _ _ _ _ _ _ _ _ _ _ _ _ _ _ _ _ _ _ _ _ _ _ _ _ _ _ _ _ _ _ _ _ _ _ _ _ _ _ _ _ _ _ _ _ _ _ _ _ _ _ _ _ _ _ _ _ _ _ _ _ _ _ _ _ _ _ _ _ _ _ _ _ _ _ _ _ _ _ _ _ _ _ _ _ _ _ _ _ _ _ _ _ _ _ _ _ _ _ _ _ _ _ _ _ _ _ _ _ _ _ _ _ _ _ _ _ _ _ _ _ _ _ ?_
    clear HU HB1 HLH
    intro _ _ _ _ _ _ _ _ _ _ _ _ _ _ _ wc HU HB1 HLH
    go_upto_region 4 with fail
    refine piece4 HC.out w _ HT.out b1 AH cH HB1 HLH HU _ _ _ _ _ _ _ _ _ _ _ _ _ _ _ _ _ _ _ _ _ _ _ _ _ _ _ _ _ _ _ _ _ _ _ _ _ _ _ _ _ _ _ _ _ _ _ _ _ _ _ _ _ _ _ _ _ _ _ _ _ _ _ _ _ _ _ _ _ _ _ _ _ _ _ _ _ _ _ _ _ _ _ _ _ _ _ _ _ _ _ _ _ _ _ _ _ _ _ _ _ _ _ _ _ _ _ _ _ _ _ _ _ _ _ _ _ _ _ _ _ _ _ _ _ _ _ _ _ _ _ _ _ _ _ _ _ _ _ _ _ _ _ _ _ _ _ _ _ _ _ _ _ _ _ _ _ _ _ _ _ _ _ _ _ _ _ _ _ _ _ _ _ _ _ _ _ _ _ _ _ _ _ _ _ _ _ _ _ _ _ _ _ _ _ _ _ _ _ _ _ _ _ _ _ _ _ _ _ ?_
    clear HU HB1 HLH
    intro _ _ _ _ _ _ _ _ _ _ _ _ _ _ _ _ _ _ _ _ _ _ _ _ _ _ _ _ _ _ _ wc HU HB1 HLH
    go_upto_region 6 with fail
    refine piece6 HC.out w _ HT.out b1 AH cH HB1 HLH HU _ _ _ _ _ _ _ _ _ _ _ _ _ _ _ _ _ _ _ _ _ _ _ _ _ _ _ _ _ _ _ _ _ _ _ _ _ _ _ _ _ _ _ _ _ _ _ _ _ _ _ _ _ _ _ _ _ _ _ _ _ _ _ _ _ _ _ _ _ _ _ _ _ _ _ _ _ _ _ _ _ _ _ _ _ _ _ _ _ _ _ _ _ _ _ _ _ _ _ _ _ _ _ _ _ _ _ _ _ _ _ _ _ _ _ _ _ _ _ _ _ _ _ _ _ _ _ _ _ _ _ _ _ _ _ _ _ _ _ _ _ _ _ _ _ _ _ _ _ _ _ _ _ _ _ _ _ _ _ _ _ _ _ _ _ _ _ _ _ _ _ _ _ _ _ _ _ _ _ _ _ _ _ _ _ _ _ _ _ _ _ _ _ _ _ _ _ _ _ _ _ _ _ _ _ _ _ _ _ ?_
    clear HU HB1 HLH
    intro _ _ _ _ _ _ _ _ _ _ _ _ _ _ _ _ wc HU HB1 HLH
    go_upto_region 8 with fail
    refine piece8 HC.out w _ HT.out b1 AH cH HB1 HLH HU _ _ _ _ _ _ _ _ _ _ _ _ _ _ _ _ _ _ _ _ _ _ _ _ _ _ _ _ _ _ _ _ _ _ _ _ _ _ _ _ _ _ _ _ _ _ _ _ _ _ _ _ _ _ _ _ _ _ _ _ _ _ _ _ _ _ _ _ _ _ _ _ _ _ _ _ _ _ _ _ _ _ _ _ _ _ _ _ _ _ _ _ _ _ _ _ _ _ _ _ _ _ _ _ _ _ _ _ _ _ _ _ _ _ _ _ _ _ _ _ _ _ _ _ _ _ _ _ _ _ _ _ _ _ _ _ _ _ _ _ _ _ _ _ _ _ _ _ _ _ _ _ _ _ _ _ _ _ _ _ _ _ _ _ _ _ _ _ _ _ _ _ _ _ _ _ _ _ _ _ _ _ _ _ _ _ _ _ _ _ _ _ _ _ _ _ _ _ _ _ _ _ _ _ _ _ _ _ _ ?_
    clear HU HB1 HLH
    intro _ _ _ _ _ _ _ _ _ _ _ _ _ _ _ _ _ _ _ _ _ _ _ _ _ _ _ _ _ _ _ _ _ _ _ _ _ _ wc HU HB1 HLH
    clear HB1 HLH HLF HOP HEN
    have hl0 : ldV (.pointer (some ⟨wc.heap.size, 0, none⟩)) (wc.alloc (.cells z0 TS)) = some (.agg z0) := ldV_of z0_is (range_box wc z0 TS)
    have HU0 := Lib.hid (Up.alloc wc (.cells z0 TS))
    have HTH0 := Lib.hid (there_box wc z0_is TS)
    have HLD0 := Lib.hid hl0
    clear hl0
    go_wp2
    go_loopg [3, 4] 18 (fun g lv iv wr => ∃ k : Nat, g = 18 - k ∧ lv = .string (kLn k) ∧ iv = .int .i64 (k : Nat) ∧ Hid (k ≤ 18) ∧ Hid (ldV (.pointer (some ⟨wc.heap.size, 0, none⟩)) wr = some (.agg (stA (kSt k)))) ∧ Hid (wr.there wc.heap.size 0 82) ∧ Hid (Up wc wr))
    case atStart => exact ⟨0, rfl, rfl, rfl, Lib.hid (Nat.zero_le _), Lib.hid (by rw [show kSt 0 = lst0 from rfl, ← z0_lst]; exact HLD0.out), HTH0, HU0⟩
    case round =>
      clear HLD0 HTH0 HU0
      obtain ⟨k, hg, rfl, rfl, HK, HLD, HTH, HV⟩ := hrel
      have HG := Lib.hid hg
      clear hg
      by_cases hlt : k < 18
      · have HLT := Lib.hid hlt
        have hok := kSt_ok k (by omega)
        have hok2 := kSt_ok (k + 1) (by omega)
        obtain ⟨q1, hk, q2⟩ := kOne12 hlt
        have HSC := Lib.hid (fun W' (h : TabsP W') => HC.out.scan W' h (stA (kSt k)) (kSt k) (stA_is hok) (cnt_self hok) (kLn k) (by rw [kLn_size]; omega))
        unfold ScannedP at HSC
        rw [show (scanP (kSt k) (bl (kLn k))).2 = kSt (k + 1) from rfl] at HSC
        generalize (scanP (kSt k) (bl (kLn k))).1 = es at HSC hk q2
        have HTI := Lib.hid (stA_is hok2)
        have h64 : ∀ (w : World) (b : Nat), w.heap[b]? = some (.cells (stA (kSt (k + 1))) TS) → w.cell? ⟨b, 64, none⟩ = some (.int .i64 ((min k 16 : Nat) : Int)) := fun w b h => by rw [← q1]; exact cellOf h (svA_tl (svP (kSt (k + 1))) 0)
        have H64 := Lib.hid h64
        have HQ2 := Lib.hid q2
        have HKK := Lib.hid hk
        have hmin : min (k : Int) 16 = ((min k 16 : Nat) : Int) := by omega
        have hl := HLD.out
        generalize hyt : stA (kSt (k + 1)) = z at HSC HTI H64
        have HYT := Lib.hid hyt
        generalize stA (kSt k) = y at HSC hl
        have HSZ := Lib.hid (kLn_size k)
        have i0 : (0 : Int) ≤ k := by omega
        have i1 : (k : Int) < 18 := by omega
        have e4 : IntKind.i64.wrap ((k : Int) + 1) = (k : Int) + 1 := IntWalk.i64_in _ (by omega)
        have hsz := kLn_size k
        have hsa : ((⟨#[32]⟩ : ByteArray) ++ kLn k).size = 1 + (kLn k).size := by rw [ByteArray.size_append]; rfl
        have hsl : ((⟨#[32]⟩ : ByteArray) ++ kLn k).size ≤ maxLen := by unfold maxLen; omega
        have hsm : 1 + (kLn k).size ≤ maxLen := by unfold maxLen; omega
        have hsn : ¬ maxLen < 1 + (kLn k).size := by omega
        clear hlt hok hok2 q1 q2 h64 hyt HLD hsz
        go_upto_region 16 with (go_at_call 7; ((with_reducible refine (HSC.out _ (HT.out.up (HU.out.trans HV.out))).mono ?_); rintro e w3 ⟨v3, rfl, hrow, hu⟩; obtain ⟨A, c, rfl, he⟩ := levs_row hrow; have hst := stV_of HTI.out (there_box w3 z0_is TS); have hup := whole_up w3 (z := z0) TS z.toList; have HE := Lib.hid (he.up hup); have HU4 := Lib.hid ((HV.out.trans hu).trans hup); have HUW := Lib.hid (hu.trans hup); have hld := set_ld HTI.out (there_box w3 z0_is TS); have HWN := Lib.hid (whole_new w3 (z := z0) TS (show z.size = z0.size by rw [HTI.out.size, z0_is.size])); clear hu hup he hrow hl))
        have hwn := HWN.out
        generalize hw5 : World.setCells _ _ _ _ = w5 at HE HU4 HUW hld hwn ⊢
        clear hst hw5 HWN
        generalize w3.heap.size = bt' at hld hwn ⊢
        have c64 := H64.out _ _ hwn
        obtain ⟨be, o, rfl, -, d0, d1, d2, d3⟩ := HE.out.at_ 0 HKK.out
        generalize es[0]'HKK.out = ev at d0 d1 d2 d3 HQ2
        obtain ⟨eo, ek, ea, eb⟩ := ev
        rw [Nat.zero_mul, Nat.add_zero] at d0 d1 d2 d3
        dsimp only at d1 HQ2
        have hn0 : 0 < es.length := HKK.out
        have hst2 := stV_of HTI.out (there_up HUW.out HTH.out)
        by_cases h16 : 16 < k
        · have hek : ek = 2 := HQ2.out.2 h16
          subst hek
          have f1 : (16 : Int) < k := by omega
          clear h16
          go_wp2
          go_roundg (18 - (k + 1))
          case measure => rw [HG.out]; have := HLT.out; omega
          case rel => exact ⟨k + 1, rfl, rfl, by go_num, Lib.hid HLT.out, Lib.hid (by rw [HYT.out]; exact set_ld HTI.out (there_up HUW.out HTH.out)), Lib.hid (World.there_setCells (there_up HUW.out HTH.out) _ _ _), Lib.hid (set_upS HU4.out (Nat.le_refl _))⟩
        · have hek : ¬ ek = 2 := fun h => h16 (HQ2.out.1 h)
          have f1 : ¬ (16 : Int) < k := by omega
          have f2 : decide ((16 : Int) < k) = false := decide_eq_false f1
          have f3 : ¬ (ek : Int) = 2 := by omega
          have f4 : ((ek : Int) == 2) = false := by rw [beq_eq_false_iff_ne]; exact f3
          clear h16 hek
          go_wp2
          go_roundg (18 - (k + 1))
          case measure => rw [HG.out]; have := HLT.out; omega
          case rel => exact ⟨k + 1, rfl, rfl, by go_num, Lib.hid HLT.out, Lib.hid (by rw [HYT.out]; exact set_ld HTI.out (there_up HUW.out HTH.out)), Lib.hid (World.there_setCells (there_up HUW.out HTH.out) _ _ _), Lib.hid (set_upS HU4.out (Nat.le_refl _))⟩
      · obtain rfl : k = 18 := by have := HK.out; omega
        have HU2 := Lib.hid (HU.out.trans HV.out)
        clear HLD HTH HG HU HV hlt
        go_upto_region 20 with fail
        go_cut [7] (fun v7 wx => ∃ g, v7 = .slice (some ⟨g, 0, none⟩) 15 15 ∧ Hid (wx.heap[g]? = some (.cells oAll TS)) ∧ Hid (Up w wx))
        case first =>
          have hb0 := bd_0
          have hb1 := bd_1
          have hb2 := bd_2
          have hb3 := bd_3
          have hb4 := bd_4
          have hb5 := bd_5
          have hb6 := bd_6
          have hb7 := bd_7
          have hb8 := bd_8
          have hb9 := bd_9
          have hb10 := bd_10
          have hb11 := bd_11
          have hb12 := bd_12
          have hb13 := bd_13
          have hb14 := bd_14
          have hbs := bs_15
          go_wp2
          go_meet
          case rel => exact ⟨_, rfl, Lib.hid (Go.heap_alloc_new _ _), Lib.hid (HU2.out.trans (Up.alloc _ _))⟩
        case rest =>
          clear HU2
          obtain ⟨g, rfl, HB, HU⟩ := hcut
          obtain ⟨wd, hwd⟩ : ∃ wd : World, wd = wc := ⟨_, rfl⟩
          subst hwd
          go_wp2
          go_loopg [8] 15 (fun gh iv wr => ∃ m : Nat, gh = 15 - m ∧ iv = .int .i64 (m : Nat) ∧ Hid (m ≤ 15) ∧ Hid (Up wd wr))
          case atStart => exact ⟨0, rfl, rfl, Lib.hid (Nat.zero_le _), Lib.hid (Up.refl _)⟩
          case round =>
            obtain ⟨m, hg2, rfl, HM, HV⟩ := hrel
            have HG := Lib.hid hg2
            clear hg2
            have HU3 := Lib.hid (HU.out.trans HV.out)
            by_cases hm : m < 15
            · have HLT := Lib.hid hm
              have hsc := fun W' (h : TabsP W') => HC.out.scan W' h (oA m) lst0 (oA_is hm) (oA_cnt hm) ⟨#[97, 10]⟩ (by decide)
              unfold ScannedP at hsc
              rw [odd_scan.2, ← z0_lst] at hsc
              have hel := odd_scan.1
              generalize (scanP lst0 (bl ⟨#[97, 10]⟩)).1 = es at hsc hel
              have HSC := Lib.hid hsc
              have HEN := Lib.hid (fun W' => HC.out.end_ W' (oA m) lst0 (oA_is hm) (oA_cnt hm))
              rw [show endP lst0 = [] from rfl] at HEN
              have HOI := Lib.hid (oA_is hm)
              have hl := ldV_up HV.out (odd_ld HB.out hm)
              have heq := eqV_of z0_is z0_is
              rw [eqS_self] at heq
              generalize oA m = y at hl HSC HEN HOI
              have i0 : (0 : Int) ≤ m := by omega
              have i1 : (m : Int) < 15 := by omega
              have e4 : IntKind.i64.wrap ((m : Int) + 1) = (m : Int) + 1 := IntWalk.i64_in _ (by omega)
              clear hm hsc
              go_upto_region 25 with (go_at_call 7; ((with_reducible refine (HSC.out _ (HT.out.up HU3.out)).mono ?_); rintro e w3 ⟨v3, rfl, hrow, hu⟩; obtain ⟨A, c, rfl, -⟩ := levs_row hrow; have hst := stV_of z0_is (there_box w3 z0_is TS); have hup := whole_up w3 (z := z0) TS z0.toList; have HU4 := Lib.hid ((HV.out.trans hu).trans hup); have hl2 := ldV_up (hu.trans hup) hl; have hld := set_ld z0_is (there_box w3 z0_is TS); clear hu hup hrow hl))
              generalize hw5 : World.setCells _ _ _ _ = w5 at hl2 HU4 hld ⊢
              clear hst hw5
              go_wp2_with (go_at_call 8; ((with_reducible refine (HEN.out _).mono ?_); rintro e w6 ⟨v6, rfl, hrow, hu⟩; obtain ⟨A6, c6, rfl, -⟩ := levs_row hrow; have HU6 := Lib.hid (HU4.out.trans hu); clear hu hrow))
              go_roundg (15 - (m + 1))
              case measure => rw [HG.out]; have := HLT.out; omega
              case rel => exact ⟨m + 1, rfl, by go_num, Lib.hid HLT.out, HU6⟩
            · have f0 : decide (m < 15) = false := decide_eq_false hm
              have f1 : ¬ (m : Int) < 15 := by omega
              have HKN := Lib.hid (fun W' (h : TabsP W') => knows_any HC.out W' h)
              clear hm HB HG HU HV
              go_wp2_with (go_at_call 9; ((with_reducible refine (HKN.out _ (HT.out.up HU3.out)).mono ?_); rintro e wz ⟨rfl, hu⟩; have HZ := Lib.hid (HU3.out.trans hu); clear hu))
              go_ret
              exact ⟨rfl, HZ.out⟩
end Go.Proofs.YtilpfngjiolmaaaDoor
