/- SeqPlaces, walked for any program whose rows answer so. -/
import Derived.Test.YthiiemjbigcinaaQTell
namespace Go.Proofs.Ythiiemjbigcinaa
open Go.RowKit
section
variable {S : World → Nat → (Nat → Prop) → Row → Prop} (hC : SeqC S)
include hC
set_option maxRecDepth 100000 in
set_option maxHeartbeats 8000000 in
theorem places_walk (w : World) (A : Option Addr) (n c : Nat) (L : List Deed) (off : Int) (hL : AArg w A n L) (ho : (Lit.int .i64 off).wf = true) : Calls Try.prog 4 #[.slice A n c, .int .i64 off] w fun e w' => e = .returned (.bool true) ∧ Below w.heap.size w w' := by
  have HL := Lib.hid hL
  have HGr := Lib.hid (great_any w A n c L hL)
  have HW := Lib.hid (fun W => wakes_any hC W)
  have HNw := Lib.hid (hC.new w)
  have HSp := Lib.hid (fun W sb R h X hX h1 h2 => splice_up hC w W sb R h X hX h1 h2)
  have HMo := Lib.hid (fun sb R W W' (h : KS S w sb R W) hu => h.more hC (W' := W') hu)
  have HOk := Lib.hid (fun sb R W (h : KS S w sb R W) => hC.ok h.at_)
  have HLn := Lib.hid (fun sb R W (h : KS S w sb R W) => hC.len _ _ _ _ h.at_)
  have HSz := Lib.hid (fun sb R W (h : KS S w sb R W) => hC.size _ _ _ _ h.at_)
  have HSm := Lib.hid (fun sb R W (h : KS S w sb R W) i hi => sum_in hC h.at_ i hi)
  have HAt := Lib.hid (fun sb R W (h : KS S w sb R W) i hi => at_in hC h.at_ i hi)
  have HFi := Lib.hid (fun sb R W (h : KS S w sb R W) i hi x h1 h2 => find_in hC h.at_ i hi x h1 h2)
  have HFo := Lib.hid (fun sb R W (h : KS S w sb R W) x h1 h2 => find_out hC h.at_ x h1 h2)
  have hoff := wf64 ho
  clear hL hC ho
  go_enter Try.func4, Try.ntmps4
  go_wp2_with (first
    | (go_at_call 16; ((with_reducible refine HGr.out.mono ?_); rintro e w1 ⟨B, rfl, hB, rfl⟩; have HB := Lib.hid hB; clear hB; cases B))
    | (go_at_call 15; ((with_reducible refine (HW.out _).mono ?_); rintro e w1 ⟨rfl, hu⟩; have HU := Lib.hid hu; clear hu))
    | (go_at_call 17; ((with_reducible refine HNw.out.mono ?_); rintro e w1 ⟨sb, rfl, hb1, hu1⟩; have HS0 : Hid (GS S w sb L 0 w1) := Lib.hid ⟨[], ⟨hb1, hu1⟩, Nat.le_refl _⟩; clear hb1 hu1)))
  · -- not great
    obtain ⟨hn80, hcnt, hboth⟩ := HB.out trivial
    have HCnt := Lib.hid hcnt
    have HBo := Lib.hid hboth
    clear hcnt hboth
    go_loopg [6] n (fun g iv wr => ∃ i : Nat, g = n - i ∧ iv = .int .i64 (i : Nat) ∧ i ≤ n ∧ Hid (GS S w sb L i wr))
    case atStart => exact ⟨0, rfl, rfl, Nat.zero_le _, HS0⟩
    case round =>
      obtain ⟨i, hg, rfl, hi, HS⟩ := hrel
      have HG := Lib.hid hg
      clear hg
      by_cases hlt : i < n
      · have hil : i < L.length := by have := HL.out.len; omega
        obtain ⟨R, hK, hR⟩ := HS.out
        obtain ⟨bl, o, rfl, hbl, d0, d1, d2, d3, d4⟩ := (HL.out.up hK.up).at_ i hil
        have hok := HL.out.ok _ (List.getElem_mem hil)
        rw [act_eq hil] at d0 d1 d2 d3 d4 hok
        obtain ⟨X, hX⟩ : ∃ X, L.getD i act0 = X := ⟨_, rfl⟩
        have hc1 : cntN L (i + 1) = cntN L i + X.n := by rw [← hX]; rfl
        have hb1 : X.n ≤ 2000 ∧ X.m ≤ 2000 := by rw [← hX]; exact HBo.out i hlt
        rw [hX] at d0 d1 d2 d3 d4 hok
        have hii : (i : Int) < n := by omega
        have HLT := Lib.hid hlt
        have HUr := Lib.hid hK.up
        have hblw : Hid (bl < w.heap.size) := Lib.hid (by obtain ⟨b2, o2, e2, hb2, -⟩ := HL.out.at_ i hil; injection e2 with e2; injection e2 with e2; omega)
        have HP := Lib.hid (HSp.out wr.drew sb R (HMo.out sb R wr _ hK (Up.drew wr)) X hok (by omega) (by omega))
        have HSk := Lib.hid (show GS S w sb L (i + 1) wr from ⟨R, hK, by omega⟩)
        have HNx := Lib.hid (show ∀ W, KS S w sb (splR R X.i X.k X.L X.Z) W → GS S w sb L (i + 1) W from fun W h => ⟨_, h, Nat.le_trans splR_len (by rw [hc1]; have := hok.x.txs.len; omega)⟩)
        obtain ⟨xd, xi, xk, xA, xn, xc, xL, xB, xm, xe, xZ⟩ := X
        dsimp only at d0 d1 d2 d3 d4 HP HNx
        by_cases hd : xd = 0
        · subst hd
          clear hX hbl hil hlt hok hc1 hb1 hK hR
          have hS : wr.cell? ⟨bl, o + i * 5 + 1, none⟩ = some (.int .i64 xi) ∧ wr.cell? ⟨bl, o + i * 5 + 2, none⟩ = some (.int .i64 xk) ∧ wr.cell? ⟨bl, o + i * 5 + 3, none⟩ = some (.slice xA xn xc) ∧ wr.cell? ⟨bl, o + i * 5 + 4, none⟩ = some (.slice xB xm xe) := ⟨d1, d2, d3, d4⟩
          go_wp2
          clear d0 d1 d2 d3 d4
          go_region_held3 (fun w' => w'.cell? ⟨bl, o + i * 5 + 1, none⟩ = some (.int .i64 xi) ∧ w'.cell? ⟨bl, o + i * 5 + 2, none⟩ = some (.int .i64 xk) ∧ w'.cell? ⟨bl, o + i * 5 + 3, none⟩ = some (.slice xA xn xc) ∧ w'.cell? ⟨bl, o + i * 5 + 4, none⟩ = some (.slice xB xm xe))
            (first | assumption | with_reducible exact ⟨cell_up (Up.drew _) (by assumption : _ ∧ _).1, cell_up (Up.drew _) (by assumption : _ ∧ _).2.1, cell_up (Up.drew _) (by assumption : _ ∧ _).2.2.1, cell_up (Up.drew _) (by assumption : _ ∧ _).2.2.2⟩ | exact ⟨ht5.cell hnG hS.1, ht5.cell hnG hS.2.1, ht5.cell hnG hS.2.2.1, ht5.cell hnG hS.2.2.2⟩)
            ((go_at_call 11; ((with_reducible refine HP.out.mono ?_); rintro e w5 ⟨rfl, hb5, ht5⟩; have hnG : ¬ (w.heap.size ≤ bl ∧ bl < wr.drew.heap.size) := (fun h => Nat.lt_irrefl _ (Nat.lt_of_lt_of_le hblw.out h.1)))))
          have HS5 := Lib.hid (HNx.out w5 hb5)
          clear hS hb5 ht5 hnG
          go_wp2
          go_roundg (n - (i + 1))
          case measure => rw [HG.out]; have := HLT.out; omega
          case rel => exact ⟨i + 1, rfl, by go_num, by have := HLT.out; omega, HS5⟩
        · have f1 : decide (xd = 0) = false := decide_eq_false hd
          clear hX hbl hil hlt hok hc1 hb1 hK hR d1 d2 d3 d4
          go_wp2
          go_roundg (n - (i + 1))
          case measure => rw [HG.out]; have := HLT.out; omega
          case rel => exact ⟨i + 1, rfl, by go_num, by have := HLT.out; omega, HSk⟩
      · obtain rfl : i = n := by omega
        obtain ⟨R, hK, hR⟩ := HS.out
        have hok := HOk.out _ _ _ hK
        have HK0 := Lib.hid hK
        have hRl : R.length ≤ 2000 := by have := HCnt.out; omega
        obtain ⟨N, hN⟩ : ∃ N, R.length = N := ⟨_, rfl⟩
        rw [hN] at hRl
        have HOR := Lib.hid hok
        have HN := Lib.hid hN
        have f0 : decide (i < i) = false := decide_eq_false hlt
        have hLn := fun W h => HLn.out sb R W h
        rw [hN] at hLn
        have HLn := Lib.hid hLn
        clear hLn
        have hT : tot R = plc R N := by rw [← hN]; rfl
        have HT := Lib.hid hT
        clear hlt hK hR hok hN hT HSp HNw HGr HS
        go_wp2
        go_loopg [7, 8] N (fun g av iv wr => ∃ k : Nat, g = N - k ∧ av = .int .i64 (plc R k) ∧ iv = .int .i64 (k : Nat) ∧ k ≤ N ∧ Hid (KS S w sb R wr))
        case atStart => exact ⟨0, rfl, rfl, rfl, Nat.zero_le _, HK0⟩
        case round =>
          clear HK0
          obtain ⟨k, hg, rfl, rfl, hk, HK⟩ := hrel
          have HG := Lib.hid hg
          clear hg
          by_cases hlt : k < N
          · have hkl : k < R.length := by rw [HN.out]; exact hlt
            have a1 := HOR.out.plc0 k
            have a2 : plc R (k + 1) ≤ tot R := HOR.out.plcT hkl
            have a3 : plc R (k + 1) = plc R k + sz R k := rfl
            have a4 := HOR.out.all
            have a5 := HOR.out.nn k
            have h1 := fun W h => HSm.out sb R W h k (by omega)
            have h2 := fun W h => HAt.out sb R W h k hkl
            have h3 := fun W h (hz : 0 < sz R k) => HFi.out sb R W h k hkl (plc R k) (by omega) (by omega)
            have h4 := fun W h (hz : 0 < sz R k) => HFi.out sb R W h k hkl (plc R k + sz R k - 1) (by omega) (by omega)
            obtain ⟨P, hP⟩ : ∃ P, plc R k = P := ⟨_, rfl⟩
            obtain ⟨Z, hZ⟩ : ∃ Z, sz R k = Z := ⟨_, rfl⟩
            rw [hP] at a1 a3 h1 h3 h4 ⊢
            rw [hZ] at a3 a5 h2 h3 h4
            rw [Int.sub_self] at h3
            rw [show P + Z - 1 - P = Z - 1 from by omega] at h4
            have HP3 := Lib.hid a3
            have H1 := Lib.hid h1
            have H2 := Lib.hid h2
            have q1 : IntKind.i64.wrap (P + Z) = P + Z := IntWalk.i64_in _ (by omega)
            have q2 : IntKind.i64.wrap (P + Z - 1) = P + Z - 1 := IntWalk.i64_in _ (by omega)
            have q3 : IntKind.i64.wrap (Z - 1) = Z - 1 := IntWalk.i64_in _ (by omega)
            have f1 : decide (Z < 0) = false := decide_eq_false (by omega)
            have hkk : (k : Int) < N := by omega
            have HLT := Lib.hid hlt
            by_cases hz : 0 < Z
            · have H3 := Lib.hid (fun W h => h3 W h hz)
              have H4 := Lib.hid (fun W h => h4 W h hz)
              clear h1 h2 h3 h4 a1 a2 a3 a4 a5 hP hZ hkl hlt
              go_wp2_with (first
                | (go_at_call 12; ((with_reducible refine (HLn.out _ HK.out).mono ?_); rintro e w5 ⟨rfl, hu5⟩; have HK := Lib.hid (HMo.out sb R _ _ HK.out hu5); clear hu5))
                | (go_at_call 8; ((with_reducible refine (H1.out _ HK.out).mono ?_); rintro e w5 ⟨rfl, hu5⟩; have HK := Lib.hid (HMo.out sb R _ _ HK.out hu5); clear hu5))
                | (go_at_call 7; ((with_reducible refine (H2.out _ HK.out).mono ?_); rintro e w5 ⟨rfl, hu5⟩; have HK := Lib.hid (HMo.out sb R _ _ HK.out hu5); clear hu5))
                | (go_at_call 9; ((with_reducible refine (H3.out _ HK.out).mono ?_); rintro e w5 ⟨rfl, hu5⟩; have HK := Lib.hid (HMo.out sb R _ _ HK.out hu5); clear hu5))
                | (go_at_call 9; ((with_reducible refine (H4.out _ HK.out).mono ?_); rintro e w5 ⟨rfl, hu5⟩; have HK := Lib.hid (HMo.out sb R _ _ HK.out hu5); clear hu5)))
              go_roundg (N - (k + 1))
              case measure => rw [HG.out]; have := HLT.out; omega
              case rel => exact ⟨k + 1, rfl, by rw [HP3.out], by go_num, by have := HLT.out; omega, HK⟩
            · have f2 : decide (0 < Z) = false := decide_eq_false hz
              clear h1 h2 h3 h4 a1 a2 a3 a4 a5 hP hZ hkl hlt
              go_wp2_with (first
                | (go_at_call 12; ((with_reducible refine (HLn.out _ HK.out).mono ?_); rintro e w5 ⟨rfl, hu5⟩; have HK := Lib.hid (HMo.out sb R _ _ HK.out hu5); clear hu5))
                | (go_at_call 8; ((with_reducible refine (H1.out _ HK.out).mono ?_); rintro e w5 ⟨rfl, hu5⟩; have HK := Lib.hid (HMo.out sb R _ _ HK.out hu5); clear hu5))
                | (go_at_call 7; ((with_reducible refine (H2.out _ HK.out).mono ?_); rintro e w5 ⟨rfl, hu5⟩; have HK := Lib.hid (HMo.out sb R _ _ HK.out hu5); clear hu5)))
              go_roundg (N - (k + 1))
              case measure => rw [HG.out]; have := HLT.out; omega
              case rel => exact ⟨k + 1, rfl, by rw [HP3.out], by go_num, by have := HLT.out; omega, HK⟩
          · obtain rfl : k = N := by omega
            have f0 : decide (k < k) = false := decide_eq_false hlt
            have hSm := fun W h => HSm.out sb R W h k (by rw [HN.out]; omega)
            have hSz := fun W h => HSz.out sb R W h
            have hFo := fun W h => HFo.out sb R W h off hoff
            have a4 := HOR.out.all
            have a0 := HOR.out.plc0 k
            rw [HT.out] at hSz hFo a4
            by_cases hin : 0 ≤ off ∧ off < plc R k
            · obtain ⟨j, hj, h1, h2⟩ := plc_find HOR.out.nn hin.1 k hin.2
              have hjl : j < R.length := by rw [HN.out]; exact hj
              have a1 := HOR.out.plc0 j
              have hF := fun W h => HFi.out sb R W h j hjl off h1 h2
              have hS2 := fun W h => HSm.out sb R W h j (by omega)
              obtain ⟨P, hP⟩ : ∃ P, plc R j = P := ⟨_, rfl⟩
              obtain ⟨T, hT⟩ : ∃ T, plc R k = T := ⟨_, rfl⟩
              obtain ⟨i0, i1⟩ := hin
              rw [hP] at hF hS2 a1 h1
              rw [hT] at hSm hSz a4 a0 i1 ⊢
              have q1 : IntKind.i64.wrap (P + (off - P)) = off := (IntWalk.i64_in _ (by omega)).trans (by omega)
              have H1 := Lib.hid hSm
              have H2 := Lib.hid hSz
              have H3 := Lib.hid hF
              have H4 := Lib.hid hS2
              clear hSm hSz hF hS2 hFo hP hT h1 h2 hj hjl hlt
              go_wp2_with (first
                | (go_at_call 12; ((with_reducible refine (HLn.out _ HK.out).mono ?_); rintro e w5 ⟨rfl, hu5⟩; have HK := Lib.hid (HMo.out sb R _ _ HK.out hu5); clear hu5))
                | (go_at_call 13; ((with_reducible refine (H2.out _ HK.out).mono ?_); rintro e w5 ⟨rfl, hu5⟩; have HK := Lib.hid (HMo.out sb R _ _ HK.out hu5); clear hu5))
                | (go_at_call 8; ((with_reducible refine (H1.out _ HK.out).mono ?_); rintro e w5 ⟨rfl, hu5⟩; have HK := Lib.hid (HMo.out sb R _ _ HK.out hu5); clear hu5))
                | (go_at_call 8; ((with_reducible refine (H4.out _ HK.out).mono ?_); rintro e w5 ⟨rfl, hu5⟩; have HK := Lib.hid (HMo.out sb R _ _ HK.out hu5); clear hu5))
                | (go_at_call 9; ((with_reducible refine (H3.out _ HK.out).mono ?_); rintro e w5 ⟨rfl, hu5⟩; have HK := Lib.hid (HMo.out sb R _ _ HK.out hu5); clear hu5))
                | (go_at_call 15; ((with_reducible refine (HW.out _).mono ?_); rintro e w6 ⟨rfl, hu⟩; have HU := Lib.hid hu; clear hu)))
              go_ret
              exact ⟨rfl, HK.out.up.trans HU.out⟩
            · have hFo := fun W h => hFo W h hin
              obtain ⟨T, hT⟩ : ∃ T, plc R k = T := ⟨_, rfl⟩
              rw [hT] at hSm hSz a4 a0 hin ⊢
              have H1 := Lib.hid hSm
              have H2 := Lib.hid hSz
              have H3 := Lib.hid hFo
              by_cases h0 : 0 ≤ off
              · have f1 : decide (off < T) = false := decide_eq_false (by omega)
                clear hSm hSz hFo hT hin hlt
                go_wp2_with (first
                  | (go_at_call 12; ((with_reducible refine (HLn.out _ HK.out).mono ?_); rintro e w5 ⟨rfl, hu5⟩; have HK := Lib.hid (HMo.out sb R _ _ HK.out hu5); clear hu5))
                  | (go_at_call 13; ((with_reducible refine (H2.out _ HK.out).mono ?_); rintro e w5 ⟨rfl, hu5⟩; have HK := Lib.hid (HMo.out sb R _ _ HK.out hu5); clear hu5))
                  | (go_at_call 8; ((with_reducible refine (H1.out _ HK.out).mono ?_); rintro e w5 ⟨rfl, hu5⟩; have HK := Lib.hid (HMo.out sb R _ _ HK.out hu5); clear hu5))
                  | (go_at_call 9; ((with_reducible refine (H3.out _ HK.out).mono ?_); rintro e w5 ⟨rfl, hu5⟩; have HK := Lib.hid (HMo.out sb R _ _ HK.out hu5); clear hu5))
                  | (go_at_call 15; ((with_reducible refine (HW.out _).mono ?_); rintro e w6 ⟨rfl, hu⟩; have HU := Lib.hid hu; clear hu)))
                go_ret
                exact ⟨rfl, HK.out.up.trans HU.out⟩
              · have f1 : decide (0 ≤ off) = false := decide_eq_false h0
                clear hSm hSz hFo hT hin hlt
                go_wp2_with (first
                  | (go_at_call 12; ((with_reducible refine (HLn.out _ HK.out).mono ?_); rintro e w5 ⟨rfl, hu5⟩; have HK := Lib.hid (HMo.out sb R _ _ HK.out hu5); clear hu5))
                  | (go_at_call 13; ((with_reducible refine (H2.out _ HK.out).mono ?_); rintro e w5 ⟨rfl, hu5⟩; have HK := Lib.hid (HMo.out sb R _ _ HK.out hu5); clear hu5))
                  | (go_at_call 8; ((with_reducible refine (H1.out _ HK.out).mono ?_); rintro e w5 ⟨rfl, hu5⟩; have HK := Lib.hid (HMo.out sb R _ _ HK.out hu5); clear hu5))
                  | (go_at_call 9; ((with_reducible refine (H3.out _ HK.out).mono ?_); rintro e w5 ⟨rfl, hu5⟩; have HK := Lib.hid (HMo.out sb R _ _ HK.out hu5); clear hu5))
                  | (go_at_call 15; ((with_reducible refine (HW.out _).mono ?_); rintro e w6 ⟨rfl, hu⟩; have HU := Lib.hid hu; clear hu)))
                go_ret
                exact ⟨rfl, HK.out.up.trans HU.out⟩
  · go_ret
    exact ⟨rfl, HU.out⟩
end
end Go.Proofs.Ythiiemjbigcinaa
