/- PytokenSplit, walked over what the program's Scan answers. -/
import Derived.Test.YtogbgllmmdgaaaaDoorYLawD
import Derived.Test.YtogbgllmmdgaaaaDoorYSplit2
namespace Go.Proofs.YtogbgllmmdgaaaaDoor
open Go.RowKit

theorem evCells_len (es : List PEv) : (evCells es).length = es.length * 4 := by
  induction es with
  | nil => rfl
  | cons e r ih =>
    have e1 : evCells (e :: r) = [.int .u8 3, .int .u8 (e.kind : Nat), .int .i64 (e.a : Nat), .int .i64 (e.b : Nat)] ++ evCells r := rfl
    rw [e1, List.length_append, ih, List.length_cons]
    simp
    omega
theorem evCells_one (es : List PEv) : ∀ u ∈ evCells es, u.oneCell' = true := fun u hu => by
  obtain ⟨e, -, he⟩ := List.mem_flatMap.1 hu
  simp only [List.mem_cons, List.not_mem_nil, or_false] at he
  rcases he with rfl | rfl | rfl | rfl <;> rfl
theorem evs_news {w : World} {ad : Addr} {n : Nat} {es : List PEv} (h : Evs w (some ad) n es) : ∀ (j : Nat) (u : Value), (evCells es)[j]? = some u → w.cell? (ad.add j) = some u := by
  intro j u hj
  have hl : j < es.length * 4 := by
    rw [← evCells_len]
    exact (List.getElem?_eq_some_iff.1 hj).1
  obtain ⟨b, o, hA, -, c0, c1, c2, c3⟩ := h.at_ (j / 4) (by omega)
  obtain rfl := Option.some.inj hA
  obtain ⟨g0, g1, g2, g3⟩ := evCells_at es (j / 4) (by omega)
  have ea : (⟨b, o, none⟩ : Addr).add j = ⟨b, o + j, none⟩ := by unfold Addr.add; split <;> simp_all
  rw [ea]
  have hm : j % 4 = 0 ∨ j % 4 = 1 ∨ j % 4 = 2 ∨ j % 4 = 3 := by omega
  rcases hm with e | e | e | e
  · rw [show j / 4 * 4 = j from by omega] at g0 c0
    rw [g0] at hj
    exact c0.trans hj
  · rw [show j / 4 * 4 + 1 = j from by omega] at g1
    rw [show o + j / 4 * 4 + 1 = o + j from by omega] at c1
    rw [g1] at hj
    exact c1.trans hj
  · rw [show j / 4 * 4 + 2 = j from by omega] at g2
    rw [show o + j / 4 * 4 + 2 = o + j from by omega] at c2
    rw [g2] at hj
    exact c2.trans hj
  · rw [show j / 4 * 4 + 3 = j from by omega] at g3
    rw [show o + j / 4 * 4 + 3 = o + j from by omega] at c3
    rw [g3] at hj
    exact c3.trans hj
theorem row_none {w : World} {B n c : Nat} {A : Option Addr} {es : List PEv} (h : RowE w B (.slice A n c) es) : A = none → c = 0 := fun hA => by
  subst hA
  rcases owns_cell h with ⟨e, -⟩ | ⟨g, c', e, -⟩
  · injection e
  · injection e with e; cases e
theorem no10_of {a : ByteArray} (h : ∀ j, j < a.size → bt a j ≠ 10) : 10 ∉ bl a := fun hm => by
  obtain ⟨j, hj, he⟩ := List.getElem_of_mem hm
  have hj' : j < a.size := by rw [← bl_len]; exact hj
  have := bl_at hj'
  rw [List.getElem?_eq_getElem hj, he] at this
  exact h j hj' (Option.some.inj this).symm
set_option maxRecDepth 100000 in
set_option maxHeartbeats 4000000 in
theorem split_walk (hC : ScanC) (w : World) (hT : TabsP w) (a b : ByteArray) (d : Int) (hd : (Lit.int .i64 d).wf = true) :
    Calls Tryd.prog 6 #[.string a, .string b, .int .i64 d] w fun e w' => e = .returned (.bool true) ∧ Up w w' := by
  have HR := Lib.hid (fun W (h : TabsP W) => reads_any hC W h)
  have HT := Lib.hid hT
  by_cases ha : (a.size : Int) ≤ 2000
  case neg =>
    have f0 : (2000 : Int) < a.size := by omega
    clear hT ha hd hC HR
    go_enter Tryd.func6, Tryd.ntmps6
    go_wp2
    go_ret
    exact ⟨rfl, Up.refl _⟩
  have f0 : decide ((2000 : Int) < a.size) = false := decide_eq_false (by omega)
  by_cases hb : (b.size : Int) ≤ 2000
  case neg =>
    have f1 : (2000 : Int) < b.size := by omega
    clear hT ha hb hd hC HR
    go_enter Tryd.func6, Tryd.ntmps6
    go_wp2
    go_ret
    exact ⟨rfl, Up.refl _⟩
  have f1 : decide ((2000 : Int) < b.size) = false := decide_eq_false (by omega)
  have hsa : (a ++ (⟨#[32]⟩ : ByteArray)).size = a.size + 1 := by rw [ByteArray.size_append]; rfl
  have hsb : (a ++ (⟨#[32]⟩ : ByteArray) ++ b).size = a.size + 1 + b.size := by rw [ByteArray.size_append, hsa]
  have H1 := Lib.hid (fun W (h : TabsP W) => hC.scan W h (a ++ (⟨#[32]⟩ : ByteArray)) 0 0 d (by omega) (by decide) (by decide) hd)
  have H2 := Lib.hid (fun W (h : TabsP W) (x : Int) (h0 : 0 ≤ x) (h1 : x ≤ 1048576) => hC.scan W h b 0 0 x (by omega) (by decide) (by decide) (by simp [Lit.wf, IntKind.min, IntKind.max, IntKind.signed, IntKind.bits]; omega))
  have H3 := Lib.hid (fun W (h : TabsP W) => hC.scan W h (a ++ (⟨#[32]⟩ : ByteArray) ++ b) 0 0 d (by omega) (by decide) (by decide) hd)
  have e1 : bl (a ++ (⟨#[32]⟩ : ByteArray)) = bl a ++ [32] := bl_append _ _
  have e2 : bl (a ++ (⟨#[32]⟩ : ByteArray) ++ b) = bl a ++ 32 :: bl b := by rw [bl_append, e1, List.append_assoc]; rfl
  have HSP := Lib.hid (fun (h10 : 10 ∉ bl a) => split_all (bl a) (bl b) d h10)
  have hl1 := scanE_len (bl a ++ [32]) 0 0 d
  rw [← e1, bl_len, hsa] at hl1
  have hcv := covA_of (scanE_cov (bl a ++ [32]) 0 d |>.1 |> fun h => by rw [← e1] at h; exact h)
  have hok := (scanE_cov (bl a ++ [32]) 0 d).2
  rw [e1] at H1 hcv hl1
  rw [e2] at H3
  rw [show ((0 : Nat) : Int) = 0 from rfl] at H1 H2 H3
  have HA := Lib.hid ha
  have HB := Lib.hid hb
  generalize hX : scanE (bl a ++ [32]) 0 0 d = X at H1 HSP hcv hok hl1
  obtain ⟨xs, m1, d1, j1, s1, q1⟩ := X
  dsimp only at H1 HSP hcv hok hl1
  obtain ⟨n1, hn1⟩ : ∃ n1, xs.length = n1 := ⟨_, rfl⟩
  have HN1 := Lib.hid hn1
  have HL1 := Lib.hid (show n1 ≤ 2001 by omega)
  have HOK := Lib.hid hok
  have g0 : ¬ (9223372036854775807 : Int) < (a.size : Int) + 1 := by omega
  clear hT hX hd hC ha hb e1 e2 hcv hok hl1 hn1 hsa hsb
  unfold outA at H1 H2 H3
  go_enter Tryd.func6, Tryd.ntmps6
  go_wp2
  go_loopg [7] a.size (fun g iv wr => w = wr ∧ ∃ i : Nat, g = a.size - i ∧ iv = .int .i64 (i : Nat) ∧ Hid (i ≤ a.size) ∧ Hid (∀ j, j < i → bt a j ≠ 10))
  case atStart => exact ⟨rfl, 0, rfl, rfl, Lib.hid (Nat.zero_le _), Lib.hid (fun j h => absurd h (Nat.not_lt_zero _))⟩
  case round =>
    obtain ⟨rfl, i, hg, rfl, HI, HNO⟩ := hrel
    have HG := Lib.hid hg
    clear hg
    by_cases hlt : i < a.size
    · obtain ⟨x, hx⟩ : ∃ x, a[i].toNat = x := ⟨_, rfl⟩
      have hbx : bt a i = x := by rw [← bt_eq hlt]; exact hx
      have i0 : (0 : Int) ≤ i := by omega
      have i1 : (i : Int) < a.size := by omega
      have e0 : IntKind.i64.wrap ((i : Int) + 1) = (i : Int) + 1 := IntWalk.i64_in _ (by have := HA.out; omega)
      have HLT := Lib.hid hlt
      by_cases h10 : x = 10
      · subst h10
        clear hbx
        go_wp2_with (go_at_call 12; ((with_reducible refine (HR.out _ (HT.out.up (by first | with_reducible exact Up.refl _ | with_reducible exact HU.out | with_reducible exact HUU.out | with_reducible exact HW5.out | with_reducible exact HWU.out | with_reducible exact HU.out.trans (Up.alloc _ _) | with_reducible exact (HU.out.trans HU2.out).trans (Up.alloc _ _) | with_reducible exact HU1.out.trans HV.out | with_reducible exact HU2.out.trans HUA.out | with_reducible exact HUP.out | with_reducible exact HUZ.out | with_reducible exact HU1.out))).mono ?_); rintro e w6 ⟨rfl, hu⟩))
        go_ret
        exact ⟨rfl, hu⟩
      · have HNO2 := Lib.hid (fun j (hj : j < i + 1) => (show bt a j ≠ 10 from by
          by_cases e : j = i
          · subst e; rw [hbx]; exact h10
          · exact HNO.out j (by omega)))
        have h10' : ((x : Int) == 10) = false := beq_eq_false_iff_ne.2 (by omega)
        clear hbx h10
        go_wp2
        go_roundg (a.size - (i + 1))
        case measure => rw [HG.out]; have := HLT.out; omega
        case rel => exact ⟨rfl, i + 1, rfl, by go_num, Lib.hid HLT.out, HNO2⟩
    · have hi : i = a.size := by have := HI.out; omega
      have f2 : decide (i < a.size) = false := decide_eq_false hlt
      have hno : 10 ∉ bl a := no10_of (fun j hj => HNO.out j (by omega))
      have HSP2 := Lib.hid (HSP.out hno)
      clear hlt hi hno HSP HNO HG HI
      go_upto_region 9 with (go_at_call 10; ((with_reducible refine (H1.out _ (HT.out.up (by first | with_reducible exact Up.refl _ | with_reducible exact HU.out | with_reducible exact HUU.out | with_reducible exact HW5.out | with_reducible exact HWU.out | with_reducible exact HU.out.trans (Up.alloc _ _) | with_reducible exact (HU.out.trans HU2.out).trans (Up.alloc _ _) | with_reducible exact HU1.out.trans HV.out | with_reducible exact HU2.out.trans HUA.out | with_reducible exact HUP.out | with_reducible exact HUZ.out | with_reducible exact HU1.out))).mono ?_); rintro e w1 ⟨v, rfl, hr, hu⟩; obtain ⟨A1, c1, rfl, he, -⟩ := evs_row hr; have HC1 := Lib.hid (row_none hr); have HEV1 := Lib.hid he; have HU1 := Lib.hid hu; rw [HN1.out]; clear hr he hu))
      have HBX := Lib.hid (box_after (Up.refl (w1.alloc (.cells #[.slice A1 n1 c1, .int .u8 (m1 : Nat), .int .i64 d1, .bool j1, .bool s1, .bool q1] 25))))
      have HEV1 := Lib.hid (HEV1.out.up (Up.alloc w1 (.cells #[.slice A1 n1 c1, .int .u8 (m1 : Nat), .int .i64 d1, .bool j1, .bool s1, .bool q1] 25)))
      have HU1 := Lib.hid (HU1.out.trans (Up.alloc w1 (.cells #[.slice A1 n1 c1, .int .u8 (m1 : Nat), .int .i64 d1, .bool j1, .bool s1, .bool q1] 25)))
      obtain ⟨bx, hbx⟩ : ∃ bx, w1.heap.size = bx := ⟨_, rfl⟩
      simp only [hbx]
      rw [hbx] at HBX
      generalize World.alloc w1 _ = W1 at HBX HEV1 HU1 ⊢
      rw [HN1.out] at HEV1
      clear hbx g0
      go_wp2
      go_loopg [9] n1 (fun g iv wr => ∃ j : Nat, g = n1 - j ∧ iv = .int .i64 (j : Nat) ∧ Hid (j ≤ n1) ∧ Hid (∀ k (h : k < xs.length), k < j → goodK (xs[k]).kind) ∧ Hid (Up W1 wr))
      case atStart => exact ⟨0, rfl, rfl, Lib.hid (Nat.zero_le _), Lib.hid (fun k _ h => absurd h (Nat.not_lt_zero _)), Lib.hid (Up.refl _)⟩
      case round =>
        obtain ⟨j, hg2, rfl, HJ, HGO, HV⟩ := hrel
        have HG2 := Lib.hid hg2
        clear hg2
        have a0 : wr.cell? ⟨bx, 0, none⟩ = some (.slice A1 n1 c1) := cell_up HV.out (cellOf HBX.out rfl)
        by_cases hlt : j < n1
        · have hl : j < xs.length := by rw [HN1.out]; exact hlt
          obtain ⟨g1, o1, hA1, -, x0, x1, x2, x3⟩ := (HEV1.out.up HV.out).at_ j hl
          obtain ⟨kd, hkd⟩ : ∃ kd, (xs[j]).kind = kd := ⟨_, rfl⟩
          rw [hkd] at x1
          subst hA1
          have j0 : (0 : Int) ≤ j := by omega
          have j1 : (j : Int) < n1 := by omega
          have e0 : IntKind.i64.wrap ((j : Int) + 1) = (j : Int) + 1 := IntWalk.i64_in _ (by have := HL1.out; omega)
          have HLT := Lib.hid hlt
          obtain ⟨GK, hGK⟩ : ∃ GK : Bool, (kd == 13 || kd == 14 || kd == 15 || kd == 17) = GK := ⟨_, rfl⟩
          have HGK := Lib.hid hGK
          have HKD := Lib.hid hkd
          have HUU := Lib.hid (HU1.out.trans HV.out)
          clear hGK hkd hlt
          go_upto_region 13 with fail
          go_cut [66] (fun cv wx => cv = .bool (!GK) ∧ wr = wx)
          case first => as_aux_lemma =>
            have hGK := HGK.out
            by_cases h0 : kd = 13
            · subst h0
              have hG : true = GK := hGK
              subst hG
              clear hGK
              go_wp2
              go_meet
              case rel => exact ⟨rfl, rfl⟩
            by_cases h1 : kd = 14
            · subst h1
              have hG : true = GK := hGK
              subst hG
              clear hGK
              go_wp2
              go_meet
              case rel => exact ⟨rfl, rfl⟩
            by_cases h2 : kd = 15
            · subst h2
              have hG : true = GK := hGK
              subst hG
              clear hGK
              go_wp2
              go_meet
              case rel => exact ⟨rfl, rfl⟩
            by_cases h3 : kd = 17
            · subst h3
              have hG : true = GK := hGK
              subst hG
              clear hGK
              go_wp2
              go_meet
              case rel => exact ⟨rfl, rfl⟩
            have hG : false = GK := by rw [← hGK]; simp [h0, h1, h2, h3]
            subst hG
            have p0 : ((kd : Int) == (13 : Int)) = false := beq_eq_false_iff_ne.2 (by omega)
            have r0 : ¬ (kd : Int) = (13 : Int) := by omega
            have p1 : ((kd : Int) == (14 : Int)) = false := beq_eq_false_iff_ne.2 (by omega)
            have r1 : ¬ (kd : Int) = (14 : Int) := by omega
            have p2 : ((kd : Int) == (15 : Int)) = false := beq_eq_false_iff_ne.2 (by omega)
            have r2 : ¬ (kd : Int) = (15 : Int) := by omega
            have p3 : ((kd : Int) == (17 : Int)) = false := beq_eq_false_iff_ne.2 (by omega)
            have r3 : ¬ (kd : Int) = (17 : Int) := by omega
            clear hGK h0 h1 h2 h3
            have RR := Lib.hid (And.intro r0 (And.intro r1 (And.intro r2 r3)))
            go_wp2
            go_meet
            case rel => exact ⟨congrArg Value.bool (by simp [RR.out.1, RR.out.2.1, RR.out.2.2.1, RR.out.2.2.2]), rfl⟩
          case rest =>
            obtain ⟨rfl, hwc⟩ := hcut
            subst hwc
            cases GK with
            | false =>
              go_wp2_with (go_at_call 12; ((with_reducible refine (HR.out _ (HT.out.up (by first | with_reducible exact Up.refl _ | with_reducible exact HU.out | with_reducible exact HUU.out | with_reducible exact HW5.out | with_reducible exact HWU.out | with_reducible exact HU.out.trans (Up.alloc _ _) | with_reducible exact (HU.out.trans HU2.out).trans (Up.alloc _ _) | with_reducible exact HU1.out.trans HV.out | with_reducible exact HU2.out.trans HUA.out | with_reducible exact HUP.out | with_reducible exact HUZ.out | with_reducible exact HU1.out))).mono ?_); rintro e w6 ⟨rfl, hu⟩; have HW6 := Lib.hid (HUU.out.trans hu); clear hu))
              go_ret
              exact ⟨rfl, HW6.out⟩
            | true =>
              have hgk : goodK kd := by
                have := HGK.out
                unfold goodK
                simp only [Bool.or_eq_true, beq_iff_eq] at this
                omega
              have HGO2 := Lib.hid (fun k (h : k < xs.length) (hk : k < j + 1) => (show goodK (xs[k]).kind from by
                by_cases e : k = j
                · subst e; rw [HKD.out]; exact hgk
                · exact HGO.out k h (by omega)))
              clear hgk
              go_wp2
              go_roundg (n1 - (j + 1))
              case measure => rw [HG2.out]; have := HLT.out; omega
              case rel => exact ⟨j + 1, rfl, by go_num, Lib.hid HLT.out, HGO2, HV⟩
        · have hj : j = n1 := by have := HJ.out; omega
          have f3 : decide (j < n1) = false := decide_eq_false hlt
          have hall : ∀ e ∈ xs, goodK e.kind := fun e he => by
            obtain ⟨k, hk, rfl⟩ := List.getElem_of_mem he
            exact HGO.out k hk (by have := HN1.out; omega)
          have HSP3 := Lib.hid (HSP2.out hall)
          clear hlt hj hall HGO HJ HG2 HSP2
          have hx0 : 0 ≤ d1 := HOK.out.d0
          have hx1 : d1 ≤ 1048576 := HOK.out.d1
          have H2X := Lib.hid (fun W (h : TabsP W) => H2.out W h d1 hx0 hx1)
          clear hx0 hx1 H2
          have hly := scanE_len (bl b) 0 0 d1
          rw [bl_len] at hly
          have hcy := scanE_cov (bl b) 0 d1
          have hca := covA_of hcy.1
          rw [HSP3.out] at H3
          generalize scanE (bl b) 0 0 d1 = Y at H2X H3 hly hcy hca
          obtain ⟨ys, my, dy, jy, sy, qy⟩ := Y
          dsimp only [withF] at H2X H3 hly hcy hca
          obtain ⟨n2, hn2⟩ : ∃ n2, ys.length = n2 := ⟨_, rfl⟩
          have HN2 := Lib.hid hn2
          have HL2 := Lib.hid (show n2 ≤ 2000 by have := HB.out; omega)
          have HCA := Lib.hid hca
          have b2 : wr.cell? ⟨bx, 2, none⟩ = some (.int .i64 d1) := cell_up HV.out (cellOf HBX.out rfl)
          have HU2 := Lib.hid (HU1.out.trans HV.out)
          have HEV1 := Lib.hid (HEV1.out.up HV.out)
          obtain ⟨ZS, hZS⟩ : ∃ ZS, xs ++ ys.map (shE ((bl a).length + 1)) = ZS := ⟨_, rfl⟩
          rw [hZS] at H3
          obtain ⟨n3, hn3⟩ : ∃ n3, ZS.length = n3 := ⟨_, rfl⟩
          have HN3 := Lib.hid hn3
          have HZS := Lib.hid hZS
          have HN3S := Lib.hid (show n3 = n1 + n2 by rw [← hn3, ← hZS, List.length_append, List.length_map, HN1.out, hn2])
          clear hly hcy hca hn2 H1 HSP3 hZS hn3
          go_upto_region 16 with (go_at_call 10; ((with_reducible refine (H2X.out _ (HT.out.up (by first | with_reducible exact Up.refl _ | with_reducible exact HU.out | with_reducible exact HUU.out | with_reducible exact HW5.out | with_reducible exact HWU.out | with_reducible exact HU.out.trans (Up.alloc _ _) | with_reducible exact (HU.out.trans HU2.out).trans (Up.alloc _ _) | with_reducible exact HU1.out.trans HV.out | with_reducible exact HU2.out.trans HUA.out | with_reducible exact HUP.out | with_reducible exact HUZ.out | with_reducible exact HU1.out))).mono ?_); rintro e w2 ⟨v, rfl, hr, hu⟩; obtain ⟨A2, c2, rfl, he, -⟩ := evs_row hr; have HEV2 := Lib.hid he; have HU3 := Lib.hid hu; rw [HN2.out]; clear hr he hu))
          have HBY := Lib.hid (box_after (Up.refl (w2.alloc (.cells #[.slice A2 n2 c2, .int .u8 (my : Nat), .int .i64 dy, .bool jy, .bool sy, .bool qy] 25))))
          have HUA := Lib.hid (HU3.out.trans (Up.alloc w2 (.cells #[.slice A2 n2 c2, .int .u8 (my : Nat), .int .i64 dy, .bool jy, .bool sy, .bool qy] 25)))
          have HEV2 := Lib.hid (HEV2.out.up (Up.alloc w2 (.cells #[.slice A2 n2 c2, .int .u8 (my : Nat), .int .i64 dy, .bool jy, .bool sy, .bool qy] 25)))
          obtain ⟨by_, hby⟩ : ∃ by_, w2.heap.size = by_ := ⟨_, rfl⟩
          simp only [hby]
          rw [hby] at HBY
          generalize World.alloc w2 _ = W2 at HBY HUA HEV2 ⊢
          clear hby HU3
          have g0 : ¬ (9223372036854775807 : Int) < (a.size : Int) + 1 := by have := HA.out; omega
          have g1 : ¬ (9223372036854775807 : Int) < (a.size : Int) + 1 + (b.size : Int) := by have := HA.out; have := HB.out; omega
          go_upto_region 17 with (go_at_call 10; ((with_reducible refine (H3.out _ (HT.out.up (by first | with_reducible exact Up.refl _ | with_reducible exact HU.out | with_reducible exact HUU.out | with_reducible exact HW5.out | with_reducible exact HWU.out | with_reducible exact HU.out.trans (Up.alloc _ _) | with_reducible exact (HU.out.trans HU2.out).trans (Up.alloc _ _) | with_reducible exact HU1.out.trans HV.out | with_reducible exact HU2.out.trans HUA.out | with_reducible exact HUP.out | with_reducible exact HUZ.out | with_reducible exact HU1.out))).mono ?_); rintro e w3 ⟨v, rfl, hr, hu⟩; obtain ⟨A3, c3, rfl, he, -⟩ := evs_row hr; have HEV3 := Lib.hid he; have HUB := Lib.hid hu; rw [HN3.out]; clear hr he hu))
          clear g0 g1
          have HBZ := Lib.hid (box_after (Up.refl (w3.alloc (.cells #[.slice A3 n3 c3, .int .u8 (my : Nat), .int .i64 dy, .bool jy, .bool (s1 || sy), .bool (if sy = true then qy else q1)] 25))))
          have HUC := Lib.hid (HUB.out.trans (Up.alloc w3 (.cells #[.slice A3 n3 c3, .int .u8 (my : Nat), .int .i64 dy, .bool jy, .bool (s1 || sy), .bool (if sy = true then qy else q1)] 25)))
          have HEV3 := Lib.hid (HEV3.out.up (Up.alloc w3 (.cells #[.slice A3 n3 c3, .int .u8 (my : Nat), .int .i64 dy, .bool jy, .bool (s1 || sy), .bool (if sy = true then qy else q1)] 25)))
          obtain ⟨bz, hbz⟩ : ∃ bz, w3.heap.size = bz := ⟨_, rfl⟩
          simp only [hbz]
          rw [hbz] at HBZ
          generalize hW3 : World.alloc w3 _ = W3
          rw [hW3] at HBZ HUC HEV3
          clear hbz HUB hW3
          rw [HN3.out] at HEV3
          rw [HN2.out] at HEV2
          have HBX := Lib.hid ((Below.block HUC.out bx (Nat.lt_of_lt_of_le (Nat.lt_of_lt_of_le (Array.getElem?_eq_some_iff.1 HBX.out).1 (Below.size HV.out)) (Below.size HUA.out))).trans ((Below.block HUA.out bx (Nat.lt_of_lt_of_le (Array.getElem?_eq_some_iff.1 HBX.out).1 (Below.size HV.out))).trans ((Below.block HV.out bx (Array.getElem?_eq_some_iff.1 HBX.out).1).trans HBX.out)))
          have HBY := Lib.hid ((Below.block HUC.out by_ (Array.getElem?_eq_some_iff.1 HBY.out).1).trans HBY.out)
          have HEV1 := Lib.hid (HEV1.out.up (HUA.out.trans HUC.out))
          have HEV2 := Lib.hid (HEV2.out.up HUC.out)
          have HUP := Lib.hid (HU2.out.trans (HUA.out.trans HUC.out))
          clear a0 b2
          have a0 : ∀ ob, (W3.alloc ob).cell? ⟨bx, 0, none⟩ = some (.slice A1 n1 c1) := fun ob => cell_up (Up.alloc W3 ob) (cellOf HBX.out rfl)
          go_cut [13] (fun vv wx => Hid (RowE wx W3.heap.size vv xs) ∧ Hid (Up W3 wx))
          case first =>
            obtain ⟨i0, hi0, hz0, hz1, hz2⟩ := info_parts infoEvent
            have hown : (W3.alloc (.cells #[] 33)).ownsRow W3.heap.size 33 4 (.slice (some ⟨W3.heap.size, 0, none⟩) 0 0) 0 [] := ⟨rfl, .inr ⟨W3.heap.size, 0, #[], rfl, Nat.le_refl _, Go.heap_alloc_new _ _, Nat.le_refl _, by decide, rfl, rfl⟩⟩
            cases hA : A1 with
            | none =>
              have hx0 : xs = [] := by
                cases hxs : xs with
                | nil => rfl
                | cons e r =>
                  obtain ⟨g, o, hg, -⟩ := HEV1.out.at_ 0 (by rw [hxs]; simp)
                  rw [hA] at hg; cases hg
              have hn0 : n1 = 0 := by rw [← HN1.out, hx0]; rfl
              subst hA hn0
              have hc0 : c1 = 0 := HC1.out rfl
              subst hc0
              have HX0 := Lib.hid hx0
              clear hx0
              go_wp2_with (at_builtin; (refine wpList_append_own_none rfl _ _ 23 rfl W3.heap.size 33 i0 4 Tryd.underlying23 hi0 _ _ _ rfl hown rfl ?_))
              go_wp2
              all_goals (go_meet; case rel => exact ⟨Lib.hid (by rw [HX0.out]; exact hown), Lib.hid (Up.alloc W3 _)⟩)
            | some ad =>
              subst hA
              have hnews : ∀ (j : Nat) (u : Value), (evCells xs)[j]? = some u → (W3.alloc (.cells #[] 33)).cell? (ad.add j) = some u := evs_news (HEV1.out.up (Up.alloc W3 _))
              have hlen : (evCells xs).length = n1 * 4 := by rw [evCells_len, HN1.out]
              go_wp2_with (at_builtin; (refine wpList_append_own _ rfl _ _ 23 rfl W3.heap.size 33 i0 (.agg #[.int .u8 0, .int .u8 0, .int .i64 0, .int .i64 0]) 4 24 Tryd.underlying23 hi0 hz0 hz1 hz2 rfl (by decide) _ _ _ rfl hown ad n1 c1 (evCells xs) rfl hlen hnews (evCells_one xs) (by unfold maxLen; have := HL1.out; omega) (by have := HL1.out; omega) (by rw [World.size_alloc]; omega) ?_; intro v4 w4 hown4 hgrow4 _))
              go_wp2
              all_goals (go_meet; case rel => exact ⟨Lib.hid (by unfold RowE; rw [HN1.out]; rw [Nat.zero_add] at hown4; exact hown4), Lib.hid ((Up.alloc W3 _).grown hgrow4 (by rw [World.size_alloc]; omega) (fun q hq => by have : W3.heap.size = q := Option.some.inj hq; omega))⟩)
          case rest =>
            obtain ⟨HROW, HUD⟩ := hcut
            clear a0 HC1
            go_wp2
            go_loopg [13, 14] n2 (fun g vv iv wr => ∃ i : Nat, g = n2 - i ∧ iv = .int .i64 (i : Nat) ∧ Hid (i ≤ n2) ∧ Hid (RowE wr W3.heap.size vv (xs ++ (ys.take i).map (shE ((bl a).length + 1)))) ∧ Hid (Up W3 wr))
            case atStart => exact ⟨0, rfl, rfl, Lib.hid (Nat.zero_le _), Lib.hid (by rw [List.take_zero, List.map_nil, List.append_nil]; exact HROW.out), HUD⟩
            case round =>
              clear HROW
              obtain ⟨k, hg4, rfl, HK, HROW, HW⟩ := hrel
              have HG4 := Lib.hid hg4
              clear hg4
              have y0 : wr.cell? ⟨by_, 0, none⟩ = some (.slice A2 n2 c2) := cell_up HW.out (cellOf HBY.out rfl)
              obtain ⟨XS, hXS⟩ : ∃ XS, xs ++ (ys.take k).map (shE ((bl a).length + 1)) = XS := ⟨_, rfl⟩
              rw [hXS] at HROW
              by_cases hlt : k < n2
              · have hl : k < ys.length := by rw [HN2.out]; exact hlt
                have hxl : XS.length = n1 + k := by rw [← hXS, List.length_append, List.length_map, List.length_take, HN1.out, HN2.out]; omega
                obtain ⟨g2, o2, hA2, -, x0, x1, x2, x3⟩ := (HEV2.out.up HW.out).at_ k hl
                have hev := HCA.out.ev k hl
                have hEb := HCA.out.le
                have hnx : xs ++ (ys.take (k + 1)).map (shE ((bl a).length + 1)) = XS ++ [shE ((bl a).length + 1) ys[k]] := by
                  rw [← hXS, List.take_add_one, List.getElem?_eq_getElem hl, Option.toList_some, List.map_append, List.append_assoc]
                  rfl
                obtain ⟨⟨kd, ea, eb⟩, hr⟩ : ∃ r, ys[k] = r := ⟨_, rfl⟩
                rw [hr] at x1 x2 x3 hev hnx
                dsimp only [shE] at x1 x2 x3 hev hnx
                obtain ⟨p1, hp1⟩ : ∃ p1, ea + a.size = p1 := ⟨_, rfl⟩
                obtain ⟨p2, hp2⟩ : ∃ p2, ea + ((bl a).length + 1) = p2 := ⟨_, rfl⟩
                obtain ⟨p3, hp3⟩ : ∃ p3, eb + a.size = p3 := ⟨_, rfl⟩
                obtain ⟨p4, hp4⟩ : ∃ p4, eb + ((bl a).length + 1) = p4 := ⟨_, rfl⟩
                rw [hp2, hp4] at hnx
                rw [bl_len] at hp2 hp4
                have hal := HA.out
                have hbl := HB.out
                have e1 : IntKind.i64.wrap ((ea : Int) + a.size) = (p1 : Int) := (IntWalk.i64_in _ (by omega)).trans (by omega)
                have e2 : IntKind.i64.wrap ((p1 : Int) + 1) = (p2 : Int) := (IntWalk.i64_in _ (by omega)).trans (by omega)
                have e3 : IntKind.i64.wrap ((eb : Int) + a.size) = (p3 : Int) := (IntWalk.i64_in _ (by omega)).trans (by omega)
                have e4 : IntKind.i64.wrap ((p3 : Int) + 1) = (p4 : Int) := (IntWalk.i64_in _ (by omega)).trans (by omega)
                have k0 : (0 : Int) ≤ k := by omega
                have k1 : (k : Int) < n2 := by omega
                have e0 : IntKind.i64.wrap ((k : Int) + 1) = (k : Int) + 1 := IntWalk.i64_in _ (by have := HL2.out; omega)
                have HLT := Lib.hid hlt
                have HXL := Lib.hid hxl
                have HNX := Lib.hid hnx
                have HWZ := Lib.hid (show W3.heap.size ≤ wr.heap.size from Below.size HW.out)
                have HUV := HW
                subst hA2
                clear hr hev hEb hl hxl hnx hXS hp1 hp2 hp3 hp4 hal hbl hlt
                go_wp2_with (at_builtin; (obtain ⟨i0, hi0, hz0, hz1, hz2⟩ := info_parts infoEvent; have ho := HROW.out; unfold RowE at ho; refine wpList_append_own _ rfl _ _ 23 rfl W3.heap.size 33 i0 (.agg #[.int .u8 0, .int .u8 0, .int .i64 0, .int .i64 0]) 4 24 Tryd.underlying23 hi0 hz0 hz1 hz2 rfl (by decide) _ _ _ rfl ((ho.alloc _).alloc _) _ 1 1 [.int .u8 3, .int .u8 (kd : Nat), .int .i64 (p2 : Nat), .int .i64 (p4 : Nat)] rfl rfl ?c1 ?c2 ?c3 ?c4 ?c5 ?_))
                case c1 =>
                  intro jj u hj
                  match jj, hj with
                  | 0, hj => simp at hj; subst hj; simp [Addr.add, go_sem]
                  | 1, hj => simp at hj; subst hj; simp [Addr.add, go_sem]
                  | 2, hj => simp at hj; subst hj; simp [Addr.add, go_sem]
                  | 3, hj => simp at hj; subst hj; simp [Addr.add, go_sem]
                case c2 => intro u hu; simp at hu; rcases hu with rfl | rfl | rfl | rfl <;> rfl
                case c3 => have := HXL.out; have := HL1.out; have := HL2.out; have := HLT.out; unfold maxLen; omega
                case c4 => have := HXL.out; have := HL1.out; have := HL2.out; have := HLT.out; omega
                case c5 => have := HWZ.out; simp; omega
                intro v5 w5 hown5 hgrow5 _
                have R := Lib.hid (erow_snoc (HUV.out.trans (Up.alloc wr _)) (show RowE (wr.alloc _) W3.heap.size _ XS from ho.alloc _) hown5 hgrow5)
                clear hown5 hgrow5 ho
                go_wp2
                go_roundg (n2 - (k + 1))
                case measure => rw [HG4.out]; have := HLT.out; omega
                case rel => exact ⟨k + 1, rfl, by go_num, Lib.hid HLT.out, Lib.hid (by rw [HNX.out]; exact R.out.1), Lib.hid R.out.2⟩
              · have hk : k = n2 := by have := HK.out; omega
                have hfin : XS = ZS := by rw [← hXS, ← HZS.out, List.take_of_length_le (by rw [HN2.out]; omega)]
                rw [hfin] at HROW
                obtain ⟨A4, c4, rfl, he4, -⟩ := evs_row HROW.out
                rw [HN3.out] at he4 ⊢
                have HEV4 := Lib.hid he4
                have HEV3 := Lib.hid (HEV3.out.up HW.out)
                have f5 : decide (k < n2) = false := decide_eq_false hlt
                have u2 : wr.cell? ⟨by_, 2, none⟩ = some (.int .i64 dy) := cell_up HW.out (cellOf HBY.out rfl)
                have u1 : wr.cell? ⟨by_, 1, none⟩ = some (.int .u8 (my : Nat)) := cell_up HW.out (cellOf HBY.out rfl)
                have u3 : wr.cell? ⟨by_, 3, none⟩ = some (.bool jy) := cell_up HW.out (cellOf HBY.out rfl)
                have u4 : wr.cell? ⟨by_, 4, none⟩ = some (.bool sy) := cell_up HW.out (cellOf HBY.out rfl)
                have u5 : wr.cell? ⟨by_, 5, none⟩ = some (.bool qy) := cell_up HW.out (cellOf HBY.out rfl)
                have t4 : wr.cell? ⟨bx, 4, none⟩ = some (.bool s1) := cell_up HW.out (cellOf HBX.out rfl)
                have t5 : wr.cell? ⟨bx, 5, none⟩ = some (.bool q1) := cell_up HW.out (cellOf HBX.out rfl)
                have z0 : wr.cell? ⟨bz, 0, none⟩ = some (.slice A3 n3 c3) := cell_up HW.out (cellOf HBZ.out rfl)
                have z1 : wr.cell? ⟨bz, 1, none⟩ = some (.int .u8 (my : Nat)) := cell_up HW.out (cellOf HBZ.out rfl)
                have z2 : wr.cell? ⟨bz, 2, none⟩ = some (.int .i64 dy) := cell_up HW.out (cellOf HBZ.out rfl)
                have z3 : wr.cell? ⟨bz, 3, none⟩ = some (.bool jy) := cell_up HW.out (cellOf HBZ.out rfl)
                have z4 : wr.cell? ⟨bz, 4, none⟩ = some (.bool (s1 || sy)) := cell_up HW.out (cellOf HBZ.out rfl)
                have z5 : wr.cell? ⟨bz, 5, none⟩ = some (.bool (if sy = true then qy else q1)) := cell_up HW.out (cellOf HBZ.out rfl)
                have HSE := Lib.hid (sameEv_any wr A3 A4 n3 c3 c4 ZS HEV3.out HEV4.out (by have := HN3S.out; have := HL1.out; have := HL2.out; omega))
                have HUZ := Lib.hid (HUP.out.trans HW.out)
                have HZZ := Lib.hid (And.intro t4 (And.intro u1 (And.intro u2 (And.intro u3 (And.intro u4 (And.intro u5 (And.intro z1 (And.intro z2 (And.intro z3 (And.intro z4 z5))))))))))
                clear hk hfin hXS hlt he4
                cases sy with
                | true =>
                  go_wp2_with (first
                    | (go_at_call 15; ((with_reducible refine (HSE.out).mono ?_); rintro e w5 ⟨rfl, hu⟩; have t4 := cell_up hu HZZ.out.1; have u1 := cell_up hu HZZ.out.2.1; have u2 := cell_up hu HZZ.out.2.2.1; have u3 := cell_up hu HZZ.out.2.2.2.1; have u4 := cell_up hu HZZ.out.2.2.2.2.1; have u5 := cell_up hu HZZ.out.2.2.2.2.2.1; have z1 := cell_up hu HZZ.out.2.2.2.2.2.2.1; have z2 := cell_up hu HZZ.out.2.2.2.2.2.2.2.1; have z3 := cell_up hu HZZ.out.2.2.2.2.2.2.2.2.1; have z4 := cell_up hu HZZ.out.2.2.2.2.2.2.2.2.2.1; have z5 := cell_up hu HZZ.out.2.2.2.2.2.2.2.2.2.2; have HW5 := Lib.hid (HUZ.out.trans hu); clear hu))
                    | (go_at_call 12; ((with_reducible refine (HR.out _ (HT.out.up (by first | with_reducible exact Up.refl _ | with_reducible exact HU.out | with_reducible exact HUU.out | with_reducible exact HW5.out | with_reducible exact HWU.out | with_reducible exact HU.out.trans (Up.alloc _ _) | with_reducible exact (HU.out.trans HU2.out).trans (Up.alloc _ _) | with_reducible exact HU1.out.trans HV.out | with_reducible exact HU2.out.trans HUA.out | with_reducible exact HUP.out | with_reducible exact HUZ.out | with_reducible exact HU1.out))).mono ?_); rintro e w6 ⟨rfl, hu⟩; have HW6 := Lib.hid (HW5.out.trans hu); clear hu)))
                  all_goals (go_ret; exact ⟨by simp, HW6.out⟩)
                | false =>
                  go_wp2_with (first
                    | (go_at_call 15; ((with_reducible refine (HSE.out).mono ?_); rintro e w5 ⟨rfl, hu⟩; have t4 := cell_up hu HZZ.out.1; have u1 := cell_up hu HZZ.out.2.1; have u2 := cell_up hu HZZ.out.2.2.1; have u3 := cell_up hu HZZ.out.2.2.2.1; have u4 := cell_up hu HZZ.out.2.2.2.2.1; have u5 := cell_up hu HZZ.out.2.2.2.2.2.1; have z1 := cell_up hu HZZ.out.2.2.2.2.2.2.1; have z2 := cell_up hu HZZ.out.2.2.2.2.2.2.2.1; have z3 := cell_up hu HZZ.out.2.2.2.2.2.2.2.2.1; have z4 := cell_up hu HZZ.out.2.2.2.2.2.2.2.2.2.1; have z5 := cell_up hu HZZ.out.2.2.2.2.2.2.2.2.2.2; have HW5 := Lib.hid (HUZ.out.trans hu); clear hu))
                    | (go_at_call 12; ((with_reducible refine (HR.out _ (HT.out.up (by first | with_reducible exact Up.refl _ | with_reducible exact HU.out | with_reducible exact HUU.out | with_reducible exact HW5.out | with_reducible exact HWU.out | with_reducible exact HU.out.trans (Up.alloc _ _) | with_reducible exact (HU.out.trans HU2.out).trans (Up.alloc _ _) | with_reducible exact HU1.out.trans HV.out | with_reducible exact HU2.out.trans HUA.out | with_reducible exact HUP.out | with_reducible exact HUZ.out | with_reducible exact HU1.out))).mono ?_); rintro e w6 ⟨rfl, hu⟩; have HW6 := Lib.hid (HW5.out.trans hu); clear hu)))
                  all_goals (go_ret; exact ⟨by simp, HW6.out⟩)
end Go.Proofs.YtogbgllmmdgaaaaDoor
