/- PytokenCovers, walked over what the program's Scan answers. -/
import Derived.Test.YtogbgllmmdgaaaaDoorYLawB
namespace Go.Proofs.YtogbgllmmdgaaaaDoor
open Go.RowKit

theorem scanE_cov (l : List Nat) (m : Nat) (d : Int) : Cov (l.take (endL l)) 0 (scanE l 0 m d).1 ∧ StOk (scanE l 0 m d).2 :=
  scan_cov (l.take (endL l)) (l.take (endL l)).length 0 ((l.take (endL l)).drop 0) (st0 m d) (st0_ok m d) rfl (Nat.zero_le _) (by rw [List.drop_zero]; exact Nat.le_refl _)
/-- Where the blanks behind a leaf end. -/
def toN (es : List PEv) (E i : Nat) : Nat := (es[i]?.map (·.a)).getD E
def nxN (es : List PEv) (E i : Nat) : Nat := (es[i]?.map (·.b)).getD E
/-- What is asked of the leaves. -/
structure CovA (line : ByteArray) (E : Nat) (es : List PEv) : Prop where
  le : E ≤ line.size
  ev : ∀ i (h : i < es.length), preB 0 es i ≤ es[i].a ∧ es[i].a < es[i].b ∧ es[i].b ≤ E ∧ (es[i].kind = 2 ∨ (13 ≤ es[i].kind ∧ es[i].kind ≤ 19))
  blk : ∀ i k, i ≤ es.length → preB 0 es i ≤ k → k < toN es E i → isBl (bt line k) = true
  tn : ∀ i, toN es E i ≤ E
  pre : ∀ i, i ≤ es.length → preB 0 es i ≤ E
  nx : ∀ i, i < es.length → preB 0 es (i + 1) = nxN es E i
theorem covA_of {line : ByteArray} {es : List PEv} (h : Cov ((bl line).take (endL (bl line))) 0 es) : CovA line (endL (bl line)) es := by
  have hE := endL_le (bl line)
  rw [bl_len] at hE
  have hl : ((bl line).take (endL (bl line))).length = endL (bl line) := by rw [List.length_take, bl_len]; omega
  have hget : ∀ k, k < endL (bl line) → ((bl line).take (endL (bl line)))[k]? = some (bt line k) := fun k hk => by
    rw [List.getElem?_take_of_lt hk]
    exact bl_at (by omega)
  have he := cov_end h
  rw [hl] at he
  have hev : ∀ i (hi : i < es.length), preB 0 es i ≤ es[i].a ∧ es[i].a < es[i].b ∧ es[i].b ≤ endL (bl line) ∧ (es[i].kind = 2 ∨ (13 ≤ es[i].kind ∧ es[i].kind ≤ 19)) := fun i hi => by
    have := cov_at h i hi
    rw [hl] at this
    exact ⟨this.1, this.2.1, this.2.2.1, this.2.2.2.1⟩
  refine ⟨hE, hev, fun i k hi h1 h2 => ?_, fun i => ?_, fun i hi => ?_, fun i hi => ?_⟩
  · by_cases hlt : i < es.length
    · have ea : toN es (endL (bl line)) i = es[i].a := by unfold toN; simp [hlt]
      rw [ea] at h2
      have := hev i hlt
      exact (cov_at h i hlt).2.2.2.2 k _ h1 h2 (hget k (by omega))
    · have ei : i = es.length := by omega
      have ea : toN es (endL (bl line)) i = endL (bl line) := by unfold toN; simp [ei]
      rw [ea] at h2
      rw [ei] at h1
      exact he.2 k _ h1 (hget k h2)
  · by_cases hlt : i < es.length
    · have ea : toN es (endL (bl line)) i = es[i].a := by unfold toN; simp [hlt]
      have := hev i hlt
      omega
    · have ea : toN es (endL (bl line)) i = endL (bl line) := by unfold toN; rw [List.getElem?_eq_none (by omega)]; rfl
      omega
  · by_cases hlt : i < es.length
    · have := hev i hlt
      omega
    · have ei : i = es.length := by omega
      rw [ei]; exact he.1
  · unfold preB nxN
    rw [if_neg (by omega), Nat.add_sub_cancel]
    simp [hi]
set_option maxRecDepth 100000 in
set_option maxHeartbeats 4000000 in
theorem covers_walk (hC : ScanC) (w : World) (hT : TabsP w) (line : ByteArray) (m : Nat) (d : Int) (hm : m < 256) (hd : (Lit.int .i64 d).wf = true) :
    Calls Tryd.prog 4 #[.string line, .int .u8 (m : Nat), .int .i64 d] w fun e w' => e = .returned (.bool true) ∧ Up w w' := by
  have HR := Lib.hid (fun W (h : TabsP W) => reads_any hC W h)
  have HT := Lib.hid hT
  by_cases hs : (line.size : Int) ≤ 20000
  case neg =>
    have f0 : (20000 : Int) < line.size := by omega
    clear hT hs hm hd hC HR
    go_enter Tryd.func4, Tryd.ntmps4
    go_wp2
    go_ret
    exact ⟨rfl, Up.refl _⟩
  have HE := Lib.hid (fun W => end_any line W (by omega))
  have H1 := Lib.hid (fun W (h : TabsP W) => hC.scan W h line 0 m d (by omega) (by decide) hm hd)
  obtain ⟨hcov, hok⟩ := scanE_cov (bl line) m d
  have hca := covA_of hcov
  have hlen := scanE_len (bl line) 0 m d
  rw [bl_len] at hlen
  generalize scanE (bl line) 0 m d = RR at H1 hca hok hlen hcov
  obtain ⟨es, mk, dp, fj, fs, fc⟩ := RR
  dsimp only at H1 hca hok hlen hcov
  generalize endL (bl line) = E at HE hca hcov
  obtain ⟨n, hn⟩ : ∃ n, es.length = n := ⟨_, rfl⟩
  have hlen' : es.length ≤ line.size := hlen
  have HN := Lib.hid hn
  have HS := Lib.hid hs
  have HCA := Lib.hid hca
  have HOK := Lib.hid hok
  have HNS := Lib.hid (show n ≤ 20000 by omega)
  have f0 : decide ((20000 : Int) < line.size) = false := decide_eq_false (by omega)
  clear hT hs hm hd hC hcov hca hok hlen hlen' hn
  unfold outA at H1
  go_enter Tryd.func4, Tryd.ntmps4
  go_upto_region 5 with (first
    | (go_at_call 10; ((with_reducible refine (H1.out _ (HT.out.up (by first | with_reducible exact Up.refl _ | with_reducible exact HU.out | with_reducible exact HUU.out | with_reducible exact HW5.out | with_reducible exact HWU.out | with_reducible exact HU.out.trans (Up.alloc _ _) | with_reducible exact (HU.out.trans HU2.out).trans (Up.alloc _ _) | with_reducible exact HU1.out.trans HV.out | with_reducible exact HUA.out | with_reducible exact HUP.out | with_reducible exact HUZ.out | with_reducible exact HU1.out))).mono ?_); rintro e w1 ⟨v, rfl, hr, hu⟩; obtain ⟨A, c, rfl, he, -⟩ := evs_row hr; have HEV := Lib.hid he; have HU := Lib.hid hu; clear hr he hu))
    | (go_at_call 13; ((with_reducible refine (HE.out _).mono ?_); rintro e w2 ⟨rfl, rfl⟩)))
  obtain ⟨bo, hbo⟩ : ∃ bo, w1.heap.size = bo := ⟨_, rfl⟩
  have HEV2 := Lib.hid (HEV.out.up (Up.alloc w1 (.cells #[.slice A es.length c, .int .u8 (mk : Nat), .int .i64 dp, .bool fj, .bool fs, .bool fc] 25)))
  have HU2 := Lib.hid (HU.out.trans (Up.alloc w1 (.cells #[.slice A es.length c, .int .u8 (mk : Nat), .int .i64 dp, .bool fj, .bool fs, .bool fc] 25)))
  have HBX : (w1.alloc (.cells #[.slice A es.length c, .int .u8 (mk : Nat), .int .i64 dp, .bool fj, .bool fs, .bool fc] 25)).heap[bo]? = some (.cells #[.slice A es.length c, .int .u8 (mk : Nat), .int .i64 dp, .bool fj, .bool fs, .bool fc] 25) := by rw [← hbo]; exact Go.heap_alloc_new _ _
  rw [HN.out] at HBX HEV2 HU2 ⊢
  simp only [hbo]
  generalize World.alloc w1 _ = W2 at HBX HEV2 HU2 ⊢
  have HBOX := Lib.hid HBX
  clear HBX HEV HU hbo HE H1
  go_wp2
  go_loopg [9, 10] (n + 1) (fun g av iv wr => ∃ i p : Nat, g = n + 1 - i ∧ iv = .int .i64 (i : Nat) ∧ av = .int .i64 (p : Nat) ∧ Hid (i ≤ n + 1) ∧ Hid (i ≤ n → p = preB 0 es i) ∧ Hid (Up W2 wr))
  case atStart => exact ⟨0, 0, rfl, rfl, rfl, Lib.hid (by omega), Lib.hid (fun _ => rfl), Lib.hid (Up.refl _)⟩
  case round =>
    obtain ⟨i, p, hg, rfl, rfl, HI, HP, HV⟩ := hrel
    have HG := Lib.hid hg
    clear hg
    have c0 : wr.cell? ⟨bo, 0, none⟩ = some (.slice A n c) := cell_up HV.out (cellOf HBOX.out rfl)
    by_cases hin : i ≤ n
    · have hp := HP.out hin
      have hpe : p ≤ E := by rw [hp]; exact HCA.out.pre i (by rw [HN.out]; exact hin)
      have HIN := Lib.hid hin
      have HPE := Lib.hid hpe
      have HPP := Lib.hid hp
      obtain ⟨TO, hTO⟩ : ∃ TO, toN es E i = TO := ⟨_, rfl⟩
      obtain ⟨NX, hNX⟩ : ∃ NX, nxN es E i = NX := ⟨_, rfl⟩
      have HTO := Lib.hid hTO
      have HNX := Lib.hid hNX
      have i1 : (i : Int) ≤ n := by omega
      obtain ⟨C, hC⟩ : ∃ C, decide (i < n) = C := ⟨_, rfl⟩
      clear hp hpe hin hTO hNX
      go_upto_if 37 with fail
      go_cut [11, 12] (fun tv nv wx => tv = .int .i64 (TO : Nat) ∧ nv = .int .i64 (NX : Nat) ∧ Hid (Up wr wx))
      case first => as_aux_lemma =>
        have hi := HIN.out
        cases C with
        | false =>
          have hin : i = n := by have := of_decide_eq_false hC; omega
          have h1 : TO = E := by rw [← HTO.out]; unfold toN; rw [List.getElem?_eq_none (by rw [HN.out]; omega)]; rfl
          have h2 : NX = E := by rw [← HNX.out]; unfold nxN; rw [List.getElem?_eq_none (by rw [HN.out]; omega)]; rfl
          subst h1
          have H2 := Lib.hid h2
          clear h2 hC hin hi
          go_wp2
          go_meet
          case rel => exact ⟨rfl, by rw [H2.out], Lib.hid (Up.refl _)⟩
        | true =>
          have hlt : i < n := by have := of_decide_eq_true hC; omega
          have hle : i < es.length := by rw [HN.out]; exact hlt
          obtain ⟨b, o, hAA, -, d0, d1, d2, d3⟩ := (HEV2.out.up HV.out).at_ i hle
          have hev := HCA.out.ev i hle
          have h1 : TO = es[i].a := by rw [← HTO.out]; unfold toN; simp [hle]
          have h2 : NX = es[i].b := by rw [← HNX.out]; unfold nxN; simp [hle]
          obtain ⟨⟨ek, ea, eb⟩, hr⟩ : ∃ r, es[i] = r := ⟨_, rfl⟩
          rw [hr] at d1 d2 d3 hev h1 h2
          dsimp only at d1 d2 d3 hev h1 h2
          subst h1 h2 hAA
          obtain ⟨v1, v2, v3, v4⟩ := hev
          rw [← HPP.out] at v1
          have q0 : decide (TO < p) = false := decide_eq_false (by omega)
          have q1 : decide (NX ≤ TO) = false := decide_eq_false (by omega)
          have q2 : decide (E < NX) = false := decide_eq_false (by omega)
          have hilt : (i : Int) < n := by omega
          have hi0 : (0 : Int) ≤ i := by omega
          by_cases hk : ek = 2
          · subst hk
            clear v1 v2 v3 v4 hr hle hlt hC hi
            go_wp2
            go_meet
            case rel => exact ⟨rfl, rfl, Lib.hid (by first | exact Up.alloc _ _ | exact Up.refl _)⟩
          · obtain ⟨x, hx⟩ : ∃ x : Int, (ek : Int) = x := ⟨_, rfl⟩
            rw [hx] at d1
            have q3 : (x == (2 : Int)) = false := beq_eq_false_iff_ne.2 (by omega)
            have q6 : ¬ x = 2 := by omega
            have q4 : decide (x < 13) = false := decide_eq_false (by omega)
            have q5 : decide ((19 : Int) < x) = false := decide_eq_false (by omega)
            clear v1 v2 v3 v4 hr hle hlt hC hi hk hx
            go_wp2
            go_meet
            case rel => exact ⟨rfl, rfl, Lib.hid (by first | exact Up.alloc _ _ | exact Up.refl _)⟩
      case rest =>
        obtain ⟨rfl, rfl, HX⟩ := hcut
        clear hC c0
        have HPT := Lib.hid (HCA.out.blk i · (by rw [HN.out]; exact HIN.out))
        have hTE := HCA.out.tn i
        rw [HTO.out] at hTE HPT
        have hEl := HCA.out.le
        have HTE := Lib.hid (show TO ≤ line.size by omega)
        have HPL := Lib.hid (show p ≤ line.size by have := HPE.out; omega)
        have HBK := Lib.hid (fun W c => blank_any c W)
        have hpp := HPP.out
        rw [← hpp] at HPT
        clear hTE hEl hpp
        go_wp2
        go_loopg [14] (line.size - p) (fun g kv ws => wc = ws ∧ ∃ k : Nat, g = line.size - k ∧ kv = .int .i64 (k : Nat) ∧ Hid (p ≤ k ∧ k ≤ line.size))
        case atStart => exact ⟨rfl, p, rfl, rfl, Lib.hid ⟨Nat.le_refl _, HPL.out⟩⟩
        case round =>
          obtain ⟨rfl, k, hg2, rfl, HK⟩ := hrel
          have HG2 := Lib.hid hg2
          clear hg2
          by_cases hkt : k < TO
          · have hkl : k < line.size := by have := HTE.out; omega
            obtain ⟨x, hx⟩ : ∃ x, line[k].toNat = x := ⟨_, rfl⟩
            have hbx : bt line k = x := by rw [← bt_eq hkl]; exact hx
            have hb := HPT.out k HK.out.1 hkt
            rw [hbx] at hb
            have hbk := fun W => HBK.out W x
            rw [hb] at hbk
            have HBK2 := Lib.hid hbk
            have HKL := Lib.hid hkl
            have HSL := HS.out
            have k0 : (0 : Int) ≤ k := by omega
            have k1 : (k : Int) < line.size := by omega
            have e0 : IntKind.i64.wrap ((k : Int) + 1) = (k : Int) + 1 := IntWalk.i64_in _ (by omega)
            clear hbx hb hbk HSL
            go_wp2_with (go_at_call 14; ((with_reducible refine (HBK2.out _).mono ?_); rintro e w3 ⟨rfl, rfl⟩))
            go_roundg (line.size - (k + 1))
            case measure => rw [HG2.out]; have := HKL.out; omega
            case rel => exact ⟨rfl, k + 1, rfl, by go_num, Lib.hid ⟨by have := HK.out.1; omega, HKL.out⟩⟩
          · have g0 : decide (k < TO) = false := decide_eq_false hkt
            have e1 : IntKind.i64.wrap ((i : Int) + 1) = (i : Int) + 1 := IntWalk.i64_in _ (by have := HIN.out; have := HNS.out; omega)
            clear hkt
            go_wp2
            go_roundg (n + 1 - (i + 1))
            case measure => rw [HG.out]; have := HIN.out; omega
            case rel => exact ⟨i + 1, NX, rfl, by go_num, rfl, Lib.hid (by have := HIN.out; omega), Lib.hid (fun h => by rw [HCA.out.nx i (by rw [HN.out]; omega), HNX.out]), Lib.hid (HV.out.trans HX.out)⟩
    · have hi : i = n + 1 := by have := HI.out; omega
      have g0 : decide (i ≤ n) = false := decide_eq_false hin
      have b0 := cell_up HV.out (cellOf HBOX.out (show _ = some (.int .u8 (mk : Nat)) from rfl) : W2.cell? ⟨bo, 1, none⟩ = _)
      have b1 := cell_up HV.out (cellOf HBOX.out (show _ = some (.int .i64 dp) from rfl) : W2.cell? ⟨bo, 2, none⟩ = _)
      have b2 := cell_up HV.out (cellOf HBOX.out (show _ = some (.bool fs) from rfl) : W2.cell? ⟨bo, 4, none⟩ = _)
      have b3 := cell_up HV.out (cellOf HBOX.out (show _ = some (.bool fc) from rfl) : W2.cell? ⟨bo, 5, none⟩ = _)
      have hok := HOK.out
      have hm4 : (mk : Int) ≤ 4 := by have := hok.mark; dsimp only at this; omega
      have hd0 : 0 ≤ dp := hok.d0
      have hd1 : dp ≤ 1048576 := hok.d1
      have hcol : fc = true → fs = true ∧ dp = 0 := hok.col
      have HUU := Lib.hid (HU2.out.trans HV.out)
      cases fc with
      | true =>
        obtain ⟨hfs, hdp⟩ := hcol rfl
        subst hfs hdp
        clear hok hin hi
        go_wp2_with (go_at_call 12; ((with_reducible refine (HR.out _ (HT.out.up (by first | with_reducible exact Up.refl _ | with_reducible exact HU.out | with_reducible exact HUU.out | with_reducible exact HW5.out | with_reducible exact HWU.out | with_reducible exact HU.out.trans (Up.alloc _ _) | with_reducible exact (HU.out.trans HU2.out).trans (Up.alloc _ _) | with_reducible exact HU1.out.trans HV.out | with_reducible exact HUA.out | with_reducible exact HUP.out | with_reducible exact HUZ.out | with_reducible exact HU1.out))).mono ?_); rintro e w3 ⟨rfl, hu⟩; have HU3 := Lib.hid (HUU.out.trans hu); clear hu))
        go_ret
        exact ⟨rfl, HU3.out⟩
      | false =>
        clear hok hin hi hcol
        go_wp2_with (go_at_call 12; ((with_reducible refine (HR.out _ (HT.out.up (by first | with_reducible exact Up.refl _ | with_reducible exact HU.out | with_reducible exact HUU.out | with_reducible exact HW5.out | with_reducible exact HWU.out | with_reducible exact HU.out.trans (Up.alloc _ _) | with_reducible exact (HU.out.trans HU2.out).trans (Up.alloc _ _) | with_reducible exact HU1.out.trans HV.out | with_reducible exact HUA.out | with_reducible exact HUP.out | with_reducible exact HUZ.out | with_reducible exact HU1.out))).mono ?_); rintro e w3 ⟨rfl, hu⟩; have HU3 := Lib.hid (HUU.out.trans hu); clear hu))
        go_ret
        exact ⟨rfl, HU3.out⟩
end Go.Proofs.YtogbgllmmdgaaaaDoor
