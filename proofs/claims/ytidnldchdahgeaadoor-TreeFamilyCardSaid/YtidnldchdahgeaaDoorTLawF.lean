/- Each node but the root is among its parent's kids, once: the statement TreeFamily, walked. -/
import Derived.Test.YtidnldchdahgeaaDoorTLawB
import Derived.Test.YtidnldchdahgeaaDoorTFamM
import Derived.Test.YtidnldchdahgeaaDoorTIntsO
namespace Go.Proofs.YtidnldchdahgeaaDoor
open Go.RowKit

theorem st_head {L : List Nd} {n : Nat} (h : Good L n) : ∀ {i : Nat}, i < n → ∃ T, st L i = 0 :: T
  | 0, _ => ⟨[], rfl⟩
  | i + 1, hi => by
    obtain ⟨T, hT⟩ := st_head h (show i < n by omega)
    obtain ⟨h3, -⟩ := h.2 i hi
    obtain ⟨d, hd⟩ : ∃ d, (dep L (i + 1)).toNat = d + 1 := ⟨(dep L (i + 1)).toNat - 1, by omega⟩
    rw [st_succ, hT, hd]
    exact ⟨_, rfl⟩
theorem path_facts {L : List Nd} {n i P : Nat} (h : Good L n) (hi : i < n) (hP : dep L i = (P : Nat)) : (pathL L i).length = P + 1 ∧ (pathL L i)[0]? = some i ∧ (pathL L i)[P]? = some 0 := by
  have h1 := path_st h (i + 1) (Nat.lt_succ_self i) hi
  have h2 := (h.len hi).1
  have hl : (pathL L i).length = P + 1 := by rw [h1, List.length_reverse]; omega
  refine ⟨hl, by rw [pathL_eq]; rfl, ?_⟩
  obtain ⟨T, hT⟩ := st_head h hi
  rw [hT, List.reverse_cons] at h1
  have h3 : T.length = P := by rw [h1, List.length_append, List.length_reverse, List.length_singleton] at hl; omega
  rw [h1, List.getElem?_append_right (by rw [List.length_reverse]; omega), List.length_reverse, h3, Nat.sub_self]
  rfl
theorem row_at {w : World} {B m c : Nat} {A : Option Addr} {l : List Nat} (h : RowI w B (.slice A m c) (toI l)) {j x : Nat} (hj : l[j]? = some x) : ∃ g, A = some ⟨g, 0, none⟩ ∧ w.cell? ⟨g, j, none⟩ = some (.int .i64 (x : Nat)) := by
  obtain ⟨A', c', e, hf⟩ := RowI.form h
  obtain ⟨rfl, -, -⟩ : A = A' ∧ m = (toI l).length ∧ c = c' := by injection e with e1 e2 e3; exact ⟨e1, e2, e3⟩
  obtain ⟨hl, hx⟩ := List.getElem?_eq_some_iff.1 hj
  obtain ⟨g, e1, -, h2⟩ := hf j (by rw [toI_len]; exact hl)
  refine ⟨g, e1, ?_⟩
  rw [h2]
  unfold toI
  rw [List.getElem_map, hx]
theorem wrong_in {L : List Nd} {n : Nat} (hF : fitB L = true) (hl : L.length = n) {k : Nat} (hk : k < n) : wrongT L (k : Nat) = 0 := by
  unfold wrongT
  rw [if_pos hF, if_neg (by omega)]
theorem kids_c {W : World} {A : Option Addr} {n c k K : Nat} {L : List Nd} (hL : NArg W A n L) (hc : n ≤ c) (hn : n ≤ 10000) (hw : wrongT L (k : Nat) = 0) (hK : (kidsL L n k).length = K) :
    Calls Tryd.prog 17 #[.slice A n c, .int .i64 (k : Nat)] W fun e w' => ∃ Ak ck, e = .returned (.tuple #[.slice Ak K ck, .int .i64 0]) ∧ RowI w' W.heap.size (.slice Ak K ck) (toI (kidsL L n k)) ∧ Up W w' := by
  refine ((callsIn_wide (n := 4)).1 (kids_in W A n c L hL hc hn (k : Nat))).mono ?_
  rintro e w' ⟨v, rfl, hr, hu⟩
  rw [if_pos hw, Int.toNat_natCast] at hr
  obtain ⟨Ak, ck, rfl, -⟩ := RowI.form hr
  rw [toI_len, hK] at hr ⊢
  rw [hw]
  exact ⟨Ak, ck, rfl, hr, hu⟩
theorem path_c {W : World} {A : Option Addr} {n c k P : Nat} {L : List Nd} (hL : NArg W A n L) (hc : n ≤ c) (hn : n ≤ 10000) (hw : wrongT L (k : Nat) = 0) (hG : Good L n) (hk : k < n) (hP : dep L k = (P : Nat)) :
    Calls Tryd.prog 18 #[.slice A n c, .int .i64 (k : Nat)] W fun e w' => ∃ g cp, e = .returned (.tuple #[.slice (some ⟨g, 0, none⟩) (P + 1) cp, .int .i64 0]) ∧ w'.cell? ⟨g, 0, none⟩ = some (.int .i64 (k : Nat)) ∧ w'.cell? ⟨g, P, none⟩ = some (.int .i64 0) ∧ P + 1 ≤ cp ∧ RowI w' W.heap.size (.slice (some ⟨g, 0, none⟩) (P + 1) cp) (toI (pathL L k)) ∧ Up W w' := by
  obtain ⟨p1, p2, p3⟩ := path_facts hG hk hP
  refine (path_any W A n c L hL hc hn (k : Nat)).mono ?_
  rintro e w' ⟨v, rfl, hr, hu⟩
  rw [if_pos hw, Int.toNat_natCast] at hr
  obtain ⟨Ak, ck, rfl, -⟩ := RowI.form hr
  rw [toI_len, p1] at hr ⊢
  rw [hw]
  obtain ⟨g, rfl, h0⟩ := row_at hr p2
  obtain ⟨g', e', h1⟩ := row_at hr p3
  obtain rfl : g = g' := by injection e' with e'; injection e'
  have h2 := owns_cap hr
  rw [toI_len, p1] at h2
  exact ⟨g, ck, rfl, h0, h1, h2, hr, hu⟩
theorem up_c {W : World} {A : Option Addr} {n c k : Nat} {L : List Nd} (hL : NArg W A n L) (hc : n ≤ c) (hn : n ≤ 10000) (hw : wrongT L (k : Nat) = 0) (h0 : 0 < k) {p : Int} (hp : par L k = p) :
    Calls Tryd.prog 16 #[.slice A n c, .int .i64 (k : Nat)] W fun e w' => e = .returned (.tuple #[.int .i64 p, .int .i64 0]) ∧ Up W w' := by
  refine (up_any W A n c L hL hc hn (k : Nat)).mono ?_
  rintro e w' ⟨rfl, hu⟩
  refine ⟨?_, hu⟩
  unfold upA upE
  rw [if_pos ⟨hw, by omega⟩, if_pos hw, if_neg (by omega), Int.toNat_natCast, hp]
set_option maxRecDepth 100000 in
set_option maxHeartbeats 16000000 in
theorem tfamily_walk (w : World) (hT : Tab w) (A : Option Addr) (n c : Nat) (L : List Nd) (hL : NArg w A n L) (hc : n ≤ c) (hz : A = none → n = 0 ∧ c = 0) :
    Calls Tryd.prog 9 #[.slice A n c] w fun e w' => e = .returned (.bool true) ∧ Up w w' := by
  have HW := Lib.hid (fun W (hu : Up w W) => wakes_any W (hT.up hu))
  by_cases h : (300 : Int) < n
  · clear hL hz hT
    go_enter Tryd.func9, Tryd.ntmps9
    go_wp2_with (go_at_call 11; ((with_reducible refine (HW.out _ (Up.refl _)).mono ?_); rintro e w1 ⟨rfl, hu⟩; have HU := Lib.hid hu; clear hu))
    go_ret
    exact ⟨rfl, HU.out⟩
  have f0 : decide ((300 : Int) < n) = false := decide_eq_false h
  have hn : n ≤ 10000 := by omega
  have hl := hL.nds.len
  have HO := Lib.hid (ownArg_any w A n c L hL hz (by omega))
  cases hF : fitB L with
  | false =>
    have HLe := Lib.hid (fun W A' c' (h1 : NArg W A' n L) (h2 : n ≤ c') => show Calls Tryd.prog 19 #[.slice A' n c'] W fun e w' => ∃ v, e = .returned (.tuple #[v, .int .i64 60]) ∧ Up W w' from by
      refine (leaves_any W A' n c' L h1 h2 hn).mono ?_
      rintro e w' ⟨v, rfl, -, hu⟩
      exact ⟨v, by unfold fitE; rw [hF, if_neg (by decide)], hu⟩)
    clear hL hc hT h hF hl hn hz
    go_enter Tryd.func9, Tryd.ntmps9
    go_wp2_with (first
      | (go_at_call 13; ((with_reducible refine HO.out.mono ?_); rintro e w1 ⟨A', c', rfl, h1, h2, hu⟩; have HU := Lib.hid hu; have H1 := Lib.hid h1; have H2 := Lib.hid h2; clear hu h1 h2))
      | (go_at_call 19; ((with_reducible refine (HLe.out _ _ _ H1.out H2.out).mono ?_); rintro e w2 ⟨v2, rfl, hu⟩; have HU := Lib.hid (HU.out.trans hu); clear hu))
      | (go_at_call 11; ((with_reducible refine (HW.out _ HU.out).mono ?_); rintro e wz ⟨rfl, hu⟩; have HU := Lib.hid (HU.out.trans hu); clear hu)))
    go_ret
    exact ⟨rfl, HU.out⟩
  | true =>
    obtain ⟨M, hM⟩ : ∃ M, (leavesT L n).length = M := ⟨_, rfl⟩
    have HLe := Lib.hid (fun W A' c' (h1 : NArg W A' n L) (h2 : n ≤ c') => show Calls Tryd.prog 19 #[.slice A' n c'] W fun e w' => ∃ Av cv, e = .returned (.tuple #[.slice Av M cv, .int .i64 0]) ∧ RowI w' W.heap.size (.slice Av M cv) (toI (leavesT L n)) ∧ Up W w' from by
      refine (leaves_any W A' n c' L h1 h2 hn).mono ?_
      have he : fitE L = 0 := by unfold fitE; rw [hF, if_pos rfl]
      rintro e w' ⟨v, rfl, hr, hu⟩
      rw [if_pos he] at hr
      obtain ⟨Av, cv, rfl, -⟩ := RowI.form hr
      rw [toI_len, hM] at hr ⊢
      rw [he]
      exact ⟨Av, cv, rfl, hr, hu⟩)
    have hfit := fit_of hF
    have hG : Good L n := hl ▸ hfit.good
    have HWr := Lib.hid (fun (k : Nat) (hk : k < n) => wrong_in hF hl hk)
    have HA := Lib.hid (fun W (hu : Up w W) => hL.up hu)
    have HG := Lib.hid hG
    have HC := Lib.hid hc
    have HN := Lib.hid (show n ≤ 300 by omega)
    have HLl := Lib.hid hl
    have HMl := Lib.hid hM
    clear hL hc hT h hF hl hn hz hfit hG hM
    go_enter Tryd.func9, Tryd.ntmps9
    go_wp2_with (first
      | (go_at_call 13; ((with_reducible refine HO.out.mono ?_); rintro e w1 ⟨A', c', rfl, h1, h2, hu⟩; have HU := Lib.hid hu; have H1 := Lib.hid h1; have H2 := Lib.hid h2; clear hu h1 h2))
      | (go_at_call 19; ((with_reducible refine (HLe.out _ _ _ H1.out H2.out).mono ?_); rintro e w2 ⟨Av, cv, rfl, hr, hu⟩; have HU := Lib.hid (HU.out.trans hu); have HV := Lib.hid hr; clear hu hr)))
    go_loopg [5, 6, 7, 8, 9, 10, 11, 12, 13, 14, 15, 16, 17, 18, 19, 20, 21, 22] n (fun g av iv _ _ _ _ _ _ _ _ _ _ _ _ _ _ _ _ wr => ∃ (i : Nat), g = n - i ∧ iv = .int .i64 (i : Nat) ∧ av = .int .i64 ((leavesT L i).length : Nat) ∧ i ≤ n ∧ Hid (RowI wr w1.heap.size (.slice Av M cv) (toI (leavesT L n))) ∧ Hid (Up w wr))
    case atStart => exact ⟨0, rfl, rfl, rfl, Nat.zero_le _, HV, HU⟩
    case round =>
      obtain ⟨i, hg, rfl, rfl, hi, HV, HU⟩ := hrel
      have HGh := Lib.hid hg
      clear hg
      by_cases hlt : i < n
      case neg =>
        obtain rfl : i = n := by omega
        have f1 : decide (i < i) = false := decide_eq_false hlt
        rw [HMl.out]
        go_wp2_with (go_at_call 11; ((with_reducible refine (HW.out _ HU.out).mono ?_); rintro e wz ⟨rfl, hu⟩; have HU := Lib.hid (HU.out.trans hu); clear hu))
        go_ret
        exact ⟨rfl, HU.out⟩
      obtain ⟨P, hP⟩ : ∃ P : Nat, dep L i = (P : Nat) := ⟨(dep L i).toNat, by have := (HG.out.len hlt).2; omega⟩
      obtain ⟨K, hK⟩ : ∃ K, (kidsL L n i).length = K := ⟨_, rfl⟩
      have HKi := Lib.hid (fun W (hu : Up w W) => kids_c (HA.out W hu) HC.out (by have := HN.out; omega) (HWr.out i hlt) hK)
      have HPi := Lib.hid (fun W (hu : Up w W) => path_c (HA.out W hu) HC.out (by have := HN.out; omega) (HWr.out i hlt) HG.out hlt hP)
      have HUk := Lib.hid (fun W (hu : Up w W) (x : Nat) (hx : x ∈ kidsL L n i) => up_c (HA.out W hu) HC.out (by have := HN.out; omega) (HWr.out x ((kids_mem hlt).1 hx).2.1) (by have := ((kids_mem hlt).1 hx).1; omega) (kid_par hlt hx))
      have HAsc := Lib.hid (kids_asc L n i)
      have HKl := Lib.hid hK
      have HPl := Lib.hid (And.intro hP (show P < 400 by have h1 := (HG.out.len hlt).1; have h2 := st_lenle L i; have h3 := HN.out; omega))
      have hPb := HPl.out.2
      have hib : i < 400 := by have := HN.out; omega
      have j1 : (i : Int) < n := by omega
      obtain ⟨b0, o0, hA, -, -, -, -, x3⟩ := nds_nd (HA.out _ HU.out).nds i hlt
      subst hA
      rw [show (nd L i).2.2.2 = (P : Nat) from hP] at x3
      have q1 : IntKind.i64.wrap ((P : Int) + 1 - 1) = P := (IntWalk.i64_in _ (by omega)).trans (by omega)
      have q2 : IntKind.i64.wrap ((P : Int) + 1) = ((P + 1 : Nat) : Int) := (IntWalk.i64_in _ (by omega)).trans (by omega)
      have q3 : IntKind.i64.wrap ((P : Int)) = P := IntWalk.i64_in _ (by omega)
      have j2 : (P : Int) < P + 1 := by omega
      have j3 : (0 : Int) < (P : Int) + 1 := by omega
      have HLt := Lib.hid hlt
      have hln := leaf_next (L := L) hlt rfl
      have hst := leavesT_step (L := L) (i := i)
      have hlk := leaf_kids (L := L) HG.out hlt HLl.out.symm
      obtain ⟨a, ha⟩ : ∃ a, (leavesT L i).length = a := ⟨_, rfl⟩
      have hab : a ≤ i := by rw [← ha]; exact leavesT_len L i
      rw [ha] at hln ⊢
      have hst2 : (leavesT L (i + 1)).length = a + (if leafT L i = true then 1 else 0) := by
        rw [hst, List.length_append, ha]
        split <;> rfl
      cases hlf : leafT L i with
      | true =>
        have hn1 := hln.1 hlf
        rw [hlf, if_pos rfl] at hst2
        have hK0 : K = 0 := by rw [← hK, hlk.2 hlf]; rfl
        obtain ⟨gv, rfl, kv⟩ := row_at HV.out hn1
        have haM : a < M := by
          have h1 := (List.getElem?_eq_some_iff.1 hn1).1
          have h2 := HMl.out
          omega
        have j4 : (a : Int) < M := by omega
        have HSt := Lib.hid hst2
        have qa : IntKind.i64.wrap ((a : Int) + 1) = ((a + 1 : Nat) : Int) := (IntWalk.i64_in _ (by omega)).trans (by omega)
        have g1 : ((K : Int) == 0) = true := by rw [hK0]; rfl
        clear hln hst hst2 hlk hlf hn1 hP hK ha hK0
        go_wp2_with (first
          | (go_at_call 17; ((with_reducible refine (HKi.out _ HU.out).mono ?_); rintro e w3 ⟨Ak, ck, rfl, hr, hu⟩; replace x3 := cell_up hu x3; replace kv := cell_up hu kv; have HV := Lib.hid (rowI_up HV.out hu); have HK := Lib.hid hr; have HU := Lib.hid (HU.out.trans hu); clear hr hu))
          | (go_at_call 18; ((with_reducible refine (HPi.out _ HU.out).mono ?_); rintro e w4 ⟨gp, cp, rfl, c0, c1, hcp, hr, hu⟩; replace x3 := cell_up hu x3; replace kv := cell_up hu kv; have HV := Lib.hid (rowI_up HV.out hu); have HK := Lib.hid (rowI_up HK.out hu); have HP := Lib.hid hr; have HCp := Lib.hid hcp; have HU := Lib.hid (HU.out.trans hu); clear hr hu hcp)))
        clear kv
        have hKb : K ≤ 400 := by
          have h2 := kidsR_len L i (n - (i + 1)) (i + 1)
          have h3 := HKl.out
          have h4 := HN.out
          unfold kidsL at h3
          omega
        have HX4 := Lib.hid (Up.refl w4)
        clear x3 q1 q2 q3
        go_loopg [12, 13, 14] K (fun g kv _ _ ws => ∃ k : Nat, g = K - k ∧ kv = .int .i64 (k : Nat) ∧ k ≤ K ∧ Hid (Up w4 ws))
        case atStart => exact ⟨0, rfl, rfl, Nat.zero_le _, HX4⟩
        case round =>
          obtain ⟨k, hg, rfl, hk, HU2⟩ := hrel
          have HG2 := Lib.hid hg
          clear hg
          by_cases hkl : k < K
          · obtain ⟨x, hx⟩ : ∃ x, (kidsL L n i)[k]? = some x := ⟨_, List.getElem?_eq_getElem (by rw [HKl.out]; exact hkl)⟩
            have HM := Lib.hid (List.mem_of_getElem? hx)
            have HUr := Lib.hid (HU.out.trans HU2.out)
            have hAs := HAsc.out
            obtain ⟨gk, rfl, kc⟩ := row_at (rowI_up HK.out HU2.out) hx
            have j5 : (k : Int) < K := by omega
            have HK3 := Lib.hid hkl
            by_cases hk0 : k = 0
            · have g5 : decide ((0 : Int) < (k : Int)) = false := decide_eq_false (by omega)
              have g5b : decide (0 < k) = false := decide_eq_false (by omega)
              clear hx hAs hk0 hkl hk
              go_wp2_with (go_at_call 16; ((with_reducible refine (HUk.out _ HUr.out x HM.out).mono ?_); rintro e w5 ⟨rfl, hu⟩; replace kc := cell_up hu kc; have HU3 := Lib.hid (HU2.out.trans hu); clear hu))
              go_quiet (fail)
              go_wp2
              go_roundg (K - (k + 1))
              case measure => rw [HG2.out]; have := HK3.out; omega
              case rel => exact ⟨k + 1, rfl, by go_num, by have := HK3.out; omega, Lib.hid (HU3.out.trans (Up.drewN _ _))⟩
            · obtain ⟨q, rfl⟩ : ∃ q, k = q + 1 := ⟨k - 1, by omega⟩
              obtain ⟨y, hy⟩ : ∃ y, (kidsL L n i)[q]? = some y := ⟨_, List.getElem?_eq_getElem (by rw [HKl.out]; omega)⟩
              obtain ⟨gk2, e2, kd⟩ := row_at (rowI_up HK.out HU2.out) hy
              obtain rfl : gk = gk2 := by injection e2 with e2; injection e2
              have hyx : y < x := by
                obtain ⟨l1, m1⟩ := List.getElem?_eq_some_iff.1 hx
                obtain ⟨l2, m2⟩ := List.getElem?_eq_some_iff.1 hy
                rw [← m1, ← m2]
                exact asc_lt hAs l1
              have g5 : (0 : Int) < ((q : Nat) : Int) + 1 := by omega
              have g6 : decide ((x : Int) ≤ (y : Int)) = false := decide_eq_false (by omega)
              have g6b : decide (x ≤ y) = false := decide_eq_false (by omega)
              have q5 : IntKind.i64.wrap ((q : Int) + 1 - 1) = q := by
                have h1 : K ≤ 400 := by
                  have h2 := kidsR_len L i (n - (i + 1)) (i + 1)
                  have h3 := HKl.out
                  have h4 := HN.out
                  unfold kidsL at h3
                  omega
                exact (IntWalk.i64_in _ (by omega)).trans (by omega)
              have q6 : IntKind.i64.wrap ((q : Int)) = q := by
                rw [show (q : Int) = (q : Int) + 1 - 1 by omega] 
                exact q5.trans (by omega)
              have j6 : (q : Int) < K := by omega
              push_cast at kc kd j5
              clear hx hAs hk0 hkl hk hy e2 hyx
              go_wp2_with (go_at_call 16; ((with_reducible refine (HUk.out _ HUr.out x HM.out).mono ?_); rintro e w5 ⟨rfl, hu⟩; replace kc := cell_up hu kc; replace kd := cell_up hu kd; have HU3 := Lib.hid (HU2.out.trans hu); clear hu))
              go_quiet (fail)
              go_wp2
              go_roundg (K - (q + 1 + 1))
              case measure => rw [HG2.out]; have := HK3.out; omega
              case rel => exact ⟨q + 1 + 1, rfl, by go_num, by have := HK3.out; omega, Lib.hid (HU3.out.trans (Up.drewN _ _))⟩
          · obtain rfl : k = K := by omega
            have f2 : decide (k < k) = false := decide_eq_false hkl
            have HUr := Lib.hid (HU.out.trans HU2.out)
            have HVr := Lib.hid (rowI_up HV.out HU2.out)
            clear hkl hk
            by_cases hi0 : i = 0
            · have g3 : ((i : Int) == 0) = true := by rw [hi0]; rfl
              clear hi0
              go_wp2
              go_roundg (n - (i + 1))
              case measure => rw [HGh.out]; have := HLt.out; omega
              case rel => exact ⟨i + 1, rfl, by go_num, by rw [HSt.out]; first | rfl | go_num, HLt.out, HVr, HUr⟩
            · obtain ⟨j, hj⟩ : ∃ j, i = j + 1 := ⟨i - 1, by omega⟩
              have g3 : ((i : Int) == 0) = false := beq_false_of_ne (by omega)
              have hl1 := HLt.out
              rw [hj] at hl1
              obtain ⟨x, -, hx, -, hxl, hxd, -⟩ := par_st HG.out hl1
              have hmem := par_kid HG.out hl1
              rw [hx, Int.toNat_natCast] at hmem
              have hpl := pathL_eq L (j + 1)
              rw [hx, if_pos (by omega), Int.toNat_natCast] at hpl
              have hxn : x < n := by omega
              have hxd0 := (HG.out.len hxn).2
              rw [← hj] at hx hmem hpl hxd
              obtain ⟨R, hR⟩ : ∃ R : Nat, dep L x = (R : Nat) := ⟨(dep L x).toNat, by omega⟩
              obtain rfl : P = R + 1 := by have := HPl.out.1; omega
              obtain ⟨K2, hK2⟩ : ∃ K2, (kidsL L n x).length = K2 := ⟨_, rfl⟩
              have HUi := Lib.hid (fun W (hu : Up w W) => up_c (HA.out W hu) HC.out (by have := HN.out; omega) (HWr.out i HLt.out) (by omega) hx)
              have HPx := Lib.hid (fun W (hu : Up w W) => path_c (HA.out W hu) HC.out (by have := HN.out; omega) (HWr.out x hxn) HG.out hxn hR)
              have HKx := Lib.hid (fun W (hu : Up w W) => kids_c (HA.out W hu) HC.out (by have := HN.out; omega) (HWr.out x hxn) hK2)
              have HCn := Lib.hid (count_asc (kids_asc L n x) hmem)
              have HK2 := Lib.hid (And.intro hK2 (show K2 ≤ 400 by
                have h2 := kidsR_len L x (n - (x + 1)) (x + 1)
                have h4 := HN.out
                unfold kidsL at hK2
                omega))
              have HPR := Lib.hid (rowI_up HP.out HU2.out)
              have HPp := Lib.hid hpl
              have HPxl := Lib.hid (path_facts HG.out hxn hR).1
              have hcp2 : R + 1 + 1 ≤ cp := HCp.out
              have j7 : ¬ cp = 1 := by omega
              have j8 : 1 ≤ cp := by omega
              clear hi0 hl1 hx hmem hpl hxn hxd0 hxl hxd hR hK2 hj
              go_wp2_with (first
                | (go_at_call 16; ((with_reducible refine (HUi.out _ HUr.out).mono ?_); rintro e w5 ⟨rfl, hu⟩; have HV5 := Lib.hid (rowI_up HVr.out hu); have HP5 := Lib.hid (rowI_up HPR.out hu); have HU5 := Lib.hid (HUr.out.trans hu); clear hu))
                | (go_at_call 18; ((with_reducible refine (HPx.out _ HU5.out).mono ?_); rintro e w6 ⟨gx, cx, rfl, -, -, -, hr, hu⟩; have HX6 := Lib.hid hr; have HV6 := Lib.hid (rowI_up HV5.out hu); have HP6 := Lib.hid (rowI_up HP5.out hu); have HU6 := Lib.hid (HU5.out.trans hu); clear hr hu))
                | (go_at_call 17; ((with_reducible refine (HKx.out _ HU6.out).mono ?_); rintro e w7 ⟨Ax, kx, rfl, hr, hu⟩; have HX7 := Lib.hid (rowI_up HX6.out hu); have HV7 := Lib.hid (rowI_up HV6.out hu); have HP7 := Lib.hid (rowI_up HP6.out hu); have HK7 := Lib.hid hr; have HU7 := Lib.hid (HU6.out.trans hu); clear hr hu)))
              have HX7' := Lib.hid (Up.refl w7)
              go_loopg [21, 22] K2 (fun g nv kv ws => ∃ (k m : Nat), g = K2 - k ∧ nv = .int .i64 (m : Nat) ∧ kv = .int .i64 (k : Nat) ∧ k ≤ K2 ∧ m ≤ k ∧ Hid (((kidsL L n x).take k).count i = m) ∧ Hid (Up w7 ws))
              case atStart => exact ⟨0, 0, rfl, rfl, rfl, Nat.zero_le _, Nat.le_refl _, Lib.hid rfl, HX7'⟩
              case round =>
                obtain ⟨k2, m, hg, rfl, rfl, hk2, hmk, HCm, HU8⟩ := hrel
                have HG3 := Lib.hid hg
                clear hg
                by_cases hkl2 : k2 < K2
                · have hkx : k2 < (kidsL L n x).length := by rw [HK2.out.1]; exact hkl2
                  obtain ⟨y, hy⟩ : ∃ y, (kidsL L n x)[k2] = y := ⟨_, rfl⟩
                  obtain ⟨gy, rfl, kc⟩ := row_at (rowI_up HK7.out HU8.out) (List.getElem?_eq_some_iff.2 ⟨hkx, hy⟩)
                  have hct := count_take (x := i) hkx
                  rw [HCm.out, hy] at hct
                  have j9 : (k2 : Int) < K2 := by omega
                  have hK400 := HK2.out.2
                  have q8 : IntKind.i64.wrap ((m : Int) + 1) = ((m + 1 : Nat) : Int) := (IntWalk.i64_in _ (by omega)).trans (by omega)
                  have HKl2 := Lib.hid (And.intro hkl2 hmk)
                  by_cases hyi : y = i
                  · rw [if_pos hyi] at hct
                    have HCt := Lib.hid hct
                    have g9 : ((y : Int) == (i : Int)) = true := by rw [hyi]; exact beq_self_eq_true _
                    clear hct hyi hy hkl2 hk2 hmk
                    go_wp2
                    go_roundg (K2 - (k2 + 1))
                    case measure => rw [HG3.out]; have := HKl2.out; omega
                    case rel => exact ⟨k2 + 1, m + 1, rfl, by first | rfl | go_num, by go_num, by have := HKl2.out; omega, by have := HKl2.out; omega, HCt, HU8⟩
                  · rw [if_neg hyi] at hct
                    have HCt := Lib.hid hct
                    have g9 : ((y : Int) == (i : Int)) = false := beq_false_of_ne (by omega)
                    have g9b : (y == i) = false := beq_false_of_ne hyi
                    clear hct hyi hy hkl2 hk2 hmk
                    go_wp2
                    go_roundg (K2 - (k2 + 1))
                    case measure => rw [HG3.out]; have := HKl2.out; omega
                    case rel => exact ⟨k2 + 1, m, rfl, rfl, by go_num, by have := HKl2.out; omega, by have := HKl2.out; omega, HCt, HU8⟩
                · obtain rfl : k2 = K2 := by omega
                  have f9 : decide (k2 < k2) = false := decide_eq_false hkl2
                  obtain rfl : m = 1 := by
                    have h1 := HCm.out
                    rw [List.take_of_length_le (by rw [HK2.out.1]; exact Nat.le_refl _), HCn.out] at h1
                    exact h1.symm
                  have HIn := Lib.hid (fun c9 => show Calls Tryd.prog 21 #[.slice (some ⟨gx, 0, none⟩) (R + 1) cx, .slice (some ⟨gp, 1, none⟩) (R + 1) c9] wr fun e w' => e = .returned (.bool true) ∧ Up wr w' from by
                    have h1 : (toI (pathL L x)).length = R + 1 := by rw [toI_len]; exact HPxl.out
                    have h2 := refIntsO_any wr w5.heap.size gp 1 c9 _ _ (rowI_up HX7.out HU8.out) (fun t ht => by
                      rw [toI_len] at ht
                      obtain ⟨g', e', h3⟩ := row_at (rowI_up HP7.out HU8.out) (j := t + 1) (x := (pathL L x)[t]) (by rw [HPp.out, List.getElem?_cons_succ, List.getElem?_eq_getElem ht])
                      obtain rfl : gp = g' := by injection e' with e'; injection e'
                      rw [Nat.add_comm 1 t, h3]
                      exact congrArg (fun z => some (Value.int .i64 z)) (List.getElem_map (fun (k : Nat) => (k : Int))).symm) (by rw [h1]; have := HPl.out.2; omega)
                    rw [h1] at h2
                    exact h2)
                  clear hkl2 hk2 hmk
                  go_wp2_with (go_at_call 21; ((with_reducible refine (HIn.out _).mono ?_); rintro e w9 ⟨rfl, hu⟩; have HV9 := Lib.hid (rowI_up (rowI_up HV7.out HU8.out) hu); have HU9 := Lib.hid ((HU7.out.trans HU8.out).trans hu); clear hu))
                  go_roundg (n - (i + 1))
                  case measure => rw [HGh.out]; have := HLt.out; omega
                  case rel => exact ⟨i + 1, rfl, by go_num, by rw [HSt.out]; first | rfl | go_num, HLt.out, HV9, HU9⟩
      | false =>
        have hn1 := hln.2 hlf
        rw [hlf, if_neg (by decide)] at hst2
        have hK0 : K ≠ 0 := by
          intro h0
          have h1 := hlk.1 (List.eq_nil_of_length_eq_zero (hK.trans h0))
          rw [hlf] at h1
          cases h1
        have g1 : ((K : Int) == 0) = false := beq_false_of_ne (by omega)
        rw [Nat.add_zero] at hst2
        have HSt := Lib.hid hst2
        by_cases haM : a < M
        · obtain ⟨x, hx⟩ : ∃ x, (leavesT L n)[a]? = some x := ⟨_, List.getElem?_eq_getElem (by rw [HMl.out]; exact haM)⟩
          have hxi := hn1 x hx
          obtain ⟨gv, rfl, kv⟩ := row_at HV.out hx
          have j4 : (a : Int) < M := by omega
          have g2 : ((x : Int) == (i : Int)) = false := beq_false_of_ne (by omega)
          clear hln hst hst2 hlk hlf hn1 hP hK ha hx hK0
          go_wp2_with (first
            | (go_at_call 17; ((with_reducible refine (HKi.out _ HU.out).mono ?_); rintro e w3 ⟨Ak, ck, rfl, hr, hu⟩; replace x3 := cell_up hu x3; replace kv := cell_up hu kv; have HV := Lib.hid (rowI_up HV.out hu); have HK := Lib.hid hr; have HU := Lib.hid (HU.out.trans hu); clear hr hu))
            | (go_at_call 18; ((with_reducible refine (HPi.out _ HU.out).mono ?_); rintro e w4 ⟨gp, cp, rfl, c0, c1, hcp, hr, hu⟩; replace x3 := cell_up hu x3; replace kv := cell_up hu kv; have HV := Lib.hid (rowI_up HV.out hu); have HK := Lib.hid (rowI_up HK.out hu); have HP := Lib.hid hr; have HCp := Lib.hid hcp; have HU := Lib.hid (HU.out.trans hu); clear hr hu hcp)))
          clear kv
          have hKb : K ≤ 400 := by
            have h2 := kidsR_len L i (n - (i + 1)) (i + 1)
            have h3 := HKl.out
            have h4 := HN.out
            unfold kidsL at h3
            omega
          have HX4 := Lib.hid (Up.refl w4)
          clear x3 q1 q2 q3
          go_loopg [12, 13, 14] K (fun g kv _ _ ws => ∃ k : Nat, g = K - k ∧ kv = .int .i64 (k : Nat) ∧ k ≤ K ∧ Hid (Up w4 ws))
          case atStart => exact ⟨0, rfl, rfl, Nat.zero_le _, HX4⟩
          case round =>
            obtain ⟨k, hg, rfl, hk, HU2⟩ := hrel
            have HG2 := Lib.hid hg
            clear hg
            by_cases hkl : k < K
            · obtain ⟨x, hx⟩ : ∃ x, (kidsL L n i)[k]? = some x := ⟨_, List.getElem?_eq_getElem (by rw [HKl.out]; exact hkl)⟩
              have HM := Lib.hid (List.mem_of_getElem? hx)
              have HUr := Lib.hid (HU.out.trans HU2.out)
              have hAs := HAsc.out
              obtain ⟨gk, rfl, kc⟩ := row_at (rowI_up HK.out HU2.out) hx
              have j5 : (k : Int) < K := by omega
              have HK3 := Lib.hid hkl
              by_cases hk0 : k = 0
              · have g5 : decide ((0 : Int) < (k : Int)) = false := decide_eq_false (by omega)
                have g5b : decide (0 < k) = false := decide_eq_false (by omega)
                clear hx hAs hk0 hkl hk
                go_wp2_with (go_at_call 16; ((with_reducible refine (HUk.out _ HUr.out x HM.out).mono ?_); rintro e w5 ⟨rfl, hu⟩; replace kc := cell_up hu kc; have HU3 := Lib.hid (HU2.out.trans hu); clear hu))
                go_quiet (fail)
                go_wp2
                go_roundg (K - (k + 1))
                case measure => rw [HG2.out]; have := HK3.out; omega
                case rel => exact ⟨k + 1, rfl, by go_num, by have := HK3.out; omega, Lib.hid (HU3.out.trans (Up.drewN _ _))⟩
              · obtain ⟨q, rfl⟩ : ∃ q, k = q + 1 := ⟨k - 1, by omega⟩
                obtain ⟨y, hy⟩ : ∃ y, (kidsL L n i)[q]? = some y := ⟨_, List.getElem?_eq_getElem (by rw [HKl.out]; omega)⟩
                obtain ⟨gk2, e2, kd⟩ := row_at (rowI_up HK.out HU2.out) hy
                obtain rfl : gk = gk2 := by injection e2 with e2; injection e2
                have hyx : y < x := by
                  obtain ⟨l1, m1⟩ := List.getElem?_eq_some_iff.1 hx
                  obtain ⟨l2, m2⟩ := List.getElem?_eq_some_iff.1 hy
                  rw [← m1, ← m2]
                  exact asc_lt hAs l1
                have g5 : (0 : Int) < ((q : Nat) : Int) + 1 := by omega
                have g6 : decide ((x : Int) ≤ (y : Int)) = false := decide_eq_false (by omega)
                have g6b : decide (x ≤ y) = false := decide_eq_false (by omega)
                have q5 : IntKind.i64.wrap ((q : Int) + 1 - 1) = q := by
                  have h1 : K ≤ 400 := by
                    have h2 := kidsR_len L i (n - (i + 1)) (i + 1)
                    have h3 := HKl.out
                    have h4 := HN.out
                    unfold kidsL at h3
                    omega
                  exact (IntWalk.i64_in _ (by omega)).trans (by omega)
                have q6 : IntKind.i64.wrap ((q : Int)) = q := by
                  rw [show (q : Int) = (q : Int) + 1 - 1 by omega] 
                  exact q5.trans (by omega)
                have j6 : (q : Int) < K := by omega
                push_cast at kc kd j5
                clear hx hAs hk0 hkl hk hy e2 hyx
                go_wp2_with (go_at_call 16; ((with_reducible refine (HUk.out _ HUr.out x HM.out).mono ?_); rintro e w5 ⟨rfl, hu⟩; replace kc := cell_up hu kc; replace kd := cell_up hu kd; have HU3 := Lib.hid (HU2.out.trans hu); clear hu))
                go_quiet (fail)
                go_wp2
                go_roundg (K - (q + 1 + 1))
                case measure => rw [HG2.out]; have := HK3.out; omega
                case rel => exact ⟨q + 1 + 1, rfl, by go_num, by have := HK3.out; omega, Lib.hid (HU3.out.trans (Up.drewN _ _))⟩
            · obtain rfl : k = K := by omega
              have f2 : decide (k < k) = false := decide_eq_false hkl
              have HUr := Lib.hid (HU.out.trans HU2.out)
              have HVr := Lib.hid (rowI_up HV.out HU2.out)
              clear hkl hk
              by_cases hi0 : i = 0
              · have g3 : ((i : Int) == 0) = true := by rw [hi0]; rfl
                clear hi0
                go_wp2
                go_roundg (n - (i + 1))
                case measure => rw [HGh.out]; have := HLt.out; omega
                case rel => exact ⟨i + 1, rfl, by go_num, by rw [HSt.out]; first | rfl | go_num, HLt.out, HVr, HUr⟩
              · obtain ⟨j, hj⟩ : ∃ j, i = j + 1 := ⟨i - 1, by omega⟩
                have g3 : ((i : Int) == 0) = false := beq_false_of_ne (by omega)
                have hl1 := HLt.out
                rw [hj] at hl1
                obtain ⟨x, -, hx, -, hxl, hxd, -⟩ := par_st HG.out hl1
                have hmem := par_kid HG.out hl1
                rw [hx, Int.toNat_natCast] at hmem
                have hpl := pathL_eq L (j + 1)
                rw [hx, if_pos (by omega), Int.toNat_natCast] at hpl
                have hxn : x < n := by omega
                have hxd0 := (HG.out.len hxn).2
                rw [← hj] at hx hmem hpl hxd
                obtain ⟨R, hR⟩ : ∃ R : Nat, dep L x = (R : Nat) := ⟨(dep L x).toNat, by omega⟩
                obtain rfl : P = R + 1 := by have := HPl.out.1; omega
                obtain ⟨K2, hK2⟩ : ∃ K2, (kidsL L n x).length = K2 := ⟨_, rfl⟩
                have HUi := Lib.hid (fun W (hu : Up w W) => up_c (HA.out W hu) HC.out (by have := HN.out; omega) (HWr.out i HLt.out) (by omega) hx)
                have HPx := Lib.hid (fun W (hu : Up w W) => path_c (HA.out W hu) HC.out (by have := HN.out; omega) (HWr.out x hxn) HG.out hxn hR)
                have HKx := Lib.hid (fun W (hu : Up w W) => kids_c (HA.out W hu) HC.out (by have := HN.out; omega) (HWr.out x hxn) hK2)
                have HCn := Lib.hid (count_asc (kids_asc L n x) hmem)
                have HK2 := Lib.hid (And.intro hK2 (show K2 ≤ 400 by
                  have h2 := kidsR_len L x (n - (x + 1)) (x + 1)
                  have h4 := HN.out
                  unfold kidsL at hK2
                  omega))
                have HPR := Lib.hid (rowI_up HP.out HU2.out)
                have HPp := Lib.hid hpl
                have HPxl := Lib.hid (path_facts HG.out hxn hR).1
                have hcp2 : R + 1 + 1 ≤ cp := HCp.out
                have j7 : ¬ cp = 1 := by omega
                have j8 : 1 ≤ cp := by omega
                clear hi0 hl1 hx hmem hpl hxn hxd0 hxl hxd hR hK2 hj
                go_wp2_with (first
                  | (go_at_call 16; ((with_reducible refine (HUi.out _ HUr.out).mono ?_); rintro e w5 ⟨rfl, hu⟩; have HV5 := Lib.hid (rowI_up HVr.out hu); have HP5 := Lib.hid (rowI_up HPR.out hu); have HU5 := Lib.hid (HUr.out.trans hu); clear hu))
                  | (go_at_call 18; ((with_reducible refine (HPx.out _ HU5.out).mono ?_); rintro e w6 ⟨gx, cx, rfl, -, -, -, hr, hu⟩; have HX6 := Lib.hid hr; have HV6 := Lib.hid (rowI_up HV5.out hu); have HP6 := Lib.hid (rowI_up HP5.out hu); have HU6 := Lib.hid (HU5.out.trans hu); clear hr hu))
                  | (go_at_call 17; ((with_reducible refine (HKx.out _ HU6.out).mono ?_); rintro e w7 ⟨Ax, kx, rfl, hr, hu⟩; have HX7 := Lib.hid (rowI_up HX6.out hu); have HV7 := Lib.hid (rowI_up HV6.out hu); have HP7 := Lib.hid (rowI_up HP6.out hu); have HK7 := Lib.hid hr; have HU7 := Lib.hid (HU6.out.trans hu); clear hr hu)))
                have HX7' := Lib.hid (Up.refl w7)
                go_loopg [21, 22] K2 (fun g nv kv ws => ∃ (k m : Nat), g = K2 - k ∧ nv = .int .i64 (m : Nat) ∧ kv = .int .i64 (k : Nat) ∧ k ≤ K2 ∧ m ≤ k ∧ Hid (((kidsL L n x).take k).count i = m) ∧ Hid (Up w7 ws))
                case atStart => exact ⟨0, 0, rfl, rfl, rfl, Nat.zero_le _, Nat.le_refl _, Lib.hid rfl, HX7'⟩
                case round =>
                  obtain ⟨k2, m, hg, rfl, rfl, hk2, hmk, HCm, HU8⟩ := hrel
                  have HG3 := Lib.hid hg
                  clear hg
                  by_cases hkl2 : k2 < K2
                  · have hkx : k2 < (kidsL L n x).length := by rw [HK2.out.1]; exact hkl2
                    obtain ⟨y, hy⟩ : ∃ y, (kidsL L n x)[k2] = y := ⟨_, rfl⟩
                    obtain ⟨gy, rfl, kc⟩ := row_at (rowI_up HK7.out HU8.out) (List.getElem?_eq_some_iff.2 ⟨hkx, hy⟩)
                    have hct := count_take (x := i) hkx
                    rw [HCm.out, hy] at hct
                    have j9 : (k2 : Int) < K2 := by omega
                    have hK400 := HK2.out.2
                    have q8 : IntKind.i64.wrap ((m : Int) + 1) = ((m + 1 : Nat) : Int) := (IntWalk.i64_in _ (by omega)).trans (by omega)
                    have HKl2 := Lib.hid (And.intro hkl2 hmk)
                    by_cases hyi : y = i
                    · rw [if_pos hyi] at hct
                      have HCt := Lib.hid hct
                      have g9 : ((y : Int) == (i : Int)) = true := by rw [hyi]; exact beq_self_eq_true _
                      clear hct hyi hy hkl2 hk2 hmk
                      go_wp2
                      go_roundg (K2 - (k2 + 1))
                      case measure => rw [HG3.out]; have := HKl2.out; omega
                      case rel => exact ⟨k2 + 1, m + 1, rfl, by first | rfl | go_num, by go_num, by have := HKl2.out; omega, by have := HKl2.out; omega, HCt, HU8⟩
                    · rw [if_neg hyi] at hct
                      have HCt := Lib.hid hct
                      have g9 : ((y : Int) == (i : Int)) = false := beq_false_of_ne (by omega)
                      have g9b : (y == i) = false := beq_false_of_ne hyi
                      clear hct hyi hy hkl2 hk2 hmk
                      go_wp2
                      go_roundg (K2 - (k2 + 1))
                      case measure => rw [HG3.out]; have := HKl2.out; omega
                      case rel => exact ⟨k2 + 1, m, rfl, rfl, by go_num, by have := HKl2.out; omega, by have := HKl2.out; omega, HCt, HU8⟩
                  · obtain rfl : k2 = K2 := by omega
                    have f9 : decide (k2 < k2) = false := decide_eq_false hkl2
                    obtain rfl : m = 1 := by
                      have h1 := HCm.out
                      rw [List.take_of_length_le (by rw [HK2.out.1]; exact Nat.le_refl _), HCn.out] at h1
                      exact h1.symm
                    have HIn := Lib.hid (fun c9 => show Calls Tryd.prog 21 #[.slice (some ⟨gx, 0, none⟩) (R + 1) cx, .slice (some ⟨gp, 1, none⟩) (R + 1) c9] wr fun e w' => e = .returned (.bool true) ∧ Up wr w' from by
                      have h1 : (toI (pathL L x)).length = R + 1 := by rw [toI_len]; exact HPxl.out
                      have h2 := refIntsO_any wr w5.heap.size gp 1 c9 _ _ (rowI_up HX7.out HU8.out) (fun t ht => by
                        rw [toI_len] at ht
                        obtain ⟨g', e', h3⟩ := row_at (rowI_up HP7.out HU8.out) (j := t + 1) (x := (pathL L x)[t]) (by rw [HPp.out, List.getElem?_cons_succ, List.getElem?_eq_getElem ht])
                        obtain rfl : gp = g' := by injection e' with e'; injection e'
                        rw [Nat.add_comm 1 t, h3]
                        exact congrArg (fun z => some (Value.int .i64 z)) (List.getElem_map (fun (k : Nat) => (k : Int))).symm) (by rw [h1]; have := HPl.out.2; omega)
                      rw [h1] at h2
                      exact h2)
                    clear hkl2 hk2 hmk
                    go_wp2_with (go_at_call 21; ((with_reducible refine (HIn.out _).mono ?_); rintro e w9 ⟨rfl, hu⟩; have HV9 := Lib.hid (rowI_up (rowI_up HV7.out HU8.out) hu); have HU9 := Lib.hid ((HU7.out.trans HU8.out).trans hu); clear hu))
                    go_roundg (n - (i + 1))
                    case measure => rw [HGh.out]; have := HLt.out; omega
                    case rel => exact ⟨i + 1, rfl, by go_num, by rw [HSt.out]; first | rfl | go_num, HLt.out, HV9, HU9⟩
        · have j4 : decide ((a : Int) < M) = false := decide_eq_false (by omega)
          clear hln hst hst2 hlk hlf hn1 hP hK ha hK0
          go_wp2_with (first
            | (go_at_call 17; ((with_reducible refine (HKi.out _ HU.out).mono ?_); rintro e w3 ⟨Ak, ck, rfl, hr, hu⟩; replace x3 := cell_up hu x3; skip; have HV := Lib.hid (rowI_up HV.out hu); have HK := Lib.hid hr; have HU := Lib.hid (HU.out.trans hu); clear hr hu))
            | (go_at_call 18; ((with_reducible refine (HPi.out _ HU.out).mono ?_); rintro e w4 ⟨gp, cp, rfl, c0, c1, hcp, hr, hu⟩; replace x3 := cell_up hu x3; skip; have HV := Lib.hid (rowI_up HV.out hu); have HK := Lib.hid (rowI_up HK.out hu); have HP := Lib.hid hr; have HCp := Lib.hid hcp; have HU := Lib.hid (HU.out.trans hu); clear hr hu hcp)))
          have hKb : K ≤ 400 := by
            have h2 := kidsR_len L i (n - (i + 1)) (i + 1)
            have h3 := HKl.out
            have h4 := HN.out
            unfold kidsL at h3
            omega
          have HX4 := Lib.hid (Up.refl w4)
          clear x3 q1 q2 q3
          go_loopg [12, 13, 14] K (fun g kv _ _ ws => ∃ k : Nat, g = K - k ∧ kv = .int .i64 (k : Nat) ∧ k ≤ K ∧ Hid (Up w4 ws))
          case atStart => exact ⟨0, rfl, rfl, Nat.zero_le _, HX4⟩
          case round =>
            obtain ⟨k, hg, rfl, hk, HU2⟩ := hrel
            have HG2 := Lib.hid hg
            clear hg
            by_cases hkl : k < K
            · obtain ⟨x, hx⟩ : ∃ x, (kidsL L n i)[k]? = some x := ⟨_, List.getElem?_eq_getElem (by rw [HKl.out]; exact hkl)⟩
              have HM := Lib.hid (List.mem_of_getElem? hx)
              have HUr := Lib.hid (HU.out.trans HU2.out)
              have hAs := HAsc.out
              obtain ⟨gk, rfl, kc⟩ := row_at (rowI_up HK.out HU2.out) hx
              have j5 : (k : Int) < K := by omega
              have HK3 := Lib.hid hkl
              by_cases hk0 : k = 0
              · have g5 : decide ((0 : Int) < (k : Int)) = false := decide_eq_false (by omega)
                have g5b : decide (0 < k) = false := decide_eq_false (by omega)
                clear hx hAs hk0 hkl hk
                go_wp2_with (go_at_call 16; ((with_reducible refine (HUk.out _ HUr.out x HM.out).mono ?_); rintro e w5 ⟨rfl, hu⟩; replace kc := cell_up hu kc; have HU3 := Lib.hid (HU2.out.trans hu); clear hu))
                go_quiet (fail)
                go_wp2
                go_roundg (K - (k + 1))
                case measure => rw [HG2.out]; have := HK3.out; omega
                case rel => exact ⟨k + 1, rfl, by go_num, by have := HK3.out; omega, Lib.hid (HU3.out.trans (Up.drewN _ _))⟩
              · obtain ⟨q, rfl⟩ : ∃ q, k = q + 1 := ⟨k - 1, by omega⟩
                obtain ⟨y, hy⟩ : ∃ y, (kidsL L n i)[q]? = some y := ⟨_, List.getElem?_eq_getElem (by rw [HKl.out]; omega)⟩
                obtain ⟨gk2, e2, kd⟩ := row_at (rowI_up HK.out HU2.out) hy
                obtain rfl : gk = gk2 := by injection e2 with e2; injection e2
                have hyx : y < x := by
                  obtain ⟨l1, m1⟩ := List.getElem?_eq_some_iff.1 hx
                  obtain ⟨l2, m2⟩ := List.getElem?_eq_some_iff.1 hy
                  rw [← m1, ← m2]
                  exact asc_lt hAs l1
                have g5 : (0 : Int) < ((q : Nat) : Int) + 1 := by omega
                have g6 : decide ((x : Int) ≤ (y : Int)) = false := decide_eq_false (by omega)
                have g6b : decide (x ≤ y) = false := decide_eq_false (by omega)
                have q5 : IntKind.i64.wrap ((q : Int) + 1 - 1) = q := by
                  have h1 : K ≤ 400 := by
                    have h2 := kidsR_len L i (n - (i + 1)) (i + 1)
                    have h3 := HKl.out
                    have h4 := HN.out
                    unfold kidsL at h3
                    omega
                  exact (IntWalk.i64_in _ (by omega)).trans (by omega)
                have q6 : IntKind.i64.wrap ((q : Int)) = q := by
                  rw [show (q : Int) = (q : Int) + 1 - 1 by omega] 
                  exact q5.trans (by omega)
                have j6 : (q : Int) < K := by omega
                push_cast at kc kd j5
                clear hx hAs hk0 hkl hk hy e2 hyx
                go_wp2_with (go_at_call 16; ((with_reducible refine (HUk.out _ HUr.out x HM.out).mono ?_); rintro e w5 ⟨rfl, hu⟩; replace kc := cell_up hu kc; replace kd := cell_up hu kd; have HU3 := Lib.hid (HU2.out.trans hu); clear hu))
                go_quiet (fail)
                go_wp2
                go_roundg (K - (q + 1 + 1))
                case measure => rw [HG2.out]; have := HK3.out; omega
                case rel => exact ⟨q + 1 + 1, rfl, by go_num, by have := HK3.out; omega, Lib.hid (HU3.out.trans (Up.drewN _ _))⟩
            · obtain rfl : k = K := by omega
              have f2 : decide (k < k) = false := decide_eq_false hkl
              have HUr := Lib.hid (HU.out.trans HU2.out)
              have HVr := Lib.hid (rowI_up HV.out HU2.out)
              clear hkl hk
              by_cases hi0 : i = 0
              · have g3 : ((i : Int) == 0) = true := by rw [hi0]; rfl
                clear hi0
                go_wp2
                go_roundg (n - (i + 1))
                case measure => rw [HGh.out]; have := HLt.out; omega
                case rel => exact ⟨i + 1, rfl, by go_num, by rw [HSt.out]; first | rfl | go_num, HLt.out, HVr, HUr⟩
              · obtain ⟨j, hj⟩ : ∃ j, i = j + 1 := ⟨i - 1, by omega⟩
                have g3 : ((i : Int) == 0) = false := beq_false_of_ne (by omega)
                have hl1 := HLt.out
                rw [hj] at hl1
                obtain ⟨x, -, hx, -, hxl, hxd, -⟩ := par_st HG.out hl1
                have hmem := par_kid HG.out hl1
                rw [hx, Int.toNat_natCast] at hmem
                have hpl := pathL_eq L (j + 1)
                rw [hx, if_pos (by omega), Int.toNat_natCast] at hpl
                have hxn : x < n := by omega
                have hxd0 := (HG.out.len hxn).2
                rw [← hj] at hx hmem hpl hxd
                obtain ⟨R, hR⟩ : ∃ R : Nat, dep L x = (R : Nat) := ⟨(dep L x).toNat, by omega⟩
                obtain rfl : P = R + 1 := by have := HPl.out.1; omega
                obtain ⟨K2, hK2⟩ : ∃ K2, (kidsL L n x).length = K2 := ⟨_, rfl⟩
                have HUi := Lib.hid (fun W (hu : Up w W) => up_c (HA.out W hu) HC.out (by have := HN.out; omega) (HWr.out i HLt.out) (by omega) hx)
                have HPx := Lib.hid (fun W (hu : Up w W) => path_c (HA.out W hu) HC.out (by have := HN.out; omega) (HWr.out x hxn) HG.out hxn hR)
                have HKx := Lib.hid (fun W (hu : Up w W) => kids_c (HA.out W hu) HC.out (by have := HN.out; omega) (HWr.out x hxn) hK2)
                have HCn := Lib.hid (count_asc (kids_asc L n x) hmem)
                have HK2 := Lib.hid (And.intro hK2 (show K2 ≤ 400 by
                  have h2 := kidsR_len L x (n - (x + 1)) (x + 1)
                  have h4 := HN.out
                  unfold kidsL at hK2
                  omega))
                have HPR := Lib.hid (rowI_up HP.out HU2.out)
                have HPp := Lib.hid hpl
                have HPxl := Lib.hid (path_facts HG.out hxn hR).1
                have hcp2 : R + 1 + 1 ≤ cp := HCp.out
                have j7 : ¬ cp = 1 := by omega
                have j8 : 1 ≤ cp := by omega
                clear hi0 hl1 hx hmem hpl hxn hxd0 hxl hxd hR hK2 hj
                go_wp2_with (first
                  | (go_at_call 16; ((with_reducible refine (HUi.out _ HUr.out).mono ?_); rintro e w5 ⟨rfl, hu⟩; have HV5 := Lib.hid (rowI_up HVr.out hu); have HP5 := Lib.hid (rowI_up HPR.out hu); have HU5 := Lib.hid (HUr.out.trans hu); clear hu))
                  | (go_at_call 18; ((with_reducible refine (HPx.out _ HU5.out).mono ?_); rintro e w6 ⟨gx, cx, rfl, -, -, -, hr, hu⟩; have HX6 := Lib.hid hr; have HV6 := Lib.hid (rowI_up HV5.out hu); have HP6 := Lib.hid (rowI_up HP5.out hu); have HU6 := Lib.hid (HU5.out.trans hu); clear hr hu))
                  | (go_at_call 17; ((with_reducible refine (HKx.out _ HU6.out).mono ?_); rintro e w7 ⟨Ax, kx, rfl, hr, hu⟩; have HX7 := Lib.hid (rowI_up HX6.out hu); have HV7 := Lib.hid (rowI_up HV6.out hu); have HP7 := Lib.hid (rowI_up HP6.out hu); have HK7 := Lib.hid hr; have HU7 := Lib.hid (HU6.out.trans hu); clear hr hu)))
                have HX7' := Lib.hid (Up.refl w7)
                go_loopg [21, 22] K2 (fun g nv kv ws => ∃ (k m : Nat), g = K2 - k ∧ nv = .int .i64 (m : Nat) ∧ kv = .int .i64 (k : Nat) ∧ k ≤ K2 ∧ m ≤ k ∧ Hid (((kidsL L n x).take k).count i = m) ∧ Hid (Up w7 ws))
                case atStart => exact ⟨0, 0, rfl, rfl, rfl, Nat.zero_le _, Nat.le_refl _, Lib.hid rfl, HX7'⟩
                case round =>
                  obtain ⟨k2, m, hg, rfl, rfl, hk2, hmk, HCm, HU8⟩ := hrel
                  have HG3 := Lib.hid hg
                  clear hg
                  by_cases hkl2 : k2 < K2
                  · have hkx : k2 < (kidsL L n x).length := by rw [HK2.out.1]; exact hkl2
                    obtain ⟨y, hy⟩ : ∃ y, (kidsL L n x)[k2] = y := ⟨_, rfl⟩
                    obtain ⟨gy, rfl, kc⟩ := row_at (rowI_up HK7.out HU8.out) (List.getElem?_eq_some_iff.2 ⟨hkx, hy⟩)
                    have hct := count_take (x := i) hkx
                    rw [HCm.out, hy] at hct
                    have j9 : (k2 : Int) < K2 := by omega
                    have hK400 := HK2.out.2
                    have q8 : IntKind.i64.wrap ((m : Int) + 1) = ((m + 1 : Nat) : Int) := (IntWalk.i64_in _ (by omega)).trans (by omega)
                    have HKl2 := Lib.hid (And.intro hkl2 hmk)
                    by_cases hyi : y = i
                    · rw [if_pos hyi] at hct
                      have HCt := Lib.hid hct
                      have g9 : ((y : Int) == (i : Int)) = true := by rw [hyi]; exact beq_self_eq_true _
                      clear hct hyi hy hkl2 hk2 hmk
                      go_wp2
                      go_roundg (K2 - (k2 + 1))
                      case measure => rw [HG3.out]; have := HKl2.out; omega
                      case rel => exact ⟨k2 + 1, m + 1, rfl, by first | rfl | go_num, by go_num, by have := HKl2.out; omega, by have := HKl2.out; omega, HCt, HU8⟩
                    · rw [if_neg hyi] at hct
                      have HCt := Lib.hid hct
                      have g9 : ((y : Int) == (i : Int)) = false := beq_false_of_ne (by omega)
                      have g9b : (y == i) = false := beq_false_of_ne hyi
                      clear hct hyi hy hkl2 hk2 hmk
                      go_wp2
                      go_roundg (K2 - (k2 + 1))
                      case measure => rw [HG3.out]; have := HKl2.out; omega
                      case rel => exact ⟨k2 + 1, m, rfl, rfl, by go_num, by have := HKl2.out; omega, by have := HKl2.out; omega, HCt, HU8⟩
                  · obtain rfl : k2 = K2 := by omega
                    have f9 : decide (k2 < k2) = false := decide_eq_false hkl2
                    obtain rfl : m = 1 := by
                      have h1 := HCm.out
                      rw [List.take_of_length_le (by rw [HK2.out.1]; exact Nat.le_refl _), HCn.out] at h1
                      exact h1.symm
                    have HIn := Lib.hid (fun c9 => show Calls Tryd.prog 21 #[.slice (some ⟨gx, 0, none⟩) (R + 1) cx, .slice (some ⟨gp, 1, none⟩) (R + 1) c9] wr fun e w' => e = .returned (.bool true) ∧ Up wr w' from by
                      have h1 : (toI (pathL L x)).length = R + 1 := by rw [toI_len]; exact HPxl.out
                      have h2 := refIntsO_any wr w5.heap.size gp 1 c9 _ _ (rowI_up HX7.out HU8.out) (fun t ht => by
                        rw [toI_len] at ht
                        obtain ⟨g', e', h3⟩ := row_at (rowI_up HP7.out HU8.out) (j := t + 1) (x := (pathL L x)[t]) (by rw [HPp.out, List.getElem?_cons_succ, List.getElem?_eq_getElem ht])
                        obtain rfl : gp = g' := by injection e' with e'; injection e'
                        rw [Nat.add_comm 1 t, h3]
                        exact congrArg (fun z => some (Value.int .i64 z)) (List.getElem_map (fun (k : Nat) => (k : Int))).symm) (by rw [h1]; have := HPl.out.2; omega)
                      rw [h1] at h2
                      exact h2)
                    clear hkl2 hk2 hmk
                    go_wp2_with (go_at_call 21; ((with_reducible refine (HIn.out _).mono ?_); rintro e w9 ⟨rfl, hu⟩; have HV9 := Lib.hid (rowI_up (rowI_up HV7.out HU8.out) hu); have HU9 := Lib.hid ((HU7.out.trans HU8.out).trans hu); clear hu))
                    go_roundg (n - (i + 1))
                    case measure => rw [HGh.out]; have := HLt.out; omega
                    case rel => exact ⟨i + 1, rfl, by go_num, by rw [HSt.out]; first | rfl | go_num, HLt.out, HV9, HU9⟩
end Go.Proofs.YtidnldchdahgeaaDoor
