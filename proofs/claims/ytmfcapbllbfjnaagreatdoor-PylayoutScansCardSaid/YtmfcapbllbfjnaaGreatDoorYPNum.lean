/- The program's numeral. -/
import Derived.Test.YtmfcapbllbfjnaaGreatDoorYPStr
namespace Go.Proofs.YtmfcapbllbfjnaaGreatDoor
open Go.RowKit

theorem tp_hit {s : ByteArray} (h : 0 < s.size) (h46 : bt s 0 = 46) : (⟨(Lib.trimPrefix s.data.toList (⟨#[46]⟩ : ByteArray).data.toList).toArray⟩ : ByteArray) = s.extract 1 s.size := by
  have e : Lib.hasPrefix s.data.toList (⟨#[46]⟩ : ByteArray).data.toList = true := by
    rw [hp_bl]
    have := bl_drop h
    rw [List.drop_zero, h46] at this
    rw [this]; rfl
  unfold Lib.trimPrefix
  rw [if_pos e, Lib.extract_eq]
  congr 2
  rw [List.take_of_length_le (by rw [List.length_drop, ← Lib.size_eq]; exact Nat.le_refl _)]
  rfl
theorem tp_miss {s : ByteArray} (h46 : bt s 0 ≠ 46) : (⟨(Lib.trimPrefix s.data.toList (⟨#[46]⟩ : ByteArray).data.toList).toArray⟩ : ByteArray) = s := by
  have e : Lib.hasPrefix s.data.toList (⟨#[46]⟩ : ByteArray).data.toList = false := by
    rw [hp_bl]
    by_cases h : 0 < s.size
    · have := bl_drop h
      rw [List.drop_zero] at this
      rw [this]
      show ((46 == bt s 0) && _) = false
      rw [beq_eq_false_iff_ne.2 (Ne.symm h46)]; rfl
    · have : bl s = [] := List.eq_nil_of_length_eq_zero (by rw [bl_len]; omega)
      rw [this]; rfl
  unfold Lib.trimPrefix
  rw [if_neg (by rw [e]; exact Bool.false_ne_true)]
/-- The bytes behind which a sign is an operator. -/
def sgnB : ByteArray := ⟨#[120, 88, 98, 66, 111, 79]⟩
theorem sgn_byte (d : UInt8) : decide (Lib.indexByte sgnB.data.toList d < 0) = !(d.toNat == 120 || d.toNat == 88 || d.toNat == 98 || d.toNat == 66 || d.toNat == 111 || d.toNat == 79) := by
  have h : ∀ d : Fin 256, decide (Lib.indexByte sgnB.data.toList (UInt8.ofNat d.val) < 0) = !(d.val == 120 || d.val == 88 || d.val == 98 || d.val == 66 || d.val == 111 || d.val == 79) := by decide +kernel
  have := h ⟨d.toNat, d.toNat_lt⟩
  simpa using this
theorem sgn_at {s : ByteArray} (h : 1 < s.size) : decide (Lib.indexByte sgnB.data.toList s[1] < 0) = sgn (bl s) := by
  rw [sgn_byte]
  have h0 := bl_drop (show 0 < s.size by omega)
  have h1 := bl_drop h
  rw [List.drop_zero] at h0
  rw [h0, show 0 + 1 = 1 from rfl, h1, ← bt_eq h]
  rfl
theorem byte_back (b : UInt8) : ((b.toNat : Nat) : Int).toNat.toUInt8 = b := by
  apply UInt8.toNat_inj.1
  simp
theorem numO_cons (c : Nat) (r : List Nat) : numO (c :: r) = if (digN c || (c == 46 && digH r)) = true then numL (c :: r) else 0 := rfl
/-- What is left ahead of the first digit that a number must have: its digits. -/
theorem numO_cases (s : ByteArray) (h : 0 < s.size) : ∃ G : ByteArray, (⟨(Lib.trimPrefix s.data.toList (⟨#[46]⟩ : ByteArray).data.toList).toArray⟩ : ByteArray) = G ∧ ((G.size = 0 ∧ numO (bl s) = 0) ∨ (0 < G.size ∧ digN (bt G 0) = false ∧ numO (bl s) = 0) ∨ (0 < G.size ∧ digN (bt G 0) = true ∧ numO (bl s) = numL (bl s))) := by
  have h0 := bl_drop h
  rw [List.drop_zero] at h0
  by_cases h46 : bt s 0 = 46
  · refine ⟨_, tp_hit h h46, ?_⟩
    by_cases h1 : 1 < s.size
    · have hs : 0 < (s.extract 1 s.size).size := by rw [ByteArray.size_extract]; omega
      have hb : bt (s.extract 1 s.size) 0 = bt s 1 := by
        have := bt_ext_in (s := s) (a := 1) (c := s.size) (i := 0) (by omega) (by omega)
        exact this
      have h2 := bl_drop h1
      have e : numO (bl s) = if digN (bt s 1) = true then numL (bl s) else 0 := by
        rw [h0, show 0 + 1 = 1 from rfl, h2, h46]
        rw [numO_cons, show (digN 46 || ((46 : Nat) == 46 && digH (bt s 1 :: (bl s).drop (1 + 1)))) = digN (bt s 1) from rfl]
      rw [hb]
      cases hd : digN (bt s 1)
      · exact .inr (.inl ⟨hs, rfl, by rw [e, hd]; rfl⟩)
      · exact .inr (.inr ⟨hs, rfl, by rw [e, hd]; rfl⟩)
    · refine .inl ⟨by rw [ByteArray.size_extract]; omega, ?_⟩
      rw [h0, bl_end (by omega), h46]
      rfl
  · refine ⟨s, tp_miss h46, ?_⟩
    have e : numO (bl s) = if digN (bt s 0) = true then numL (bl s) else 0 := by
      rw [h0]
      rw [numO_cons, beq_eq_false_iff_ne.2 h46, Bool.false_and, Bool.or_false]
    cases hd : digN (bt s 0)
    · exact .inr (.inl ⟨h, rfl, by rw [e, hd]; rfl⟩)
    · exact .inr (.inr ⟨h, rfl, by rw [e, hd]; rfl⟩)
set_option maxRecDepth 100000 in
set_option maxHeartbeats 4000000 in
theorem numeral_any (s : ByteArray) (w : World) (hs : (s.size : Int) ≤ 1000000) (h1 : 0 < s.size) : Calls Tryz.prog 71 #[.string s] w fun e w' => e = .returned (.int .i64 (numO (bl s) : Nat)) ∧ Up w w' := by
  obtain ⟨G, hG, hcase⟩ := numO_cases s h1
  have ht := fun W => (Tryz.strings_TrimPrefix s ⟨#[46]⟩ W).mono (fun e w' h => And.intro h.1 h.2.symm)
  rw [hG] at ht
  have HT := Lib.hid ht
  clear ht hG
  rcases hcase with ⟨k1, k2⟩ | ⟨k1, k2, k3⟩ | ⟨k1, k2, k3⟩
  · rw [k2]
    obtain rfl : G = ⟨#[]⟩ := by
      apply bl_inj
      exact List.eq_nil_of_length_eq_zero ((bl_len G).trans k1)
    clear hs h1 k1 k2
    go_enter Tryz.func71, Tryz.ntmps71
    go_wp2_with (go_at_call 80; ((with_reducible refine (HT.out _).mono ?_); rintro e w1 ⟨rfl, rfl⟩))
    go_ret
    exact ⟨rfl, Up.refl _⟩
  · rw [k3]
    have HDG := Lib.hid (fun W => pDigit_any (bt G 0) W)
    have hb := bt_eq k1
    rw [k2] at HDG
    generalize bt G 0 = d at HDG hb
    have hne : G ≠ ⟨#[]⟩ := fun e => by rw [e] at k1; exact absurd k1 (by decide)
    have q0 : (G.toList == ([] : List UInt8)) = false := by
      rw [beq_eq_false_iff_ne]
      intro e
      exact hne (bytes_ext (e.trans (ByteArray.toList_eq (⟨#[]⟩ : ByteArray)).symm))
    have q1 : G.toList.isEmpty = false := by
      rw [Bool.eq_false_iff]
      intro e
      exact hne (bytes_ext ((List.isEmpty_iff.1 e).trans (ByteArray.toList_eq (⟨#[]⟩ : ByteArray)).symm))
    have p0 : (0 : Int) < (G.size : Int) := by omega
    clear hs h1 k2 k3 hne
    go_enter Tryz.func71, Tryz.ntmps71
    go_wp2_with (first | (go_at_call 80; ((with_reducible refine (HT.out _).mono ?_); rintro e w1 ⟨rfl, rfl⟩)) | (go_at_call 70; ((with_reducible refine (HDG.out _).mono ?_); rintro e w1 ⟨rfl, rfl⟩)))
    go_ret
    exact ⟨rfl, Up.refl _⟩
  · rw [k3]
    have HDG := Lib.hid (fun W => pDigit_any (bt G 0) W)
    have hb := bt_eq k1
    rw [k2] at HDG
    generalize bt G 0 = d at HDG hb
    have hne : G ≠ ⟨#[]⟩ := fun e => by rw [e] at k1; exact absurd k1 (by decide)
    have q0 : (G.toList == ([] : List UInt8)) = false := by
      rw [beq_eq_false_iff_ne]
      intro e
      exact hne (bytes_ext (e.trans (ByteArray.toList_eq (⟨#[]⟩ : ByteArray)).symm))
    have q1 : G.toList.isEmpty = false := by
      rw [Bool.eq_false_iff]
      intro e
      exact hne (bytes_ext ((List.isEmpty_iff.1 e).trans (ByteArray.toList_eq (⟨#[]⟩ : ByteArray)).symm))
    have p0 : (0 : Int) < (G.size : Int) := by omega
    obtain ⟨N, hN⟩ : ∃ N, numL (bl s) = N := ⟨_, rfl⟩
    obtain ⟨SG, hSG⟩ : ∃ SG, (decide (1 < s.size) && sgn (bl s)) = SG := ⟨_, rfl⟩
    have hN1 : 1 + numT SG (bt s 0) ((bl s).drop 1) = N := by
      have h0 := bl_drop h1
      rw [List.drop_zero] at h0
      rw [h0] at hN hSG
      rw [← hN]
      show _ = numT (sgn (bt s 0 :: (bl s).drop (0 + 1))) (bt s 0) ((bl s).drop (0 + 1)) + 1
      by_cases hl : 1 < s.size
      · rw [decide_eq_true hl, Bool.true_and] at hSG
        rw [hSG]
        exact Nat.add_comm _ _
      · rw [bl_end (by omega)]
        rfl
    rw [hN]
    have HN := Lib.hid hN1
    have HS := Lib.hid hs
    have HI := Lib.hid h1
    have HSG := Lib.hid hSG
    have HL := Lib.hid (fun W (c : Nat) => pLetter_any c W)
    have HD := Lib.hid (fun W (c : Nat) => pDigit_any c W)
    clear hs k2 k3 hne hN hN1 hSG
    go_enter Tryz.func71, Tryz.ntmps71
    go_upto_region 4 with (first | (go_at_call 80; ((with_reducible refine (HT.out _).mono ?_); rintro e w1 ⟨rfl, rfl⟩)) | (go_at_call 70; ((with_reducible refine (HDG.out _).mono ?_); rintro e w1 ⟨rfl, rfl⟩)))
    clear HT HDG q0 q1 p0 hb
    go_cut [4] (fun c wx => c = .bool SG ∧ w = wx)
    case first =>
      have hSG := HSG.out
      clear HN HSG HL HD
      by_cases hl : 1 < s.size
      · have HIB := Lib.hid (fun W => (Tryz.strings_IndexByte sgnB ((s[1]'hl).toNat : Nat) W).mono (fun e w' h => And.intro h.1 h.2.symm))
        rw [decide_eq_true hl, Bool.true_and, ← sgn_at hl] at hSG
        rw [byte_back] at HIB
        unfold sgnB at HIB
        change decide (Lib.indexByte (⟨#[120, 88, 98, 66, 111, 79]⟩ : ByteArray).data.toList s[1] < 0) = SG at hSG
        generalize Lib.indexByte (⟨#[120, 88, 98, 66, 111, 79]⟩ : ByteArray).data.toList s[1] = K at HIB hSG
        have hl2 : (1 : Int) < s.size := by omega
        cases SG with
        | true =>
          have hK : K < 0 := of_decide_eq_true hSG
          clear hSG h1
          go_wp2_with (go_at_call 21; ((with_reducible refine (HIB.out _).mono ?_); rintro e w1 ⟨rfl, rfl⟩))
          go_meet
          case rel => exact ⟨rfl, rfl⟩
        | false =>
          go_wp2_with (go_at_call 21; ((with_reducible refine (HIB.out _).mono ?_); rintro e w1 ⟨rfl, rfl⟩))
          go_meet
          case rel => exact ⟨rfl, rfl⟩
      · rw [decide_eq_false hl, Bool.false_and] at hSG
        subst hSG
        have hl2 : decide ((1 : Int) < s.size) = false := decide_eq_false (by omega)
        have hl3 : decide (1 < s.size) = false := decide_eq_false hl
        clear hl
        go_wp2
        go_meet
        case rel => exact ⟨rfl, rfl⟩
    case rest =>
      obtain ⟨rfl, hw⟩ := hcut
      subst hw
      have HU := Lib.hid (Up.refl w)
      clear HSG h1
      go_wp2
      go_loopg [5] (s.size - 1) (fun g iv wr => ∃ q : Nat, g = s.size - (q + 1) ∧ iv = .int .i64 ((q : Int) + 1) ∧ Hid (q + 1 ≤ s.size) ∧ Hid ((q + 1) + numT SG (bt s q) ((bl s).drop (q + 1)) = N) ∧ Hid (Up w wr))
      case atStart => exact ⟨0, rfl, rfl, Lib.hid (by have := HI.out; omega), HN, HU⟩
      case round =>
        clear HN HU
        obtain ⟨q, hg, rfl, HQ, HN, HU⟩ := hrel
        have HG := Lib.hid hg
        clear hg
        by_cases hlt : q + 1 < s.size
        · have hq : q < s.size := by omega
          obtain ⟨c, hx⟩ : ∃ c, s[q + 1].toNat = c := ⟨_, rfl⟩
          obtain ⟨a, hy⟩ : ∃ a, s[q].toNat = a := ⟨_, rfl⟩
          have hbx : bt s (q + 1) = c := by rw [← bt_eq hlt]; exact hx
          have hby : bt s q = a := by rw [← bt_eq hq]; exact hy
          have hN := HN.out
          rw [bl_drop hlt, hbx, hby, numT_cons] at hN
          obtain ⟨SB, hSB⟩ : ∃ SB, (SG && (c == 43 || c == 45) && (a == 101 || a == 69)) = SB := ⟨_, rfl⟩
          have hC : numC SG a c = ((letN c && decide (c < 128)) || digN c || c == 46 || SB) := by rw [← hSB]; rfl
          have HSB := Lib.hid hSB
          have HC := Lib.hid hC
          have HNN := Lib.hid hN
          have HQQ := Lib.hid hlt
          have HBX := Lib.hid hbx
          have hlt2 : (q : Int) + 1 < s.size := by omega
          have hq2 : (q : Int) < s.size := by omega
          have hq0 : (0 : Int) ≤ q := by omega
          have hq1 : (0 : Int) ≤ (q : Int) + 1 := by omega
          have HQB := Lib.hid (show (q : Int) ≤ 1000000 by have := HS.out; omega)
          have e2b : IntKind.i64.wrap ((q : Int) + 1 - 1) = (q : Nat) := (IntWalk.i64_in _ (by have := HQB.out; omega)).trans (by omega)
          have e2 : wrap64 (q : Int) = (q : Nat) := IntWalk.wrap64_in _ (by have := HQB.out; omega)
          clear hbx hby hN hC hSB
          go_upto_region 8 with fail
          go_cut [6, 7] (fun v6 v7 wx => v6 = .int .u8 (c : Nat) ∧ v7 = .int .u8 (a : Nat) ∧ Hid (Up w wx))
          case first =>
            clear HN HS HI HG HL HD HC HNN HQ HQQ HSB HBX HQB
            go_quiet (fail)
            go_wp2
            go_meet
            case rel => exact ⟨rfl, rfl, Lib.hid (HU.out.trans (Up.drewN _ _))⟩
          case rest =>
          obtain ⟨rfl, rfl, HUX⟩ := hcut
          clear HU e2 e2b hx hy
          go_upto_region 9 with fail
          go_cut [8] (fun cv wy => cv = .bool SB ∧ Hid (Up w wy))
          case first =>
            clear HN HS HI HG HL HD HC HNN HQ HQQ
            have hSB := HSB.out
            clear HSB
            cases SG with
            | false =>
              obtain rfl : false = SB := by rw [← hSB]; rfl
              clear hSB
              go_wp2
              go_meet
              case rel => exact ⟨rfl, HUX⟩
            | true =>
              by_cases h1 : c = 43
              · have t1 : ((c : Int) == 43) = true := beq_iff_eq.2 (by omega)
                by_cases h3 : a = 101
                · have t3 : ((a : Int) == 101) = true := beq_iff_eq.2 (by omega)
                  obtain rfl : true = SB := by rw [← hSB]; simp [h1, h3]
                  clear hSB
                  go_wp2
                  go_meet
                  case rel => exact ⟨rfl, HUX⟩
                · have t3 : ((a : Int) == 101) = false := beq_eq_false_iff_ne.2 (by omega)
                  by_cases h4 : a = 69
                  · have t4 : ((a : Int) == 69) = true := beq_iff_eq.2 (by omega)
                    obtain rfl : true = SB := by rw [← hSB]; simp [h1, h4]
                    clear hSB
                    go_wp2
                    go_meet
                    case rel => exact ⟨rfl, HUX⟩
                  · have t4 : ((a : Int) == 69) = false := beq_eq_false_iff_ne.2 (by omega)
                    obtain rfl : false = SB := by rw [← hSB]; simp [h3, h4]
                    clear hSB
                    go_wp2
                    go_meet
                    case rel => exact ⟨rfl, HUX⟩
              · have t1 : ((c : Int) == 43) = false := beq_eq_false_iff_ne.2 (by omega)
                by_cases h2 : c = 45
                · have t2 : ((c : Int) == 45) = true := beq_iff_eq.2 (by omega)
                  by_cases h3 : a = 101
                  · have t3 : ((a : Int) == 101) = true := beq_iff_eq.2 (by omega)
                    obtain rfl : true = SB := by rw [← hSB]; simp [h2, h3]
                    clear hSB
                    go_wp2
                    go_meet
                    case rel => exact ⟨rfl, HUX⟩
                  · have t3 : ((a : Int) == 101) = false := beq_eq_false_iff_ne.2 (by omega)
                    by_cases h4 : a = 69
                    · have t4 : ((a : Int) == 69) = true := beq_iff_eq.2 (by omega)
                      obtain rfl : true = SB := by rw [← hSB]; simp [h2, h4]
                      clear hSB
                      go_wp2
                      go_meet
                      case rel => exact ⟨rfl, HUX⟩
                    · have t4 : ((a : Int) == 69) = false := beq_eq_false_iff_ne.2 (by omega)
                      obtain rfl : false = SB := by rw [← hSB]; simp [h3, h4]
                      clear hSB
                      go_wp2
                      go_meet
                      case rel => exact ⟨rfl, HUX⟩
                · have t2 : ((c : Int) == 45) = false := beq_eq_false_iff_ne.2 (by omega)
                  obtain rfl : false = SB := by rw [← hSB]; simp [h1, h2]
                  clear hSB
                  go_wp2
                  go_meet
                  case rel => exact ⟨rfl, HUX⟩
          case rest =>
            clear HUX
            obtain ⟨rfl, HUX⟩ := hcut
            have HL2 := Lib.hid (fun W => HL.out W c)
            have HD2 := Lib.hid (fun W => HD.out W c)
            have hcv := HC.out
            have hN := HNN.out
            have e3 : IntKind.i64.wrap ((q : Int) + 1 + 1) = (q : Int) + 1 + 1 := IntWalk.i64_in _ (by have := HQB.out; omega)
            have HQ2 := Lib.hid (show q + 1 + 1 ≤ s.size from HQQ.out)
            have HYES := Lib.hid (fun (h : numC SG a c = true) => (show (q + 1 + 1) + numT SG (bt s (q + 1)) ((bl s).drop (q + 1 + 1)) = N by
              rw [h, if_pos rfl] at hN
              rw [HBX.out, ← hN]; omega))
            have HNO := Lib.hid (fun (h : numC SG a c = false) => (show ((q + 1 : Nat) : Int) = (N : Nat) by
              rw [h, if_neg Bool.false_ne_true] at hN
              rw [← hN]))
            clear HL HD HC HNN HSB HN HI hN HQ hlt hq
            cases SB with
            | true =>
              have HN2 := Lib.hid (HYES.out (by rw [hcv, Bool.or_true]))
              have HL4 := HL2
              have HD4 := HD2
              clear HL2 HD2 hcv HYES HNO
              go_wp2_with (first | (go_at_call 79; ((with_reducible refine (HL4.out _).mono ?_); rintro e w1 ⟨rfl, rfl⟩)) | (go_at_call 70; ((with_reducible refine (HD4.out _).mono ?_); rintro e w1 ⟨rfl, rfl⟩)))
              go_roundg (s.size - (q + 2))
              case measure => rw [HG.out]; have := HQQ.out; omega
              case rel => exact ⟨q + 1, rfl, by go_num, HQ2, HN2, HUX⟩
            | false =>
              rw [Bool.or_false] at hcv
              cases hl : letP c with
              | true =>
                have HN2 := Lib.hid (HYES.out (by rw [hcv]; have h := of_decide_eq_true hl; rw [show letN c = true from decide_eq_true (by omega), decide_eq_true (show c < 128 by omega)]; rfl))
                have HL4 := Lib.hid (fun W => (show Calls Tryz.prog 79 #[.int .u8 (c : Nat)] W fun e w' => e = .returned (.bool true) ∧ W = w' from by have := HL2.out W; rw [hl] at this; exact this))
                have HD4 := HD2
                clear hl
                clear HL2 HD2 hcv HYES HNO
                go_wp2_with (first | (go_at_call 79; ((with_reducible refine (HL4.out _).mono ?_); rintro e w1 ⟨rfl, rfl⟩)) | (go_at_call 70; ((with_reducible refine (HD4.out _).mono ?_); rintro e w1 ⟨rfl, rfl⟩)))
                go_roundg (s.size - (q + 2))
                case measure => rw [HG.out]; have := HQQ.out; omega
                case rel => exact ⟨q + 1, rfl, by go_num, HQ2, HN2, HUX⟩
              | false =>
                cases hd : digN c with
                | true =>
                  have HN2 := Lib.hid (HYES.out (by rw [hcv, hd, Bool.or_true]; rfl))
                  have HL4 := Lib.hid (fun W => (show Calls Tryz.prog 79 #[.int .u8 (c : Nat)] W fun e w' => e = .returned (.bool false) ∧ W = w' from by have := HL2.out W; rw [hl] at this; exact this))
                  have HD4 := Lib.hid (fun W => (show Calls Tryz.prog 70 #[.int .u8 (c : Nat)] W fun e w' => e = .returned (.bool true) ∧ W = w' from by have := HD2.out W; rw [hd] at this; exact this))
                  clear hl hd
                  clear HL2 HD2 hcv HYES HNO
                  go_wp2_with (first | (go_at_call 79; ((with_reducible refine (HL4.out _).mono ?_); rintro e w1 ⟨rfl, rfl⟩)) | (go_at_call 70; ((with_reducible refine (HD4.out _).mono ?_); rintro e w1 ⟨rfl, rfl⟩)))
                  go_roundg (s.size - (q + 2))
                  case measure => rw [HG.out]; have := HQQ.out; omega
                  case rel => exact ⟨q + 1, rfl, by go_num, HQ2, HN2, HUX⟩
                | false =>
                  have HL4 := Lib.hid (fun W => (show Calls Tryz.prog 79 #[.int .u8 (c : Nat)] W fun e w' => e = .returned (.bool false) ∧ W = w' from by have := HL2.out W; rw [hl] at this; exact this))
                  have HD4 := Lib.hid (fun W => (show Calls Tryz.prog 70 #[.int .u8 (c : Nat)] W fun e w' => e = .returned (.bool false) ∧ W = w' from by have := HD2.out W; rw [hd] at this; exact this))
                  rw [hd, Bool.or_false] at hcv
                  by_cases h95 : c = 95
                  · have HN2 := Lib.hid (HYES.out (by rw [hcv, h95]; rfl))
                    have t0 : ((c : Int) == 95) = true := beq_iff_eq.2 (by omega)
                    have t1 : ((c : Int) != 95) = false := by rw [bne, t0]; rfl
                    clear hl hd h95
                    clear HL2 HD2 hcv HYES HNO
                    go_wp2_with (first | (go_at_call 79; ((with_reducible refine (HL4.out _).mono ?_); rintro e w1 ⟨rfl, rfl⟩)) | (go_at_call 70; ((with_reducible refine (HD4.out _).mono ?_); rintro e w1 ⟨rfl, rfl⟩)))
                    go_roundg (s.size - (q + 2))
                    case measure => rw [HG.out]; have := HQQ.out; omega
                    case rel => exact ⟨q + 1, rfl, by go_num, HQ2, HN2, HUX⟩
                  have t0 : ((c : Int) == 95) = false := beq_eq_false_iff_ne.2 (by omega)
                  have t1 : ((c : Int) != 95) = true := by rw [bne, t0]; rfl
                  by_cases h46 : c = 46
                  · have HN2 := Lib.hid (HYES.out (by rw [hcv, h46]; rfl))
                    have t2 : ((c : Int) == 46) = true := beq_iff_eq.2 (by omega)
                    have t3 : ((c : Int) != 46) = false := by rw [bne, t2]; rfl
                    clear hl hd h95 h46
                    clear HL2 HD2 hcv HYES HNO
                    go_wp2_with (first | (go_at_call 79; ((with_reducible refine (HL4.out _).mono ?_); rintro e w1 ⟨rfl, rfl⟩)) | (go_at_call 70; ((with_reducible refine (HD4.out _).mono ?_); rintro e w1 ⟨rfl, rfl⟩)))
                    go_roundg (s.size - (q + 2))
                    case measure => rw [HG.out]; have := HQQ.out; omega
                    case rel => exact ⟨q + 1, rfl, by go_num, HQ2, HN2, HUX⟩
                  have t2 : ((c : Int) == 46) = false := beq_eq_false_iff_ne.2 (by omega)
                  have t3 : ((c : Int) != 46) = true := by rw [bne, t2]; rfl
                  have hz : (letN c && decide (c < 128)) = false := by
                    have h := of_decide_eq_false hl
                    by_cases h128 : c < 128
                    · rw [show letN c = false from decide_eq_false (by omega)]; rfl
                    · rw [decide_eq_false h128, Bool.and_false]
                  have HE := Lib.hid (HNO.out (by rw [hcv, beq_eq_false_iff_ne.2 h46, Bool.or_false]; exact hz))
                  clear hl hd h95 h46 hcv hz HYES HNO HL2 HD2 e3
                  go_wp2_with (first | (go_at_call 79; ((with_reducible refine (HL4.out _).mono ?_); rintro e w1 ⟨rfl, rfl⟩)) | (go_at_call 70; ((with_reducible refine (HD4.out _).mono ?_); rintro e w1 ⟨rfl, rfl⟩)))
                  go_ret
                  refine ⟨?_, HUX.out⟩
                  rw [← HE.out]
                  exact congrArg (fun x => Ending.returned (Value.int .i64 x)) (by omega)
        · have hN := HN.out
          rw [bl_end (by omega)] at hN
          have hN' : q + 1 = N := hN
          subst hN'
          have f0 : decide ((q : Int) + 1 < s.size) = false := decide_eq_false (by omega)
          clear hN hlt
          go_wp2
          go_ret
          exact ⟨by simp, HU.out⟩
end Go.Proofs.YtmfcapbllbfjnaaGreatDoor
