/- The document's close and number. -/
import Derived.Test.YtmfcapbllbfjnaaGreatDoorYRefA
namespace Go.Proofs.YtmfcapbllbfjnaaGreatDoor
open Go.RowKit

theorem clo_step {q l : List Nat} {c : Nat} (h : c ≠ 92) : clo q (c :: l) = if q.isPrefixOf (c :: l) then (q.length, 0) else ((clo q l).1 + 1, (clo q l).2) := by
  cases l with
  | nil =>
    show (if c = 92 then ((1, 1) : Nat × Nat) else if q.isPrefixOf [c] then (q.length, 0) else (1, 2)) = _
    rw [if_neg h]; rfl
  | cons d r => rw [clo, if_neg h]
theorem clo_esc {q r : List Nat} {d : Nat} : clo q (92 :: d :: r) = ((clo q r).1 + 2, (clo q r).2) := by rw [clo, if_pos rfl]
theorem clo_last {q : List Nat} : clo q [92] = (1, 1) := by rw [clo, if_pos rfl]
set_option maxRecDepth 100000 in
set_option maxHeartbeats 2000000 in
theorem close_any (s t : ByteArray) (p0 : Nat) (w : World) (hs : (s.size : Int) ≤ 1000000) (ht : t.size ≤ 100) (hp : p0 ≤ s.size) : Calls Tryz.prog 32 #[.string s, .int .i64 (p0 : Nat), .string t] w fun e w' => e = .returned (.tuple #[.int .i64 ((p0 + (clo (bl t) ((bl s).drop p0)).1 : Nat) : Int), .int .i64 ((clo (bl t) ((bl s).drop p0)).2 : Nat)]) ∧ w = w' := by
  obtain ⟨N, hN⟩ : ∃ N, p0 + (clo (bl t) ((bl s).drop p0)).1 = N := ⟨_, rfl⟩
  obtain ⟨K, hK⟩ : ∃ K, (clo (bl t) ((bl s).drop p0)).2 = K := ⟨_, rfl⟩
  rw [hN, hK]
  have HA := Lib.hid (fun W p (hp : p ≤ s.size) => at_any s t p W hs ht hp)
  have HN := Lib.hid hN
  have HK := Lib.hid hK
  have HP := Lib.hid hp
  have HS := Lib.hid hs
  have HT := Lib.hid ht
  clear hN hK hs ht hp
  go_enter Tryz.func32, Tryz.ntmps32
  go_wp2
  go_loopg [1] (s.size - p0) (fun g iv wr => w = wr ∧ ∃ p : Nat, g = s.size - p ∧ iv = .int .i64 (p : Nat) ∧ Hid (p ≤ s.size) ∧ Hid (p + (clo (bl t) ((bl s).drop p)).1 = N) ∧ Hid ((clo (bl t) ((bl s).drop p)).2 = K))
  case atStart => exact ⟨rfl, p0, rfl, rfl, HP, HN, HK⟩
  case round =>
    clear HN HK HP
    obtain ⟨rfl, p, hg, rfl, HP, HN, HK⟩ := hrel
    have HG := Lib.hid hg
    clear hg
    by_cases hlt : p < s.size
    · obtain ⟨x, hx⟩ : ∃ x, s[p].toNat = x := ⟨_, rfl⟩
      have hbx : bt s p = x := by rw [← bt_eq hlt]; exact hx
      have hpp : (p : Int) < s.size := by omega
      have hp0 : (0 : Int) ≤ p := by omega
      have hN := HN.out
      have hK := HK.out
      have HLt := Lib.hid hlt
      by_cases h92 : x = 92
      · subst h92
        rw [bl_drop hlt, hbx] at hN hK
        have e1 : IntKind.i64.wrap ((p : Int) + 1) = (p : Int) + 1 := IntWalk.i64_in _ (by have := HS.out; omega)
        have e3 : IntKind.i64.wrap ((p : Int) + 2) = (p : Int) + 2 := IntWalk.i64_in _ (by have := HS.out; omega)
        by_cases hl : p + 1 = s.size
        · rw [bl_end (by omega), clo_last] at hN hK
          have hN' : s.size = N := by rw [← hl]; exact hN
          have hK' : 1 = K := hK
          subst hN' hK'
          have f0 : ((p : Int) + 1 == s.size) = true := beq_iff_eq.2 (by omega)
          clear hbx hN hK hl
          go_wp2
          go_ret2
          exact ⟨rfl, rfl⟩
        · have hl2 : p + 1 < s.size := by omega
          rw [bl_drop hl2, clo_esc, show p + 1 + 1 = p + 2 from rfl] at hN hK
          have HN2 := Lib.hid (show (p + 2) + (clo (bl t) ((bl s).drop (p + 2))).1 = N by rw [← hN]; show _ = p + (_ + 2); omega)
          have HK2 := Lib.hid hK
          have HP2 := Lib.hid (show p + 2 ≤ s.size by omega)
          have f0 : ((p : Int) + 1 == s.size) = false := beq_eq_false_iff_ne.2 (by omega)
          clear hbx hN hK hl hl2
          go_wp2
          go_roundg (s.size - (p + 2))
          case measure => rw [HG.out]; have := HLt.out; omega
          case rel => exact ⟨rfl, p + 2, rfl, by go_num, HP2, HN2, HK2⟩
      · have hq := hbx
        obtain ⟨B, hB⟩ : ∃ B, (bl t).isPrefixOf ((bl s).drop p) = B := ⟨_, rfl⟩
        have hA := fun W => HA.out W p (by omega)
        rw [hB] at hA
        have HA2 := Lib.hid hA
        have hB2 : (bl t).isPrefixOf (x :: (bl s).drop (p + 1)) = B := by rw [← hbx, ← bl_drop hlt]; exact hB
        rw [bl_drop hlt, hbx, clo_step h92, hB2] at hN hK
        have h92' : ((x : Int) == 92) = false := beq_eq_false_iff_ne.2 (by omega)
        have e1 : IntKind.i64.wrap ((p : Int) + 1) = (p : Int) + 1 := IntWalk.i64_in _ (by have := HS.out; omega)
        have e4 : IntKind.i64.wrap ((p : Int) + t.size) = (p : Int) + t.size := IntWalk.i64_in _ (by have := HS.out; have := HT.out; omega)
        clear hA hB hB2 hbx hq h92
        cases B with
        | true =>
          have hN' : p + t.size = N := by rw [← hN, ← bl_len]; rfl
          have hK' : 0 = K := hK
          subst hN' hK'
          clear hN hK
          go_wp2_with (go_at_call 59; ((with_reducible refine (HA2.out _).mono ?_); rintro e w1 ⟨rfl, rfl⟩))
          go_ret2
          exact ⟨rfl, rfl⟩
        | false =>
          have HN2 := Lib.hid (show (p + 1) + (clo (bl t) ((bl s).drop (p + 1))).1 = N by rw [← hN]; show _ = p + (_ + 1); omega)
          have HK2 := Lib.hid (show (clo (bl t) ((bl s).drop (p + 1))).2 = K from hK)
          have HP2 := Lib.hid (show p + 1 ≤ s.size from HLt.out)
          clear hN hK
          go_wp2_with (go_at_call 59; ((with_reducible refine (HA2.out _).mono ?_); rintro e w1 ⟨rfl, rfl⟩))
          go_roundg (s.size - (p + 1))
          case measure => rw [HG.out]; have := HLt.out; omega
          case rel => exact ⟨rfl, p + 1, rfl, by go_num, HP2, HN2, HK2⟩
    · have hN := HN.out
      have hK := HK.out
      rw [bl_end (by omega)] at hN hK
      have hp : p = s.size := by have := HP.out; omega
      have hN' : s.size = N := by rw [← hp]; exact hN
      have hK' : 2 = K := hK
      subst hN' hK'
      have f0 : decide (p < s.size) = false := decide_eq_false hlt
      clear hlt hN hK hp
      go_wp2
      go_ret2
      exact ⟨rfl, rfl⟩
theorem bl_head {s : ByteArray} {p : Nat} {x : Nat} (h : p < s.size) (hx : bt s p = x) : (bl s).drop p = x :: (bl s).drop (p + 1) := by rw [bl_drop h, hx]
/-- Is a byte behind the first one of a number? -/
theorem numT_cons (sg : Bool) (a c : Nat) (r : List Nat) : numT sg a (c :: r) = if numC sg a c = true then numT sg c r + 1 else 0 := rfl
set_option maxRecDepth 100000 in
set_option maxHeartbeats 2000000 in
theorem number_loop (s : ByteArray) (i : Nat) (SG : Bool) (w : World) (hs : (s.size : Int) ≤ 1000000) (hi : i < s.size) (hsg : sgn ((bl s).drop i) = SG) : Calls Tryz.prog 36 #[.string s, .int .i64 (i : Nat)] w fun e w' => e = .returned (.int .i64 ((i + numL ((bl s).drop i) : Nat) : Int)) ∧ w = w' := by
  have HL := Lib.hid (fun W (c : Nat) => letter_any c W)
  have HD := Lib.hid (fun W (c : Nat) => digit_any c W)
  obtain ⟨N, hN⟩ : ∃ N, i + numL ((bl s).drop i) = N := ⟨_, rfl⟩
  rw [hN]
  have hN1 : (i + 1) + numT SG (bt s i) ((bl s).drop (i + 1)) = N := by
    have e := hN
    rw [bl_drop hi] at e hsg
    rw [← e]
    show _ = i + (numT (sgn (bt s i :: (bl s).drop (i + 1))) (bt s i) ((bl s).drop (i + 1)) + 1)
    rw [hsg]
    omega
  have HN := Lib.hid hN1
  have HS := Lib.hid hs
  have HI := Lib.hid hi
  have e1 : IntKind.i64.wrap ((i : Int) + 1) = (i : Int) + 1 := IntWalk.i64_in _ (by omega)
  have p0 : (0 : Int) ≤ (i : Int) + 1 := by omega
  clear hN hN1 hs
  go_enter Tryz.func36, Tryz.ntmps36
  obtain ⟨C, hC⟩ : ∃ C, decide ((i : Int) + 1 < s.size) = C := ⟨_, rfl⟩
  go_upto_if 13 with fail
  go_cut [5] (fun c wx => c = .bool SG ∧ w = wx)
  case first =>
    cases C with
    | true =>
      have hlt : i + 1 < s.size := by have := of_decide_eq_true hC; omega
      obtain ⟨d, hd⟩ : ∃ d, s[i + 1].toNat = d := ⟨_, rfl⟩
      have hbd : bt s (i + 1) = d := by rw [← bt_eq hlt]; exact hd
      rw [bl_drop hi, bl_drop hlt, hbd] at hsg
      have hlt2 : (i : Int) + 1 < s.size := by omega
      have hd2 : ∀ h : i + 1 < s.size, (s[i + 1]'h).toNat = d := fun _ => hd
      clear HN HS HI
      by_cases h0 : d = 120
      · subst h0
        have hsg' : false = SG := hsg
        subst hsg'
        clear hC hsg hbd
        go_wp2
        go_meet
        case rel => exact ⟨rfl, rfl⟩
      by_cases h1 : d = 88
      · subst h1
        have hsg' : false = SG := hsg
        subst hsg'
        clear hC hsg hbd
        go_wp2
        go_meet
        case rel => exact ⟨rfl, rfl⟩
      by_cases h2 : d = 98
      · subst h2
        have hsg' : false = SG := hsg
        subst hsg'
        clear hC hsg hbd
        go_wp2
        go_meet
        case rel => exact ⟨rfl, rfl⟩
      by_cases h3 : d = 66
      · subst h3
        have hsg' : false = SG := hsg
        subst hsg'
        clear hC hsg hbd
        go_wp2
        go_meet
        case rel => exact ⟨rfl, rfl⟩
      by_cases h4 : d = 111
      · subst h4
        have hsg' : false = SG := hsg
        subst hsg'
        clear hC hsg hbd
        go_wp2
        go_meet
        case rel => exact ⟨rfl, rfl⟩
      by_cases h5 : d = 79
      · subst h5
        have hsg' : false = SG := hsg
        subst hsg'
        clear hC hsg hbd
        go_wp2
        go_meet
        case rel => exact ⟨rfl, rfl⟩
      have hsg' : true = SG := by rw [← hsg]; show true = !(d == 120 || d == 88 || d == 98 || d == 66 || d == 111 || d == 79); simp [h0, h1, h2, h3, h4, h5]
      subst hsg'
      have f0 : ((d : Int) == 120) = false := beq_eq_false_iff_ne.2 (by omega)
      have f1 : ((d : Int) == 88) = false := beq_eq_false_iff_ne.2 (by omega)
      have f2 : ((d : Int) == 98) = false := beq_eq_false_iff_ne.2 (by omega)
      have f3 : ((d : Int) == 66) = false := beq_eq_false_iff_ne.2 (by omega)
      have f4 : ((d : Int) == 111) = false := beq_eq_false_iff_ne.2 (by omega)
      have f5 : ((d : Int) == 79) = false := beq_eq_false_iff_ne.2 (by omega)
      clear hC hsg hbd h0 h1 h2 h3 h4 h5
      go_wp2
      go_meet
      case rel => exact ⟨rfl, rfl⟩
    | false =>
      have hlt : ¬ i + 1 < s.size := by have := of_decide_eq_false hC; omega
      rw [bl_drop hi, bl_end (by omega)] at hsg
      have hsg' : true = SG := hsg
      subst hsg'
      clear HN HS HI hsg hlt
      go_wp2
      go_meet
      case rel => exact ⟨rfl, rfl⟩
  case rest =>
    obtain ⟨rfl, hw⟩ := hcut
    subst hw
    clear hsg hC
    go_wp2
    go_loopg [6] (s.size - (i + 1)) (fun g iv wr => w = wr ∧ ∃ q : Nat, g = s.size - (q + 1) ∧ iv = .int .i64 ((q : Int) + 1) ∧ Hid (q + 1 ≤ s.size) ∧ Hid ((q + 1) + numT SG (bt s q) ((bl s).drop (q + 1)) = N))
    case atStart => exact ⟨rfl, i, rfl, rfl, Lib.hid HI.out, HN⟩
    case round =>
      clear HN
      obtain ⟨rfl, q, hg, rfl, HQ, HN⟩ := hrel
      have HG := Lib.hid hg
      clear hg
      by_cases hlt : q + 1 < s.size
      · have hq : q < s.size := by omega
        obtain ⟨c, hx⟩ : ∃ c, s[q + 1].toNat = c := ⟨_, rfl⟩
        obtain ⟨a, hy⟩ : ∃ a, s[q].toNat = a := ⟨_, rfl⟩
        have hbx : bt s (q + 1) = c := by rw [← bt_eq hlt]; exact hx
        have hby : bt s q = a := by rw [← bt_eq hq]; exact hy
        have hc256 : c < 256 := by rw [← hbx]; exact bt_lt _ _
        have hN := HN.out
        rw [bl_drop hlt, hbx, hby, numT_cons] at hN
        obtain ⟨SB, hSB⟩ : ∃ SB, (SG && (c == 43 || c == 45) && (a == 101 || a == 69)) = SB := ⟨_, rfl⟩
        have hC : numC SG a c = ((letN c && decide (c < 128)) || digN c || c == 46 || SB) := by rw [← hSB]; rfl
        have HSB := Lib.hid hSB
        have HC := Lib.hid hC
        have HNN := Lib.hid hN
        have HQQ := Lib.hid hlt
        have hlt2 : (q : Int) + 1 < s.size := by omega
        have hq2 : (q : Int) < s.size := by omega
        have hq0 : (0 : Int) ≤ q := by omega
        have hq1 : (0 : Int) ≤ (q : Int) + 1 := by omega
        have hqb : (q : Int) ≤ 1000000 := by have := HS.out; omega
        have HQB := Lib.hid hqb
        clear hbx hby hN hC hSB
        go_upto_region 14 with fail
        go_cut [8] (fun cv wx => cv = .bool SB ∧ w = wx)
        case first =>
          clear HN HS HI HG HL HD HC HNN HQ HQQ
          have hSB := HSB.out
          clear HSB
          cases SG with
          | false =>
            obtain rfl : false = SB := by rw [← hSB]; rfl
            clear hSB hqb
            have e2 : wrap64 (q : Int) = (q : Nat) := IntWalk.wrap64_in _ (by have := HQB.out; omega)
            go_wp2
            go_meet
            case rel => exact ⟨rfl, rfl⟩
          | true =>
            by_cases h1 : c = 43
            · skip
              have t1 : ((c : Int) == 43) = true := beq_iff_eq.2 (by omega)
              by_cases h3 : a = 101
              · skip
                have t3 : ((a : Int) == 101) = true := beq_iff_eq.2 (by omega)
                obtain rfl : true = SB := by rw [← hSB]; simp [h1, h3]
                clear hSB hqb
                have e2 : wrap64 (q : Int) = (q : Nat) := IntWalk.wrap64_in _ (by have := HQB.out; omega)
                go_wp2
                go_meet
                case rel => exact ⟨rfl, rfl⟩
              · skip
                have t3 : ((a : Int) == 101) = false := beq_eq_false_iff_ne.2 (by omega)
                by_cases h4 : a = 69
                · skip
                  have t4 : ((a : Int) == 69) = true := beq_iff_eq.2 (by omega)
                  obtain rfl : true = SB := by rw [← hSB]; simp [h1, h4]
                  clear hSB hqb
                  have e2 : wrap64 (q : Int) = (q : Nat) := IntWalk.wrap64_in _ (by have := HQB.out; omega)
                  go_wp2
                  go_meet
                  case rel => exact ⟨rfl, rfl⟩
                · skip
                  have t4 : ((a : Int) == 69) = false := beq_eq_false_iff_ne.2 (by omega)
                  obtain rfl : false = SB := by rw [← hSB]; simp [h3, h4]
                  clear hSB hqb
                  have e2 : wrap64 (q : Int) = (q : Nat) := IntWalk.wrap64_in _ (by have := HQB.out; omega)
                  go_wp2
                  go_meet
                  case rel => exact ⟨rfl, rfl⟩
            · skip
              have t1 : ((c : Int) == 43) = false := beq_eq_false_iff_ne.2 (by omega)
              by_cases h2 : c = 45
              · skip
                have t2 : ((c : Int) == 45) = true := beq_iff_eq.2 (by omega)
                by_cases h3 : a = 101
                · skip
                  have t3 : ((a : Int) == 101) = true := beq_iff_eq.2 (by omega)
                  obtain rfl : true = SB := by rw [← hSB]; simp [h2, h3]
                  clear hSB hqb
                  have e2 : wrap64 (q : Int) = (q : Nat) := IntWalk.wrap64_in _ (by have := HQB.out; omega)
                  go_wp2
                  go_meet
                  case rel => exact ⟨rfl, rfl⟩
                · skip
                  have t3 : ((a : Int) == 101) = false := beq_eq_false_iff_ne.2 (by omega)
                  by_cases h4 : a = 69
                  · skip
                    have t4 : ((a : Int) == 69) = true := beq_iff_eq.2 (by omega)
                    obtain rfl : true = SB := by rw [← hSB]; simp [h2, h4]
                    clear hSB hqb
                    have e2 : wrap64 (q : Int) = (q : Nat) := IntWalk.wrap64_in _ (by have := HQB.out; omega)
                    go_wp2
                    go_meet
                    case rel => exact ⟨rfl, rfl⟩
                  · skip
                    have t4 : ((a : Int) == 69) = false := beq_eq_false_iff_ne.2 (by omega)
                    obtain rfl : false = SB := by rw [← hSB]; simp [h3, h4]
                    clear hSB hqb
                    have e2 : wrap64 (q : Int) = (q : Nat) := IntWalk.wrap64_in _ (by have := HQB.out; omega)
                    go_wp2
                    go_meet
                    case rel => exact ⟨rfl, rfl⟩
              · skip
                have t2 : ((c : Int) == 45) = false := beq_eq_false_iff_ne.2 (by omega)
                obtain rfl : false = SB := by rw [← hSB]; simp [h1, h2]
                clear hSB hqb
                have e2 : wrap64 (q : Int) = (q : Nat) := IntWalk.wrap64_in _ (by have := HQB.out; omega)
                go_wp2
                go_meet
                case rel => exact ⟨rfl, rfl⟩
        case rest =>
          obtain ⟨rfl, hw⟩ := hcut
          subst hw
          have HL2 := Lib.hid (fun W => HL.out W c)
          have HD2 := Lib.hid (fun W => HD.out W c)
          have hcv := HC.out
          have hN := HNN.out
          clear HL HD HC HNN HSB HN hy HI
          by_cases k4 : c = 46
          · subst k4
            have hN46 : numC SG a 46 = true := by rw [hcv]; rfl
            rw [hN46, if_pos rfl] at hN
            have HL4 := Lib.hid (fun W => (show Calls Tryz.prog 34 #[.int .u8 46] W fun e w' => e = .returned (.bool false) ∧ W = w' from HL2.out W))
            have HD4 := Lib.hid (fun W => (show Calls Tryz.prog 35 #[.int .u8 46] W fun e w' => e = .returned (.bool false) ∧ W = w' from HD2.out W))
            have HN2 := Lib.hid (show (q + 1 + 1) + numT SG (bt s (q + 1)) ((bl s).drop (q + 1 + 1)) = N by rw [← bt_eq HQQ.out, hx, ← hN]; omega)
            have HQ2 := Lib.hid (show q + 1 + 1 ≤ s.size from HQQ.out)
            have e3 : IntKind.i64.wrap ((q : Int) + 1 + 1) = (q : Int) + 1 + 1 := IntWalk.i64_in _ (by omega)
            clear hN hcv hN46 HL2 HD2
            go_wp2_with (first | (go_at_call 34; ((with_reducible refine (HL4.out _).mono ?_); rintro e w1 ⟨rfl, rfl⟩)) | (go_at_call 35; ((with_reducible refine (HD4.out _).mono ?_); rintro e w2 ⟨rfl, rfl⟩)))
            go_roundg (s.size - (q + 2))
            case measure => rw [HG.out]; have := HQQ.out; omega
            case rel => exact ⟨rfl, q + 1, rfl, by go_num, HQ2, HN2⟩
          obtain ⟨L, hL⟩ : ∃ L, letN c = L := ⟨_, rfl⟩
          rw [hL] at HL2 hcv
          clear hL
          cases L with
          | true =>
            by_cases k1 : c < 128
            · skip
              have u1 : (c : Int) < 128 := by omega
              rw [decide_eq_true k1] at hcv
              rw [hcv, if_pos (by simp)] at hN
              have HN2 := Lib.hid (show (q + 1 + 1) + numT SG (bt s (q + 1)) ((bl s).drop (q + 1 + 1)) = N by rw [← bt_eq HQQ.out, hx, ← hN]; omega)
              have HQ2 := Lib.hid (show q + 1 + 1 ≤ s.size from HQQ.out)
              have e3 : IntKind.i64.wrap ((q : Int) + 1 + 1) = (q : Int) + 1 + 1 := IntWalk.i64_in _ (by omega)
              clear hN hcv
              go_wp2_with (first | (go_at_call 34; ((with_reducible refine (HL2.out _).mono ?_); rintro e w1 ⟨rfl, rfl⟩)) | (go_at_call 35; ((with_reducible refine (HD2.out _).mono ?_); rintro e w2 ⟨rfl, rfl⟩)))
              go_roundg (s.size - (q + 2))
              case measure => rw [HG.out]; have := HQQ.out; omega
              case rel => exact ⟨rfl, q + 1, rfl, by go_num, HQ2, HN2⟩
            · skip
              have u1 : decide ((c : Int) < 128) = false := decide_eq_false (by omega)
              rw [decide_eq_false k1] at hcv
              obtain ⟨D, hD⟩ : ∃ D, digN c = D := ⟨_, rfl⟩
              rw [hD] at HD2 hcv
              clear hD
              cases D with
              | true =>
                rw [hcv, if_pos (by simp)] at hN
                have HN2 := Lib.hid (show (q + 1 + 1) + numT SG (bt s (q + 1)) ((bl s).drop (q + 1 + 1)) = N by rw [← bt_eq HQQ.out, hx, ← hN]; omega)
                have HQ2 := Lib.hid (show q + 1 + 1 ≤ s.size from HQQ.out)
                have e3 : IntKind.i64.wrap ((q : Int) + 1 + 1) = (q : Int) + 1 + 1 := IntWalk.i64_in _ (by omega)
                clear hN hcv
                go_wp2_with (first | (go_at_call 34; ((with_reducible refine (HL2.out _).mono ?_); rintro e w1 ⟨rfl, rfl⟩)) | (go_at_call 35; ((with_reducible refine (HD2.out _).mono ?_); rintro e w2 ⟨rfl, rfl⟩)))
                go_roundg (s.size - (q + 2))
                case measure => rw [HG.out]; have := HQQ.out; omega
                case rel => exact ⟨rfl, q + 1, rfl, by go_num, HQ2, HN2⟩
              | false =>
                have u4 : ((c : Int) == 46) = false := beq_eq_false_iff_ne.2 (by omega)
                rw [show (c == 46) = false from beq_eq_false_iff_ne.2 k4] at hcv
                cases SB with
                | true =>
                  rw [hcv, if_pos (by simp)] at hN
                  have HN2 := Lib.hid (show (q + 1 + 1) + numT SG (bt s (q + 1)) ((bl s).drop (q + 1 + 1)) = N by rw [← bt_eq HQQ.out, hx, ← hN]; omega)
                  have HQ2 := Lib.hid (show q + 1 + 1 ≤ s.size from HQQ.out)
                  have e3 : IntKind.i64.wrap ((q : Int) + 1 + 1) = (q : Int) + 1 + 1 := IntWalk.i64_in _ (by omega)
                  clear hN hcv
                  go_wp2_with (first | (go_at_call 34; ((with_reducible refine (HL2.out _).mono ?_); rintro e w1 ⟨rfl, rfl⟩)) | (go_at_call 35; ((with_reducible refine (HD2.out _).mono ?_); rintro e w2 ⟨rfl, rfl⟩)))
                  go_roundg (s.size - (q + 2))
                  case measure => rw [HG.out]; have := HQQ.out; omega
                  case rel => exact ⟨rfl, q + 1, rfl, by go_num, HQ2, HN2⟩
                | false =>
                  rw [hcv, if_neg (by simp)] at hN
                  have hN' : q + 1 = N := hN
                  subst hN'
                  clear hN hcv
                  go_wp2_with (first | (go_at_call 34; ((with_reducible refine (HL2.out _).mono ?_); rintro e w1 ⟨rfl, rfl⟩)) | (go_at_call 35; ((with_reducible refine (HD2.out _).mono ?_); rintro e w2 ⟨rfl, rfl⟩)))
                  go_ret
                  exact ⟨by simp, rfl⟩
          | false =>
            obtain ⟨D, hD⟩ : ∃ D, digN c = D := ⟨_, rfl⟩
            rw [hD] at HD2 hcv
            clear hD
            cases D with
            | true =>
              rw [hcv, if_pos (by simp)] at hN
              have HN2 := Lib.hid (show (q + 1 + 1) + numT SG (bt s (q + 1)) ((bl s).drop (q + 1 + 1)) = N by rw [← bt_eq HQQ.out, hx, ← hN]; omega)
              have HQ2 := Lib.hid (show q + 1 + 1 ≤ s.size from HQQ.out)
              have e3 : IntKind.i64.wrap ((q : Int) + 1 + 1) = (q : Int) + 1 + 1 := IntWalk.i64_in _ (by omega)
              clear hN hcv
              go_wp2_with (first | (go_at_call 34; ((with_reducible refine (HL2.out _).mono ?_); rintro e w1 ⟨rfl, rfl⟩)) | (go_at_call 35; ((with_reducible refine (HD2.out _).mono ?_); rintro e w2 ⟨rfl, rfl⟩)))
              go_roundg (s.size - (q + 2))
              case measure => rw [HG.out]; have := HQQ.out; omega
              case rel => exact ⟨rfl, q + 1, rfl, by go_num, HQ2, HN2⟩
            | false =>
              have u4 : ((c : Int) == 46) = false := beq_eq_false_iff_ne.2 (by omega)
              rw [show (c == 46) = false from beq_eq_false_iff_ne.2 k4] at hcv
              cases SB with
              | true =>
                rw [hcv, if_pos (by simp)] at hN
                have HN2 := Lib.hid (show (q + 1 + 1) + numT SG (bt s (q + 1)) ((bl s).drop (q + 1 + 1)) = N by rw [← bt_eq HQQ.out, hx, ← hN]; omega)
                have HQ2 := Lib.hid (show q + 1 + 1 ≤ s.size from HQQ.out)
                have e3 : IntKind.i64.wrap ((q : Int) + 1 + 1) = (q : Int) + 1 + 1 := IntWalk.i64_in _ (by omega)
                clear hN hcv
                go_wp2_with (first | (go_at_call 34; ((with_reducible refine (HL2.out _).mono ?_); rintro e w1 ⟨rfl, rfl⟩)) | (go_at_call 35; ((with_reducible refine (HD2.out _).mono ?_); rintro e w2 ⟨rfl, rfl⟩)))
                go_roundg (s.size - (q + 2))
                case measure => rw [HG.out]; have := HQQ.out; omega
                case rel => exact ⟨rfl, q + 1, rfl, by go_num, HQ2, HN2⟩
              | false =>
                rw [hcv, if_neg (by simp)] at hN
                have hN' : q + 1 = N := hN
                subst hN'
                clear hN hcv
                go_wp2_with (first | (go_at_call 34; ((with_reducible refine (HL2.out _).mono ?_); rintro e w1 ⟨rfl, rfl⟩)) | (go_at_call 35; ((with_reducible refine (HD2.out _).mono ?_); rintro e w2 ⟨rfl, rfl⟩)))
                go_ret
                exact ⟨by simp, rfl⟩
      · have hN := HN.out
        rw [bl_end (by omega)] at hN
        have hN' : q + 1 = N := hN
        subst hN'
        have f0 : decide ((q : Int) + 1 < s.size) = false := decide_eq_false (by omega)
        clear hN hlt
        go_wp2
        go_ret
        exact ⟨by simp, rfl⟩
end Go.Proofs.YtmfcapbllbfjnaaGreatDoor
