/- The program's isLetter, isDigit, isNamed, begins, operates. -/
import Derived.Test.YtmfcapbllbfjnaaGreatDoorYPMath
namespace Go.Proofs.YtmfcapbllbfjnaaGreatDoor
open Go.RowKit

def letP (c : Nat) : Bool := decide ((97 ≤ c ∧ c ≤ 122) ∨ (65 ≤ c ∧ c ≤ 90))
set_option maxRecDepth 100000 in
set_option maxHeartbeats 2000000 in
theorem pLetter_any (c : Nat) (w : World) : Calls Tryz.prog 79 #[.int .u8 (c : Nat)] w fun e w' => e = .returned (.bool (letP c)) ∧ w = w' := by
  obtain ⟨x, hx⟩ : ∃ x : Int, (c : Int) = x := ⟨_, rfl⟩
  rw [hx]
  obtain ⟨B, hB⟩ : ∃ B, letP c = B := ⟨_, rfl⟩
  rw [hB]
  unfold letP at hB
  by_cases k0 : x < 65
  · skip
    obtain rfl : false = B := by rw [← hB]; exact (decide_eq_false (by omega)).symm
    have t0 : decide ((97 : Int) ≤ x) = false := decide_eq_false (by omega)
    have t1 : x ≤ (122 : Int) := by omega
    have t2 : decide ((65 : Int) ≤ x) = false := decide_eq_false (by omega)
    have t3 : x ≤ (90 : Int) := by omega
    clear hB hx k0
    go_enter Tryz.func79, Tryz.ntmps79
    go_wp2
    go_ret
    exact ⟨rfl, rfl⟩
  by_cases k1 : x ≤ 90
  · skip
    obtain rfl : true = B := by rw [← hB]; exact (decide_eq_true (by omega)).symm
    have t0 : decide ((97 : Int) ≤ x) = false := decide_eq_false (by omega)
    have t1 : x ≤ (122 : Int) := by omega
    have t2 : (65 : Int) ≤ x := by omega
    have t3 : x ≤ (90 : Int) := by omega
    clear hB hx k0 k1
    go_enter Tryz.func79, Tryz.ntmps79
    go_wp2
    go_ret
    exact ⟨rfl, rfl⟩
  by_cases k2 : x < 97
  · skip
    obtain rfl : false = B := by rw [← hB]; exact (decide_eq_false (by omega)).symm
    have t0 : decide ((97 : Int) ≤ x) = false := decide_eq_false (by omega)
    have t1 : x ≤ (122 : Int) := by omega
    have t2 : (65 : Int) ≤ x := by omega
    have t3 : decide (x ≤ (90 : Int)) = false := decide_eq_false (by omega)
    clear hB hx k0 k1 k2
    go_enter Tryz.func79, Tryz.ntmps79
    go_wp2
    go_ret
    exact ⟨rfl, rfl⟩
  by_cases k3 : x ≤ 122
  · skip
    obtain rfl : true = B := by rw [← hB]; exact (decide_eq_true (by omega)).symm
    have t0 : (97 : Int) ≤ x := by omega
    have t1 : x ≤ (122 : Int) := by omega
    have t2 : (65 : Int) ≤ x := by omega
    have t3 : decide (x ≤ (90 : Int)) = false := decide_eq_false (by omega)
    clear hB hx k0 k1 k2 k3
    go_enter Tryz.func79, Tryz.ntmps79
    go_wp2
    go_ret
    exact ⟨rfl, rfl⟩
  · skip
    obtain rfl : false = B := by rw [← hB]; exact (decide_eq_false (by omega)).symm
    have t0 : (97 : Int) ≤ x := by omega
    have t1 : decide (x ≤ (122 : Int)) = false := decide_eq_false (by omega)
    have t2 : (65 : Int) ≤ x := by omega
    have t3 : decide (x ≤ (90 : Int)) = false := decide_eq_false (by omega)
    clear hB hx k0 k1 k2 k3
    go_enter Tryz.func79, Tryz.ntmps79
    go_wp2
    go_ret
    exact ⟨rfl, rfl⟩
set_option maxRecDepth 100000 in
set_option maxHeartbeats 2000000 in
theorem pDigit_any (c : Nat) (w : World) : Calls Tryz.prog 70 #[.int .u8 (c : Nat)] w fun e w' => e = .returned (.bool (digN c)) ∧ w = w' := by
  obtain ⟨x, hx⟩ : ∃ x : Int, (c : Int) = x := ⟨_, rfl⟩
  rw [hx]
  obtain ⟨B, hB⟩ : ∃ B, digN c = B := ⟨_, rfl⟩
  rw [hB]
  unfold digN at hB
  by_cases k0 : x < 48
  · skip
    obtain rfl : false = B := by rw [← hB]; exact (decide_eq_false (by omega)).symm
    have t0 : decide ((48 : Int) ≤ x) = false := decide_eq_false (by omega)
    have t1 : x ≤ (57 : Int) := by omega
    clear hB hx k0
    go_enter Tryz.func70, Tryz.ntmps70
    go_wp2
    go_ret
    exact ⟨rfl, rfl⟩
  by_cases k1 : x ≤ 57
  · skip
    obtain rfl : true = B := by rw [← hB]; exact (decide_eq_true (by omega)).symm
    have t0 : (48 : Int) ≤ x := by omega
    have t1 : x ≤ (57 : Int) := by omega
    clear hB hx k0 k1
    go_enter Tryz.func70, Tryz.ntmps70
    go_wp2
    go_ret
    exact ⟨rfl, rfl⟩
  · skip
    obtain rfl : false = B := by rw [← hB]; exact (decide_eq_false (by omega)).symm
    have t0 : (48 : Int) ≤ x := by omega
    have t1 : decide (x ≤ (57 : Int)) = false := decide_eq_false (by omega)
    clear hB hx k0 k1
    go_enter Tryz.func70, Tryz.ntmps70
    go_wp2
    go_ret
    exact ⟨rfl, rfl⟩
set_option maxRecDepth 100000 in
set_option maxHeartbeats 2000000 in
theorem pNamed_any (c : Nat) (w : World) : Calls Tryz.prog 69 #[.int .u8 (c : Nat)] w fun e w' => e = .returned (.bool (letN c || digN c)) ∧ w = w' := by
  have HL := Lib.hid (fun W => pLetter_any c W)
  have HD := Lib.hid (fun W => pDigit_any c W)
  by_cases h1 : letP c = true
  · have e : (letN c || digN c) = true := by
      have h := of_decide_eq_true h1
      rw [show letN c = true from decide_eq_true (by omega)]; rfl
    rw [e]
    clear e
    go_enter Tryz.func69, Tryz.ntmps69
    go_wp2_with (first | (go_at_call 79; (with_reducible refine (HL.out _).mono ?_); rintro e w1 ⟨rfl, rfl⟩; rw [h1]) | (go_at_call 70; (with_reducible refine (HD.out _).mono ?_); rintro e w1 ⟨rfl, rfl⟩; rw [h2]))
    go_ret
    exact ⟨rfl, rfl⟩
  have h1 : letP c = false := Bool.eq_false_iff.2 h1
  by_cases h2 : digN c = true
  · rw [h2, Bool.or_true]
    go_enter Tryz.func69, Tryz.ntmps69
    go_wp2_with (first | (go_at_call 79; (with_reducible refine (HL.out _).mono ?_); rintro e w1 ⟨rfl, rfl⟩; rw [h1]) | (go_at_call 70; (with_reducible refine (HD.out _).mono ?_); rintro e w1 ⟨rfl, rfl⟩; rw [h2]))
    go_ret
    exact ⟨rfl, rfl⟩
  have h2 : digN c = false := Bool.eq_false_iff.2 h2
  have h1' := of_decide_eq_false h1
  rw [h2, Bool.or_false]
  obtain ⟨B, hB⟩ : ∃ B, letN c = B := ⟨_, rfl⟩
  rw [hB]
  unfold letN at hB
  by_cases h3 : c = 95
  · obtain rfl : true = B := by rw [← hB]; exact (decide_eq_true (by omega)).symm
    have f3 : ((c : Int) == 95) = true := beq_iff_eq.2 (by omega)
    clear h1' hB h3
    go_enter Tryz.func69, Tryz.ntmps69
    go_wp2_with (first | (go_at_call 79; (with_reducible refine (HL.out _).mono ?_); rintro e w1 ⟨rfl, rfl⟩; rw [h1]) | (go_at_call 70; (with_reducible refine (HD.out _).mono ?_); rintro e w1 ⟨rfl, rfl⟩; rw [h2]))
    go_ret
    exact ⟨rfl, rfl⟩
  have f3 : ((c : Int) == 95) = false := beq_eq_false_iff_ne.2 (by omega)
  by_cases h4 : 128 ≤ c
  · obtain rfl : true = B := by rw [← hB]; exact (decide_eq_true (by omega)).symm
    have f4 : (128 : Int) ≤ (c : Int) := by omega
    clear h1' hB h3
    go_enter Tryz.func69, Tryz.ntmps69
    go_wp2_with (first | (go_at_call 79; (with_reducible refine (HL.out _).mono ?_); rintro e w1 ⟨rfl, rfl⟩; rw [h1]) | (go_at_call 70; (with_reducible refine (HD.out _).mono ?_); rintro e w1 ⟨rfl, rfl⟩; rw [h2]))
    go_ret
    exact ⟨rfl, rfl⟩
  · obtain rfl : false = B := by rw [← hB]; exact (decide_eq_false (by omega)).symm
    have f4 : decide ((128 : Int) ≤ (c : Int)) = false := decide_eq_false (by omega)
    clear h1' hB h3 h4
    go_enter Tryz.func69, Tryz.ntmps69
    go_wp2_with (first | (go_at_call 79; (with_reducible refine (HL.out _).mono ?_); rintro e w1 ⟨rfl, rfl⟩; rw [h1]) | (go_at_call 70; (with_reducible refine (HD.out _).mono ?_); rintro e w1 ⟨rfl, rfl⟩; rw [h2]))
    go_ret
    exact ⟨rfl, rfl⟩
theorem anyP_step (n : Nat) (x : List Nat) (k : Nat) (r : List Nat) : anyP n x (k + 1) r = ((r.take n == x) || anyP n x k (r.drop n)) := rfl
theorem take_bytes (s : ByteArray) (n : Nat) : (bl s).take n = bl (s.extract 0 n) := by rw [bl_extract, List.drop_zero]
theorem drop_bytes (s : ByteArray) (n : Nat) : (bl s).drop n = bl (s.extract n s.size) := by
  rw [bl_extract, List.take_of_length_le (by rw [bl_len]; exact Nat.le_refl _)]
theorem beq_bl (a b : ByteArray) : (bl a == bl b) = (b.toList == a.toList) := by
  rw [beq_bytes, Bool.eq_iff_iff, beq_iff_eq, decide_eq_true_eq]
  exact ⟨fun h => (bl_inj h).symm, fun h => by rw [h]⟩
set_option maxRecDepth 100000 in
set_option maxHeartbeats 2000000 in
theorem pBegins_any (s all : ByteArray) (n K : Nat) (w : World) (hs : (s.size : Int) ≤ 1000000) (hn : 1 ≤ n) (hn3 : n ≤ 3) (hK : K ≤ 100) (hall : all.size = n * K) :
    Calls Tryz.prog 81 #[.string s, .string all, .int .i64 (n : Nat)] w fun e w' => e = .returned (.bool (begins n K (bl all) (bl s))) ∧ Up w w' := by
  unfold begins
  rw [bl_len]
  by_cases hlt : n ≤ s.size
  · rw [decide_eq_true hlt, Bool.true_and]
    obtain ⟨V, hV⟩ : ∃ V, anyP n ((bl s).take n) K (bl all) = V := ⟨_, rfl⟩
    rw [hV]
    have f0 : decide ((s.size : Int) < (n : Int)) = false := decide_eq_false (by omega)
    have f1 : decide (s.size < n) = false := decide_eq_false (by omega)
    have HS := Lib.hid hs
    have HN := Lib.hid (show 1 ≤ n ∧ n ≤ 3 ∧ K ≤ 100 from ⟨hn, hn3, hK⟩)
    have HL := Lib.hid hlt
    have HV := Lib.hid hV
    have HA := Lib.hid hall
    have HU := Lib.hid (Up.refl w)
    clear hs hn hn3 hK hall hlt hV
    go_enter Tryz.func81, Tryz.ntmps81
    go_wp2
    clear f0 f1
    go_loopg [1] K (fun g av wr => ∃ (k : Nat) (A : ByteArray), g = k ∧ k ≤ K ∧ av = .string A ∧ Hid (A.size = n * k) ∧ Hid (anyP n ((bl s).take n) k (bl A) = V) ∧ Hid (Up w wr))
    case atStart => exact ⟨K, all, rfl, Nat.le_refl _, rfl, HA, HV, HU⟩
    case round =>
      clear HV HA HU
      obtain ⟨k, A, hg, hkK, rfl, HA, HV, HU⟩ := hrel
      have HG := Lib.hid hg
      clear hg
      obtain ⟨N1, N2, N3⟩ := HN.out
      by_cases hk : k = 0
      · subst hk
        have hA : A.size = 0 := by have := HA.out; omega
        obtain rfl : A = ⟨#[]⟩ := by
          apply bl_inj
          exact List.eq_nil_of_length_eq_zero ((bl_len A).trans hA)
        have hv : false = V := HV.out
        subst hv
        clear hA HA HV N1 N2 N3 hkK
        go_wp2
        go_ret
        exact ⟨rfl, HU.out⟩
      · obtain ⟨j, rfl⟩ : ∃ j, k = j + 1 := ⟨k - 1, by omega⟩
        have hA := HA.out
        rw [Nat.mul_succ] at hA
        have hV := HV.out
        rw [anyP_step, drop_bytes A n, take_bytes A n, take_bytes s n, beq_bl] at hV
        have hne : A ≠ ⟨#[]⟩ := fun e => by rw [e] at hA; have h0 : (⟨#[]⟩ : ByteArray).size = 0 := rfl; omega
        have q0 : (A.toList == ([] : List UInt8)) = false := by
          rw [beq_eq_false_iff_ne]
          intro e
          exact hne (bytes_ext (e.trans (ByteArray.toList_eq (⟨#[]⟩ : ByteArray)).symm))
        have q1 : A.toList.isEmpty = false := by
          rw [Bool.eq_false_iff]
          intro e
          exact hne (bytes_ext ((List.isEmpty_iff.1 e).trans (ByteArray.toList_eq (⟨#[]⟩ : ByteArray)).symm))
        have p0 : (0 : Int) < (A.size : Int) := by omega
        have p1 : (0 : Int) < (s.size : Int) := by have := HL.out; omega
        have p2 : (n : Int) ≤ (s.size : Int) := by have := HL.out; omega
        have p3 : (n : Int) ≤ (A.size : Int) := by omega
        have p4 : (0 : Int) ≤ (n : Int) := by omega
        have p5 : 0 < A.size := by omega
        have p6 : 0 < s.size := by have := HL.out; omega
        obtain ⟨x, hx⟩ : ∃ x : Nat, (s[0]'p6).toNat = x := ⟨_, rfl⟩
        obtain ⟨y, hy⟩ : ∃ y : Nat, (A[0]'p5).toNat = y := ⟨_, rfl⟩
        obtain ⟨D, hD⟩ : ∃ D, ((s.extract 0 n).toList == (A.extract 0 n).toList) = D := ⟨_, rfl⟩
        rw [hD] at hV
        have hAn : (A.extract n A.size).size = n * j := by rw [ByteArray.size_extract]; omega
        have HA2 := Lib.hid hAn
        by_cases hxy : x = y
        · subst hxy
          cases D
          · have HV2 := Lib.hid (show anyP n ((bl s).take n) j (bl (A.extract n A.size)) = V from by rw [take_bytes s n]; exact hV)
            clear hV hA N1 N2 N3 hne hAn hk HV HA
            go_wp2
            go_quiet (fail)
            go_wp2
            go_roundg j
            case measure => rw [HG.out]; omega
            case rel => exact ⟨j, _, rfl, by omega, rfl, HA2, HV2, Lib.hid (HU.out.trans (Up.drewN _ _))⟩
          · have hv : true = V := hV
            subst hv
            clear hV hA N1 N2 N3 hne hAn hk HV HA hkK
            go_wp2
            go_quiet (fail)
            go_wp2
            go_ret
            exact ⟨rfl, HU.out.trans (Up.drewN _ _)⟩
        · have hDf : D = false := by
            cases D
            · rfl
            · exfalso
              have e := bytes_ext (beq_iff_eq.1 hD)
              have h1 := bt_extract (s := s) (a := 0) (n := n) (i := 0) (by have := HL.out; omega) (by omega)
              have h2 := bt_extract (s := A) (a := 0) (n := n) (i := 0) (by omega) (by omega)
              rw [Nat.zero_add, Nat.zero_add] at h1 h2
              rw [e, h2, ← bt_eq p6, ← bt_eq p5] at h1
              omega
          subst hDf
          have f1 : ((x : Int) == (y : Int)) = false := beq_eq_false_iff_ne.2 (by omega)
          have HV2 := Lib.hid (show anyP n ((bl s).take n) j (bl (A.extract n A.size)) = V from by rw [take_bytes s n]; exact hV)
          clear hV hA N1 N2 N3 hne hAn hk HV HA hxy hD
          go_wp2
          go_quiet (fail)
          go_wp2
          go_roundg j
          case measure => rw [HG.out]; omega
          case rel => exact ⟨j, _, rfl, by omega, rfl, HA2, HV2, Lib.hid (HU.out.trans (Up.drewN _ _))⟩
  · rw [decide_eq_false hlt, Bool.false_and]
    have f0 : s.size < n := by omega
    clear hs hn hn3 hK hall hlt
    go_enter Tryz.func81, Tryz.ntmps81
    go_wp2
    go_ret
    exact ⟨rfl, Up.refl _⟩
set_option maxRecDepth 100000 in
set_option maxHeartbeats 2000000 in
theorem pOperates_any (s : ByteArray) (w : World) (hs : (s.size : Int) ≤ 1000000) :
    Calls Tryz.prog 72 #[.string s] w fun e w' => e = .returned (.int .i64 (opL (bl s) : Nat)) ∧ Up w w' := by
  have H3 := Lib.hid (fun W => pBegins_any s threes 3 5 W hs (by decide) (by decide) (by decide) rfl)
  have H2 := Lib.hid (fun W => pBegins_any s twos 2 19 W hs (by decide) (by decide) (by decide) rfl)
  have H1 := Lib.hid (fun W => pBegins_any s ones 1 23 W hs (by decide) (by decide) (by decide) rfl)
  rw [begins3, show ((3 : Nat) : Int) = 3 from rfl] at H3
  rw [begins2, show ((2 : Nat) : Int) = 2 from rfl] at H2
  rw [begins1, show ((1 : Nat) : Int) = 1 from rfl] at H1
  unfold opL
  have HU := Lib.hid (Up.refl w)
  clear hs
  generalize op3.any (·.isPrefixOf (bl s)) = B3 at H3 ⊢
  generalize op2.any (·.isPrefixOf (bl s)) = B2 at H2 ⊢
  generalize (op1.any fun c => [c].isPrefixOf (bl s)) = B1 at H1 ⊢
  unfold threes at H3
  unfold twos at H2
  unfold ones at H1
  cases B3
  · cases B2
    · cases B1
      all_goals
        go_enter Tryz.func72, Tryz.ntmps72
        go_wp2_with (go_at_call 81; first | ((with_reducible refine (H3.out _).mono ?_); rintro e w1 ⟨rfl, hu⟩; have HU := Lib.hid (HU.out.trans hu); clear hu) | ((with_reducible refine (H2.out _).mono ?_); rintro e w2 ⟨rfl, hu⟩; have HU := Lib.hid (HU.out.trans hu); clear hu) | ((with_reducible refine (H1.out _).mono ?_); rintro e w3 ⟨rfl, hu⟩; have HU := Lib.hid (HU.out.trans hu); clear hu))
        go_ret
        exact ⟨rfl, HU.out⟩
    · go_enter Tryz.func72, Tryz.ntmps72
      go_wp2_with (go_at_call 81; first | ((with_reducible refine (H3.out _).mono ?_); rintro e w1 ⟨rfl, hu⟩; have HU := Lib.hid (HU.out.trans hu); clear hu) | ((with_reducible refine (H2.out _).mono ?_); rintro e w2 ⟨rfl, hu⟩; have HU := Lib.hid (HU.out.trans hu); clear hu))
      go_ret
      exact ⟨rfl, HU.out⟩
  · go_enter Tryz.func72, Tryz.ntmps72
    go_wp2_with (go_at_call 81; ((with_reducible refine (H3.out _).mono ?_); rintro e w1 ⟨rfl, hu⟩; have HU := Lib.hid (HU.out.trans hu); clear hu))
    go_ret
    exact ⟨rfl, HU.out⟩
end Go.Proofs.YtmfcapbllbfjnaaGreatDoor
