/- What place counts in a line: the steps ahead of a place, the bytes of so many steps. -/
import Derived.Test.YtfcpieodgflmnaaDoorPSlice
namespace Go.Proofs.YtfcpieodgflmnaaDoor
open Go.RowKit

set_option maxRecDepth 100000 in
set_option maxHeartbeats 1000000 in
theorem begun_any (s : ByteArray) (m : Nat) (hm : m ≤ s.size) (hs : s.size ≤ maxLen) (w : World) (hT : Tabs w) : Calls Tryd.prog 27 #[.string s, .int .i64 (m : Nat)] w fun e w' => e = .returned (.int .i64 (chN s m : Nat)) ∧ Up w w' := by
  obtain ⟨h1, h2⟩ := chN_spec s m hm
  have hcnt := count_take (chN_le_count hm)
  have hp := pos_le s (chN s m)
  have hyes : startS s (pos s (chN s m) : Nat) = true := startS_bd ⟨_, rfl⟩
  have hno : ∀ a, m ≤ a → a < pos s (chN s m) → startS s (a : Nat) = false := fun a ha hb => by
    cases hst : startS s (a : Nat) with
    | false => rfl
    | true =>
      obtain ⟨_, _, j, hj⟩ := startS_iff.1 hst
      rw [Int.toNat_natCast] at hj
      have : j < chN s m := by
        by_cases e : j < chN s m
        · exact e
        · have := pos_mono s (chN s m) j (by omega); omega
      have := h2 j this
      omega
  generalize pos s (chN s m) = P at *
  have hs' := hs
  unfold maxLen at hs'
  have HS := Lib.hid hs
  have HC := Lib.hid hcnt
  have HY := Lib.hid hyes
  have HN := Lib.hid hno
  clear h2 hcnt hyes hno hm hs
  go_enter Tryd.func27, Tryd.ntmps27
  go_wp2
  go_loopg [1] (P - m) (fun g v wr => ∃ a : Nat, g = P - a ∧ v = .int .i64 (a : Nat) ∧ m ≤ a ∧ a ≤ P ∧ Hid (Up w wr) ∧ Hid (Tabs wr))
  case atStart => exact ⟨m, rfl, rfl, Nat.le_refl _, h1, Lib.hid (Up.refl _), Lib.hid hT⟩
  case round =>
    obtain ⟨a, hg, rfl, ha, hb, HU, HT⟩ := hrel
    have HG := Lib.hid hg
    clear hg
    by_cases h : a < P
    · have HA := Lib.hid (start_any s (a : Nat) HS.out _ HT.out)
      have hx := HN.out a ha h
      have HX := HA.out
      unfold StartSays at HX
      rw [hx] at HX
      have HX := Lib.hid HX
      clear HA hx
      go_wp2_with (go_at_call 44; ((with_reducible refine HX.out.mono ?_); rintro e w1 ⟨rfl, hu⟩; have HU1 := Lib.hid (HU.out.trans hu); have HT1 := Lib.hid (HT.out.up hu); clear hu))
      go_roundg (P - (a + 1))
      case measure => rw [HG.out]; omega
      case rel => exact ⟨a + 1, rfl, by go_num, by omega, by omega, HU1, HT1⟩
    · obtain rfl : a = P := by omega
      have HX := start_any s (a : Nat) HS.out _ HT.out
      unfold StartSays at HX
      rw [HY.out] at HX
      have HX := Lib.hid HX
      clear h HG
      go_wp2_with (first
        | (go_at_call 44; ((with_reducible refine HX.out.mono ?_); rintro e w1 ⟨rfl, hu⟩; have HU1 := Lib.hid (HU.out.trans hu); have HT1 := Lib.hid (HT.out.up hu); clear hu))
        | (go_at_call 45; ((with_reducible refine (count_any _ (by rw [ByteArray.size_extract]; have := HS.out; omega) _ HT1.out).mono ?_); rintro e w2 ⟨rfl, hu2⟩)))
      go_ret
      exact ⟨ret_int (by rw [HC.out]), HU1.out.trans hu2⟩

/-- What width says: so many bytes, or none. -/
noncomputable def wdV (s : ByteArray) (n : Nat) : Int := if n ≤ countS s then (pos s n : Nat) else 0
noncomputable def wdB (s : ByteArray) (n : Nat) : Bool := if n ≤ countS s then true else false
theorem lenI_pos {s : ByteArray} {n : Nat} (h : n < countS s) : lenI s (pos s n : Nat) = (stepLen s (pos s n) : Nat) := lenI_nat (pos_lt h)
theorem lenI_end (s : ByteArray) : lenI s (pos s (countS s) : Nat) = 0 := by
  rw [pos_count]; unfold lenI; rw [if_neg (by omega)]
set_option maxRecDepth 100000 in
set_option maxHeartbeats 1000000 in
theorem width_yes (s : ByteArray) (n : Nat) (hn : n ≤ countS s) (hz : (s.size : Int) ≤ 1048576) (w : World) (hT : Tabs w) : Calls Tryd.prog 31 #[.string s, .int .i64 (n : Nat)] w fun e w' => e = .returned (.tuple #[.int .i64 (pos s n : Nat), .bool true]) ∧ Up w w' := by
  have HS : Hid (s.size ≤ maxLen) := Lib.hid (by unfold maxLen; omega)
  have hni : (n : Int) ≤ 1048576 := by have := countS_le s; omega
  have HN := Lib.hid hn
  clear hn
  go_enter Tryd.func31, Tryd.ntmps31
  go_wp2
  go_loopg [6, 10] n (fun g a v wr => ∃ (i : Nat) (p : Nat), g = n - i ∧ v = .int .i64 (i : Nat) ∧ a = .int .i64 (p : Nat) ∧ i ≤ n ∧ Hid (p = pos s i) ∧ Hid (Up w wr) ∧ Hid (Tabs wr))
  case atStart => exact ⟨0, 0, rfl, rfl, rfl, Nat.zero_le _, Lib.hid rfl, Lib.hid (Up.refl _), Lib.hid hT⟩
  case round =>
    obtain ⟨i, p, hg, rfl, rfl, hi, HP, HU, HT⟩ := hrel
    have HG := Lib.hid hg
    clear hg
    by_cases h : i < n
    · have HA := len_any s (p : Nat) HS.out _ HT.out
      unfold LenSays at HA
      have hl : i < countS s := by have := HN.out; omega
      obtain ⟨L, hL⟩ : ∃ L, stepLen s p = L := ⟨_, rfl⟩
      have h1 := stepLen_pos s p
      have h4 := stepLen_le s p
      have hps := pos_le s i
      have hpl := pos_lt hl
      rw [← HP.out] at hps hpl
      have HM : Hid (p + L = pos s (i + 1)) := Lib.hid (by rw [pos_add_one (pos_lt hl), ← HP.out, hL])
      rw [lenI_nat hpl, hL] at HA
      rw [hL] at h1 h4
      have HX := Lib.hid HA
      have hf : (((L : Nat) : Int) == 0) = false := by simp; omega
      clear HA hl hps hL
      generalize okI s (p : Nat) = B at HX
      go_wp2_with (go_at_call 49; ((with_reducible refine HX.out.mono ?_); rintro e w1 ⟨rfl, hu⟩; have HU1 := Lib.hid (HU.out.trans hu); have HT1 := Lib.hid (HT.out.up hu); clear hu))
      go_roundg (n - (i + 1))
      case measure => rw [HG.out]; omega
      case rel => exact ⟨i + 1, p + L, rfl, by go_num, by go_num, by omega, HM, HU1, HT1⟩
    · obtain rfl : i = n := by omega
      have f2 : decide (i < i) = false := decide_eq_false (by omega)
      clear h HG hi
      go_wp2
      go_ret2
      exact ⟨by rw [← HP.out]; rfl, HU.out⟩
set_option maxRecDepth 100000 in
set_option maxHeartbeats 1000000 in
theorem width_no (s : ByteArray) (n : Nat) (hn : countS s < n) (hn2 : n ≤ 1048576) (hz : (s.size : Int) ≤ 1048576) (w : World) (hT : Tabs w) : Calls Tryd.prog 31 #[.string s, .int .i64 (n : Nat)] w fun e w' => e = .returned (.tuple #[.int .i64 0, .bool false]) ∧ Up w w' := by
  have HS : Hid (s.size ≤ maxLen) := Lib.hid (by unfold maxLen; omega)
  have hni : (n : Int) ≤ 1048576 := by omega
  have HN := Lib.hid hn
  clear hn hn2
  go_enter Tryd.func31, Tryd.ntmps31
  go_wp2
  go_loopg [6, 10] n (fun g a v wr => ∃ (i : Nat) (p : Nat), g = n - i ∧ v = .int .i64 (i : Nat) ∧ a = .int .i64 (p : Nat) ∧ i < n ∧ Hid (i ≤ countS s) ∧ Hid (p = pos s i) ∧ Hid (Up w wr) ∧ Hid (Tabs wr))
  case atStart => exact ⟨0, 0, rfl, rfl, rfl, by have := HN.out; omega, Lib.hid (Nat.zero_le _), Lib.hid rfl, Lib.hid (Up.refl _), Lib.hid hT⟩
  case round =>
    obtain ⟨i, p, hg, rfl, rfl, hi, HI, HP, HU, HT⟩ := hrel
    have HG := Lib.hid hg
    have HA := len_any s (p : Nat) HS.out _ HT.out
    unfold LenSays at HA
    clear hg
    by_cases hl : i < countS s
    · obtain ⟨L, hL⟩ : ∃ L, stepLen s p = L := ⟨_, rfl⟩
      have h1 := stepLen_pos s p
      have h4 := stepLen_le s p
      have hpl := pos_lt hl
      rw [← HP.out] at hpl
      have HM : Hid (p + L = pos s (i + 1)) := Lib.hid (by rw [pos_add_one (pos_lt hl), ← HP.out, hL])
      rw [lenI_nat hpl, hL] at HA
      rw [hL] at h1 h4
      have HX := Lib.hid HA
      have hf : (((L : Nat) : Int) == 0) = false := by simp; omega
      have HL := Lib.hid hl
      clear HA hl hL
      generalize okI s (p : Nat) = B at HX
      go_wp2_with (go_at_call 49; ((with_reducible refine HX.out.mono ?_); rintro e w1 ⟨rfl, hu⟩; have HU1 := Lib.hid (HU.out.trans hu); have HT1 := Lib.hid (HT.out.up hu); clear hu))
      go_roundg (n - (i + 1))
      case measure => rw [HG.out]; omega
      case rel => exact ⟨i + 1, p + L, rfl, by go_num, by go_num, by have := HL.out; have := HN.out; omega, Lib.hid HL.out, HM, HU1, HT1⟩
    · have e : i = countS s := by have := HI.out; omega
      rw [HP.out, e, lenI_end] at HA
      rw [← e, ← HP.out] at HA
      have HX := Lib.hid HA
      clear HA hl e
      generalize okI s (p : Nat) = B at HX
      go_wp2_with (go_at_call 49; ((with_reducible refine HX.out.mono ?_); rintro e w1 ⟨rfl, hu⟩; have HU1 := Lib.hid (HU.out.trans hu); clear hu))
      go_ret2
      exact ⟨rfl, HU1.out⟩
end Go.Proofs.YtfcpieodgflmnaaDoor
