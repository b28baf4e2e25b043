/- The statement UtfWhole, walked: steps lie one behind the other and are all of a text. -/
import Derived.Test.YtibodioapkmgkaaDoorLawE
import Derived.Test.YtibodioapkmgkaaDoorRefSteps
namespace Go.Proofs.YtibodioapkmgkaaDoor
open Go.RowKit

set_option maxRecDepth 100000 in
set_option maxHeartbeats 4000000 in
theorem whole_go (s : ByteArray) (hs : (s.size : Int) ≤ 4096) (w : World) (ht : Tabs w) :
    Calls Tryd.prog 7 #[.string s] w fun e w' => e = .returned (.bool true) ∧ Up w w' := by
  have hw := Lib.hid wakes_all
  have hm : Hid (s.size ≤ maxLen) := Lib.hid (by unfold maxLen; omega)
  have hcl := countS_le s
  go_enter Tryd.func7, Tryd.ntmps7
  go_wp2
  go_loopw [3, 4, 5] (fun kv lv iv wr => ∃ (k a : Nat) (lone : Bool), kv = .int .i64 (k : Nat) ∧ lv = .bool lone ∧ iv = .int .i64 (a : Nat) ∧ a ≤ s.size ∧ k ≤ s.size ∧ Hid (k + (stepsFrom s a).length = countS s) ∧ Hid (validS s = (!lone && (stepsFrom s a).all (·.2))) ∧ Hid (Bd s a) ∧ Up w wr ∧ Tabs wr)
    (fun _ _ iv _ => s.size - (intOf iv).toNat)
  case atStart => exact ⟨0, 0, false, rfl, rfl, rfl, by omega, by omega, Lib.hid (by unfold countS; omega), Lib.hid rfl, Lib.hid (Bd.zero s), Up.refl _, ht⟩
  case round =>
    obtain ⟨k, a, lone, rfl, rfl, rfl, ha, hk, hx, hv, hbd, hu, htr⟩ := hrel
    by_cases hlt : a < s.size
    · have hb1 := stepLen_pos s a
      have hb2 := stepLen_le s a
      have hb3 := stepLen_in hlt
      have hin : ∀ i, 1 ≤ i → i < stepLen s a → startS s ((a + i : Nat) : Int) = false := fun i h1 h2 => startS_in h1 h2
      have hcons := stepsFrom_cons hlt
      have hall := valid_cons hlt
      obtain ⟨hal1, hal2⟩ := step_alone hlt
      have hlone : stepOk s a = false → stepLen s a = 1 := fun h => by
        unfold stepOk at h; unfold stepLen; rw [if_neg (by simpa using h)]
      have hnb := hbd.out.next hlt
      have hst := strs_any s (a : Nat) hm.out
      rw [startS_bd hbd.out] at hst
      obtain ⟨L, hL⟩ : ∃ L, stepLen s a = L := ⟨_, rfl⟩
      obtain ⟨b, hb⟩ : ∃ b, stepOk s a = b := ⟨_, rfl⟩
      have Hlen : Hid (Reads s (a : Nat) (L : Nat) b (chI s (a : Nat))) := by
        have h := reads_any s (a : Nat) hm.out
        rw [lenI_nat hlt, okI_nat hlt, hL, hb] at h
        exact h
      rw [hL] at hb1 hb2 hb3 hcons hin hnb hal1 hal2 hlone hall
      rw [hb] at hcons hal2 hlone hall
      have hes : (s.extract a (a + L)).size ≤ maxLen := by rw [ByteArray.size_extract]; unfold maxLen; omega
      have hce := cnts_any _ hes
      have hve := vals_any _ hes
      rw [hal1] at hce
      rw [hal2] at hve
      have Hce : Hid (Cnts (s.extract a (a + L)) 1) := hce
      have Hve := Lib.hid hve
      have Hst := Lib.hid hst
      have Hnb := Lib.hid hnb
      have Hin : Hid (∀ i, 1 ≤ i → i < L → Strs s ((a : Int) + (i : Int)) false) := fun i h1 h2 => by
        have h := strs_any s ((a + i : Nat) : Int) hm.out
        rw [hin i h1 h2, Int.natCast_add] at h
        exact h
      have hnew : Hid (k + 1 + (stepsFrom s (a + L)).length = countS s) := by
        have h := hx.out
        rw [hcons] at h
        simp only [List.length_cons] at h
        unfold Hid; omega
      have hk1 : k + 1 ≤ s.size := by have h := hnew; unfold Hid at h; omega
      have Hall := Lib.hid hall
      have hL1 : b = true ∨ (b = false ∧ L = 1) := by
        cases b with
        | true => exact .inl rfl
        | false => exact .inr ⟨rfl, hlone rfl⟩
      clear hcons hL hb hin hnb hal1 hal2 hlone hall hes hce hve hst
      have hle : (L : Int) ≤ s.size - a := by omega
      have hfin : Hid (validS s = (!(lone || !b) && (stepsFrom s (a + L)).all (·.2))) := by
        have h := hv.out
        rw [Hall.out] at h
        unfold Hid
        rw [h]
        cases lone <;> cases b <;> rfl
      obtain ⟨wo, rfl⟩ : ∃ wo : World, wo = wr := ⟨_, rfl⟩
      have hcut : ∀ (l2 : Bool), l2 = (lone || !b) → Hid (validS s = (!l2 && (stepsFrom s (a + L)).all (·.2))) := fun l2 e => by rw [e]; exact hfin
      have Hcut := Lib.hid hcut
      clear hcut hfin Hall
      cases lone
      · rcases hL1 with rfl | ⟨rfl, hLe⟩
        · go_wp2_with (first
            | (go_at_call 9; (with_reducible refine (Reads.len Hlen _ htr).mono ?_); rintro e w1 ⟨rfl, hu1⟩; have ht1 := htr.up hu1)
            | (go_at_call 16; (with_reducible refine (Strs.at Hst _ ht1).mono ?_); rintro e w2 ⟨rfl, hu2⟩; have ht2 := ht1.up hu2))
          have hu02 : Up w w2 := (hu.trans hu1).trans hu2
          go_loopw [8] (fun iv wr => ∃ i : Nat, 1 ≤ i ∧ i ≤ L ∧ iv = .int .i64 (i : Nat) ∧ Up w wr ∧ Tabs wr)
            (fun iv _ => L - (intOf iv).toNat)
          case atStart => exact ⟨1, by omega, hb1, rfl, hu02, ht2⟩
          case round =>
            obtain ⟨i, hi1, hi2, rfl, hui, hti⟩ := hrel
            by_cases hil : i < L
            · have Hi := Lib.hid (Hin.out i hi1 hil)
              go_wp2_with (go_at_call 16; (with_reducible refine (Strs.at Hi _ hti).mono ?_); rintro e w3 ⟨rfl, hu3⟩; have ht3 := hti.up hu3)
              go_roundw
              case rel => exact ⟨i + 1, by omega, by omega, by go_num, hui.trans hu3, ht3⟩
              case measure => simp [intOf]; omega
            · have hge : (L : Int) ≤ i := by omega
              go_wp2_with (first
                | (go_at_call 18; (with_reducible refine (Cnts.at Hce _ hti).mono ?_); rintro e w4 ⟨rfl, hu4⟩; have ht4 := hti.up hu4)
                | (go_at_call 20; (with_reducible refine (Vals.at Hve _ ht4).mono ?_); rintro e w5 ⟨rfl, hu5⟩; have ht5 := ht4.up hu5))
              go_roundw
              case rel => exact ⟨k + 1, a + L, _, by go_num, rfl, by go_num, hb3, hk1, hnew, Hcut.out _ rfl, Hnb, (hui.trans hu4).trans hu5, ht5⟩
              case measure => simp [intOf]; omega
        · have hLb : ((L : Int) != 1) = false := by simp; omega
          clear hLe
          go_wp2_with (first
            | (go_at_call 9; (with_reducible refine (Reads.len Hlen _ htr).mono ?_); rintro e w1 ⟨rfl, hu1⟩; have ht1 := htr.up hu1)
            | (go_at_call 16; (with_reducible refine (Strs.at Hst _ ht1).mono ?_); rintro e w2 ⟨rfl, hu2⟩; have ht2 := ht1.up hu2))
          have hu02 : Up w w2 := (hu.trans hu1).trans hu2
          go_loopw [8] (fun iv wr => ∃ i : Nat, 1 ≤ i ∧ i ≤ L ∧ iv = .int .i64 (i : Nat) ∧ Up w wr ∧ Tabs wr)
            (fun iv _ => L - (intOf iv).toNat)
          case atStart => exact ⟨1, by omega, hb1, rfl, hu02, ht2⟩
          case round =>
            obtain ⟨i, hi1, hi2, rfl, hui, hti⟩ := hrel
            by_cases hil : i < L
            · have Hi := Lib.hid (Hin.out i hi1 hil)
              go_wp2_with (go_at_call 16; (with_reducible refine (Strs.at Hi _ hti).mono ?_); rintro e w3 ⟨rfl, hu3⟩; have ht3 := hti.up hu3)
              go_roundw
              case rel => exact ⟨i + 1, by omega, by omega, by go_num, hui.trans hu3, ht3⟩
              case measure => simp [intOf]; omega
            · have hge : (L : Int) ≤ i := by omega
              go_wp2_with (first
                | (go_at_call 18; (with_reducible refine (Cnts.at Hce _ hti).mono ?_); rintro e w4 ⟨rfl, hu4⟩; have ht4 := hti.up hu4)
                | (go_at_call 20; (with_reducible refine (Vals.at Hve _ ht4).mono ?_); rintro e w5 ⟨rfl, hu5⟩; have ht5 := ht4.up hu5))
              go_roundw
              case rel => exact ⟨k + 1, a + L, _, by go_num, rfl, by go_num, hb3, hk1, hnew, Hcut.out _ rfl, Hnb, (hui.trans hu4).trans hu5, ht5⟩
              case measure => simp [intOf]; omega
      · rcases hL1 with rfl | ⟨rfl, hLe⟩
        · go_wp2_with (first
            | (go_at_call 9; (with_reducible refine (Reads.len Hlen _ htr).mono ?_); rintro e w1 ⟨rfl, hu1⟩; have ht1 := htr.up hu1)
            | (go_at_call 16; (with_reducible refine (Strs.at Hst _ ht1).mono ?_); rintro e w2 ⟨rfl, hu2⟩; have ht2 := ht1.up hu2))
          have hu02 : Up w w2 := (hu.trans hu1).trans hu2
          go_loopw [8] (fun iv wr => ∃ i : Nat, 1 ≤ i ∧ i ≤ L ∧ iv = .int .i64 (i : Nat) ∧ Up w wr ∧ Tabs wr)
            (fun iv _ => L - (intOf iv).toNat)
          case atStart => exact ⟨1, by omega, hb1, rfl, hu02, ht2⟩
          case round =>
            obtain ⟨i, hi1, hi2, rfl, hui, hti⟩ := hrel
            by_cases hil : i < L
            · have Hi := Lib.hid (Hin.out i hi1 hil)
              go_wp2_with (go_at_call 16; (with_reducible refine (Strs.at Hi _ hti).mono ?_); rintro e w3 ⟨rfl, hu3⟩; have ht3 := hti.up hu3)
              go_roundw
              case rel => exact ⟨i + 1, by omega, by omega, by go_num, hui.trans hu3, ht3⟩
              case measure => simp [intOf]; omega
            · have hge : (L : Int) ≤ i := by omega
              go_wp2_with (first
                | (go_at_call 18; (with_reducible refine (Cnts.at Hce _ hti).mono ?_); rintro e w4 ⟨rfl, hu4⟩; have ht4 := hti.up hu4)
                | (go_at_call 20; (with_reducible refine (Vals.at Hve _ ht4).mono ?_); rintro e w5 ⟨rfl, hu5⟩; have ht5 := ht4.up hu5))
              go_roundw
              case rel => exact ⟨k + 1, a + L, _, by go_num, rfl, by go_num, hb3, hk1, hnew, Hcut.out _ rfl, Hnb, (hui.trans hu4).trans hu5, ht5⟩
              case measure => simp [intOf]; omega
        · have hLb : ((L : Int) != 1) = false := by simp; omega
          clear hLe
          go_wp2_with (first
            | (go_at_call 9; (with_reducible refine (Reads.len Hlen _ htr).mono ?_); rintro e w1 ⟨rfl, hu1⟩; have ht1 := htr.up hu1)
            | (go_at_call 16; (with_reducible refine (Strs.at Hst _ ht1).mono ?_); rintro e w2 ⟨rfl, hu2⟩; have ht2 := ht1.up hu2))
          have hu02 : Up w w2 := (hu.trans hu1).trans hu2
          go_loopw [8] (fun iv wr => ∃ i : Nat, 1 ≤ i ∧ i ≤ L ∧ iv = .int .i64 (i : Nat) ∧ Up w wr ∧ Tabs wr)
            (fun iv _ => L - (intOf iv).toNat)
          case atStart => exact ⟨1, by omega, hb1, rfl, hu02, ht2⟩
          case round =>
            obtain ⟨i, hi1, hi2, rfl, hui, hti⟩ := hrel
            by_cases hil : i < L
            · have Hi := Lib.hid (Hin.out i hi1 hil)
              go_wp2_with (go_at_call 16; (with_reducible refine (Strs.at Hi _ hti).mono ?_); rintro e w3 ⟨rfl, hu3⟩; have ht3 := hti.up hu3)
              go_roundw
              case rel => exact ⟨i + 1, by omega, by omega, by go_num, hui.trans hu3, ht3⟩
              case measure => simp [intOf]; omega
            · have hge : (L : Int) ≤ i := by omega
              go_wp2_with (first
                | (go_at_call 18; (with_reducible refine (Cnts.at Hce _ hti).mono ?_); rintro e w4 ⟨rfl, hu4⟩; have ht4 := hti.up hu4)
                | (go_at_call 20; (with_reducible refine (Vals.at Hve _ ht4).mono ?_); rintro e w5 ⟨rfl, hu5⟩; have ht5 := ht4.up hu5))
              go_roundw
              case rel => exact ⟨k + 1, a + L, _, by go_num, rfl, by go_num, hb3, hk1, hnew, Hcut.out _ rfl, Hnb, (hui.trans hu4).trans hu5, ht5⟩
              case measure => simp [intOf]; omega
    · have hnil := Lib.hid (stepsFrom_nil hlt)
      have hge : (s.size : Int) ≤ a := by omega
      have Ha : Hid (a = s.size) := Lib.hid (by omega)
      have hst := strs_any s (s.size : Nat) hm.out
      rw [startS_bd (by rw [← Ha.out]; exact hbd.out)] at hst
      have Hst := Lib.hid hst
      have hct := cnts_any s hm.out
      rw [← hx.out, hnil.out] at hct
      have Hct : Hid (Cnts s (k : Nat)) := hct
      have hvl := vals_any s hm.out
      rw [hv.out, hnil.out] at hvl
      have hvl2 : Vals s (!lone) := by simpa using hvl
      have Hvl := Lib.hid hvl2
      have heq : ((a : Int) == s.size) = true := by simp; omega
      clear hst hct hvl hvl2
      cases lone <;>
      · go_wp2_with (first
          | (go_at_call 16; (with_reducible refine (Strs.at Hst _ htr).mono ?_); rintro e w1 ⟨rfl, hu1⟩; have ht1 := htr.up hu1)
          | (go_at_call 18; (with_reducible refine (Cnts.at Hct _ ht1).mono ?_); rintro e w2 ⟨rfl, hu2⟩; have ht2 := ht1.up hu2)
          | (go_at_call 20; (with_reducible refine (Vals.at Hvl _ ht2).mono ?_); rintro e w3 ⟨rfl, hu3⟩; have ht3 := ht2.up hu3)
          | (go_at_call 13; (with_reducible refine (Wakes.at hw _ ht3).mono ?_); rintro e w4 ⟨rfl, hu4⟩))
        go_ret
        exact ⟨rfl, (((hu.trans hu1).trans hu2).trans hu3).trans hu4⟩

set_option maxRecDepth 100000 in
set_option maxHeartbeats 1000000 in
theorem whole_big (s : ByteArray) (h : (4096 : Int) < s.size) (w : World) (ht : Tabs w) :
    Calls Tryd.prog 7 #[.string s] w fun e w' => e = .returned (.bool true) ∧ Up w w' := by
  have hw := Lib.hid wakes_all
  go_enter Tryd.func7, Tryd.ntmps7
  go_wp2_with (go_at_call 13; (with_reducible refine (Wakes.at hw _ ht).mono ?_); rintro e w4 ⟨rfl, hu4⟩)
  go_ret
  exact ⟨rfl, hu4⟩
theorem walk_UtfWhole (s : ByteArray) (w : World) (ht : Tabs w) :
    Calls Tryd.prog 7 #[.string s] w fun e w' => e = .returned (.bool true) ∧ Up w w' := by
  by_cases h : (4096 : Int) < s.size
  · exact whole_big s h w ht
  · exact whole_go s (by omega) w ht
end Go.Proofs.YtibodioapkmgkaaDoor
