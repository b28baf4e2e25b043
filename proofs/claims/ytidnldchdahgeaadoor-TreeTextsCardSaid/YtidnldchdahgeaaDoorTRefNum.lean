/- A number at a place of a text: the document's number. -/
import Derived.Test.YtidnldchdahgeaaDoorTRead
namespace Go.Proofs.YtidnldchdahgeaaDoor
open Go.RowKit

set_option maxRecDepth 100000 in
set_option maxHeartbeats 8000000 in
theorem refNumber_any (s : ByteArray) (hs : s.size ≤ 65536) (at_ : Nat) (hat : at_ ≤ s.size) (ec : UInt8) (w : World) :
    Calls Tryd.prog 46 #[.string s, .int .i64 (at_ : Nat), .int .u8 (ec.toNat : Nat)] w fun e w' => ∃ z p : Int, e = .returned (.tuple #[.int .i64 z, .int .i64 p]) ∧ ((p = -1 ∧ numT 1099511627776 ec (rest s at_) = none) ∨ ∃ v q : Nat, z = v ∧ p = q ∧ numT 1099511627776 ec (rest s at_) = some (v, rest s q) ∧ at_ < q ∧ q ≤ s.size) ∧ w = w' := by
  obtain ⟨E, hE⟩ : ∃ E, ec.toNat = E := ⟨_, rfl⟩
  rw [hE]
  have HE := Lib.hid hE
  have hs2 : s.size ≤ 70000 := by omega
  clear hE hs
  go_enter Tryd.func46, Tryd.ntmps46
  go_wp2
  go_loopg [8, 9] (s.size - at_) (fun g nv iv wr => w = wr ∧ ∃ (v p : Nat), g = s.size - p ∧ nv = .int .i64 (v : Nat) ∧ iv = .int .i64 (p : Nat) ∧ at_ ≤ p ∧ p ≤ s.size ∧ Hid (rdN 0 (rest s at_) = rdN v (rest s p)) ∧ Hid (v ≤ 1099511627776))
  case atStart => exact ⟨rfl, 0, at_, rfl, rfl, rfl, Nat.le_refl _, hat, Lib.hid rfl, Lib.hid (by omega)⟩
  case round =>
    obtain ⟨rfl, v, p, hg, rfl, rfl, hap, hps, HR, HV⟩ := hrel
    have HG := Lib.hid hg
    clear hg
    by_cases hlt : p < s.size
    · obtain ⟨x, hx⟩ : ∃ x, s[p].toNat = x := ⟨_, rfl⟩
      have hbx : bt s p = x := by rw [← bt_eq hlt]; exact hx
      have hx2 : x < 256 := by rw [← hbx]; exact bt_lt s p
      have hE := HE.out
      by_cases h48 : 48 ≤ x
      case neg =>
        have f1 : decide (48 ≤ x) = false := decide_eq_false h48
        have f1b : decide ((48 : Int) ≤ (x : Int)) = false := decide_eq_false (by omega)
        have hex := num_exit (e := ec) (lim := 1099511627776) (HR.out.trans (rd_stop hlt (by rw [hx]; omega))) hap hps HV.out
        by_cases hpa : p = at_
        · have HN := Lib.hid (show numT 1099511627776 ec (rest s at_) = none by rw [hex, if_neg (by omega)])
          subst hpa
          clear hex
          go_wp2
          go_ret2
          refine ⟨_, _, rfl, .inl ?_, rfl⟩
          exact ⟨rfl, HN.out⟩
        have g1 : ((p : Int) == (at_ : Int)) = false := beq_false_of_ne (by omega)
        have g2 : ((p : Int) == (s.size : Int)) = false := beq_false_of_ne (by omega)
        by_cases hxe : x = E
        case neg =>
          have HN := Lib.hid (show numT 1099511627776 ec (rest s at_) = none by rw [hex, if_neg (by rw [hbx, hE]; omega)])
          have g3 : ((x : Int) == (E : Int)) = false := beq_false_of_ne (by omega)
          have g3b : decide (x = E) = false := decide_eq_false hxe
          have g3c : ((x : Int) != (E : Int)) = true := bne_iff_ne.2 (by omega)
          have g3d : ¬ ((x : Int) = (E : Int)) := by omega
          clear hex
          go_wp2
          go_ret2
          refine ⟨_, _, rfl, .inl ?_, rfl⟩
          exact ⟨rfl, HN.out⟩
        subst hxe
        by_cases hp1 : at_ + 1 < p
        · have g4 : (at_ : Int) + 1 < (p : Int) := by omega
          have hla : at_ < s.size := by omega
          obtain ⟨y, hy⟩ : ∃ y, s[at_].toNat = y := ⟨_, rfl⟩
          have hby : bt s at_ = y := by rw [← bt_eq hla]; exact hy
          by_cases hy48 : y = 48
          · have HN := Lib.hid (show numT 1099511627776 ec (rest s at_) = none by rw [hex, if_neg (by rw [hby, hy48]; omega)])
            subst hy48
            clear hex hby
            go_wp2
            go_ret2
            refine ⟨_, _, rfl, .inl ?_, rfl⟩
            exact ⟨rfl, HN.out⟩
          · have HS := Lib.hid (show numT 1099511627776 ec (rest s at_) = some (v, rest s (p + 1)) by rw [hex, if_pos (by rw [hby, hbx, hE]; omega)])
            have g5 : ((y : Int) == 48) = false := beq_false_of_ne (by omega)
            have g5b : decide (y = 48) = false := decide_eq_false hy48
            have hps : p + 1 ≤ s.size := by omega
            have hap : at_ < p + 1 := by omega
            clear hex hby hy48
            go_wp2
            go_ret2
            refine ⟨_, _, rfl, .inr ?_, rfl⟩
            exact ⟨v, p + 1, rfl, rfl, HS.out, hap, hps⟩
        · have HS := Lib.hid (show numT 1099511627776 ec (rest s at_) = some (v, rest s (p + 1)) by rw [hex, if_pos (by rw [hbx, hE]; omega)])
          have g4 : decide ((at_ : Int) + 1 < (p : Int)) = false := decide_eq_false (by omega)
          have g4b : decide (at_ + 1 < p) = false := decide_eq_false hp1
          have hps : p + 1 ≤ s.size := by omega
          have hap : at_ < p + 1 := by omega
          clear hex hp1
          go_wp2
          go_ret2
          refine ⟨_, _, rfl, .inr ?_, rfl⟩
          exact ⟨v, p + 1, rfl, rfl, HS.out, hap, hps⟩
      have h48b : (48 : Int) ≤ (x : Int) := by omega
      by_cases h57 : x ≤ 57
      case neg =>
        have f1 : decide (x ≤ 57) = false := decide_eq_false h57
        have f1b : decide ((x : Int) ≤ 57) = false := decide_eq_false (by omega)
        have hex := num_exit (e := ec) (lim := 1099511627776) (HR.out.trans (rd_stop hlt (by rw [hx]; omega))) hap hps HV.out
        by_cases hpa : p = at_
        · have HN := Lib.hid (show numT 1099511627776 ec (rest s at_) = none by rw [hex, if_neg (by omega)])
          subst hpa
          clear hex
          go_wp2
          go_ret2
          refine ⟨_, _, rfl, .inl ?_, rfl⟩
          exact ⟨rfl, HN.out⟩
        have g1 : ((p : Int) == (at_ : Int)) = false := beq_false_of_ne (by omega)
        have g2 : ((p : Int) == (s.size : Int)) = false := beq_false_of_ne (by omega)
        by_cases hxe : x = E
        case neg =>
          have HN := Lib.hid (show numT 1099511627776 ec (rest s at_) = none by rw [hex, if_neg (by rw [hbx, hE]; omega)])
          have g3 : ((x : Int) == (E : Int)) = false := beq_false_of_ne (by omega)
          have g3b : decide (x = E) = false := decide_eq_false hxe
          have g3c : ((x : Int) != (E : Int)) = true := bne_iff_ne.2 (by omega)
          have g3d : ¬ ((x : Int) = (E : Int)) := by omega
          clear hex
          go_wp2
          go_ret2
          refine ⟨_, _, rfl, .inl ?_, rfl⟩
          exact ⟨rfl, HN.out⟩
        subst hxe
        by_cases hp1 : at_ + 1 < p
        · have g4 : (at_ : Int) + 1 < (p : Int) := by omega
          have hla : at_ < s.size := by omega
          obtain ⟨y, hy⟩ : ∃ y, s[at_].toNat = y := ⟨_, rfl⟩
          have hby : bt s at_ = y := by rw [← bt_eq hla]; exact hy
          by_cases hy48 : y = 48
          · have HN := Lib.hid (show numT 1099511627776 ec (rest s at_) = none by rw [hex, if_neg (by rw [hby, hy48]; omega)])
            subst hy48
            clear hex hby
            go_wp2
            go_ret2
            refine ⟨_, _, rfl, .inl ?_, rfl⟩
            exact ⟨rfl, HN.out⟩
          · have HS := Lib.hid (show numT 1099511627776 ec (rest s at_) = some (v, rest s (p + 1)) by rw [hex, if_pos (by rw [hby, hbx, hE]; omega)])
            have g5 : ((y : Int) == 48) = false := beq_false_of_ne (by omega)
            have g5b : decide (y = 48) = false := decide_eq_false hy48
            have hps : p + 1 ≤ s.size := by omega
            have hap : at_ < p + 1 := by omega
            clear hex hby hy48
            go_wp2
            go_ret2
            refine ⟨_, _, rfl, .inr ?_, rfl⟩
            exact ⟨v, p + 1, rfl, rfl, HS.out, hap, hps⟩
        · have HS := Lib.hid (show numT 1099511627776 ec (rest s at_) = some (v, rest s (p + 1)) by rw [hex, if_pos (by rw [hbx, hE]; omega)])
          have g4 : decide ((at_ : Int) + 1 < (p : Int)) = false := decide_eq_false (by omega)
          have g4b : decide (at_ + 1 < p) = false := decide_eq_false hp1
          have hps : p + 1 ≤ s.size := by omega
          have hap : at_ < p + 1 := by omega
          clear hex hp1
          go_wp2
          go_ret2
          refine ⟨_, _, rfl, .inr ?_, rfl⟩
          exact ⟨v, p + 1, rfl, rfl, HS.out, hap, hps⟩
      have h57b : (x : Int) ≤ 57 := by omega
      have HR2 := Lib.hid (HR.out.trans (rd_step hlt (by rw [hx]; exact h48) (by rw [hx]; exact h57)))
      rw [hx] at HR2
      obtain ⟨v2, hv2⟩ : ∃ v2, 10 * v + (x - 48) = v2 := ⟨_, rfl⟩
      rw [hv2] at HR2
      have hvb := HV.out
      have q1 : IntKind.i64.wrap (10 * (v : Int)) = 10 * (v : Int) := IntWalk.i64_in _ (by omega)
      have q2 : IntKind.u8.wrap ((x : Int) - 48) = (x : Int) - 48 := IntWalk.u8_in _ (by omega)
      have q3 : IntKind.i64.wrap ((x : Int) - 48) = (x : Int) - 48 := IntWalk.i64_in _ (by omega)
      have q4 : IntKind.i64.wrap (10 * (v : Int) + ((x : Int) - 48)) = (v2 : Nat) := (IntWalk.i64_in _ (by omega)).trans (by omega)
      have q6 : ((v2 : Nat) : Int) ≤ 10995116277800 := by omega
      have q5 : 10 * (v : Int) + ((x : Int) - 48) = (v2 : Nat) := by omega
      have hpn : (p : Int) < s.size := by omega
      have HP := Lib.hid (And.intro hap hlt)
      clear hvb hv2 hbx hE
      by_cases hbig : 1099511627776 < v2
      · have HN := Lib.hid (num_bail (e := ec) HR2.out hbig)
        have hbig2 : (1099511627776 : Int) < ((v2 : Nat) : Int) := by omega
        clear hbig
        go_wp2
        go_ret2
        refine ⟨_, _, rfl, .inl ?_, rfl⟩
        exact ⟨rfl, HN.out⟩
      · have f2 : decide ((1099511627776 : Int) < ((v2 : Nat) : Int)) = false := decide_eq_false (by omega)
        have HV2 := Lib.hid (show v2 ≤ 1099511627776 by omega)
        clear hbig
        go_wp2
        go_roundg (s.size - (p + 1))
        case measure => rw [HG.out]; have := HP.out.2; omega
        case rel => exact ⟨rfl, v2, p + 1, rfl, by first | rfl | exact congrArg _ q5 | go_num, by go_num, by have := HP.out.1; omega, HP.out.2, HR2, HV2⟩
    · obtain rfl : p = s.size := by omega
      have f0 : decide (s.size < s.size) = false := decide_eq_false hlt
      have hex := num_exit (e := ec) (lim := 1099511627776) (HR.out.trans (rd_over (Nat.le_refl _))) hap hps HV.out
      have HN := Lib.hid (show numT 1099511627776 ec (rest s at_) = none by rw [hex, if_neg (by omega)])
      clear hex
      by_cases hpa : s.size = at_
      · have hpa2 := hpa
        go_wp2
        go_ret2
        refine ⟨_, _, rfl, .inl ?_, rfl⟩
        exact ⟨rfl, HN.out⟩
      · have g1 : ((s.size : Int) == (at_ : Int)) = false := beq_false_of_ne (by omega)
        go_wp2
        go_ret2
        refine ⟨_, _, rfl, .inl ?_, rfl⟩
        exact ⟨rfl, HN.out⟩
end Go.Proofs.YtidnldchdahgeaaDoor
