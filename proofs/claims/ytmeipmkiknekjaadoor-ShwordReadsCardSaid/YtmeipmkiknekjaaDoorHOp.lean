/- The program's Op: the operator that stands at a place. -/
import Derived.Test.YtmeipmkiknekjaaDoorHTabs
namespace Go.Proofs.YtmeipmkiknekjaaDoor
open Go.RowKit
attribute [local go_sem ↓] ldO_eq

def opE (L : List Nat) (a : Int) : Nat := if a < 0 then 0 else opL (L.drop a.toNat)
theorem pre_iff (o l : List Nat) : o.isPrefixOf l = decide (l.take o.length = o) := by
  rw [Bool.eq_iff_iff, decide_eq_true_eq, List.isPrefixOf_iff_prefix, List.prefix_iff_eq_take]
  exact eq_comm
theorem take_bytes (s : ByteArray) (n : Nat) : (bl s).take n = bl (s.extract 0 n) := by rw [bl_extract, List.drop_zero]
theorem drop_bytes (s : ByteArray) (p : Nat) : (bl s).drop p = bl (s.extract p s.size) := by rw [bl_extract, List.take_of_length_le (by rw [bl_len]; exact Nat.le_refl _)]
theorem hp_bl (s p : ByteArray) : Lib.hasPrefix s.data.toList p.data.toList = (bl p).isPrefixOf (bl s) := by
  unfold Lib.hasPrefix
  rw [pre_iff, bl_len, Bool.eq_iff_iff, List.isPrefixOf_iff_prefix, List.prefix_iff_eq_take, decide_eq_true_eq, take_bytes]
  constructor
  · intro h
    congr 1
    apply ByteArray.ext
    apply Array.toList_inj.1
    rw [h, Lib.extract_data, ← Lib.size_eq]
    simp
  · intro h
    have := congrArg (fun b : ByteArray => b.data.toList) (bl_inj h)
    simp only [Lib.extract_data, List.drop_zero, Nat.sub_zero] at this
    rw [← Lib.size_eq]
    exact this.symm
theorem hasAt_any (s p : ByteArray) (i : Nat) (w : World) : Calls Tryd.prog 21 #[.string (s.extract i s.size), .string p] w fun e w' => e = .returned (.bool ((bl p).isPrefixOf ((bl s).drop i))) ∧ w = w' := by
  rw [drop_bytes]
  refine (Tryd.strings_HasPrefix _ p w).mono ?_
  rintro e w' ⟨rfl, rfl⟩
  exact ⟨by rw [hp_bl], rfl⟩
theorem pre_head {o : ByteArray} {c : Nat} {r : List Nat} (h0 : 0 < o.size) (hne : bt o 0 ≠ c) : (bl o).isPrefixOf (c :: r) = false := by
  have := bl_drop h0
  rw [List.drop_zero] at this
  rw [this]
  show ((bt o 0 == c) && _) = false
  rw [beq_eq_false_iff_ne.2 hne]
  rfl
set_option maxRecDepth 100000 in
set_option maxHeartbeats 4000000 in
theorem op_in (w : World) (hT : TabH w) (line : ByteArray) (p : Nat) (hp : p < line.size) :
    Calls Tryd.prog 12 #[.string line, .int .i64 (p : Nat)] w fun e w' => e = .returned (.int .i64 ((opL ((bl line).drop p) : Nat) : Int)) ∧ DrN w w' := by
  obtain ⟨K, hK⟩ : ∃ K, opL ((bl line).drop p) = K := ⟨_, rfl⟩
  obtain ⟨c, hc⟩ : ∃ c, bt line p = c := ⟨_, rfl⟩
  have hx : line[p].toNat = c := by rw [bt_eq hp]; exact hc
  have p0 : (0 : Int) ≤ (p : Int) := by omega
  have p1 : (p : Int) < line.size := by omega
  have p2 : (p : Int) ≤ line.size := by omega
  have f0 : ¬ ((p : Int) < 0) := by omega
  have f1 : ¬ ((line.size : Int) ≤ (p : Int)) := by omega
  have HL := Lib.hid (ldO_run hT)
  have hld := ldO_run hT
  have HC := Lib.hid (show (bl line).drop p = c :: (bl line).drop (p + 1) from by rw [← hc]; exact bl_drop hp)
  have HA := Lib.hid (fun W (o : ByteArray) => hasAt_any line o p W)
  have HK := Lib.hid (show opF (opsL.drop 0) ((bl line).drop p) = K from hK)
  rw [hK]
  clear hK hc hT
  go_enter Tryd.func12, Tryd.ntmps12
  go_wp2
  clear hld
  go_loopg [16] 17 (fun g iv wr => ∃ k : Nat, k ≤ 17 ∧ g = 17 - k ∧ iv = .int .i64 (k : Nat) ∧ Hid (DrN w wr) ∧ Hid (opF (opsL.drop k) ((bl line).drop p) = K))
  case atStart => exact ⟨0, by omega, rfl, rfl, Lib.hid (DrN.refl _), HK⟩
  case round =>
    clear HK
    obtain ⟨k, hk, hg, rfl, HU, HK⟩ := hrel
    have HG := Lib.hid hg
    clear hg
    by_cases hlt : k < 17
    · have hix := ixO k hlt
      obtain ⟨d1, d2, d3⟩ := ops_drop k hlt
      have hK := HK.out
      rw [d1] at hK
      unfold opF at hK
      generalize opB k = o at hix d1 d2 d3 hK
      obtain ⟨x, hx0⟩ : ∃ x, bt o 0 = x := ⟨_, rfl⟩
      have ho0 : 0 < o.size := d2
      have hox : o[0].toNat = x := by rw [bt_eq ho0]; exact hx0
      have o1 : (0 : Int) < o.size := by omega
      have e1 : IntKind.i64.wrap ((k : Int) + 1) = (k : Int) + 1 := IntWalk.i64_in _ (by omega)
      have k1 : (k : Int) < 17 := by omega
      by_cases hcx : c = x
      · subst hcx
        cases hpre : (bl o).isPrefixOf ((bl line).drop p) with
        | true =>
          rw [hpre, if_pos rfl, bl_len] at hK
          have HP := Lib.hid (fun W => by have h := HA.out W o; rw [hpre] at h; exact h)
          have hS := HU.out
          have HF := Lib.hid (hS.drew)
          have HKK := Lib.hid hK
          clear hpre d1 d2 d3 hx0 HK hK
          go_wp2
          go_region_held3 (fun w' => DrN w w')
            (first | assumption | with_reducible exact DrN.drew (by assumption))
            (first | (go_at_call 21; ((with_reducible refine (HP.out _).mono ?_); rintro e w2 ⟨rfl, rfl⟩)))
          all_goals
            clear hS
            go_wp2
            go_ret
            exact ⟨ret_int (by rw [HKK.out]), HF.out⟩
        | false =>
          rw [hpre, if_neg (by decide)] at hK
          have HP := Lib.hid (fun W => by have h := HA.out W o; rw [hpre] at h; exact h)
          have hS := HU.out
          have HF := Lib.hid (hS.drew)
          have HKK := Lib.hid hK
          clear hpre d1 d2 d3 hx0 HK hK
          go_wp2
          go_region_held3 (fun w' => DrN w w')
            (first | assumption | with_reducible exact DrN.drew (by assumption))
            (first | (go_at_call 21; ((with_reducible refine (HP.out _).mono ?_); rintro e w2 ⟨rfl, rfl⟩)))
          all_goals
            clear hS
            go_wp2
            go_roundg (17 - (k + 1))
            case measure => rw [HG.out]; omega
            case rel => exact ⟨k + 1, by omega, rfl, by go_num, HF, HKK⟩
      · have n1 : ((c : Int) == (x : Int)) = false := beq_eq_false_iff_ne.2 (by omega)
        rw [HC.out, pre_head d2 (by rw [hx0]; exact fun e => hcx e.symm), if_neg (by decide), ← HC.out] at hK
        have HF := Lib.hid (HU.out.drew)
        have HKK := Lib.hid hK
        clear d1 d2 d3 hx0 HK hK hcx
        go_wp2
        go_region
        go_wp2
        go_roundg (17 - (k + 1))
        case measure => rw [HG.out]; omega
        case rel => exact ⟨k + 1, by omega, rfl, by go_num, HF, HKK⟩
    · have k1 : ¬ ((k : Int) < 17) := by omega
      have hK := HK.out
      rw [List.drop_of_length_le (show opsL.length ≤ k by show 17 ≤ k; omega)] at hK
      have HKK := Lib.hid (show 0 = K from hK)
      clear hlt hK
      go_wp2
      go_ret
      exact ⟨ret_int (by rw [← HKK.out]; rfl), HU.out⟩
set_option maxRecDepth 100000 in
set_option maxHeartbeats 4000000 in
theorem op_any (w : World) (hT : TabH w) (line : ByteArray) (a : Int) :
    Calls Tryd.prog 12 #[.string line, .int .i64 a] w fun e w' => e = .returned (.int .i64 ((opE (bl line) a : Nat) : Int)) ∧ DrN w w' := by
  unfold opE
  by_cases h0 : a < 0
  · rw [if_pos h0]
    go_enter Tryd.func12, Tryd.ntmps12
    go_wp2
    go_ret
    exact ⟨rfl, DrN.refl _⟩
  rw [if_neg h0]
  obtain ⟨p, rfl⟩ : ∃ p : Nat, a = (p : Int) := ⟨a.toNat, by omega⟩
  rw [Int.toNat_natCast]
  by_cases h1 : p < line.size
  · exact op_in w hT line p h1
  · rw [bl_end (by omega)]
    have f1 : (line.size : Int) ≤ (p : Int) := by omega
    have f2 : line.size ≤ p := by omega
    go_enter Tryd.func12, Tryd.ntmps12
    go_wp2
    go_ret
    exact ⟨rfl, DrN.refl _⟩
end Go.Proofs.YtmeipmkiknekjaaDoor
