/- The document's Op; ShwordOps walked. -/
import Derived.Test.YtmeipmkiknekjaaDoorHLawA
namespace Go.Proofs.YtmeipmkiknekjaaDoor
open Go.RowKit
set_option linter.unusedVariables false

theorem operators_any (w : World) : Calls Tryd.prog 22 #[] w fun e w' => (∃ g, e = .returned (.slice (some ⟨g, 0, none⟩) 17 17) ∧ ∀ k, k < 17 → w'.cell? ⟨g, k, none⟩ = some (.string (opB k))) ∧ Up w w' := by
  have hc : ∀ k, k < 17 → (w.alloc (.cells opsA 9)).cell? ⟨w.heap.size, k, none⟩ = some (.string (opB k)) := fun k hk => by
    have h1 : opsA[k]? = some (.string (opB k)) := by
      have hk2 : k < opsA.toList.length := hk
      have h2 := opsA_at k _ (List.getElem?_eq_getElem hk2)
      rw [← Array.getElem?_toList, List.getElem?_eq_getElem hk2, h2.2]
    exact cellOf (Go.heap_alloc_new _ _) h1
  have HC := Lib.hid hc
  clear hc
  go_enter Tryd.func22, Tryd.ntmps22
  go_wp2
  go_ret
  exact ⟨⟨_, rfl, HC.out⟩, Up.alloc _ _⟩
theorem sub_eq {s : ByteArray} {p n : Nat} {o : ByteArray} (hn : o.size = n) (h : p + n ≤ s.size) : ((s.extract p (p + n)).toList == o.toList) = (bl o).isPrefixOf ((bl s).drop p) := by
  rw [pre_iff, bl_len, hn, Bool.eq_iff_iff, beq_iff_eq, decide_eq_true_eq]
  have e : ((bl s).drop p).take n = bl (s.extract p (p + n)) := by rw [bl_extract, List.drop_take, Nat.add_sub_cancel_left]
  rw [e, Lib.toList_data, Lib.toList_data]
  constructor
  · intro k; unfold bl; rw [k]
  · intro k; rw [bl_inj k]
theorem pre_long {o l : List Nat} (h : l.length < o.length) : o.isPrefixOf l = false := by
  rw [Bool.eq_false_iff]
  intro k
  have := (List.isPrefixOf_iff_prefix.1 k).length_le
  omega
set_option maxRecDepth 100000 in
set_option maxHeartbeats 4000000 in
theorem refOp_in (w : World) (line : ByteArray) (p : Nat) (hp : p ≤ line.size) (hs : (line.size : Int) ≤ 9223372036854775807) :
    Calls Tryd.prog 13 #[.string line, .int .i64 (p : Nat)] w fun e w' => e = .returned (.int .i64 ((opL ((bl line).drop p) : Nat) : Int)) ∧ Up w w' := by
  obtain ⟨K, hK⟩ : ∃ K, opL ((bl line).drop p) = K := ⟨_, rfl⟩
  have p0 : (0 : Int) ≤ (p : Int) := by omega
  have p2 : (p : Int) ≤ line.size := by omega
  have f0 : ¬ ((p : Int) < 0) := by omega
  have f1 : ¬ ((line.size : Int) < (p : Int)) := by omega
  have f2 : decide (line.size < p) = false := decide_eq_false (by omega)
  have HK := Lib.hid (show opF (opsL.drop 0) ((bl line).drop p) = K from hK)
  have HP := Lib.hid hp
  have HS := Lib.hid hs
  rw [hK]
  clear hK hs
  go_enter Tryd.func13, Tryd.ntmps13
  go_wp2_with (go_at_call 22; ((with_reducible refine (operators_any _).mono ?_); rintro e w1 ⟨⟨g, rfl, hc⟩, hu⟩; have HC := Lib.hid hc; have HU := Lib.hid hu; clear hc hu))
  clear f0 f1 f2
  go_loopg [6] 17 (fun gg iv wr => ∃ k : Nat, k ≤ 17 ∧ gg = 17 - k ∧ iv = .int .i64 (k : Nat) ∧ Hid (Up w wr) ∧ Hid (∀ k, k < 17 → wr.cell? ⟨g, k, none⟩ = some (.string (opB k))) ∧ Hid (opF (opsL.drop k) ((bl line).drop p) = K))
  case atStart => exact ⟨0, by omega, rfl, rfl, HU, HC, HK⟩
  case round =>
    clear HK HU HC
    obtain ⟨k, hk, hg, rfl, HU, HC, HK⟩ := hrel
    have HG := Lib.hid hg
    clear hg
    by_cases hlt : k < 17
    · have hck := HC.out k hlt
      have hckd : wr.drew.cell? ⟨g, k, none⟩ = some (.string (opB k)) := cell_up (Up.drew wr) hck
      have HC2 := Lib.hid (fun (m : Nat) (j : Nat) (hj : j < 17) => (cell_up (Up.drewN wr m) (HC.out j hj) : (wr.drewN m).cell? ⟨g, j, none⟩ = some (.string (opB j))))
      obtain ⟨d1, d2, d3⟩ := ops_drop k hlt
      have hK := HK.out
      rw [d1] at hK
      unfold opF at hK
      generalize opB k = o at hck hckd d1 d2 d3 hK
      obtain ⟨m, hm⟩ : ∃ m, o.size = m := ⟨_, rfl⟩
      rw [bl_len, hm] at hK
      have e1 : IntKind.i64.wrap ((k : Int) + 1) = (k : Int) + 1 := IntWalk.i64_in _ (by omega)
      have k0 : (0 : Int) ≤ (k : Int) := by omega
      have k1 : (k : Int) < 17 := by omega
      have hsz : (o.size : Int) = (m : Nat) := by omega
      have e2 : IntKind.i64.wrap ((line.size : Int) - (p : Int)) = (line.size : Int) - (p : Int) := IntWalk.i64_in _ (by have := HS.out; omega)
      by_cases hfit : p + m ≤ line.size
      · have g1 : (m : Int) ≤ (line.size : Int) - (p : Int) := by omega
        have e3 : IntKind.i64.wrap ((p : Int) + (m : Int)) = ((p + m : Nat) : Int) := (IntWalk.i64_in _ (by have := HS.out; omega)).trans (by omega)
        have q0 : (p : Int) ≤ ((p + m : Nat) : Int) := by omega
        have q1 : ((p + m : Nat) : Int) ≤ (line.size : Int) := by omega
        have q2 : p ≤ p + m := by omega
        have HSB := Lib.hid (sub_eq (s := line) (p := p) hm hfit)
        cases hpre : (bl o).isPrefixOf ((bl line).drop p) with
        | true =>
          rw [hpre] at HSB
          rw [hpre, if_pos rfl] at hK
          have hsb := HSB.out
          have HKK := Lib.hid hK
          clear hpre d1 d2 d3 HK hK hm
          go_wp2
          go_quiet (fail)
          go_wp2
          go_ret
          exact ⟨ret_int (by rw [HKK.out]), HU.out.trans (Up.drewN _ _)⟩
        | false =>
          rw [hpre] at HSB
          rw [hpre, if_neg (by decide)] at hK
          have hsb := HSB.out
          have HKK := Lib.hid hK
          clear hpre d1 d2 d3 HK hK hm
          go_wp2
          go_quiet (fail)
          have HF := Lib.hid (HU.out.trans (Up.drewN wr nq))
          have HC3 := Lib.hid (HC2.out nq)
          go_wp2
          go_roundg (17 - (k + 1))
          case measure => rw [HG.out]; omega
          case rel => exact ⟨k + 1, by omega, rfl, by go_num, HF, HC3, HKK⟩
      · have g1 : ¬ ((m : Int) ≤ (line.size : Int) - (p : Int)) := by omega
        have g2 : decide ((m : Int) ≤ (line.size : Int) - (p : Int)) = false := decide_eq_false g1
        rw [pre_long (by rw [bl_len, List.length_drop, bl_len]; omega), if_neg (by decide)] at hK
        have HKK := Lib.hid hK
        clear d1 d2 d3 HK hK hm
        go_wp2
        go_quiet (fail)
        have HF := Lib.hid (HU.out.trans (Up.drewN wr nq))
        have HC3 := Lib.hid (HC2.out nq)
        go_wp2
        go_roundg (17 - (k + 1))
        case measure => rw [HG.out]; omega
        case rel => exact ⟨k + 1, by omega, rfl, by go_num, HF, HC3, HKK⟩
    · have k1 : ¬ ((k : Int) < 17) := by omega
      have hK := HK.out
      rw [List.drop_of_length_le (show opsL.length ≤ k by show 17 ≤ k; omega)] at hK
      have HKK := Lib.hid (show 0 = K from hK)
      clear hlt hK
      go_wp2
      go_ret
      exact ⟨ret_int (by rw [← HKK.out]; rfl), HU.out⟩
theorem refOp_any (w : World) (line : ByteArray) (a : Int) (hs : (line.size : Int) ≤ 9223372036854775807) :
    Calls Tryd.prog 13 #[.string line, .int .i64 a] w fun e w' => e = .returned (.int .i64 ((opE (bl line) a : Nat) : Int)) ∧ Up w w' := by
  by_cases h : 0 ≤ a ∧ a ≤ line.size
  · obtain ⟨p, rfl⟩ : ∃ p : Nat, a = (p : Int) := ⟨a.toNat, by omega⟩
    rw [opE_nat]
    exact refOp_in w line p (by omega) hs
  · have e : opE (bl line) a = 0 := by
      unfold opE
      split
      · rfl
      · rw [bl_end (by omega)]; rfl
    rw [e]
    by_cases h0 : a < 0
    · go_enter Tryd.func13, Tryd.ntmps13
      go_wp2
      go_ret
      exact ⟨rfl, Up.refl _⟩
    · have h1 : (line.size : Int) < a := by omega
      go_enter Tryd.func13, Tryd.ntmps13
      go_wp2
      go_ret
      exact ⟨rfl, Up.refl _⟩
set_option maxRecDepth 100000 in
set_option maxHeartbeats 4000000 in
theorem ops_walk (W : World) (hT : TabH W) (line : ByteArray) (a : Int) (hs : line.size ≤ maxLen) : Calls Tryd.prog 4 #[.string line, .int .i64 a] W fun e w' => e = .returned (.bool true) ∧ Up W w' := by
  have HO := Lib.hid (fun W (h : TabH W) => op_any W h line a)
  have HR := Lib.hid (fun W => refOp_any W line a (by unfold maxLen at hs; omega))
  generalize opE (bl line) a = K at HO HR
  have HK := Lib.hid (fun W (h : TabH W) => wakes_any W h)
  have HT := Lib.hid hT
  clear hT hs
  go_enter Tryd.func4, Tryd.ntmps4
  go_wp2_with (first
    | (go_at_call 12; ((with_reducible refine (HO.out _ HT.out).mono ?_); rintro e w1 ⟨rfl, hd⟩; have HU := Lib.hid hd.up; clear hd))
    | (go_at_call 13; ((with_reducible refine (HR.out _).mono ?_); rintro e w2 ⟨rfl, hu⟩; have HU := Lib.hid (HU.out.trans hu); clear hu))
    | (go_at_call 8; ((with_reducible refine (HK.out _ (HT.out.up HU.out)).mono ?_); rintro e w3 ⟨rfl, hu⟩; have HU := Lib.hid (HU.out.trans hu); clear hu)))
  go_ret
  exact ⟨rfl, HU.out⟩
end Go.Proofs.YtmeipmkiknekjaaDoor
