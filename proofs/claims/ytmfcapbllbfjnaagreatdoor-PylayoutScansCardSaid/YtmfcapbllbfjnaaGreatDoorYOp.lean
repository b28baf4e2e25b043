/- The document's operator. -/
import Derived.Test.YtmfcapbllbfjnaaGreatDoorYLow
namespace Go.Proofs.YtmfcapbllbfjnaaGreatDoor
open Go.RowKit

def op3B : List ByteArray := [⟨#[42, 42, 61]⟩, ⟨#[47, 47, 61]⟩, ⟨#[62, 62, 61]⟩, ⟨#[60, 60, 61]⟩, ⟨#[46, 46, 46]⟩]
def op2B : List ByteArray := [⟨#[42, 42]⟩, ⟨#[47, 47]⟩, ⟨#[62, 62]⟩, ⟨#[60, 60]⟩, ⟨#[60, 61]⟩, ⟨#[62, 61]⟩, ⟨#[61, 61]⟩, ⟨#[33, 61]⟩, ⟨#[45, 62]⟩, ⟨#[43, 61]⟩, ⟨#[45, 61]⟩, ⟨#[42, 61]⟩, ⟨#[47, 61]⟩, ⟨#[37, 61]⟩, ⟨#[38, 61]⟩, ⟨#[124, 61]⟩, ⟨#[94, 61]⟩, ⟨#[64, 61]⟩, ⟨#[58, 61]⟩]
def op1B : ByteArray := ⟨#[43, 45, 42, 47, 37, 64, 38, 124, 94, 126, 60, 62, 40, 41, 91, 93, 123, 125, 44, 58, 46, 59, 61]⟩
theorem op3B_bl : op3B.map bl = op3 := rfl
theorem op2B_bl : op2B.map bl = op2 := rfl
theorem op1B_bl : bl op1B = op1 := rfl
theorem drop_map {L : List ByteArray} {j : Nat} (h : j < L.length) : (L.map bl).drop j = bl (L[j]) :: (L.map bl).drop (j + 1) := by
  rw [List.drop_eq_getElem_cons (by rw [List.length_map]; exact h), List.getElem_map]
theorem strs_cell (w : World) (T : TypeId) (L : List ByteArray) {j : Nat} (h : j < L.length) : (w.alloc (.cells (L.map Value.string).toArray T)).cell? ⟨w.heap.size, j, none⟩ = some (.string L[j]) := by
  refine cellOf (Go.heap_alloc_new w _) ?_
  simp [h]
theorem op3B_le : ∀ p ∈ op3B, p.size ≤ 3 := by decide
theorem op2B_le : ∀ p ∈ op2B, p.size ≤ 3 := by decide
theorem any_cons (p : List Nat) (ps : List (List Nat)) (l : List Nat) : (p :: ps).any (·.isPrefixOf l) = (p.isPrefixOf l || ps.any (·.isPrefixOf l)) := rfl
theorem one_pre (c x : Nat) (l : List Nat) : [c].isPrefixOf (x :: l) = (x == c) := by
  rw [Bool.eq_iff_iff]
  simp [List.isPrefixOf]
  exact eq_comm
set_option maxRecDepth 100000 in
set_option maxHeartbeats 4000000 in
theorem operator_any (s : ByteArray) (i : Nat) (w : World) (hs : (s.size : Int) ≤ 1000000) (hi : i < s.size) : Calls Tryz.prog 37 #[.string s, .int .i64 (i : Nat)] w fun e w' => e = .returned (.int .i64 (opL ((bl s).drop i) : Nat)) ∧ Up w w' := by
  have HAT := Lib.hid (fun W (t : ByteArray) (ht : t.size ≤ 100) => at_any s t i W hs ht (Nat.le_of_lt hi))
  obtain ⟨V, hV⟩ : ∃ V, opL ((bl s).drop i) = V := ⟨_, rfl⟩
  rw [hV]
  obtain ⟨A3, hA3⟩ : ∃ A3, (op3.any (·.isPrefixOf ((bl s).drop i))) = A3 := ⟨_, rfl⟩
  obtain ⟨A2, hA2⟩ : ∃ A2, (op2.any (·.isPrefixOf ((bl s).drop i))) = A2 := ⟨_, rfl⟩
  obtain ⟨A1, hA1⟩ : ∃ A1, (op1.any fun c => [c].isPrefixOf ((bl s).drop i)) = A1 := ⟨_, rfl⟩
  have HV := Lib.hid (show (if A3 = true then 3 else if A2 = true then 2 else if A1 = true then 1 else 0) = V by rw [← hV, ← hA3, ← hA2, ← hA1]; rfl)
  have HA3 := Lib.hid (show (((op3B.map bl).drop 0).any (·.isPrefixOf ((bl s).drop i))) = A3 from hA3)
  have HA2 := Lib.hid (show (((op2B.map bl).drop 0).any (·.isPrefixOf ((bl s).drop i))) = A2 from hA2)
  have HA1 := Lib.hid (show ((op1.drop 0).any fun c => [c].isPrefixOf ((bl s).drop i)) = A1 from hA1)
  have HI := Lib.hid hi
  obtain ⟨W1, hW1⟩ : ∃ W1, w.alloc (.cells (op3B.map Value.string).toArray 9) = W1 := ⟨_, rfl⟩
  obtain ⟨W, hW⟩ : ∃ W, W1.alloc (.cells (op2B.map Value.string).toArray 9) = W := ⟨_, rfl⟩
  have u1 : Up w W1 := by rw [← hW1]; exact Up.alloc w _
  have u2 : Up W1 W := by rw [← hW]; exact Up.alloc W1 _
  have HU := Lib.hid (u1.trans u2)
  have HC3 := Lib.hid (show ∀ k (h : k < op3B.length), W.cell? ⟨w.heap.size, k, none⟩ = some (.string op3B[k]) from fun k h => cell_up u2 (by rw [← hW1]; exact strs_cell w _ op3B h))
  have HC2 := Lib.hid (show ∀ k (h : k < op2B.length), W.cell? ⟨W1.heap.size, k, none⟩ = some (.string op2B[k]) from fun k h => by rw [← hW]; exact strs_cell W1 _ op2B h)
  simp only [op3B, List.map_cons, List.map_nil] at hW1
  simp only [op2B, List.map_cons, List.map_nil] at hW
  clear hV hA1 hA2 hA3 hs hi u1 u2
  go_enter Tryz.func37, Tryz.ntmps37
  go_wp2
  try simp only [hW1, hW]
  clear hW1 hW
  go_loopg [8] 5 (fun g iv wr => W = wr ∧ ∃ k : Nat, g = 5 - k ∧ iv = .int .i64 (k : Nat) ∧ Hid (k ≤ 5) ∧ Hid ((((op3B.map bl).drop k).any (·.isPrefixOf ((bl s).drop i))) = A3))
  case atStart => exact ⟨rfl, 0, rfl, rfl, Lib.hid (by omega), HA3⟩
  case round =>
    clear HA3
    obtain ⟨rfl, k, hg, rfl, HK, HA⟩ := hrel
    have HG := Lib.hid hg
    clear hg
    by_cases hlt : k < 5
    · have hkl : k < op3B.length := hlt
      obtain ⟨p, hp⟩ : ∃ p, op3B[k] = p := ⟨_, rfl⟩
      have c0 := HC3.out k hkl
      rw [hp] at c0
      have hps : p.size ≤ 3 := by rw [← hp]; exact op3B_le _ (List.getElem_mem hkl)
      have ha := HA.out
      rw [drop_map hkl, hp, any_cons] at ha
      obtain ⟨B, hB⟩ : ∃ B, (bl p).isPrefixOf ((bl s).drop i) = B := ⟨_, rfl⟩
      have hat := fun W => HAT.out W p (by omega)
      rw [hB] at hat ha
      have HAT2 := Lib.hid hat
      have HKK := Lib.hid hlt
      have p0 : (0 : Int) ≤ k := by omega
      have p1 : (k : Int) < 5 := by omega
      have e0 : IntKind.i64.wrap ((k : Int) + 1) = (k : Int) + 1 := IntWalk.i64_in _ (by omega)
      clear hat hB hp hps
      cases B with
      | true =>
        obtain rfl : true = A3 := ha
        have hv := HV.out
        have hv' : 3 = V := hv
        subst hv'
        clear hv
        go_wp2_with (go_at_call 59; ((with_reducible refine (HAT2.out _).mono ?_); rintro e w3 ⟨rfl, rfl⟩))
        go_ret
        exact ⟨rfl, HU.out⟩
      | false =>
        have HA2 := Lib.hid (show (((op3B.map bl).drop (k + 1)).any (·.isPrefixOf ((bl s).drop i))) = A3 from ha)
        clear ha
        go_wp2_with (go_at_call 59; ((with_reducible refine (HAT2.out _).mono ?_); rintro e w3 ⟨rfl, rfl⟩))
        go_roundg (5 - (k + 1))
        case measure => rw [HG.out]; have := HKK.out; omega
        case rel => exact ⟨rfl, k + 1, rfl, by go_num, Lib.hid HKK.out, HA2⟩
    · have hk : k = 5 := by have := HK.out; omega
      have ha := HA.out
      rw [hk] at ha
      obtain rfl : false = A3 := ha
      have f0 : decide ((k : Int) < 5) = false := decide_eq_false (by omega)
      clear hk hlt HA
      go_wp2
      go_loopg [9] 19 (fun g iv wr => W = wr ∧ ∃ k : Nat, g = 19 - k ∧ iv = .int .i64 (k : Nat) ∧ Hid (k ≤ 19) ∧ Hid ((((op2B.map bl).drop k).any (·.isPrefixOf ((bl s).drop i))) = A2))
      case atStart => exact ⟨rfl, 0, rfl, rfl, Lib.hid (by omega), HA2⟩
      case round =>
        clear HA2
        obtain ⟨rfl, k, hg, rfl, HK, HA⟩ := hrel
        have HG := Lib.hid hg
        clear hg
        by_cases hlt : k < 19
        · have hkl : k < op2B.length := hlt
          obtain ⟨p, hp⟩ : ∃ p, op2B[k] = p := ⟨_, rfl⟩
          have c0 := HC2.out k hkl
          rw [hp] at c0
          have hps : p.size ≤ 3 := by rw [← hp]; exact op2B_le _ (List.getElem_mem hkl)
          have ha := HA.out
          rw [drop_map hkl, hp, any_cons] at ha
          obtain ⟨B, hB⟩ : ∃ B, (bl p).isPrefixOf ((bl s).drop i) = B := ⟨_, rfl⟩
          have hat := fun W => HAT.out W p (by omega)
          rw [hB] at hat ha
          have HAT2 := Lib.hid hat
          have HKK := Lib.hid hlt
          have p0 : (0 : Int) ≤ k := by omega
          have p1 : (k : Int) < 19 := by omega
          have e0 : IntKind.i64.wrap ((k : Int) + 1) = (k : Int) + 1 := IntWalk.i64_in _ (by omega)
          clear hat hB hp hps
          cases B with
          | true =>
            obtain rfl : true = A2 := ha
            have hv := HV.out
            have hv' : 2 = V := hv
            subst hv'
            clear hv
            go_wp2_with (go_at_call 59; ((with_reducible refine (HAT2.out _).mono ?_); rintro e w3 ⟨rfl, rfl⟩))
            go_ret
            exact ⟨rfl, HU.out⟩
          | false =>
            have HA2 := Lib.hid (show (((op2B.map bl).drop (k + 1)).any (·.isPrefixOf ((bl s).drop i))) = A2 from ha)
            clear ha
            go_wp2_with (go_at_call 59; ((with_reducible refine (HAT2.out _).mono ?_); rintro e w3 ⟨rfl, rfl⟩))
            go_roundg (19 - (k + 1))
            case measure => rw [HG.out]; have := HKK.out; omega
            case rel => exact ⟨rfl, k + 1, rfl, by go_num, Lib.hid HKK.out, HA2⟩
        · have hk : k = 19 := by have := HK.out; omega
          have ha := HA.out
          rw [hk] at ha
          obtain rfl : false = A2 := ha
          have f0 : decide ((k : Int) < 19) = false := decide_eq_false (by omega)
          clear hk hlt HA
          go_wp2
          obtain ⟨x, hx⟩ : ∃ x, s[i].toNat = x := ⟨_, rfl⟩
          have hbx : bt s i = x := by rw [← bt_eq HI.out]; exact hx
          have HX := Lib.hid hbx
          have HXX := Lib.hid hx
          clear hx hbx
          obtain ⟨O, hO⟩ : ∃ O, op1B = O := ⟨_, rfl⟩
          have HO := Lib.hid hO
          unfold op1B at hO
          simp only [hO]
          clear hO
          go_loopg [10] 23 (fun g iv wr => Hid (Up w wr) ∧ ∃ k : Nat, g = 23 - k ∧ iv = .int .i64 (k : Nat) ∧ Hid (k ≤ 23) ∧ Hid (((op1.drop k).any fun c => [c].isPrefixOf ((bl s).drop i)) = A1))
          case atStart => exact ⟨HU, 0, rfl, rfl, Lib.hid (by omega), HA1⟩
          case round =>
            clear HA1
            obtain ⟨HU, k, hg, rfl, HK, HA⟩ := hrel
            have HG := Lib.hid hg
            clear hg
            have hOs : O.size = 23 := by rw [← HO.out]; rfl
            have hOi : (O.size : Int) = 23 := by omega
            by_cases hlt : k < 23
            · have hkO : k < O.size := by omega
              obtain ⟨y, hy⟩ : ∃ y, O[k].toNat = y := ⟨_, rfl⟩
              have hby : bt O k = y := by rw [← bt_eq hkO]; exact hy
              have ha := HA.out
              have ed : op1.drop k = y :: op1.drop (k + 1) := by rw [← op1B_bl, HO.out, bl_drop hkO, hby]
              rw [ed, bl_drop HI.out, HX.out, List.any_cons, one_pre, ← HX.out, ← bl_drop HI.out, HX.out] at ha
              have hx := HXX.out
              have HKK := Lib.hid hlt
              have p0 : (0 : Int) ≤ k := by omega
              have p1 : (k : Int) < O.size := by omega
              have p2 : (k : Int) < 23 := by omega
              have i0 : (0 : Int) ≤ i := by omega
              have i1 : (i : Int) < s.size := by have := HI.out; omega
              have e0 : IntKind.i64.wrap ((k : Int) + 1) = (k : Int) + 1 := IntWalk.i64_in _ (by omega)
              clear hby ed
              by_cases hxy : x = y
              · rw [show (x == y) = true from beq_iff_eq.2 hxy] at ha
                obtain rfl : true = A1 := ha
                have hv := HV.out
                have hv' : 1 = V := hv
                subst hv'
                have q0 : ((x : Int) == (y : Int)) = true := beq_iff_eq.2 (by omega)
                clear hv hOs hxy
                go_wp2
                go_quiet (fail)
                go_wp2
                go_ret
                exact ⟨rfl, HU.out.trans (Up.drewN _ _)⟩
              · rw [show (x == y) = false from beq_eq_false_iff_ne.2 hxy] at ha
                have HA2 := Lib.hid (show ((op1.drop (k + 1)).any fun c => [c].isPrefixOf ((bl s).drop i)) = A1 from ha)
                have q0 : ((x : Int) == (y : Int)) = false := beq_eq_false_iff_ne.2 (by omega)
                clear ha hOs hxy
                go_wp2
                go_quiet (fail)
                go_wp2
                go_roundg (23 - (k + 1))
                case measure => rw [HG.out]; have := HKK.out; omega
                case rel => exact ⟨Lib.hid (HU.out.trans (Up.drewN _ _)), k + 1, rfl, by go_num, Lib.hid HKK.out, HA2⟩
            · have hk : k = 23 := by have := HK.out; omega
              have ha := HA.out
              rw [hk] at ha
              obtain rfl : false = A1 := ha
              have hv := HV.out
              have hv' : 0 = V := hv
              subst hv'
              have f0 : decide ((k : Int) < 23) = false := decide_eq_false (by omega)
              have f1 : decide (k < O.size) = false := decide_eq_false (by omega)
              clear hv hk hlt HA hOs
              go_wp2
              go_ret
              exact ⟨rfl, HU.out⟩
end Go.Proofs.YtmfcapbllbfjnaaGreatDoor
