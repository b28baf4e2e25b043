/- The edit from one text to another one: the document's Diff. -/
import Derived.Test.YtkdnhdjmlinglaaEBack
namespace Go.Proofs.Ytkdnhdjmlinglaa
open Go.RowKit

theorem zero_res0 (w : World) : Res (w.alloc (.cells #[.int .i64 0, .int .i64 0, .string ⟨#[]⟩] 23)) w.heap.size := zero_res w
/-- Where a common beginning ends. -/
theorem cp_lt {a b : ByteArray} {i : Nat} (h : i ≤ cp a b) (h1 : i < a.size) (h2 : i < b.size) (h3 : bt a i = bt b i) : i < cp a b := by
  have := cp_end a b
  have := cp_le a b
  rcases Nat.lt_or_ge i (cp a b) with g | g
  · exact g
  · obtain rfl : i = cp a b := by omega
    omega
theorem cs_lt {a b : ByteArray} {i : Nat} (h : i ≤ cs a b) (h1 : cp a b + i < a.size) (h2 : cp a b + i < b.size) (h3 : bt a (a.size - 1 - i) = bt b (b.size - 1 - i)) : i < cs a b := by
  have := cs_end a b
  have := cs_le a b
  rcases Nat.lt_or_ge i (cs a b) with g | g
  · exact g
  · obtain rfl : i = cs a b := by omega
    omega
theorem eqB {a b : ByteArray} {i j : Nat} (h1 : i < a.size) (h2 : j < b.size) : (((a[i].toNat : Nat) : Int) == ((b[j].toNat : Nat) : Int)) = decide (bt a i = bt b j) := by
  rw [bt_eq h1, bt_eq h2]
  by_cases h : bt a i = bt b j
  · rw [h, decide_eq_true rfl, beq_self_eq_true]
  · rw [decide_eq_false h]
    exact beq_false_of_ne (by omega)
theorem cp_dec {a b : ByteArray} {i P : Nat} (hP : cp a b = P) (h : i ≤ P) (h1 : i < a.size) (h2 : i < b.size) : decide (bt a i = bt b i) = decide (i < P) := by
  subst hP
  by_cases e : bt a i = bt b i
  · rw [decide_eq_true e, decide_eq_true (cp_lt h h1 h2 e)]
  · rw [decide_eq_false e, decide_eq_false (fun g => e (cp_same g))]
theorem cs_dec {a b : ByteArray} {i P S x y : Nat} (hP : cp a b = P) (hS : cs a b = S) (h : i ≤ S) (h1 : P + i < a.size) (h2 : P + i < b.size) (hx : x = a.size - 1 - i) (hy : y = b.size - 1 - i) : decide (bt a x = bt b y) = decide (i < S) := by
  subst hP hS hx hy
  by_cases e : bt a (a.size - 1 - i) = bt b (b.size - 1 - i)
  · rw [decide_eq_true e, decide_eq_true (cs_lt h h1 h2 e)]
  · rw [decide_eq_false e, decide_eq_false (fun g => e (cs_same g))]
/-- What a cut says of a test. -/
theorem said_dec {x y : Bool} (h : x = y) : Value.bool x = .bool y := by rw [h]
set_option maxRecDepth 100000 in
set_option maxHeartbeats 2000000 in
theorem refDiff_any (a b : ByteArray) (ha : a.size ≤ 140737488355328) (hb : b.size ≤ 140737488355328) (w : World) :
    Calls Try.prog 19 #[.string a, .string b] w fun e w' => e = .returned (edV (dfE a b)) ∧ Up w w' := by
  have HR := Lib.hid (zero_res0 w)
  have HU := Lib.hid (Up.alloc w (.cells #[.int .i64 0, .int .i64 0, .string ⟨#[]⟩] 23))
  have HA := Lib.hid ha
  have HB := Lib.hid hb
  have h1 := cp_le a b
  have h2 := cs_le a b
  obtain ⟨P, hP⟩ : ∃ P, cp a b = P := ⟨_, rfl⟩
  obtain ⟨S, hSs⟩ : ∃ S, cs a b = S := ⟨_, rfl⟩
  rw [hP] at h1 h2
  rw [hSs] at h2
  obtain ⟨m, hm⟩ : ∃ m, b.extract P (b.size - S) = m := ⟨_, rfl⟩
  obtain ⟨d, hd⟩ : ∃ d, a.size - P - S = d := ⟨_, rfl⟩
  have hE : dfE a b = ((P : Int), (d : Int), m) := by unfold dfE; rw [hP, hSs, hm, hd]
  rw [hE]
  unfold edV
  have HP := Lib.hid hP
  have HS := Lib.hid hSs
  have H2 := Lib.hid h2
  have H1 := Lib.hid h1
  have HM := Lib.hid hm
  have HD := Lib.hid hd
  clear ha hb hP hSs h1 h2 hE hm hd
  go_enter Try.func19, Try.ntmps19
  go_wp2
  go_loopg [5] P (fun g pv wr => ∃ i : Nat, g = P - i ∧ pv = .int .i64 (i : Nat) ∧ i ≤ P ∧ Hid (Up w wr) ∧ Hid (Res wr w.heap.size))
  case atStart => exact ⟨0, rfl, rfl, Nat.zero_le _, HU, HR⟩
  case round =>
    obtain ⟨i, hg, rfl, hi, HU, HR⟩ := hrel
    have HG := Lib.hid hg
    have HI := Lib.hid hi
    clear hg hi
    go_upto_region 2 with fail
    go_cut [25] (fun c wx => c = .bool (decide (i < P)) ∧ Hid (Up w wx) ∧ Hid (Res wx w.heap.size))
    case first =>
      by_cases g1 : i < a.size
      · by_cases g2 : i < b.size
        · have k1 : (i : Int) < (a.size : Nat) := by omega
          have k2 : (i : Int) < (b.size : Nat) := by omega
          go_quiet (fail)
          go_wp2_with fail
          go_meet
          case rel => exact ⟨said_dec ((eqB g1 g2).trans (cp_dec HP.out HI.out g1 g2)), Lib.hid (HU.out.trans (Up.drewN _ _)), Lib.hid (HR.out.up (Up.drewN _ _))⟩
        · have f2 : decide (i < b.size) = false := decide_eq_false g2
          have HQ := Lib.hid (show decide (i < P) = false from decide_eq_false (by have := H1.out; omega))
          go_quiet (fail)
          go_wp2_with fail
          go_meet
          case rel => exact ⟨said_dec HQ.out.symm, Lib.hid (HU.out.trans (Up.drewN _ _)), Lib.hid (HR.out.up (Up.drewN _ _))⟩
      · have f1 : decide (i < a.size) = false := decide_eq_false g1
        have HQ := Lib.hid (show decide (i < P) = false from decide_eq_false (by have := H1.out; omega))
        go_quiet (fail)
        go_wp2_with fail
        go_meet
        case rel => exact ⟨said_dec HQ.out.symm, Lib.hid (HU.out.trans (Up.drewN _ _)), Lib.hid (HR.out.up (Up.drewN _ _))⟩
    case rest =>
      obtain ⟨rfl, HU, HR⟩ := hcut
      by_cases hlt : i < P
      · have hi2 : (i : Int) ≤ 140737488355328 := by have := H1.out; have := HA.out; omega
        go_wp2
        go_roundg (P - (i + 1))
        case measure => rw [HG.out]; omega
        case rel => exact ⟨i + 1, rfl, by go_num, by omega, HU, HR⟩
      · obtain rfl : i = P := by have := HI.out; omega
        have f0 : decide (i < i) = false := decide_eq_false hlt
        clear hlt
        go_wp2
        go_loopg [6] S (fun g pv wr => ∃ j : Nat, g = S - j ∧ pv = .int .i64 (j : Nat) ∧ j ≤ S ∧ Hid (Up w wr) ∧ Hid (Res wr w.heap.size))
        case atStart => exact ⟨0, rfl, rfl, Nat.zero_le _, HU, HR⟩
        case round =>
          obtain ⟨j, hg, rfl, hj, HU, HR⟩ := hrel
          have HG := Lib.hid hg
          have HJ := Lib.hid hj
          clear hg hj
          go_upto_region 5 with fail
          obtain ⟨u, hu⟩ : ∃ u, a.size - i = u := ⟨_, rfl⟩
          obtain ⟨v, hv⟩ : ∃ v, b.size - i = v := ⟨_, rfl⟩
          have e1 : IntKind.i64.wrap ((a.size : Int) - (i : Nat)) = (u : Nat) := (IntWalk.i64_in _ (by have := HA.out; have := H1.out; omega)).trans (by have := H1.out; omega)
          have e2 : IntKind.i64.wrap ((b.size : Int) - (i : Nat)) = (v : Nat) := (IntWalk.i64_in _ (by have := HB.out; have := H1.out; omega)).trans (by have := H1.out; omega)
          go_cut [58] (fun c wx => c = .bool (decide (j < S)) ∧ Hid (Up w wx) ∧ Hid (Res wx w.heap.size))
          case first =>
            by_cases g1 : j < u
            · by_cases g2 : j < v
              · have k1 : (j : Int) < (u : Nat) := by omega
                have k2 : (j : Int) < (v : Nat) := by omega
                obtain ⟨x, hx⟩ : ∃ x, a.size - 1 - j = x := ⟨_, rfl⟩
                obtain ⟨y, hy⟩ : ∃ y, b.size - 1 - j = y := ⟨_, rfl⟩
                have hxa : x < a.size := by omega
                have hyb : y < b.size := by omega
                have HX := Lib.hid hx
                have HY := Lib.hid hy
                have HUu := Lib.hid hu
                have HVv := Lib.hid hv
                have q1 : IntKind.i64.wrap ((a.size : Int) - 1) = (a.size : Int) - 1 := IntWalk.i64_in _ (by have := HA.out; omega)
                have q2 : IntKind.i64.wrap ((b.size : Int) - 1) = (b.size : Int) - 1 := IntWalk.i64_in _ (by have := HB.out; omega)
                have q3 : IntKind.i64.wrap ((a.size : Int) - 1 - (j : Nat)) = (x : Nat) := (IntWalk.i64_in _ (by have := HA.out; omega)).trans (by omega)
                have q4 : IntKind.i64.wrap ((b.size : Int) - 1 - (j : Nat)) = (y : Nat) := (IntWalk.i64_in _ (by have := HB.out; omega)).trans (by omega)
                have k3 : (x : Int) < (a.size : Nat) := by omega
                have k4 : (y : Int) < (b.size : Nat) := by omega
                clear hx hy hu hv
                go_quiet (fail)
                clear q1 q2 q3 q4 e1 e2
                go_wp2_with fail
                go_meet
                case rel => exact ⟨said_dec ((eqB hxa hyb).trans (cs_dec HP.out HS.out HJ.out (by have := HUu.out; omega) (by have := HVv.out; omega) HX.out.symm HY.out.symm)), Lib.hid (HU.out.trans (Up.drewN _ _)), Lib.hid (HR.out.up (Up.drewN _ _))⟩
              · have f2 : decide (j < v) = false := decide_eq_false g2
                have HQ := Lib.hid (show decide (j < S) = false from decide_eq_false (by have := H2.out; omega))
                clear hu hv
                go_quiet (fail)
                clear e1 e2
                go_wp2_with fail
                go_meet
                case rel => exact ⟨said_dec HQ.out.symm, Lib.hid (HU.out.trans (Up.drewN _ _)), Lib.hid (HR.out.up (Up.drewN _ _))⟩
            · have f1 : decide (j < u) = false := decide_eq_false g1
              have HQ := Lib.hid (show decide (j < S) = false from decide_eq_false (by have := H2.out; omega))
              clear hu hv
              go_quiet (fail)
              clear e1 e2
              go_wp2_with fail
              go_meet
              case rel => exact ⟨said_dec HQ.out.symm, Lib.hid (HU.out.trans (Up.drewN _ _)), Lib.hid (HR.out.up (Up.drewN _ _))⟩
          case rest =>
            obtain ⟨rfl, HU, HR⟩ := hcut
            clear hu hv e1 e2
            by_cases hlt : j < S
            · have hj2 : (j : Int) ≤ 140737488355328 := by have := H2.out; have := HA.out; omega
              go_wp2
              go_roundg (S - (j + 1))
              case measure => rw [HG.out]; omega
              case rel => exact ⟨j + 1, rfl, by go_num, by omega, HU, HR⟩
            · obtain rfl : j = S := by have := HJ.out; omega
              have f3 : decide (j < j) = false := decide_eq_false hlt
              obtain ⟨⟨y0, r0⟩, ⟨y1, r1⟩, ⟨y2, r2⟩, z0, z1, z2⟩ := HR.out
              have hb := HB.out
              have ha := HA.out
              have h2 := H2.out
              have e1 : IntKind.i64.wrap ((a.size : Int) - (i : Nat)) = (a.size : Int) - (i : Nat) := IntWalk.i64_in _ (by omega)
              have e3 : IntKind.i64.wrap ((a.size : Int) - (i : Nat) - (j : Nat)) = (d : Nat) := (IntWalk.i64_in _ (by omega)).trans (by have := HD.out; omega)
              obtain ⟨v, hv⟩ : ∃ v, b.size - j = v := ⟨_, rfl⟩
              have e4 : IntKind.i64.wrap ((b.size : Int) - (j : Nat)) = (v : Nat) := (IntWalk.i64_in _ (by omega)).trans (by omega)
              have k1 : (0 : Int) ≤ (i : Nat) := by omega
              have k2 : (i : Int) ≤ (v : Nat) := by omega
              have k3 : (v : Int) ≤ (b.size : Nat) := by omega
              have hm : b.extract i v = m := by rw [← hv]; exact HM.out
              clear hlt ha hb h2 hv
              go_wp2
              have hf := set3 HR.out (.int .i64 (i : Nat)) (.int .i64 (d : Nat)) (.string m)
              refine bodyPost_ret (v := .agg #[.int .i64 (i : Nat), .int .i64 (d : Nat), .string m]) (by simp [results, Try.results19, go_sem, hf]) rfl ⟨rfl, HU.out.set3 _ _ _ _ (Nat.le_refl _)⟩
end Go.Proofs.Ytkdnhdjmlinglaa
