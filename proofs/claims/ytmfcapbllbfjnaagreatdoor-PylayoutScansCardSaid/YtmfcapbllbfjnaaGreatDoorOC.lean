/- Which states the program takes for Python's. The program's isPython. What a state counts as, by the program; the reader's cells, shut. -/
import Derived.Test.YtmfcapbllbfjnaaGreatDoorOB
import Derived.Deep.CutBlock
import Derived.Test.YtmfcapbllbfjnaaGreatDoorOPGo2
import Derived.Laws.ResultCell
namespace Go.Proofs.YtmfcapbllbfjnaaGreatDoor
open Go.RowKit
attribute [local go_sem ↓] ldS_eq stS_eq elS_eq neS_eq zrS_eq bdS_eq
attribute [local go_sem] ldS_run stS_run elS_run neS_run zrS_run bdS_run0 bdS_run1 g0_rule ldV_drew ldV_drewN

theorem sv_tl (V : SV) (W : World) (k : Nat) {u : Value} (h : (tlV V.d V.mo V.ma V.fl V.co V.S V.P V.Q V.wa)[k]? = some u) : (W.alloc (.cells (svA V) TS)).cell? ⟨W.heap.size, 64 + k, none⟩ = some u :=
  cellOf (Go.heap_alloc_new _ _) (by unfold svA; rw [List.getElem?_toArray, svL_tl, h])
theorem sv_fr (V : SV) (W : World) {j : Nat} (h : j < 64) : (W.alloc (.cells (svA V) TS)).cell? ⟨W.heap.size, j, none⟩ = some (frV V.u V.c j) :=
  cellOf (Go.heap_alloc_new _ _) (by unfold svA; rw [List.getElem?_toArray, svL_fr V h])
set_option maxRecDepth 100000 in
set_option maxHeartbeats 8000000 in
theorem isLine_any (W : World) (V : SV) : Calls Tryz.prog 38 #[.agg (svA V)] W fun e w' => e = .returned (.bool (decide (lineV V))) ∧ Up W w' := by
  have c5 : (W.alloc (.cells (svA V) TS)).cell? ⟨W.heap.size, 65, none⟩ = some (.int .u8 (V.mo : Nat)) := sv_tl V W 1 rfl
  have c6 : (W.alloc (.cells (svA V) TS)).cell? ⟨W.heap.size, 66, none⟩ = some (.int .u8 (V.ma : Nat)) := sv_tl V W 2 rfl
  have c7 : (W.alloc (.cells (svA V) TS)).cell? ⟨W.heap.size, 67, none⟩ = some (.int .u8 (V.fl : Nat)) := sv_tl V W 3 rfl
  have c8 : (W.alloc (.cells (svA V) TS)).cell? ⟨W.heap.size, 68, none⟩ = some (.int .i64 V.co) := sv_tl V W 4 rfl
  have hl : lineV V ↔ (V.mo = 0 ∧ V.ma = 0 ∧ V.co = 0 ∧ (V.fl = 0 ∨ V.fl = 1)) ∨ (V.mo = 1 ∧ V.ma ≤ 4 ∧ 0 ≤ V.co ∧ V.co ≤ 1048576 ∧ (V.fl = 0 ∨ V.fl = 2)) := Iff.rfl
  have hu := Up.alloc W (.cells (svA V) TS)
  have e0 : decide (lineV V) = decide ((V.mo = 0 ∧ V.ma = 0 ∧ V.co = 0 ∧ (V.fl = 0 ∨ V.fl = 1)) ∨ (V.mo = 1 ∧ V.ma ≤ 4 ∧ 0 ≤ V.co ∧ V.co ≤ 1048576 ∧ (V.fl = 0 ∨ V.fl = 2))) := by rw [Bool.eq_iff_iff, decide_eq_true_eq, decide_eq_true_eq]; exact hl
  rw [e0]
  clear hl e0
  generalize svA V = x at *
  generalize V.mo = mo at *
  generalize V.ma = ma at *
  generalize V.fl = fl at *
  generalize V.co = co at *
  by_cases h0 : mo = 0
  · subst h0
    rw [show ((0 : Nat) : Int) = 0 from rfl] at c5
    obtain ⟨A, hA⟩ : ∃ A, ((ma : Int) == 0) = A := ⟨_, rfl⟩
    obtain ⟨B, hB⟩ : ∃ B, (co == 0) = B := ⟨_, rfl⟩
    obtain ⟨C, hC⟩ : ∃ C, ((fl : Int) == 0) = C := ⟨_, rfl⟩
    obtain ⟨D, hD⟩ : ∃ D, ((fl : Int) == 1) = D := ⟨_, rfl⟩
    have HE := Lib.hid (show decide ((0 = 0 ∧ ma = 0 ∧ co = 0 ∧ (fl = 0 ∨ fl = 1)) ∨ ((0 : Nat) = 1 ∧ ma ≤ 4 ∧ 0 ≤ co ∧ co ≤ 1048576 ∧ (fl = 0 ∨ fl = 2))) = (A && (B && (C || D))) by
      rw [← hA, ← hB, ← hC, ← hD, Bool.eq_iff_iff]
      simp only [decide_eq_true_eq, Bool.and_eq_true, Bool.or_eq_true, beq_iff_eq, true_and]
      omega)
    rw [HE.out]
    clear HE
    cases A <;> cases B <;> cases C <;> cases D
    all_goals
      go_enter Tryz.func38, Tryz.ntmps38
      go_wp2
      go_ret
      exact ⟨rfl, hu⟩
  · by_cases h1 : mo = 1
    · subst h1
      rw [show ((1 : Nat) : Int) = 1 from rfl] at c5
      obtain ⟨A, hA⟩ : ∃ A, decide ((ma : Int) ≤ 4) = A := ⟨_, rfl⟩
      obtain ⟨B, hB⟩ : ∃ B, decide (0 ≤ co) = B := ⟨_, rfl⟩
      obtain ⟨B2, hB2⟩ : ∃ B2, decide (co ≤ 1048576) = B2 := ⟨_, rfl⟩
      obtain ⟨C, hC⟩ : ∃ C, ((fl : Int) == 0) = C := ⟨_, rfl⟩
      obtain ⟨D, hD⟩ : ∃ D, ((fl : Int) == 2) = D := ⟨_, rfl⟩
      have HE := Lib.hid (show decide (((1 : Nat) = 0 ∧ ma = 0 ∧ co = 0 ∧ (fl = 0 ∨ fl = 1)) ∨ (1 = 1 ∧ ma ≤ 4 ∧ 0 ≤ co ∧ co ≤ 1048576 ∧ (fl = 0 ∨ fl = 2))) = (A && (B && (B2 && (C || D)))) by
        rw [← hA, ← hB, ← hB2, ← hC, ← hD, Bool.eq_iff_iff]
        simp only [decide_eq_true_eq, Bool.and_eq_true, Bool.or_eq_true, beq_iff_eq, true_and]
        omega)
      rw [HE.out]
      clear HE h0
      cases A <;> cases B <;> cases B2 <;> cases C <;> cases D
      all_goals
        go_enter Tryz.func38, Tryz.ntmps38
        go_wp2
        go_ret
        exact ⟨rfl, hu⟩
    · have n0 : ((mo : Int) == 0) = false := beq_eq_false_iff_ne.2 (by omega)
      have n1 : ((mo : Int) == 1) = false := beq_eq_false_iff_ne.2 (by omega)
      rw [decide_eq_false (by omega)]
      clear h0 h1
      go_enter Tryz.func38, Tryz.ntmps38
      go_wp2
      go_ret
      exact ⟨rfl, hu⟩
end Go.Proofs.YtmfcapbllbfjnaaGreatDoor

namespace Go.Proofs.YtmfcapbllbfjnaaGreatDoor
open Go.RowKit
attribute [local go_sem ↓] ldS_eq stS_eq elS_eq neS_eq zrS_eq bdS_eq
attribute [local go_sem] ldS_run stS_run elS_run neS_run zrS_run bdS_run0 bdS_run1 g0_rule ldV_drew ldV_drewN

abbrev FT : TypeId := 23
/-- A block with cells written over. -/
def over : Array Value → Nat → List Value → Array Value
  | z, _, [] => z
  | z, o, v :: r => over (z.setIfInBounds o v) (o + 1) r
theorem over_size : ∀ (l : List Value) (z : Array Value) (o : Nat), (over z o l).size = z.size
  | [], _, _ => rfl
  | v :: r, z, o => by rw [over, over_size r]; simp
theorem over_lo : ∀ (l : List Value) (z : Array Value) (o i : Nat), i < o → (over z o l)[i]? = z[i]?
  | [], _, _, _, _ => rfl
  | v :: r, z, o, i, h => by
    rw [over, over_lo r _ _ _ (by omega)]
    rw [Array.getElem?_setIfInBounds]
    rw [if_neg (by omega)]
theorem over_at : ∀ (l : List Value) (z : Array Value) (o i : Nat), i < l.length → o + i < z.size → (over z o l)[o + i]? = l[i]?
  | [], _, _, _, h, _ => absurd h (Nat.not_lt_zero _)
  | v :: r, z, o, 0, _, hz => by
    rw [over, over_lo r _ _ _ (by omega), Array.getElem?_setIfInBounds, if_pos (by omega), if_pos (by omega)]
    rfl
  | v :: r, z, o, i + 1, h, hz => by
    rw [over, show o + (i + 1) = (o + 1) + i from by omega, over_at r _ _ _ (by simpa using h) (by simp; omega)]
    simp
theorem over_all (z y : Array Value) (h : y.size = z.size) : over z 0 y.toList = y := by
  apply Array.ext_getElem?
  intro i
  by_cases hi : i < y.size
  · have := over_at y.toList z 0 i (by simpa using hi) (by omega)
    rw [Nat.zero_add] at this
    rw [this]
    simp
  · rw [Array.getElem?_eq_none (by rw [over_size]; omega), Array.getElem?_eq_none (by omega)]
theorem over_heap (b : Nat) (T : TypeId) : ∀ (l : List Value) (w : World) (o : Nat) (z : Array Value), w.heap[b]? = some (.cells z T) → (w.setCells b o l).heap[b]? = some (.cells (over z o l) T)
  | [], _, _, _, h => h
  | v :: r, w, o, z, h => over_heap b T r (w.setCell ⟨b, o, none⟩ v) (o + 1) (z.setIfInBounds o v) (heap_setCell_same w b o z T v h)
theorem far_heap (b g : Nat) (hg : b ≠ g) : ∀ (l : List Value) (w : World) (o : Nat), (w.setCells b o l).heap[g]? = w.heap[g]?
  | [], _, _ => rfl
  | v :: r, w, o => (far_heap b g hg r (w.setCell ⟨b, o, none⟩ v) (o + 1)).trans (setCell_far w b o v g hg)
theorem whole_new (w : World) {z y : Array Value} (T : TypeId) (h : y.size = z.size) : ((w.alloc (.cells z T)).setCells w.heap.size 0 y.toList).heap[w.heap.size]? = some (.cells y T) := by
  rw [over_heap _ T _ _ _ z (Go.heap_alloc_new _ _), over_all z y h]
theorem whole_up (w : World) {z : Array Value} (T : TypeId) (l : List Value) : Up w ((w.alloc (.cells z T)).setCells w.heap.size 0 l) := set_upS (Up.alloc w _) (Nat.le_refl _)
theorem bdS_run5 (V : SV) (w : World) : (bdS #[(1, .int .i64 V.d), (2, .int .u8 (V.mo : Nat)), (3, .int .u8 (V.ma : Nat)), (4, .int .u8 (V.fl : Nat)), (5, .int .i64 V.co)]).run Tryz.prog w = .ok (.agg (svA (svO V 0))) w := by
  rw [← bdS_eq]
  kernel_rfl
/-- What stands between rounds: the state, the one that is laid anew, as far as it has come. -/
structure PyM (W wr : World) (V : SV) (bs bo k : Nat) : Prop where
  src : wr.heap[bs]? = some (.cells (svA V) TS)
  own : wr.heap[bo]? = some (.cells (svA (svO V k)) TS)
  up : Up W wr
  lo : W.heap.size ≤ bo ∧ bs ≠ bo
  rise : riseV V k
theorem PyM.more {W wr w' : World} {V : SV} {bs bo k : Nat} (h : PyM W wr V bs bo k) (hu : Up wr w') : PyM W w' V bs bo k :=
  ⟨(Below.block hu _ (Array.getElem?_eq_some_iff.1 h.src).1).trans h.src, (Below.block hu _ (Array.getElem?_eq_some_iff.1 h.own).1).trans h.own, h.up.trans hu, h.lo, h.rise⟩
theorem svA_at (V : SV) {j : Nat} (h : j < 64) : (svA V)[j]? = some (frV V.u V.c j) := by unfold svA; rw [List.getElem?_toArray, svL_fr V h]
theorem svA_tl (V : SV) (k : Nat) : (svA V)[64 + k]? = (tlV V.d V.mo V.ma V.fl V.co V.S V.P V.Q V.wa)[k]? := by unfold svA; rw [List.getElem?_toArray, svL_tl]
theorem svA_set4 (V : SV) {i : Nat} (hi : i < 16) (k : Nat) (c : Int) : ((((svA V).setIfInBounds (i * 4) (.int .u8 (k : Nat))).setIfInBounds (i * 4 + 1) (.int .u8 0)).setIfInBounds (i * 4 + 2) (.int .u8 0)).setIfInBounds (i * 4 + 3) (.int .i64 c) = svA (setFr V i k c) := by
  apply Array.ext_getElem?
  intro j
  have hsz : (svA V).size = 82 := by unfold svA; simp [svL_len]
  by_cases hj : j < 64
  · rw [svA_at _ hj]
    simp only [Array.getElem?_setIfInBounds, Array.size_setIfInBounds, hsz]
    unfold frV setFr
    dsimp only
    by_cases h3 : i * 4 + 3 = j
    · rw [if_pos h3, if_pos (by omega), if_pos (by omega), if_pos (by omega)]
    · rw [if_neg h3]
      by_cases h2 : i * 4 + 2 = j
      · rw [if_pos h2, if_pos (by omega), if_neg (by omega), if_pos (by omega), if_neg (by omega)]; rfl
      · rw [if_neg h2]
        by_cases h1 : i * 4 + 1 = j
        · rw [if_pos h1, if_pos (by omega), if_neg (by omega), if_pos (by omega), if_neg (by omega)]; rfl
        · rw [if_neg h1]
          by_cases h0 : i * 4 = j
          · rw [if_pos h0, if_pos (by omega), if_neg (by omega), if_pos (by omega), if_pos (by omega)]
          · rw [if_neg h0, svA_at _ hj]
            unfold frV
            by_cases h4 : j % 4 = 3
            · rw [if_pos h4, if_pos h4, if_neg (by omega)]
            · rw [if_neg h4, if_neg h4, if_neg (by omega)]
  · simp only [Array.getElem?_setIfInBounds, Array.size_setIfInBounds, hsz]
    rw [if_neg (by omega), if_neg (by omega), if_neg (by omega), if_neg (by omega)]
    obtain ⟨q, rfl⟩ : ∃ q, j = 64 + q := ⟨j - 64, by omega⟩
    rw [svA_tl, svA_tl]
    rfl
/-- A frame more. -/
theorem PyM.next {W wr : World} {V : SV} {bs bo k : Nat} (h : PyM W wr V bs bo k) (hk : k < 16) (hr : preC V k < V.c k ∧ V.c k ≤ 8388608) : PyM W ((((wr.setCell ⟨bo, k * 4, none⟩ (.int .u8 10)).setCell ⟨bo, k * 4 + 1, none⟩ (.int .u8 0)).setCell ⟨bo, k * 4 + 2, none⟩ (.int .u8 0)).setCell ⟨bo, k * 4 + 3, none⟩ (.int .i64 (V.c k))) V bs bo (k + 1) := by
  refine ⟨?_, ?_, ?_, h.lo, fun i hi => ?_⟩
  · rw [setCell_far _ bo _ _ bs (fun e => h.lo.2 e.symm), setCell_far _ bo _ _ bs (fun e => h.lo.2 e.symm), setCell_far _ bo _ _ bs (fun e => h.lo.2 e.symm), setCell_far _ bo _ _ bs (fun e => h.lo.2 e.symm)]
    exact h.src
  · have e1 := heap_setCell_same wr bo (k * 4) _ TS (.int .u8 10) h.own
    have e2 := heap_setCell_same _ bo (k * 4 + 1) _ TS (.int .u8 0) e1
    have e3 := heap_setCell_same _ bo (k * 4 + 2) _ TS (.int .u8 0) e2
    have e4 := heap_setCell_same _ bo (k * 4 + 3) _ TS (.int .i64 (V.c k)) e3
    have e5 := svA_set4 (svO V k) hk 10 (V.c k)
    rw [show ((10 : Nat) : Int) = 10 from rfl] at e5
    have e6 : svL (setFr (svO V k) k 10 (V.c k)) = svL (svO V (k + 1)) := by
     refine svL_ext (fun j hj h4 => ?_) (fun i hi => ?_) rfl
     · show (if j / 4 = k then (if j % 4 = 0 then 10 else 0) else if j / 4 < k ∧ j % 4 = 0 then 10 else 0) = if j / 4 < k + 1 ∧ j % 4 = 0 then 10 else 0
       by_cases h0 : j % 4 = 0
       · by_cases h1 : j / 4 = k
         · rw [if_pos h1, if_pos h0, if_pos ⟨by omega, h0⟩]
         · rw [if_neg h1]
           by_cases h2 : j / 4 < k
           · rw [if_pos ⟨h2, h0⟩, if_pos ⟨by omega, h0⟩]
           · rw [if_neg (by omega), if_neg (by omega)]
       · simp [h0]
     · show (if i = k then V.c k else if i < k then V.c i else 0) = if i < k + 1 then V.c i else 0
       by_cases h1 : i = k
       · subst h1; rw [if_pos rfl, if_pos (by omega)]
       · rw [if_neg h1]
         by_cases h2 : i < k
         · rw [if_pos h2, if_pos (by omega)]
         · rw [if_neg h2, if_neg (by omega)]
    have e7 : svA (setFr (svO V k) k 10 (V.c k)) = svA (svO V (k + 1)) := by unfold svA; rw [e6]
    exact e4.trans (congrArg (fun a => some (Obj.cells a TS)) (e5.trans e7))
  · exact Below.setCell (Below.setCell (Below.setCell (Below.setCell h.up (p := ⟨bo, k * 4, none⟩) h.lo.1 _) (p := ⟨bo, k * 4 + 1, none⟩) h.lo.1 _) (p := ⟨bo, k * 4 + 2, none⟩) h.lo.1 _) (p := ⟨bo, k * 4 + 3, none⟩) h.lo.1 _
  · by_cases e : i = k
    · subst e; exact hr
    · exact h.rise i (by omega)
set_option maxRecDepth 100000 in
set_option maxHeartbeats 8000000 in
theorem isPython_not (W : World) (V : SV) (hV : SvOk V) (h : ¬ (0 ≤ V.d ∧ V.d ≤ 16 ∧ lineV V)) : Calls Tryz.prog 20 #[.agg (svA V)] W fun e w' => e = .returned (.bool false) ∧ Up W w' := by
  have c4 : (W.alloc (.cells (svA V) TS)).cell? ⟨W.heap.size, 64, none⟩ = some (.int .i64 V.d) := sv_tl V W 0 rfl
  have HIL := Lib.hid (fun W' => isLine_any W' V)
  have HU := Lib.hid (Up.alloc W (.cells (svA V) TS))
  have hl : ldV (.pointer (some ⟨W.heap.size, 0, none⟩)) (W.alloc (.cells (svA V) TS)) = some (.agg (svA V)) := ldV_of (sv_is hV) (range_box W (svA V) TS)
  clear hV
  by_cases h1 : V.d < 0
  · generalize V.d = d at *
    generalize svA V = x at *
    clear h
    go_enter Tryz.func20, Tryz.ntmps20
    go_wp2
    go_ret
    exact ⟨rfl, HU.out⟩
  · by_cases h2 : 16 < V.d
    · have h1' : decide (V.d < 0) = false := decide_eq_false h1
      generalize V.d = d at *
      generalize svA V = x at *
      clear h h1
      go_enter Tryz.func20, Tryz.ntmps20
      go_wp2
      go_ret
      exact ⟨rfl, HU.out⟩
    · have h1' : decide (V.d < 0) = false := decide_eq_false h1
      have h2' : decide (16 < V.d) = false := decide_eq_false h2
      rw [decide_eq_false (fun k => h ⟨by omega, by omega, k⟩)] at HIL
      generalize V.d = d at *
      generalize svA V = x at *
      clear h h1 h2
      go_enter Tryz.func20, Tryz.ntmps20
      go_wp2_with (go_at_call 38; ((with_reducible refine (HIL.out _).mono ?_); rintro e w1 ⟨rfl, hu⟩))
      go_ret
      exact ⟨rfl, HU.out.trans hu⟩
theorem svA_is {V : SV} (h : SvOk V) : IsS (svA V) := sv_is h
theorem svA_size (V : SV) : (svA V).size = 82 := by unfold svA; simp [svL_len]
set_option maxRecDepth 100000 in
set_option maxHeartbeats 16000000 in
theorem isPython_yes (W : World) (V : SV) (hV : SvOk V) (h0 : 0 ≤ V.d) (h1 : V.d ≤ 16) (h2 : lineV V) : Calls Tryz.prog 20 #[.agg (svA V)] W fun e w' => e = .returned (.bool (pyB V)) ∧ Up W w' := by
  obtain ⟨d, hd⟩ : ∃ d : Nat, V.d = (d : Int) := ⟨V.d.toNat, by omega⟩
  have c4 : (W.alloc (.cells (svA V) TS)).cell? ⟨W.heap.size, 64, none⟩ = some (.int .i64 (d : Nat)) := by rw [← hd]; exact sv_tl V W 0 rfl
  have c5 : (W.alloc (.cells (svA V) TS)).cell? ⟨W.heap.size, 65, none⟩ = some (.int .u8 (V.mo : Nat)) := sv_tl V W 1 rfl
  have c6 : (W.alloc (.cells (svA V) TS)).cell? ⟨W.heap.size, 66, none⟩ = some (.int .u8 (V.ma : Nat)) := sv_tl V W 2 rfl
  have c7 : (W.alloc (.cells (svA V) TS)).cell? ⟨W.heap.size, 67, none⟩ = some (.int .u8 (V.fl : Nat)) := sv_tl V W 3 rfl
  have c8 : (W.alloc (.cells (svA V) TS)).cell? ⟨W.heap.size, 68, none⟩ = some (.int .i64 V.co) := sv_tl V W 4 rfl
  have HIL := Lib.hid (fun W' => isLine_any W' V)
  rw [decide_eq_true h2] at HIL
  have HU := Lib.hid (Up.alloc W (.cells (svA V) TS))
  have hl : ldV (.pointer (some ⟨W.heap.size, 0, none⟩)) (W.alloc (.cells (svA V) TS)) = some (.agg (svA V)) := ldV_of (svA_is hV) (range_box W (svA V) TS)
  have hbd := fun w => bdS_run5 V w
  rw [hd] at hbd
  have HO0 := Lib.hid (svA_is (svO_ok hV 0))
  have HSZ := Lib.hid (show (svA (svO V 0)).size = z0.size by rw [svA_size, z0_is.size])
  have HSRC := Lib.hid (Go.heap_alloc_new W (.cells (svA V) TS))
  have hd0 : (0 : Int) ≤ d := by omega
  have hd1 : (d : Int) ≤ 16 := by omega
  have t0 : decide ((d : Int) < 0) = false := decide_eq_false (by omega)
  have t1 : decide (16 < (d : Int)) = false := decide_eq_false (by omega)
  have HV := Lib.hid hV
  have HD := Lib.hid hd
  have HLN := Lib.hid h2
  generalize hx : svA V = x at *
  generalize hy : svA (svO V 0) = y at *
  have HX := Lib.hid hx
  have HY := Lib.hid hy
  clear hV h0 h1 h2 hd hx hy
  go_enter Tryz.func20, Tryz.ntmps20
  go_upto_region 3 with (go_at_call 38; ((with_reducible refine (HIL.out _).mono ?_); rintro e w1 ⟨rfl, hu⟩; have HU1 := Lib.hid hu; replace c4 := cell_up hu c4; replace c5 := cell_up hu c5; replace c6 := cell_up hu c6; replace c7 := cell_up hu c7; replace c8 := cell_up hu c8; have hst := stV_of HO0.out (there_box w1 z0_is TS); clear hu hl))
  have hw := whole_new w1 (z := z0) TS HSZ.out
  have hwu := whole_up w1 (z := z0) TS y.toList
  go_upto_region 4 with fail
  have hne : W.heap.size ≠ w1.heap.size := by have := Below.size HU1.out; rw [World.size_alloc] at this; omega
  have hm0 : PyM W ((w1.alloc (.cells z0 TS)).setCells w1.heap.size 0 y.toList) V W.heap.size w1.heap.size 0 := by
    refine ⟨?_, ?_, ?_, ⟨?_, hne⟩, fun i hi => absurd hi (Nat.not_lt_zero _)⟩
    · have h3 := HU1.out.trans hwu
      rw [Below.block h3 _ (by rw [World.size_alloc]; omega), HX.out]
      exact HSRC.out
    · rw [hw, HY.out]
    · exact (HU.out.trans HU1.out).trans hwu
    · have := Below.size HU1.out; rw [World.size_alloc] at this; omega
  clear hw hwu hst c4 c5 c6 c7 c8 hne hbd
  generalize hbs : W.heap.size = bs at *
  generalize hbo : w1.heap.size = bo at *
  generalize hw3 : World.setCells _ _ _ _ = w3 at hm0 ⊢
  have HM := Lib.hid hm0
  have c4 : w3.cell? ⟨bs, 64, none⟩ = some (.int .i64 V.d) := cellOf hm0.src (svA_tl V 0)
  rw [HD.out] at c4
  have HD16 := Lib.hid (show d ≤ 16 by omega)
  clear hm0 hw3 hbs hbo
  go_wp2
  clear c4 t0 t1
  go_loopg [4, 36] d (fun g bv iv wr => ∃ k : Nat, g = d - k ∧ bv = .int .i64 (preC V k) ∧ iv = .int .i64 (k : Nat) ∧ Hid (k ≤ d) ∧ Hid (PyM W wr V bs bo k))
  case atStart => exact ⟨0, rfl, rfl, rfl, Lib.hid (Nat.zero_le _), HM⟩
  case round =>
    clear HM
    obtain ⟨k, hg, rfl, rfl, HK, HM⟩ := hrel
    have HG := Lib.hid hg
    clear hg
    by_cases hlt : k < d
    · have HLT := Lib.hid hlt
      have k16 : k < 16 := by have := HD16.out; omega
      have K16 := Lib.hid k16
      have c0 := cellOf HM.out.src (svA_at V (j := k * 4) (by omega))
      have c1 := cellOf HM.out.src (svA_at V (j := k * 4 + 1) (by omega))
      have c2 := cellOf HM.out.src (svA_at V (j := k * 4 + 2) (by omega))
      have c3 := cellOf HM.out.src (svA_at V (j := k * 4 + 3) (by omega))
      unfold frV at c0 c1 c2 c3
      rw [if_neg (by omega)] at c0 c1 c2
      rw [if_pos (by omega), show (k * 4 + 3) / 4 = k from by omega] at c3
      have i0 : (0 : Int) ≤ k := by omega
      have i1 : (k : Int) < d := by omega
      have i2 : (k : Int) < 16 := by omega
      have e4 : IntKind.i64.wrap ((k : Int) + 1) = (k : Int) + 1 := IntWalk.i64_in _ (by omega)
      clear hlt k16
      generalize hu0 : V.u (k * 4) = u0' at c0
      generalize hu1 : V.u (k * 4 + 1) = u1' at c1
      generalize hu2 : V.u (k * 4 + 2) = u2' at c2
      generalize hpc : preC V k = pc
      generalize hvc : V.c k = vc at c3
      have HP := Lib.hid (And.intro hpc hvc)
      clear hu0 hu1 hu2 hpc hvc
      by_cases hok : pc < vc ∧ vc ≤ 8388608
      · obtain ⟨o1, o2⟩ := hok
        have q1 : decide (vc ≤ pc) = false := decide_eq_false (by omega)
        have q2 : decide (8388608 < vc) = false := decide_eq_false (by omega)
        have HOK := Lib.hid (And.intro o1 o2)
        clear o1 o2
        go_upto_region 10 with fail
        have HM2 := Lib.hid (HM.out.more (Up.alloc wr (.cells #[.int .u8 (u0' : Nat), .int .u8 (u1' : Nat), .int .u8 (u2' : Nat), .int .i64 vc] FT)))
        have hnew : (wr.alloc (.cells #[.int .u8 (u0' : Nat), .int .u8 (u1' : Nat), .int .u8 (u2' : Nat), .int .i64 vc] FT)).cell? ⟨wr.heap.size, 3, none⟩ = some (.int .i64 vc) := cellOf (Go.heap_alloc_new _ _) rfl
        have hbne : bo ≠ wr.heap.size := by have := (Array.getElem?_eq_some_iff.1 HM.out.own).1; omega
        generalize hw4 : World.alloc wr _ = w4 at HM2 hnew ⊢
        clear hw4 c0 c1 c2 c3
        have f0 : ∀ j, w4.frozen? ⟨bo, j, none⟩ = false := fun j => frozenOf HM2.out.own
        have g0 := cellOf HM2.out.own (svA_at (svO V k) (j := k * 4) (by have := K16.out; omega))
        have g1 := cellOf HM2.out.own (svA_at (svO V k) (j := k * 4 + 1) (by have := K16.out; omega))
        have g2 := cellOf HM2.out.own (svA_at (svO V k) (j := k * 4 + 2) (by have := K16.out; omega))
        have g3 := cellOf HM2.out.own (svA_at (svO V k) (j := k * 4 + 3) (by have := K16.out; omega))
        generalize frV (svO V k).u (svO V k).c (k * 4) = r0 at g0
        generalize frV (svO V k).u (svO V k).c (k * 4 + 1) = r1 at g1
        generalize frV (svO V k).u (svO V k).c (k * 4 + 2) = r2 at g2
        generalize frV (svO V k).u (svO V k).c (k * 4 + 3) = r3 at g3
        go_upto_region 11 with fail
        have hn5 : ((((w4.setCell ⟨bo, k * 4, none⟩ (.int .u8 10)).setCell ⟨bo, k * 4 + 1, none⟩ (.int .u8 0)).setCell ⟨bo, k * 4 + 2, none⟩ (.int .u8 0)).setCell ⟨bo, k * 4 + 3, none⟩ (.int .i64 vc)).cell? ⟨wr.heap.size, 3, none⟩ = some (.int .i64 vc) := by
          rw [World.cell?_setCell_far _ _ _ _ hbne, World.cell?_setCell_far _ _ _ _ hbne, World.cell?_setCell_far _ _ _ _ hbne, World.cell?_setCell_far _ _ _ _ hbne]
          exact hnew
        have HM5 := Lib.hid (show PyM W ((((w4.setCell ⟨bo, k * 4, none⟩ (.int .u8 10)).setCell ⟨bo, k * 4 + 1, none⟩ (.int .u8 0)).setCell ⟨bo, k * 4 + 2, none⟩ (.int .u8 0)).setCell ⟨bo, k * 4 + 3, none⟩ (.int .i64 vc)) V bs bo (k + 1) by
          have h := HM2.out.next K16.out (by rw [HP.out.1, HP.out.2]; exact HOK.out)
          rw [HP.out.2] at h
          exact h)
        generalize hw5 : World.setCell (World.setCell (World.setCell (World.setCell w4 _ _) _ _) _ _) _ _ = w5 at hn5 HM5 ⊢
        clear hw5 g0 g1 g2 g3 f0 hnew HM2 hbne
        go_wp2
        go_roundg (d - (k + 1))
        case measure => rw [HG.out]; have := HLT.out; omega
        case rel =>
          have hp : preC V (k + 1) = vc := by unfold preC; rw [if_neg (by omega), Nat.add_sub_cancel]; exact HP.out.2
          exact ⟨k + 1, rfl, by rw [hp], by go_num, Lib.hid HLT.out, HM5⟩
      · have HNO := Lib.hid hok
        have hpy : pyB V = false := pyB_false (fun h => by
          have h4 := h.1.2.2.2 k (by rw [HD.out]; have := HLT.out; omega)
          rw [HP.out.1, HP.out.2] at h4
          exact HNO.out h4)
        have HPY := Lib.hid hpy
        by_cases o1 : vc ≤ pc
        · clear hok hpy
          go_wp2
          go_ret
          exact ⟨ret_bool HPY.out.symm, HM.out.up.trans (Up.alloc _ _)⟩
        · have q1 : decide (vc ≤ pc) = false := decide_eq_false o1
          have q2 : 8388608 < vc := by omega
          clear hok hpy o1
          go_wp2
          go_ret
          exact ⟨ret_bool HPY.out.symm, HM.out.up.trans (Up.alloc _ _)⟩
    · have g0 : decide (k < d) = false := decide_eq_false hlt
      have hkd : k = d := by have := HK.out; omega
      subst hkd
      have hx1 : IsS (svA V) := svA_is HV.out
      have hx2 : IsS (svA (svO V k)) := svA_is (svO_ok HV.out k)
      have hl1 : ldV (.pointer (some ⟨bs, 0, none⟩)) wr = some (.agg (svA V)) := ldV_of hx1 (fun j v hv => by rw [Nat.zero_add]; exact cellOf HM.out.src (by simpa using hv))
      have hl2 : ldV (.pointer (some ⟨bo, 0, none⟩)) wr = some (.agg (svA (svO V k))) := ldV_of hx2 (fun j v hv => by rw [Nat.zero_add]; exact cellOf HM.out.own (by simpa using hv))
      have heq := eqV_of hx1 hx2
      have hres : eqS (svA V) (svA (svO V k)) = pyB V := by
        have hdk : V.d.toNat = k := by rw [HD.out]; omega
        by_cases he : svL V = svL (svO V k)
        · rw [pyB_of ⟨by rw [HD.out]; omega, by rw [HD.out]; have := HD16.out; omega, HLN.out, by rw [hdk]; exact HM.out.rise⟩ (by rw [hdk]; exact he)]
          rw [eqS_true]
          unfold svA
          rw [he]
        · rw [pyB_false (fun h => he (by have := h.2; rwa [hdk] at this))]
          rw [Bool.eq_false_iff]
          intro h
          rw [eqS_true] at h
          unfold svA at h
          exact he (by simpa using h)
      have HRES := Lib.hid hres
      clear hx1 hx2 hres hlt
      generalize svA V = xa at *
      generalize svA (svO V k) = xb at *
      go_wp2
      go_ret
      exact ⟨ret_bool HRES.out, HM.out.up⟩
end Go.Proofs.YtmfcapbllbfjnaaGreatDoor

namespace Go.Proofs.YtmfcapbllbfjnaaGreatDoor
open Go.RowKit
attribute [local go_sem ↓] ldS_eq stS_eq elS_eq neS_eq zrS_eq bdS_eq
attribute [local go_sem] ldS_run stS_run elS_run neS_run zrS_run bdS_run0 bdS_run1 g0_rule ldV_drew ldV_drewN

theorem results_cell1 {fn : Func} {p : Tmp} {ty : TypeId} (h : fn.results = #[.cell p ty]) (tmps : Array Value) (P : Program) (w : World) :
    (results fn tmps).run P w = ((asAddr (tmps.getD p undef)).run P w).andThen fun a w₁ => (loadVar ty a).run P w₁ := by
  simp only [results, h]
  simp [Sem.run_bind, Result.andThen]
set_option maxRecDepth 100000 in
theorem res_S1 {fn : Func} {p : Tmp} (h : fn.results = #[.cell p TS]) (tmps : Array Value) (w : World) (a : Addr) {v : Value} (hp : tmps.getD p undef = .pointer (some a)) (hv : ldV (.pointer (some a)) w = some v) :
    (results fn tmps).run Tryz.prog w = .ok v w := by
  obtain ⟨a', e, h2⟩ := ldVar_of hv
  injection e with e; injection e with e
  subst e
  rw [results_cell1 h, hp]
  simp only [asAddr, Sem.run_pure, Result.andThen_ok, h2]
theorem results_tmp_cell {fn : Func} {p u : Tmp} {ty : TypeId} (h : fn.results = #[.tmp u, .cell p ty]) (tmps : Array Value) (P : Program) (w : World) :
    (results fn tmps).run P w = ((asAddr (tmps.getD p undef)).run P w).andThen fun a w₁ => ((loadVar ty a).run P w₁).andThen fun v w₂ => .ok (.tuple #[tmps.getD u undef, v]) w₂ := by
  simp only [results, h]
  simp [Sem.run_bind, Result.andThen]
set_option maxRecDepth 100000 in
theorem res_S2 {fn : Func} {p u : Tmp} (h : fn.results = #[.tmp u, .cell p TS]) (tmps : Array Value) (w : World) (a : Addr) (v : Value) (hp : tmps.getD p undef = .pointer (some a)) (hv : ldV (.pointer (some a)) w = some v) :
    (results fn tmps).run Tryz.prog w = .ok (.tuple #[tmps.getD u undef, v]) w := by
  obtain ⟨a', e, h2⟩ := ldVar_of hv
  injection e with e; injection e with e
  subst e
  rw [results_tmp_cell h, hp]
  simp only [asAddr, Sem.run_pure, Result.andThen_ok, h2]
theorem isPython_any (W : World) (V : SV) (hV : SvOk V) : Calls Tryz.prog 20 #[.agg (svA V)] W fun e w' => e = .returned (.bool (pyB V)) ∧ Up W w' := by
  by_cases h : 0 ≤ V.d ∧ V.d ≤ 16 ∧ lineV V
  · exact isPython_yes W V hV h.1 h.2.1 h.2.2
  · rw [pyB_false (fun k => h ⟨k.1.1, k.1.2.1, k.1.2.2.1⟩)]
    exact isPython_not W V hV h
theorem z0_lst : z0 = stA lst0 := by kernel_rfl
theorem up_ldV {w w' : World} (hu : Up w w') {v u : Value} (h : ldV v w = some u) : ldV v w' = some u := ldV_up hu h
set_option maxRecDepth 100000 in
set_option maxHeartbeats 4000000 in
theorem counted_any (W : World) (x : Array Value) (s : LSt) (hx : IsS x) (hc : Cnt x s) : Calls Tryz.prog 8 #[.agg x] W fun e w' => e = .returned (.agg (stA s)) ∧ Up W w' := by
  obtain ⟨V, hV, rfl⟩ := sv_of hx
  have HP := Lib.hid (fun W' => isPython_any W' V hV)
  have hxx : IsS (svA V) := svA_is hV
  have hb0 : W.heap.size < (W.alloc (.cells (svA V) TS)).heap.size := by rw [World.size_alloc]; omega
  have hl : ldV (.pointer (some ⟨W.heap.size, 0, none⟩)) ((W.alloc (.cells (svA V) TS)).alloc (.cells z0 TS)) = some (.agg (svA V)) := ldV_up (Up.alloc _ _) (ldV_of hxx (range_box W (svA V) TS))
  have ht : ((W.alloc (.cells (svA V) TS)).alloc (.cells z0 TS)).there (W.heap.size + 1) 0 82 := by have := there_box (W.alloc (.cells (svA V) TS)) z0_is TS; rwa [World.size_alloc] at this
  have HT := Lib.hid ht
  have HXX := Lib.hid hxx
  have HU := Lib.hid ((Up.alloc W (.cells (svA V) TS)).trans (Up.alloc _ (.cells z0 TS)))
  have hres : (pyB V = true ∧ stA s = svA V) ∨ (pyB V = false ∧ stA s = z0) := by
    rcases hc.2 with h | ⟨h, rfl⟩
    · left
      have e : svA V = stA s := h
      exact ⟨pyB_true.2 ⟨s, hc.1, e⟩, e.symm⟩
    · right
      refine ⟨?_, z0_lst.symm⟩
      rw [Bool.eq_false_iff]
      intro k
      exact h (pyB_true.1 k)
  show Calls Tryz.prog 8 #[.agg (svA V)] W _
  clear hx hc hV hxx ht hb0
  generalize svA V = y at *
  generalize pyB V = B at *
  rcases hres with ⟨rfl, hy⟩ | ⟨rfl, hy⟩
  · rw [hy]
    clear hy
    go_enter Tryz.func8, Tryz.ntmps8
    go_wp2_with (go_at_call 20; ((with_reducible refine (HP.out _).mono ?_); rintro e w1 ⟨rfl, hu⟩; have hl := ldV_up hu hl; have hst := stV_of HXX.out (there_up hu HT.out); have HLD := Lib.hid (set_ld HXX.out (there_up hu HT.out)); have HF := Lib.hid (set_upS (b := W.heap.size + 1) (o := 0) (l := y.toList) (HU.out.trans hu) (by omega)); clear hu))
    refine bodyPost_ret (res_S1 rfl _ _ _ rfl HLD.out) rfl ?_
    exact ⟨rfl, HF.out⟩
  · rw [hy]
    clear hy
    go_enter Tryz.func8, Tryz.ntmps8
    go_wp2_with (go_at_call 20; ((with_reducible refine (HP.out _).mono ?_); rintro e w1 ⟨rfl, hu⟩; have hl := ldV_up hu hl; have hst := stV_of z0_is (there_up hu HT.out); have HLD := Lib.hid (set_ld z0_is (there_up hu HT.out)); have HF := Lib.hid (set_upS (b := W.heap.size + 1) (o := 0) (l := z0.toList) (HU.out.trans hu) (by omega)); clear hu))
    refine bodyPost_ret (res_S1 rfl _ _ _ rfl HLD.out) rfl ?_
    exact ⟨rfl, HF.out⟩
/-- The reader's cells, as one value. -/
@[irreducible] def bdR (ps : Array (Nat × Value)) : Sem Value := Instr.build LT ps
theorem bdR_eq (ps : Array (Nat × Value)) : Instr.build LT ps = bdR ps := by unfold bdR; rfl
@[irreducible] def stR (v u : Value) : Sem Unit := Instr.storeAt LT v u
theorem stR_eq (v u : Value) : Instr.storeAt LT v u = stR v u := by unfold stR; rfl
@[irreducible] def zrR : Sem Value := zeroValue LT
theorem zrR_eq : zeroValue LT = zrR := by unfold zrR; rfl
def rdV (V : SV) (line : ByteArray) (E p : Nat) (v : Value) : Array Value := (rdC V line E p v).toArray
def zR : Array Value := rdV (svP lst0) ByteArray.empty 0 0 (.slice none 0 0)
theorem zrR_run (w : World) : zrR.run Tryz.prog w = .ok (.agg zR) w := by rw [← zrR_eq]; kernel_rfl
theorem bdR_run (V : SV) (line : ByteArray) (E : Nat) (w : World) : (bdR #[(0, .agg (svA V)), (1, .string line), (2, .int .i64 (E : Nat))]).run Tryz.prog w = .ok (.agg (rdV V line E 0 (.slice none 0 0))) w := by rw [← bdR_eq]; kernel_rfl
theorem rdV_size (V : SV) (line : ByteArray) (E p : Nat) (v : Value) : (rdV V line E p v).size = 86 := by unfold rdV rdC; simp [svL_len]
theorem lInfo : (Tryz.prog.info? LT).map (·.size) = some 86 := by kernel_rfl
theorem svL_one (V : SV) : ∀ v ∈ svL V, v.oneCell' = true := by
  intro v hv
  unfold svL at hv
  rcases List.mem_append.1 hv with hm | hm
  · obtain ⟨j, -, rfl⟩ := List.mem_map.1 hm
    unfold frV
    split <;> rfl
  · unfold tlV at hm
    simp only [List.mem_cons, List.not_mem_nil, or_false] at hm
    rcases hm with rfl | rfl | rfl | rfl | rfl | rfl | rfl | rfl | rfl | rfl | rfl | rfl | rfl | rfl | rfl | rfl | rfl | rfl <;> rfl
theorem rdV_one (V : SV) (line : ByteArray) (E p : Nat) : (rdV V line E p (.slice none 0 0)).all (·.oneCell') = true := by
  rw [Array.all_eq_true_iff_forall_mem]
  intro v hv
  unfold rdV rdC at hv
  rw [List.mem_toArray] at hv
  rcases List.mem_append.1 hv with hm | hm
  · exact svL_one V v hm
  · simp only [List.mem_cons, List.not_mem_nil, or_false] at hm
    rcases hm with rfl | rfl | rfl | rfl <;> rfl
theorem stR_run (w : World) (V : SV) (line : ByteArray) (E p : Nat) : (stR (.pointer (some ⟨w.heap.size, 0, none⟩)) (.agg (rdV V line E p (.slice none 0 0)))).run Tryz.prog (w.alloc (.cells zR LT)) = .ok () ((w.alloc (.cells zR LT)).setCells w.heap.size 0 (rdV V line E p (.slice none 0 0)).toList) := by
  rw [← stR_eq]
  refine run_storeAt_mid (P := Tryz.prog) _ _ 0 LT _ ?_ (by rw [lInfo, rdV_size]) (rdV_one V line E p)
  intro j hj
  rw [rdV_size] at hj
  have hz : zR.size = 86 := rdV_size _ _ _ _ _
  rw [Nat.zero_add]
  exact ⟨by rw [cellOf (Go.heap_alloc_new w _) (Array.getElem?_eq_getElem (by rw [hz]; exact hj))]; rfl, frozenOf (Go.heap_alloc_new w _)⟩
theorem rd_start (W w2 : World) (V : SV) (line : ByteArray) (E : Nat) (hu : Up W w2) : RdP W ((w2.alloc (.cells zR LT)).setCells w2.heap.size 0 (rdV V line E 0 (.slice none 0 0)).toList) w2.heap.size V line E 0 (.slice none 0 0) [] := by
  refine ⟨whole_new w2 LT (by rw [rdV_size]; exact (rdV_size _ _ _ _ _).symm), World.ownsRow_nil _ _ _ _, Below.size hu, hu.trans (whole_up w2 LT _)⟩
end Go.Proofs.YtmfcapbllbfjnaaGreatDoor
