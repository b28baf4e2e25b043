/- The steps of a text, and the program's iterator over them: for every loop body that keeps the text's place. -/
import Derived.RangeFuncNested
import Derived.RangeFuncBound
import Derived.RangeFuncCalls
import Derived.RangeFuncLeaves
import Derived.Shelf.Abstract
import Derived.Shelf.RegionOpen
import Derived.WalkKit
import Derived.OwnWalkIn
import Derived.TacticsInMore
import Derived.LoopNIn
import Derived.LoopIn
import Derived.Test.YtcbmigkdmmmahaaDoorULen
namespace Go.Proofs.YtcbmigkdmmmahaaDoor
open Go.RowKit Go.Shelf
attribute [local go_sem] Oper.semAt_some

noncomputable def stepLen (s : ByteArray) (a : Nat) : Nat := if 0 < (dec s a).2 then (dec s a).2 else 1
noncomputable def stepOk (s : ByteArray) (a : Nat) : Bool := decide (0 < (dec s a).2)
theorem stepLen_pos (s : ByteArray) (a : Nat) : 1 ≤ stepLen s a := by unfold stepLen; split <;> omega
theorem stepLen_le (s : ByteArray) (a : Nat) : stepLen s a ≤ 4 := by have := dec_le4 s a; unfold stepLen; split <;> omega
theorem stepLen_in {s : ByteArray} {a : Nat} (h : a < s.size) : a + stepLen s a ≤ s.size := by
  unfold stepLen
  split
  · rename_i hp
    obtain ⟨_, e, hat, _⟩ := dec_facts hp
    have := hat.1
    omega
  · omega
theorem lenI_nat {s : ByteArray} {a : Nat} (h : a < s.size) : lenI s a = (stepLen s a : Nat) := by
  unfold lenI
  rw [if_pos ⟨by omega, by omega⟩]
  unfold stepLen
  rw [show ((a : Int)).toNat = a from rfl]
  split <;> rfl
theorem okI_nat {s : ByteArray} {a : Nat} (h : a < s.size) : okI s a = stepOk s a := by
  unfold okI
  rw [decide_eq_true (⟨by omega, by omega⟩ : (0 : Int) ≤ a ∧ (a : Int) < s.size), Bool.true_and]
  rfl

/-- The steps from a place on: where each begins, and whether it is a character. -/
noncomputable def stepsFrom (s : ByteArray) (a : Nat) : List (Nat × Bool) :=
  if a < s.size then (a, stepOk s a) :: stepsFrom s (a + stepLen s a) else []
termination_by s.size - a
decreasing_by have := stepLen_pos s a; omega
theorem stepsFrom_cons {s : ByteArray} {a : Nat} (h : a < s.size) : stepsFrom s a = (a, stepOk s a) :: stepsFrom s (a + stepLen s a) := by
  rw [stepsFrom]; simp [h]
theorem stepsFrom_nil {s : ByteArray} {a : Nat} (h : ¬ a < s.size) : stepsFrom s a = [] := by
  rw [stepsFrom]; simp [h]

/-- What a round keeps for the iterator: all that lay below n₀, and the text's place. -/
def KpS (n₀ Bn : Nat) (W W' : World) : Prop := Below n₀ W W' ∧ W'.cell? ⟨Bn, 0, none⟩ = W.cell? ⟨Bn, 0, none⟩
theorem kpS_t {n₀ Bn : Nat} {A B C : World} (h : KpS n₀ Bn A B) (k : KpS n₀ Bn B C) : KpS n₀ Bn A C := ⟨h.1.trans k.1, k.2.trans h.2⟩
theorem kpS_b {n₀ Bn : Nat} {w : World} (hn : n₀ ≤ w.heap.size) (hB : Bn < w.heap.size) (W : World) (l : Nat) (o o' : Obj) (hl : w.heap.size ≤ l) (h : W.heap[l]? = some o) (_ : o.isCells = false) (_ : o.isWalk = false) : KpS n₀ Bn W (W.putObj l o') :=
  ⟨(Below.refl n₀ W).grown (grownBy_putObj' W l o') (by have := (Array.getElem?_eq_some_iff.1 h).1; omega) (fun k e => by cases e; omega),
   World.cell?_of_block (w := W) ((grownBy_putObj' W l o').block Bn (by have := (Array.getElem?_eq_some_iff.1 h).1; omega) (fun e => by cases e; omega))⟩

abbrev encStep (x : Nat × Bool) : Array Value := #[.int .i64 (x.1 : Nat), .bool x.2]

theorem cell_lt {w : World} {b : Nat} {v : Value} (h : w.cell? ⟨b, 0, none⟩ = some v) : b < w.heap.size := by
  by_cases hlt : b < w.heap.size
  · exact hlt
  · have : w.heap[b]? = none := by simp; omega
    simp [World.cell?, this] at h

set_option maxRecDepth 100000 in
set_option maxHeartbeats 2000000 in
theorem steps1_in (n : Nat) (hn : 1 ≤ n) (l Bn n₀ : Nat) (hn₀ : 3 + 1 ≤ n₀) (s : ByteArray) (hs : s.size ≤ maxLen) (J Jx : List (Nat × Bool) → World → Prop) (B : Nat) (hJ : AbidesFrom B J)
    (hY : ∀ pre x W, J pre W → pre.length < (stepsFrom s 0).length → YieldAt Fence.wide (n - 1) Tryd.prog l (encStep x) W fun e W' =>
      (e = .returned (.bool true) ∧ J (pre ++ [x]) W' ∧ KpS n₀ Bn W W') ∨ (e = .returned (.bool false) ∧ Jx (pre ++ [x]) W'))
    (W : World) (hBn : W.cell? ⟨Bn, 0, none⟩ = some (.string s)) (hT : Tabs W) (h0 : J [] W) :
    CallsIn Fence.wide n Tryd.prog 70 #[.func (.yield l) #[] #[], .pointer (some ⟨Bn, 0, none⟩)] W fun e W' => (∃ v, e = .returned v) ∧
      ((∃ ys, ys = stepsFrom s 0 ∧ J ys W') ∨ (∃ pre, pre <+: stepsFrom s 0 ∧ Jx pre W')) := by
  have hs' := hs
  unfold maxLen at hs'
  refine callsIn_of_wp Tryd.func70 rfl trivial ?_ rfl
  simp only [Tryd.ntmps70, List.size_toArray, List.length_cons, List.length_nil, Nat.reduceAdd, Nat.reduceSub, Array.replicate_succ, Array.replicate_zero, List.push_toArray, List.append_toArray, List.nil_append, List.cons_append]
  gi_wp2
  gi_loopw [3] (fun p wr => ∃ (pre : List (Nat × Bool)) (a : Nat), p = .int .i64 (a : Nat) ∧ a ≤ s.size ∧ Hid (stepsFrom s 0 = pre ++ stepsFrom s a) ∧ Tabs wr ∧ wr.cell? ⟨Bn, 0, none⟩ = some (.string s) ∧ Hid (J pre wr))
    (fun p _ => s.size - (intOf p).toNat)
  case atStart => exact ⟨[], 0, rfl, by omega, Lib.hid rfl, hT, hBn, Lib.hid h0⟩
  case round =>
    obtain ⟨pre, a, rfl, ha, hx, hTr, hc, hJs⟩ := hrel
    by_cases hlt : a < s.size
    · have hb1 := stepLen_pos s a
      have hb2 := stepLen_le s a
      have hb3 := stepLen_in hlt
      have hlen := len_any s a hs wr hTr
      unfold LenSays at hlen
      rw [lenI_nat hlt, okI_nat hlt] at hlen
      have hcons := stepsFrom_cons hlt
      obtain ⟨L, hL⟩ : ∃ L, stepLen s a = L := ⟨_, rfl⟩
      obtain ⟨b, hb⟩ : ∃ b, stepOk s a = b := ⟨_, rfl⟩
      rw [hL] at hlen hb1 hb2 hb3 hcons
      rw [hb] at hlen hcons
      have Hlen := Lib.hid hlen
      have Hcons := Lib.hid hcons
      have hlength : Hid (pre.length < (stepsFrom s 0).length) := by
        unfold Hid; rw [hx.out, hcons]; simp
      clear hlen hcons hL hb
      have Hc := Lib.hid hc
      gi_wp2_with (refine ⟨trivial, ?_⟩; gi_at_call 71; refine ((callsIn_wide (n := n - 1)).2 Hlen.out).mono ?_; rintro e w1 ⟨rfl, hu⟩; have hc1 := (hu.cell (p := ⟨Bn, 0, none⟩) (cell_lt Hc.out)).trans Hc.out; have hT1 := hTr.up hu; have hJ1 := hJ pre wr w1 none hJs.out hu.grownBy (fun r e => by cases e); obtain ⟨fn, tmps, assign, body, hy, hR⟩ := hY pre (a, b) w1 hJ1 hlength.out; dsimp only [encStep] at hy; have hR' := Lib.hid hR; clear hR hJ1 hc)
      refine hR'.out.mono ?_
      rintro e W3 (⟨rfl, hJ3, hk3⟩ | ⟨rfl, hJx3⟩)
      · have hc3 : W3.cell? ⟨Bn, 0, none⟩ = some (.string s) := hk3.2.trans hc1
        have hT3 : Tabs W3 := hT1.of_below hn₀ hk3.1
        have HJ3 := Lib.hid hJ3
        clear hJ3 hc1 hy
        gi_wp2
        go_roundw
        case rel => exact ⟨pre ++ [(a, b)], a + L, by go_num, hb3, Lib.hid (by rw [hx.out, Hcons.out]; simp), hT3, hc3, HJ3⟩
        case measure => simp [intOf]; omega
      · gi_wp2
        refine bodyPost_ret (results_none rfl _ _ _) rfl ?_
        exact ⟨⟨_, rfl⟩, .inr ⟨pre ++ [(a, b)], ⟨stepsFrom s (a + L), by rw [hx.out, Hcons.out]; simp⟩, hJx3⟩⟩
    · have hnil := Lib.hid (stepsFrom_nil hlt)
      have hge : (s.size : Int) ≤ a := by omega
      gi_wp2
      go_end0
      exact ⟨⟨_, rfl⟩, .inl ⟨pre, by rw [hx.out, hnil.out]; simp, hJs.out⟩⟩

set_option maxHeartbeats 1000000 in
theorem steps_in (s : ByteArray) (w : World) :
    Calls Tryd.prog 65 #[.string s] w fun e w' => e = .returned (.func (.func 70) #[] #[.pointer (some ⟨w.heap.size, 0, none⟩)]) ∧ w' = w.alloc (.cells #[.string s] 9) := by
  go_enter Tryd.func65, Tryd.ntmps65
  go_wp2
  go_ret
  exact ⟨rfl, rfl⟩

theorem steps_stops (n : Nat) (hn : 1 ≤ n) (Bn n₀ : Nat) (hn₀ : 3 + 1 ≤ n₀) (s : ByteArray) (hs : s.size ≤ maxLen) (w : World) (hT : Tabs w) (hc : w.cell? ⟨Bn, 0, none⟩ = some (.string s)) :
    SeqStopsK Fence.wide n Tryd.prog 70 #[.pointer (some ⟨Bn, 0, none⟩)] encStep (KpS n₀ Bn) (fun ys => ys = stepsFrom s 0) (fun pre => pre <+: stepsFrom s 0) (stepsFrom s 0).length w := fun l J Jx W hW hJ _ hY h0 =>
  steps1_in n hn l Bn n₀ hn₀ s hs J Jx _ hJ hY W ((hW.cell (p := ⟨Bn, 0, none⟩) (cell_lt hc)).trans hc) (hT.of_below (by have := hT.big; omega) hW) h0
end Go.Proofs.YtcbmigkdmmmahaaDoor
