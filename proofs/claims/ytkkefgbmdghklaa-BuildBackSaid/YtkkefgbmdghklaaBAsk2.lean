/- Whether a list of events may be put: the program's closure that is handed them. -/
import Derived.Test.YtkkefgbmdghklaaBAsk
namespace Go.Proofs.Ytkkefgbmdghklaa
open Go.RowKit

/-- What the closure leaves: only its own two numbers may have turned. -/
def TurnA (Bf Bo : Nat) (w w' : World) : Prop := Turn (fun i => i = Bf ∨ i = Bo) w w'
theorem wf_op {x : Int} (h : x = 1 ∨ x = 2 ∨ x = 3) : (Lit.int .u8 x).wf = true := by rcases h with rfl | rfl | rfl <;> decide
theorem eqN (W : World) : (binOp .eql 56 .nilFunc .nilFunc).run Try.prog W = .ok (.bool true) W := by rfl
theorem eqF (f : Nat) (W : World) : (binOp .eql 56 (.func (.func f) #[] #[]) .nilFunc).run Try.prog W = .ok (.bool false) W := by rfl
theorem fnOf_one : fnOf 1 = .func (.func 20) #[] #[] := rfl
theorem fnOf_two : fnOf 2 = .func (.func 21) #[] #[] := rfl
theorem fnOf_three : fnOf 3 = .func (.func 22) #[] #[] := rfl
theorem fnOf_none {x : Int} (h : ¬ (x = 1 ∨ x = 2 ∨ x = 3)) : fnOf x = .nilFunc := by unfold fnOf; rw [if_neg (by omega), if_neg (by omega), if_neg (by omega)]
set_option maxRecDepth 100000 in
set_option maxHeartbeats 2000000 in
theorem ask_arg (w : World) (mb Bd Ba Bf Bo Bc : Nat) (at_ far : Int) (o : Nat) (h : AskS w mb Bd Ba Bf Bo Bc at_ far o) (x0 x1 x2 x3 : Int) (hx : (Lit.int .u8 x0).wf = true) (hk : ¬ (x0 = 1 ∨ x0 = 2 ∨ x0 = 3)) :
    Calls Try.prog 24 #[.agg #[.int .u8 x0, .int .u8 x1, .int .i64 x2, .int .i64 x3], .pointer (some ⟨Bd, 0, none⟩), .pointer (some ⟨Bc, 0, none⟩), .pointer (some ⟨Bo, 0, none⟩)] w fun e w' => e = .returned (.int .i64 1) ∧ TurnA Bf Bo w w' := by
  obtain ⟨W, hW⟩ : ∃ W, w.alloc (.cells #[.int .u8 x0, .int .u8 x1, .int .i64 x2, .int .i64 x3] 42) = W := ⟨_, rfl⟩
  have u1 : Up w W := by rw [← hW]; exact Up.alloc w _
  have hev : W.heap[w.heap.size]? = some (.cells #[.int .u8 x0, .int .u8 x1, .int .i64 x2, .int .i64 x3] 42) := by rw [← hW]; exact Go.heap_alloc_new _ _
  have hS := h.up u1
  have c1 := hS.bd.cell
  have c2 := hS.bc.cell
  have hl := hS.map.look (x := x0) hx
  have e0 : W.cell? ⟨w.heap.size, 0, none⟩ = some (.int .u8 x0) := cellOf hev rfl
  have HEv := Lib.hid hev
  have HU := Lib.hid u1
  have HS := Lib.hid hS
  have HNf := Lib.hid (show w.heap.size ≠ Bf from fun e => by have := h.bf.lt; omega)
  have HNo := Lib.hid (show w.heap.size ≠ Bo from fun e => by have := h.bo.lt; omega)
  rw [fnOf_none hk] at hl
  clear hev hS u1 h hx hk
  have hqN := eqN
  have hqF := eqF
  go_enter Try.func24, Try.ntmps24
  go_wp2
  go_ret
  exact ⟨rfl, Turn.of_up _ HU.out⟩
set_option maxRecDepth 100000 in
set_option maxHeartbeats 2000000 in
theorem ask_no1 (w : World) (mb Bd Ba Bf Bo Bc : Nat) (at_ far : Int) (o : Nat) (h : AskS w mb Bd Ba Bf Bo Bc at_ far o) (ha : 0 ≤ at_ ∧ at_ ≤ 1048576) (hf : 0 ≤ far ∧ far ≤ 1048576) (x1 x2 x3 : Int) (hp : x2 < far - at_ ∨ 1048576 - at_ < x2) :
    Calls Try.prog 24 #[.agg #[.int .u8 1, .int .u8 x1, .int .i64 x2, .int .i64 x3], .pointer (some ⟨Bd, 0, none⟩), .pointer (some ⟨Bc, 0, none⟩), .pointer (some ⟨Bo, 0, none⟩)] w fun e w' => e = .returned (.int .i64 70) ∧ TurnA Bf Bo w w' := by
  obtain ⟨W, hW⟩ : ∃ W, w.alloc (.cells #[.int .u8 1, .int .u8 x1, .int .i64 x2, .int .i64 x3] 42) = W := ⟨_, rfl⟩
  have u1 : Up w W := by rw [← hW]; exact Up.alloc w _
  have hev : W.heap[w.heap.size]? = some (.cells #[.int .u8 1, .int .u8 x1, .int .i64 x2, .int .i64 x3] 42) := by rw [← hW]; exact Go.heap_alloc_new _ _
  have hS := h.up u1
  have c1 := hS.bd.cell
  have c2 := hS.bc.cell
  have hl := hS.map.look (x := 1) (by decide)
  have e0 : W.cell? ⟨w.heap.size, 0, none⟩ = some (.int .u8 1) := cellOf hev rfl
  have HEv := Lib.hid hev
  have HU := Lib.hid u1
  have HS := Lib.hid hS
  have HNf := Lib.hid (show w.heap.size ≠ Bf from fun e => by have := h.bf.lt; omega)
  have HNo := Lib.hid (show w.heap.size ≠ Bo from fun e => by have := h.bo.lt; omega)
  rw [fnOf_one] at hl
  have e2 : W.cell? ⟨w.heap.size, 2, none⟩ = some (.int .i64 x2) := cellOf hev rfl
  have HF := Lib.hid (follow_no W Bf Ba at_ far x2 hS.bf hS.ba ha hf hp)
  clear hev hS u1 h ha hf hp
  have hqN := eqN
  have hqF := eqF
  go_enter Try.func24, Try.ntmps24
  go_wp2_with (go_at_call 23; ((with_reducible refine HF.out.mono ?_); rintro e w1 ⟨rfl, rfl⟩))
  go_ret
  exact ⟨rfl, Turn.of_up _ HU.out⟩
set_option maxRecDepth 100000 in
set_option maxHeartbeats 2000000 in
theorem ask_no2 (w : World) (mb Bd Ba Bf Bo Bc : Nat) (at_ far : Int) (o : Nat) (h : AskS w mb Bd Ba Bf Bo Bc at_ far o) (ha : 0 ≤ at_ ∧ at_ ≤ 1048576) (hf : 0 ≤ far ∧ far ≤ 1048576) (x1 x2 x3 : Int) (hp : x2 < far - at_ ∨ 1048576 - at_ < x2) :
    Calls Try.prog 24 #[.agg #[.int .u8 2, .int .u8 x1, .int .i64 x2, .int .i64 x3], .pointer (some ⟨Bd, 0, none⟩), .pointer (some ⟨Bc, 0, none⟩), .pointer (some ⟨Bo, 0, none⟩)] w fun e w' => e = .returned (.int .i64 70) ∧ TurnA Bf Bo w w' := by
  obtain ⟨W, hW⟩ : ∃ W, w.alloc (.cells #[.int .u8 2, .int .u8 x1, .int .i64 x2, .int .i64 x3] 42) = W := ⟨_, rfl⟩
  have u1 : Up w W := by rw [← hW]; exact Up.alloc w _
  have hev : W.heap[w.heap.size]? = some (.cells #[.int .u8 2, .int .u8 x1, .int .i64 x2, .int .i64 x3] 42) := by rw [← hW]; exact Go.heap_alloc_new _ _
  have hS := h.up u1
  have c1 := hS.bd.cell
  have c2 := hS.bc.cell
  have hl := hS.map.look (x := 2) (by decide)
  have e0 : W.cell? ⟨w.heap.size, 0, none⟩ = some (.int .u8 2) := cellOf hev rfl
  have HEv := Lib.hid hev
  have HU := Lib.hid u1
  have HS := Lib.hid hS
  have HNf := Lib.hid (show w.heap.size ≠ Bf from fun e => by have := h.bf.lt; omega)
  have HNo := Lib.hid (show w.heap.size ≠ Bo from fun e => by have := h.bo.lt; omega)
  rw [fnOf_two] at hl
  have e2 : W.cell? ⟨w.heap.size, 2, none⟩ = some (.int .i64 x2) := cellOf hev rfl
  have HF := Lib.hid (follow_no W Bf Ba at_ far x2 hS.bf hS.ba ha hf hp)
  clear hev hS u1 h ha hf hp
  have hqN := eqN
  have hqF := eqF
  go_enter Try.func24, Try.ntmps24
  go_wp2_with (go_at_call 23; ((with_reducible refine HF.out.mono ?_); rintro e w1 ⟨rfl, rfl⟩))
  go_ret
  exact ⟨rfl, Turn.of_up _ HU.out⟩
set_option maxRecDepth 100000 in
set_option maxHeartbeats 2000000 in
theorem ask_no3 (w : World) (mb Bd Ba Bf Bo Bc : Nat) (at_ far : Int) (o : Nat) (h : AskS w mb Bd Ba Bf Bo Bc at_ far o) (ha : 0 ≤ at_ ∧ at_ ≤ 1048576) (hf : 0 ≤ far ∧ far ≤ 1048576) (x1 x2 x3 : Int) (hp : x2 < far - at_ ∨ 1048576 - at_ < x2) :
    Calls Try.prog 24 #[.agg #[.int .u8 3, .int .u8 x1, .int .i64 x2, .int .i64 x3], .pointer (some ⟨Bd, 0, none⟩), .pointer (some ⟨Bc, 0, none⟩), .pointer (some ⟨Bo, 0, none⟩)] w fun e w' => e = .returned (.int .i64 70) ∧ TurnA Bf Bo w w' := by
  obtain ⟨W, hW⟩ : ∃ W, w.alloc (.cells #[.int .u8 3, .int .u8 x1, .int .i64 x2, .int .i64 x3] 42) = W := ⟨_, rfl⟩
  have u1 : Up w W := by rw [← hW]; exact Up.alloc w _
  have hev : W.heap[w.heap.size]? = some (.cells #[.int .u8 3, .int .u8 x1, .int .i64 x2, .int .i64 x3] 42) := by rw [← hW]; exact Go.heap_alloc_new _ _
  have hS := h.up u1
  have c1 := hS.bd.cell
  have c2 := hS.bc.cell
  have hl := hS.map.look (x := 3) (by decide)
  have e0 : W.cell? ⟨w.heap.size, 0, none⟩ = some (.int .u8 3) := cellOf hev rfl
  have HEv := Lib.hid hev
  have HU := Lib.hid u1
  have HS := Lib.hid hS
  have HNf := Lib.hid (show w.heap.size ≠ Bf from fun e => by have := h.bf.lt; omega)
  have HNo := Lib.hid (show w.heap.size ≠ Bo from fun e => by have := h.bo.lt; omega)
  rw [fnOf_three] at hl
  have e2 : W.cell? ⟨w.heap.size, 2, none⟩ = some (.int .i64 x2) := cellOf hev rfl
  have HF := Lib.hid (follow_no W Bf Ba at_ far x2 hS.bf hS.ba ha hf hp)
  clear hev hS u1 h ha hf hp
  have hqN := eqN
  have hqF := eqF
  go_enter Try.func24, Try.ntmps24
  go_wp2_with (go_at_call 23; ((with_reducible refine HF.out.mono ?_); rintro e w1 ⟨rfl, rfl⟩))
  go_ret
  exact ⟨rfl, Turn.of_up _ HU.out⟩
set_option maxRecDepth 100000 in
set_option maxHeartbeats 2000000 in
theorem ask_open (w : World) (mb Bd Ba Bf Bo Bc : Nat) (at_ far : Int) (o : Nat) (h : AskS w mb Bd Ba Bf Bo Bc at_ far o) (ha : 0 ≤ at_ ∧ at_ ≤ 1048576) (hf : 0 ≤ far ∧ far ≤ 1048576) (ho : o ≤ 1000000) (x1 x2 x3 : Int) (hp : far - at_ ≤ x2 ∧ x2 ≤ 1048576 - at_) :
    Calls Try.prog 24 #[.agg #[.int .u8 1, .int .u8 x1, .int .i64 x2, .int .i64 x3], .pointer (some ⟨Bd, 0, none⟩), .pointer (some ⟨Bc, 0, none⟩), .pointer (some ⟨Bo, 0, none⟩)] w fun e w' => e = .returned (.int .i64 0) ∧ AskS w' mb Bd Ba Bf Bo Bc at_ (at_ + x2) (o + 1) ∧ TurnA Bf Bo w w' := by
  obtain ⟨W, hW⟩ : ∃ W, w.alloc (.cells #[.int .u8 1, .int .u8 x1, .int .i64 x2, .int .i64 x3] 42) = W := ⟨_, rfl⟩
  have u1 : Up w W := by rw [← hW]; exact Up.alloc w _
  have hev : W.heap[w.heap.size]? = some (.cells #[.int .u8 1, .int .u8 x1, .int .i64 x2, .int .i64 x3] 42) := by rw [← hW]; exact Go.heap_alloc_new _ _
  have hS := h.up u1
  have c1 := hS.bd.cell
  have c2 := hS.bc.cell
  have hl := hS.map.look (x := 1) (by decide)
  have e0 : W.cell? ⟨w.heap.size, 0, none⟩ = some (.int .u8 1) := cellOf hev rfl
  have HEv := Lib.hid hev
  have HU := Lib.hid u1
  have HS := Lib.hid hS
  have HNf := Lib.hid (show w.heap.size ≠ Bf from fun e => by have := h.bf.lt; omega)
  have HNo := Lib.hid (show w.heap.size ≠ Bo from fun e => by have := h.bo.lt; omega)
  rw [fnOf_one] at hl
  have e2 : W.cell? ⟨w.heap.size, 2, none⟩ = some (.int .i64 x2) := cellOf hev rfl
  have HF := Lib.hid (follow_yes W Bf Ba at_ far x2 hS.bf hS.ba ha hf hp)
  have q1 : IntKind.i64.wrap ((o : Int) + 1) = (o : Int) + 1 := IntWalk.i64_in _ (by omega)
  have q2 : decide ((o : Int) + 1 < 0) = false := decide_eq_false (by omega)
  clear hev hS u1 h ha hf ho hp
  have hqN := eqN
  have hqF := eqF
  go_enter Try.func24, Try.ntmps24
  go_wp2_with (go_at_call 23; ((with_reducible refine HF.out.mono ?_); rintro e w1 ⟨rfl, hb1, hg1⟩; have HG1 := Lib.hid hg1; have HS1 := Lib.hid (HS.out.far hg1 hb1); have hn1 : w1.heap[w.heap.size]? = _ := (hg1.block _ (heap_lt HEv.out) (fun e => HNf.out (by injection e))).trans HEv.out; have HE1 := Lib.hid hn1; have k0 : w1.cell? ⟨w.heap.size, 0, none⟩ = some (.int .u8 1) := cellOf hn1 rfl; have k3 := HS1.out.bo.cell; have z3 := HS1.out.bo.frozen; clear hb1 hg1 hn1))
  go_ret
  exact ⟨rfl, HS1.out.opn (o + 1), ((Turn.of_up _ HU.out).trans (Turn.grown HG1.out (fun r e _ => .inl (by injection e with e; exact e.symm)))).trans (Turn.set w1 (.inr rfl) _ _)⟩
set_option maxRecDepth 100000 in
set_option maxHeartbeats 2000000 in
theorem ask_close (w : World) (mb Bd Ba Bf Bo Bc : Nat) (at_ far : Int) (o : Nat) (h : AskS w mb Bd Ba Bf Bo Bc at_ far o) (ha : 0 ≤ at_ ∧ at_ ≤ 1048576) (hf : 0 ≤ far ∧ far ≤ 1048576) (ho : o ≤ 1000000) (x1 x2 x3 : Int) (hp : far - at_ ≤ x2 ∧ x2 ≤ 1048576 - at_) (m : Nat) (hm : o = m + 1) :
    Calls Try.prog 24 #[.agg #[.int .u8 2, .int .u8 x1, .int .i64 x2, .int .i64 x3], .pointer (some ⟨Bd, 0, none⟩), .pointer (some ⟨Bc, 0, none⟩), .pointer (some ⟨Bo, 0, none⟩)] w fun e w' => e = .returned (.int .i64 0) ∧ AskS w' mb Bd Ba Bf Bo Bc at_ (at_ + x2) m ∧ TurnA Bf Bo w w' := by
  subst hm
  obtain ⟨W, hW⟩ : ∃ W, w.alloc (.cells #[.int .u8 2, .int .u8 x1, .int .i64 x2, .int .i64 x3] 42) = W := ⟨_, rfl⟩
  have u1 : Up w W := by rw [← hW]; exact Up.alloc w _
  have hev : W.heap[w.heap.size]? = some (.cells #[.int .u8 2, .int .u8 x1, .int .i64 x2, .int .i64 x3] 42) := by rw [← hW]; exact Go.heap_alloc_new _ _
  have hS := h.up u1
  have c1 := hS.bd.cell
  have c2 := hS.bc.cell
  have hl := hS.map.look (x := 2) (by decide)
  have e0 : W.cell? ⟨w.heap.size, 0, none⟩ = some (.int .u8 2) := cellOf hev rfl
  have HEv := Lib.hid hev
  have HU := Lib.hid u1
  have HS := Lib.hid hS
  have HNf := Lib.hid (show w.heap.size ≠ Bf from fun e => by have := h.bf.lt; omega)
  have HNo := Lib.hid (show w.heap.size ≠ Bo from fun e => by have := h.bo.lt; omega)
  rw [fnOf_two] at hl
  have e2 : W.cell? ⟨w.heap.size, 2, none⟩ = some (.int .i64 x2) := cellOf hev rfl
  have HF := Lib.hid (follow_yes W Bf Ba at_ far x2 hS.bf hS.ba ha hf hp)
  have q2 : decide ((m : Int) < 0) = false := decide_eq_false (by omega)
  have q1 : wrap64 (m : Int) = (m : Int) := IntWalk.wrap64_in _ (by omega)
  clear hev hS u1 h ha hf ho hp
  have hqN := eqN
  have hqF := eqF
  go_enter Try.func24, Try.ntmps24
  go_wp2_with (go_at_call 23; ((with_reducible refine HF.out.mono ?_); rintro e w1 ⟨rfl, hb1, hg1⟩; have HG1 := Lib.hid hg1; have HS1 := Lib.hid (HS.out.far hg1 hb1); have hn1 : w1.heap[w.heap.size]? = _ := (hg1.block _ (heap_lt HEv.out) (fun e => HNf.out (by injection e))).trans HEv.out; have HE1 := Lib.hid hn1; have k0 : w1.cell? ⟨w.heap.size, 0, none⟩ = some (.int .u8 2) := cellOf hn1 rfl; have k3 := HS1.out.bo.cell; have z3 := HS1.out.bo.frozen; clear hb1 hg1 hn1))
  go_ret
  exact ⟨rfl, HS1.out.opn m, ((Turn.of_up _ HU.out).trans (Turn.grown HG1.out (fun r e _ => .inl (by injection e with e; exact e.symm)))).trans (Turn.set w1 (.inr rfl) _ _)⟩
set_option maxRecDepth 100000 in
set_option maxHeartbeats 2000000 in
theorem ask_root (w : World) (mb Bd Ba Bf Bo Bc : Nat) (at_ far : Int) (o : Nat) (h : AskS w mb Bd Ba Bf Bo Bc at_ far o) (ha : 0 ≤ at_ ∧ at_ ≤ 1048576) (hf : 0 ≤ far ∧ far ≤ 1048576) (x1 x2 x3 : Int) (hp : far - at_ ≤ x2 ∧ x2 ≤ 1048576 - at_) (hm : o = 0) :
    Calls Try.prog 24 #[.agg #[.int .u8 2, .int .u8 x1, .int .i64 x2, .int .i64 x3], .pointer (some ⟨Bd, 0, none⟩), .pointer (some ⟨Bc, 0, none⟩), .pointer (some ⟨Bo, 0, none⟩)] w fun e w' => e = .returned (.int .i64 71) ∧ TurnA Bf Bo w w' := by
  subst hm
  obtain ⟨W, hW⟩ : ∃ W, w.alloc (.cells #[.int .u8 2, .int .u8 x1, .int .i64 x2, .int .i64 x3] 42) = W := ⟨_, rfl⟩
  have u1 : Up w W := by rw [← hW]; exact Up.alloc w _
  have hev : W.heap[w.heap.size]? = some (.cells #[.int .u8 2, .int .u8 x1, .int .i64 x2, .int .i64 x3] 42) := by rw [← hW]; exact Go.heap_alloc_new _ _
  have hS := h.up u1
  have c1 := hS.bd.cell
  have c2 := hS.bc.cell
  have hl := hS.map.look (x := 2) (by decide)
  have e0 : W.cell? ⟨w.heap.size, 0, none⟩ = some (.int .u8 2) := cellOf hev rfl
  have HEv := Lib.hid hev
  have HU := Lib.hid u1
  have HS := Lib.hid hS
  have HNf := Lib.hid (show w.heap.size ≠ Bf from fun e => by have := h.bf.lt; omega)
  have HNo := Lib.hid (show w.heap.size ≠ Bo from fun e => by have := h.bo.lt; omega)
  rw [fnOf_two] at hl
  have e2 : W.cell? ⟨w.heap.size, 2, none⟩ = some (.int .i64 x2) := cellOf hev rfl
  have HF := Lib.hid (follow_yes W Bf Ba at_ far x2 hS.bf hS.ba ha hf hp)
  clear hev hS u1 h ha hf hp
  have hqN := eqN
  have hqF := eqF
  go_enter Try.func24, Try.ntmps24
  go_wp2_with (go_at_call 23; ((with_reducible refine HF.out.mono ?_); rintro e w1 ⟨rfl, hb1, hg1⟩; have HG1 := Lib.hid hg1; have HS1 := Lib.hid (HS.out.far hg1 hb1); have hn1 : w1.heap[w.heap.size]? = _ := (hg1.block _ (heap_lt HEv.out) (fun e => HNf.out (by injection e))).trans HEv.out; have HE1 := Lib.hid hn1; have k0 : w1.cell? ⟨w.heap.size, 0, none⟩ = some (.int .u8 2) := cellOf hn1 rfl; have k3 := HS1.out.bo.cell; have z3 := HS1.out.bo.frozen; clear hb1 hg1 hn1))
  go_ret
  exact ⟨rfl, ((Turn.of_up _ HU.out).trans (Turn.grown HG1.out (fun r e _ => .inl (by injection e with e; exact e.symm)))).trans (Turn.set w1 (.inr rfl) _ _)⟩
set_option maxRecDepth 100000 in
set_option maxHeartbeats 2000000 in
theorem ask_leaf (w : World) (mb Bd Ba Bf Bo Bc : Nat) (at_ far : Int) (o : Nat) (h : AskS w mb Bd Ba Bf Bo Bc at_ far o) (ha : 0 ≤ at_ ∧ at_ ≤ 1048576) (hf : 0 ≤ far ∧ far ≤ 1048576) (ho : o ≤ 1000000) (x1 x2 x3 : Int) (hp : far - at_ ≤ x2 ∧ x2 ≤ 1048576 - at_) (hq : x2 ≤ x3 ∧ x3 ≤ 1048576 - at_) :
    Calls Try.prog 24 #[.agg #[.int .u8 3, .int .u8 x1, .int .i64 x2, .int .i64 x3], .pointer (some ⟨Bd, 0, none⟩), .pointer (some ⟨Bc, 0, none⟩), .pointer (some ⟨Bo, 0, none⟩)] w fun e w' => e = .returned (.int .i64 0) ∧ AskS w' mb Bd Ba Bf Bo Bc at_ (at_ + x3) o ∧ TurnA Bf Bo w w' := by
  obtain ⟨W, hW⟩ : ∃ W, w.alloc (.cells #[.int .u8 3, .int .u8 x1, .int .i64 x2, .int .i64 x3] 42) = W := ⟨_, rfl⟩
  have u1 : Up w W := by rw [← hW]; exact Up.alloc w _
  have hev : W.heap[w.heap.size]? = some (.cells #[.int .u8 3, .int .u8 x1, .int .i64 x2, .int .i64 x3] 42) := by rw [← hW]; exact Go.heap_alloc_new _ _
  have hS := h.up u1
  have c1 := hS.bd.cell
  have c2 := hS.bc.cell
  have hl := hS.map.look (x := 3) (by decide)
  have e0 : W.cell? ⟨w.heap.size, 0, none⟩ = some (.int .u8 3) := cellOf hev rfl
  have HEv := Lib.hid hev
  have HU := Lib.hid u1
  have HS := Lib.hid hS
  have HNf := Lib.hid (show w.heap.size ≠ Bf from fun e => by have := h.bf.lt; omega)
  have HNo := Lib.hid (show w.heap.size ≠ Bo from fun e => by have := h.bo.lt; omega)
  rw [fnOf_three] at hl
  have e2 : W.cell? ⟨w.heap.size, 2, none⟩ = some (.int .i64 x2) := cellOf hev rfl
  have HF := Lib.hid (follow_yes W Bf Ba at_ far x2 hS.bf hS.ba ha hf hp)
  have HF2 := Lib.hid (fun w1 (h1 : AskS w1 mb Bd Ba Bf Bo Bc at_ (at_ + x2) o) => follow_yes w1 Bf Ba at_ (at_ + x2) x3 h1.bf h1.ba ha (by omega) (by omega))
  have q2 : decide ((o : Int) < 0) = false := decide_eq_false (by omega)
  clear hev hS u1 h ha hf ho hp hq
  have hqN := eqN
  have hqF := eqF
  go_enter Try.func24, Try.ntmps24
  go_wp2_with (go_at_call 23; first | ((with_reducible refine HF.out.mono ?_); rintro e w1 ⟨rfl, hb1, hg1⟩; have HG1 := Lib.hid hg1; have HS1 := Lib.hid (HS.out.far hg1 hb1); have hn1 : w1.heap[w.heap.size]? = _ := (hg1.block _ (heap_lt HEv.out) (fun e => HNf.out (by injection e))).trans HEv.out; have HE1 := Lib.hid hn1; have k0 : w1.cell? ⟨w.heap.size, 0, none⟩ = some (.int .u8 3) := cellOf hn1 rfl; have k2 : w1.cell? ⟨w.heap.size, 3, none⟩ = some (.int .i64 x3) := cellOf hn1 rfl; have k4 := HS1.out.bc.cell; have k3 := HS1.out.bo.cell; have z3 := HS1.out.bo.frozen; clear hb1 hg1 hn1) | ((with_reducible refine (HF2.out _ HS1.out).mono ?_); rintro e w2 ⟨rfl, hb2, hg2⟩; have HG2 := Lib.hid hg2; have HS2 := Lib.hid (HS1.out.far hg2 hb2); have m0 : w2.cell? ⟨w.heap.size, 0, none⟩ = some (.int .u8 3) := cellOf ((hg2.block _ (heap_lt HE1.out) (fun e => HNf.out (by injection e))).trans HE1.out) rfl; have m3 := HS2.out.bo.cell; clear hb2 hg2))
  go_ret
  exact ⟨rfl, HS2.out, ((Turn.of_up _ HU.out).trans (Turn.grown HG1.out (fun r e _ => .inl (by injection e with e; exact e.symm)))).trans (Turn.grown HG2.out (fun r e _ => .inl (by injection e with e; exact e.symm)))⟩
set_option maxRecDepth 100000 in
set_option maxHeartbeats 2000000 in
theorem ask_low (w : World) (mb Bd Ba Bf Bo Bc : Nat) (at_ far : Int) (o : Nat) (h : AskS w mb Bd Ba Bf Bo Bc at_ far o) (ha : 0 ≤ at_ ∧ at_ ≤ 1048576) (hf : 0 ≤ far ∧ far ≤ 1048576) (x1 x2 x3 : Int) (hp : far - at_ ≤ x2 ∧ x2 ≤ 1048576 - at_) (hq : x3 < x2 ∨ 1048576 - at_ < x3) :
    Calls Try.prog 24 #[.agg #[.int .u8 3, .int .u8 x1, .int .i64 x2, .int .i64 x3], .pointer (some ⟨Bd, 0, none⟩), .pointer (some ⟨Bc, 0, none⟩), .pointer (some ⟨Bo, 0, none⟩)] w fun e w' => e = .returned (.int .i64 70) ∧ TurnA Bf Bo w w' := by
  obtain ⟨W, hW⟩ : ∃ W, w.alloc (.cells #[.int .u8 3, .int .u8 x1, .int .i64 x2, .int .i64 x3] 42) = W := ⟨_, rfl⟩
  have u1 : Up w W := by rw [← hW]; exact Up.alloc w _
  have hev : W.heap[w.heap.size]? = some (.cells #[.int .u8 3, .int .u8 x1, .int .i64 x2, .int .i64 x3] 42) := by rw [← hW]; exact Go.heap_alloc_new _ _
  have hS := h.up u1
  have c1 := hS.bd.cell
  have c2 := hS.bc.cell
  have hl := hS.map.look (x := 3) (by decide)
  have e0 : W.cell? ⟨w.heap.size, 0, none⟩ = some (.int .u8 3) := cellOf hev rfl
  have HEv := Lib.hid hev
  have HU := Lib.hid u1
  have HS := Lib.hid hS
  have HNf := Lib.hid (show w.heap.size ≠ Bf from fun e => by have := h.bf.lt; omega)
  have HNo := Lib.hid (show w.heap.size ≠ Bo from fun e => by have := h.bo.lt; omega)
  rw [fnOf_three] at hl
  have e2 : W.cell? ⟨w.heap.size, 2, none⟩ = some (.int .i64 x2) := cellOf hev rfl
  have HF := Lib.hid (follow_yes W Bf Ba at_ far x2 hS.bf hS.ba ha hf hp)
  have HF2 := Lib.hid (fun w1 (h1 : AskS w1 mb Bd Ba Bf Bo Bc at_ (at_ + x2) o) => follow_no w1 Bf Ba at_ (at_ + x2) x3 h1.bf h1.ba ha (by omega) (by omega))
  clear hev hS u1 h ha hf hp hq
  have hqN := eqN
  have hqF := eqF
  go_enter Try.func24, Try.ntmps24
  go_wp2_with (go_at_call 23; first | ((with_reducible refine HF.out.mono ?_); rintro e w1 ⟨rfl, hb1, hg1⟩; have HG1 := Lib.hid hg1; have HS1 := Lib.hid (HS.out.far hg1 hb1); have hn1 : w1.heap[w.heap.size]? = _ := (hg1.block _ (heap_lt HEv.out) (fun e => HNf.out (by injection e))).trans HEv.out; have HE1 := Lib.hid hn1; have k0 : w1.cell? ⟨w.heap.size, 0, none⟩ = some (.int .u8 3) := cellOf hn1 rfl; have k2 : w1.cell? ⟨w.heap.size, 3, none⟩ = some (.int .i64 x3) := cellOf hn1 rfl; have k4 := HS1.out.bc.cell; have k3 := HS1.out.bo.cell; have z3 := HS1.out.bo.frozen; clear hb1 hg1 hn1) | ((with_reducible refine (HF2.out _ HS1.out).mono ?_); rintro e w2 ⟨rfl, rfl⟩))
  go_ret
  exact ⟨rfl, (Turn.of_up _ HU.out).trans (Turn.grown HG1.out (fun r e _ => .inl (by injection e with e; exact e.symm)))⟩
/-- What the closure tells of an event, and what it keeps. -/
theorem ask_any (w : World) (mb Bd Ba Bf Bo Bc : Nat) (at_ far : Int) (o : Nat) (h : AskS w mb Bd Ba Bf Bo Bc at_ far o) (ha : 0 ≤ at_ ∧ at_ ≤ 1048576) (hf : 0 ≤ far ∧ far ≤ 1048576) (ho : o ≤ 1000000) (x0 x1 x2 x3 : Int) (hx : (Lit.int .u8 x0).wf = true) :
    Calls Try.prog 24 #[.agg #[.int .u8 x0, .int .u8 x1, .int .i64 x2, .int .i64 x3], .pointer (some ⟨Bd, 0, none⟩), .pointer (some ⟨Bc, 0, none⟩), .pointer (some ⟨Bo, 0, none⟩)] w fun e w' =>
      e = .returned (.int .i64 (askE far o at_ (x0, x1, x2, x3))) ∧ (askE far o at_ (x0, x1, x2, x3) = 0 → AskS w' mb Bd Ba Bf Bo Bc at_ (farE at_ (x0, x1, x2, x3)) (opnE o (x0, x1, x2, x3))) ∧ TurnA Bf Bo w w' := by
  unfold askE farE opnE
  dsimp only
  by_cases k0 : x0 = 1 ∨ x0 = 2 ∨ x0 = 3
  case neg =>
    rw [if_pos k0]
    exact (ask_arg w mb Bd Ba Bf Bo Bc at_ far o h x0 x1 x2 x3 hx k0).mono fun e w' ⟨h1, h2⟩ => ⟨h1, fun e => absurd e (by decide), h2⟩
  rw [if_neg (fun h => h k0)]
  by_cases k1 : x2 < far - at_ ∨ 1048576 - at_ < x2
  · rw [if_pos k1]
    rcases k0 with rfl | rfl | rfl
    · exact (ask_no1 w mb Bd Ba Bf Bo Bc at_ far o h ha hf x1 x2 x3 k1).mono fun e w' ⟨h1, h2⟩ => ⟨h1, fun e => absurd e (by decide), h2⟩
    · exact (ask_no2 w mb Bd Ba Bf Bo Bc at_ far o h ha hf x1 x2 x3 k1).mono fun e w' ⟨h1, h2⟩ => ⟨h1, fun e => absurd e (by decide), h2⟩
    · exact (ask_no3 w mb Bd Ba Bf Bo Bc at_ far o h ha hf x1 x2 x3 k1).mono fun e w' ⟨h1, h2⟩ => ⟨h1, fun e => absurd e (by decide), h2⟩
  rw [if_neg k1]
  have k1' : far - at_ ≤ x2 ∧ x2 ≤ 1048576 - at_ := by omega
  rcases k0 with rfl | rfl | rfl
  · rw [if_neg (by omega), if_neg (by omega), if_neg (by omega), if_pos rfl]
    exact (ask_open w mb Bd Ba Bf Bo Bc at_ far o h ha hf ho x1 x2 x3 k1').mono fun e w' ⟨h1, h2, h3⟩ => ⟨h1, fun _ => h2, h3⟩
  · rw [if_neg (by omega), if_neg (by omega : ¬ (2 : Int) = 3), if_neg (by omega : ¬ (2 : Int) = 1), if_pos rfl]
    by_cases k2 : o = 0
    · rw [if_pos ⟨rfl, k2⟩]
      exact (ask_root w mb Bd Ba Bf Bo Bc at_ far o h ha hf x1 x2 x3 k1' k2).mono fun e w' ⟨h1, h2⟩ => ⟨h1, fun e => absurd e (by decide), h2⟩
    · rw [if_neg (by omega)]
      exact (ask_close w mb Bd Ba Bf Bo Bc at_ far o h ha hf ho x1 x2 x3 k1' (o - 1) (by omega)).mono fun e w' ⟨h1, h2, h3⟩ => ⟨h1, fun _ => h2, h3⟩
  · by_cases k2 : x3 < x2 ∨ 1048576 - at_ < x3
    · rw [if_pos ⟨rfl, k2⟩]
      exact (ask_low w mb Bd Ba Bf Bo Bc at_ far o h ha hf x1 x2 x3 k1' k2).mono fun e w' ⟨h1, h2⟩ => ⟨h1, fun e => absurd e (by decide), h2⟩
    · rw [if_neg (by omega), if_neg (by omega), if_pos rfl, if_neg (by omega : ¬ (3 : Int) = 1), if_neg (by omega : ¬ (3 : Int) = 2)]
      exact (ask_leaf w mb Bd Ba Bf Bo Bc at_ far o h ha hf ho x1 x2 x3 k1' (by omega)).mono fun e w' ⟨h1, h2, h3⟩ => ⟨h1, fun _ => h2, h3⟩
end Go.Proofs.Ytkkefgbmdghklaa
