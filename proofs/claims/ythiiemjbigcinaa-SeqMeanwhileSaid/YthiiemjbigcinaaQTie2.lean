/- Two trees tied, with an item between: the program's tie. -/
import Derived.Test.YthiiemjbigcinaaQTie
namespace Go.Proofs.Ythiiemjbigcinaa
open Go.RowKit

abbrev thV (x : ByteArray × Int) : Value := .agg #[.string x.1, .int .i64 x.2]
theorem heap_new2 (w : World) (A B : Obj) : ((w.alloc A).alloc B).heap[w.heap.size + 1]? = some B := by
  have := Go.heap_alloc_new (w.alloc A) B
  rwa [World.size_alloc] at this
set_option maxRecDepth 100000 in
set_option maxHeartbeats 1000000 in
theorem tie_walk (w : World) (pl pr : Option Addr) (xs : ByteArray) (xz : Int) (c1 c2 d1 d2 : Nat) (s1 s2 : Int) (h1 : Nms (c1 + 1 + c2) (s1 + xz + s2)) (h2 : 0 ≤ s1 ∧ 0 ≤ xz ∧ 0 ≤ s2) (h3 : d1 ≤ c1 ∧ d2 ≤ c2) (d : Nat) (hd : (d1 < d2 ∧ d2 = d) ∨ (¬ d1 < d2 ∧ d1 = d))
    (P1 : ∀ W, Up w W → Calls Try.prog 30 #[.pointer pl] W fun e w' => e = .returned (.agg #[.int .i64 (c1 : Nat), .int .i64 s1, .int .i64 (d1 : Nat)]) ∧ Up W w')
    (P2 : ∀ W, Up w W → Calls Try.prog 30 #[.pointer pr] W fun e w' => e = .returned (.agg #[.int .i64 (c2 : Nat), .int .i64 s2, .int .i64 (d2 : Nat)]) ∧ Up W w') :
    Calls Try.prog 33 #[.pointer pl, .agg #[.string xs, .int .i64 xz], .pointer pr] w fun e w' => ∃ w1, e = .returned (ptr w1.heap.size) ∧ Up w w1 ∧
      w' = w1.alloc (.cells #[.string xs, .int .i64 xz, .int .i64 ((c1 : Int) + 1 + c2), .int .i64 (s1 + xz + s2), .int .i64 (1 + (d : Int)), .pointer pl, .pointer pr] 68) := by
  obtain ⟨k1, k2, k3⟩ := h1
  have e1 : IntKind.i64.wrap ((c1 : Int) + 1) = (c1 : Int) + 1 := IntWalk.i64_in _ (by omega)
  have e2 : IntKind.i64.wrap ((c1 : Int) + 1 + c2) = (c1 : Int) + 1 + c2 := IntWalk.i64_in _ (by omega)
  have e3 : IntKind.i64.wrap (s1 + xz) = s1 + xz := IntWalk.i64_in _ (by omega)
  have e4 : IntKind.i64.wrap (s1 + xz + s2) = s1 + xz + s2 := IntWalk.i64_in _ (by omega)
  have e5 : IntKind.i64.wrap (1 + (d1 : Int)) = 1 + (d1 : Int) := IntWalk.i64_in _ (by omega)
  have e6 : IntKind.i64.wrap (1 + (d2 : Int)) = 1 + (d2 : Int) := IntWalk.i64_in _ (by omega)
  have hb1 : -9223372036854775808 ≤ 1 + (d1 : Int) ∧ 1 + (d1 : Int) ≤ 9223372036854775807 := by omega
  have hb2 : -9223372036854775808 ≤ 1 + (d2 : Int) ∧ 1 + (d2 : Int) ≤ 9223372036854775807 := by omega
  have HP1 := Lib.hid P1
  have HP2 := Lib.hid P2
  have hU := Up.alloc w (.cells #[.string xs, .int .i64 xz] 47)
  have b0 : (w.alloc (.cells #[.string xs, .int .i64 xz] 47)).cell? ⟨w.heap.size, 0, none⟩ = some (.string xs) := cellOf (Go.heap_alloc_new _ _) rfl
  have b1 : (w.alloc (.cells #[.string xs, .int .i64 xz] 47)).cell? ⟨w.heap.size, 1, none⟩ = some (.int .i64 xz) := cellOf (Go.heap_alloc_new _ _) rfl
  clear P1 P2 k1 k2 k3 h2 h3
  rcases hd with ⟨hd, rfl⟩ | ⟨hd, rfl⟩
  all_goals
    go_enter Try.func33, Try.ntmps33
    go_wp2_with (first
      | (go_at_call 30; ((with_reducible refine (HP1.out _ hU).mono ?_); rintro e w1 ⟨rfl, hu1⟩; have b0 := cell_up hu1 b0; have b1 := cell_up hu1 b1; have hU := hU.trans hu1; clear hu1))
      | (go_at_call 30; ((with_reducible refine (HP2.out _ hU).mono ?_); rintro e w2 ⟨rfl, hu2⟩; have b0 := cell_up hu2 b0; have b1 := cell_up hu2 b1; have hU := hU.trans hu2; clear hu2; have hA := Up.alloc w2 (.cells #[.int .i64 ((c1 : Nat) : Int), .int .i64 s1, .int .i64 ((d1 : Nat) : Int)] 65); have hB := Up.alloc (w2.alloc (.cells #[.int .i64 ((c1 : Nat) : Int), .int .i64 s1, .int .i64 ((d1 : Nat) : Int)] 65)) (.cells #[.int .i64 ((c2 : Nat) : Int), .int .i64 s2, .int .i64 ((d2 : Nat) : Int)] 65); have hAB := hA.trans hB; have b0 := cell_up hAB b0; have b1 := cell_up hAB b1; have hU := hU.trans hAB; have a0 := cell_up hB (show (w2.alloc (.cells #[.int .i64 ((c1 : Nat) : Int), .int .i64 s1, .int .i64 ((d1 : Nat) : Int)] 65)).cell? ⟨w2.heap.size, 0, none⟩ = some (.int .i64 ((c1 : Nat) : Int)) from cellOf (Go.heap_alloc_new _ _) rfl); have a1 := cell_up hB (show (w2.alloc (.cells #[.int .i64 ((c1 : Nat) : Int), .int .i64 s1, .int .i64 ((d1 : Nat) : Int)] 65)).cell? ⟨w2.heap.size, 1, none⟩ = some (.int .i64 s1) from cellOf (Go.heap_alloc_new _ _) rfl); have a2 := cell_up hB (show (w2.alloc (.cells #[.int .i64 ((c1 : Nat) : Int), .int .i64 s1, .int .i64 ((d1 : Nat) : Int)] 65)).cell? ⟨w2.heap.size, 2, none⟩ = some (.int .i64 ((d1 : Nat) : Int)) from cellOf (Go.heap_alloc_new _ _) rfl); have z0 := (show ((w2.alloc (.cells #[.int .i64 ((c1 : Nat) : Int), .int .i64 s1, .int .i64 ((d1 : Nat) : Int)] 65)).alloc (.cells #[.int .i64 ((c2 : Nat) : Int), .int .i64 s2, .int .i64 ((d2 : Nat) : Int)] 65)).cell? ⟨w2.heap.size + 1, 0, none⟩ = some (.int .i64 ((c2 : Nat) : Int)) from cellOf (heap_new2 _ _ _) rfl); have z1 := (show ((w2.alloc (.cells #[.int .i64 ((c1 : Nat) : Int), .int .i64 s1, .int .i64 ((d1 : Nat) : Int)] 65)).alloc (.cells #[.int .i64 ((c2 : Nat) : Int), .int .i64 s2, .int .i64 ((d2 : Nat) : Int)] 65)).cell? ⟨w2.heap.size + 1, 1, none⟩ = some (.int .i64 s2) from cellOf (heap_new2 _ _ _) rfl); have z2 := (show ((w2.alloc (.cells #[.int .i64 ((c1 : Nat) : Int), .int .i64 s1, .int .i64 ((d1 : Nat) : Int)] 65)).alloc (.cells #[.int .i64 ((c2 : Nat) : Int), .int .i64 s2, .int .i64 ((d2 : Nat) : Int)] 65)).cell? ⟨w2.heap.size + 1, 2, none⟩ = some (.int .i64 ((d2 : Nat) : Int)) from cellOf (heap_new2 _ _ _) rfl); clear hA hB hAB)))
    go_ret
    refine ⟨_, ?_, hU, ?_⟩
    · simp only [World.size_alloc]; rfl
    · first | rfl | rw [show wrap64 (1 + (d2 : Int)) = 1 + (d2 : Int) from IntWalk.wrap64_in _ hb2] | rw [show wrap64 (1 + (d1 : Int)) = 1 + (d1 : Int) from IntWalk.wrap64_in _ hb1]
theorem Tr.isPtr {G : Nat → Prop} {w : World} {t : QT} {v : Value} (h : Tr G w t v) : ∃ p, v = .pointer p := by
  cases t with
  | nil => exact ⟨none, h⟩
  | node l x r =>
    obtain ⟨b, vl, vr, e, -⟩ := h
    exact ⟨_, e⟩
theorem ROk.szx {A B : Row} {x : ByteArray × Int} (h : ROk (A ++ x :: B)) : 0 ≤ x.2 := (h.one x (by simp)).1
theorem ROk.tail {A B : Row} {x : ByteArray × Int} (h : ROk (A ++ x :: B)) : ROk B := h.right.cons
/-- Two trees, with an item between, tied. -/
theorem tie_any {G : Nat → Prop} {w : World} {l r : QT} {x : ByteArray × Int} {vl vr : Value} (hl : Tr G w l vl) (hr : Tr G w r vr) (hG : ∀ i, w.heap.size ≤ i → G i) (hok : ROk (l.row ++ x :: r.row)) :
    Calls Try.prog 33 #[vl, thV x, vr] w (NewQ G (.node l x r) w) := by
  obtain ⟨pl, rfl⟩ := hl.isPtr
  obtain ⟨pr, rfl⟩ := hr.isPtr
  have hn : Nms (l.cn + 1 + r.cn) (l.sm + x.2 + r.sm) := by
    have := ROk.nmt (t := .node l x r) hok
    rwa [cn_node, sm_node] at this
  have h1 := (ROk.nmt (t := l) hok.left).s0
  have h2 := (ROk.nmt (t := r) hok.tail).s0
  have hd : (l.dp < r.dp ∧ r.dp = max l.dp r.dp) ∨ (¬ l.dp < r.dp ∧ l.dp = max l.dp r.dp) := by omega
  refine (tie_walk w pl pr x.1 x.2 l.cn r.cn l.dp r.dp l.sm r.sm hn ⟨h1, hok.szx, h2⟩ ⟨dp_cn l, dp_cn r⟩ (max l.dp r.dp) hd (fun W hu => counted_any (hl.up hu)) (fun W hu => counted_any (hr.up hu))).mono ?_
  rintro e w' ⟨w1, rfl, hu, rfl⟩
  have hu2 := hu.trans (Up.alloc w1 (.cells (qcells l x r (.pointer pl) (.pointer pr)) 68))
  have hc : qcells l x r (.pointer pl) (.pointer pr) = #[.string x.1, .int .i64 x.2, .int .i64 ((l.cn : Int) + 1 + r.cn), .int .i64 (l.sm + x.2 + r.sm), .int .i64 (1 + ((max l.dp r.dp : Nat) : Int)), .pointer pl, .pointer pr] := by
    unfold qcells
    rw [cn_node, sm_node, dp_node]
    simp
  rw [← hc]
  exact ⟨_, rfl, ⟨w1.heap.size, _, _, rfl, hG _ (Below.size hu), Go.heap_alloc_new _ _, hl.up hu2, hr.up hu2⟩, hu2⟩
end Go.Proofs.Ythiiemjbigcinaa
