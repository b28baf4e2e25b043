/- Whether a list of events may be put: the program's asking. -/
import Derived.Test.YtkkefgbmdghklaaBAsk2
import Derived.Laws.EntriesVeiled
namespace Go.Proofs.Ytkkefgbmdghklaa
open Go.RowKit

theorem keepB {w1 w2 : World} {b : Nat} {u v : Value} (hu : Up w1 w2) (h : w1.cell? ⟨b, 3, none⟩ = some u ∧ w1.cell? ⟨b, 2, none⟩ = some v) : w2.cell? ⟨b, 3, none⟩ = some u ∧ w2.cell? ⟨b, 2, none⟩ = some v := ⟨cell_up hu h.1, cell_up hu h.2⟩
theorem BIs.vO {w : World} {bb : Nat} {vN vO : Value} {Q : List Nat} {k : Int} {b : Bs} (h : BIs w bb vN vO Q k b) : ∃ A c, vO = .slice A b.O.length c := by
  rcases owns_cell h.rO with ⟨rfl, h0⟩ | ⟨g, c, rfl, -⟩
  · rw [h0]; exact ⟨none, 0, rfl⟩
  · exact ⟨_, c, rfl⟩
theorem BAt.cells {w : World} {bb : Nat} {G : Nat → Prop} {k : Int} {b : Bs} (h : BAt w bb G k b) : ∃ A c, w.cell? ⟨bb, 3, none⟩ = some (.int .i64 b.far) ∧ w.cell? ⟨bb, 2, none⟩ = some (.slice A b.O.length c) := by
  obtain ⟨vN, vO, Q, h, -⟩ := h
  obtain ⟨A, c, rfl⟩ := h.vO
  exact ⟨A, c, h.c3, h.c2⟩
theorem box_at (w : World) {n : Nat} (hn : w.heap.size = n) (t : TypeId) (v : Value) : Boxed (w.alloc (.cells #[v] t)) n t v := hn ▸ Boxed.new w t v
theorem boxes5 (w : World) (t0 t1 t2 t3 t4 : TypeId) (v0 v1 v2 v3 v4 : Value) : ∀ W, W = ((((w.alloc (.cells #[v0] t0)).alloc (.cells #[v1] t1)).alloc (.cells #[v2] t2)).alloc (.cells #[v3] t3)).alloc (.cells #[v4] t4) →
    Boxed W w.heap.size t0 v0 ∧ Boxed W (w.heap.size + 1) t1 v1 ∧ Boxed W (w.heap.size + 1 + 1) t2 v2 ∧ Boxed W (w.heap.size + 1 + 1 + 1) t3 v3 ∧ Boxed W (w.heap.size + 1 + 1 + 1 + 1) t4 v4 ∧ Up w W := by
  rintro W rfl
  refine ⟨?_, ?_, ?_, ?_, ?_, ((((Up.alloc w _).trans (Up.alloc _ _)).trans (Up.alloc _ _)).trans (Up.alloc _ _)).trans (Up.alloc _ _)⟩
  · exact ((((box_at w rfl _ _).alloc _).alloc _).alloc _).alloc _
  · exact (((box_at _ (by simp) _ _).alloc _).alloc _).alloc _
  · exact ((box_at _ (by simp) _ _).alloc _).alloc _
  · exact (box_at _ (by simp) _ _).alloc _
  · exact box_at _ (by simp) _ _
set_option maxRecDepth 100000 in
set_option maxHeartbeats 2000000 in
theorem asking_any (w : World) (bb : Nat) (G : Nat → Prop) (k : Int) (b : Bs) (hb : BAt w bb G k b) (mb : Nat) (hm : MapT w mb) (at_ : Int) :
    Calls Try.prog 18 #[.pointer (some ⟨bb, 0, none⟩), .map (some mb), .int .i64 at_] w fun e w' => ∃ Bd Ba Bf Bo Bc, e = .returned (.func (.func 24) #[] #[.pointer (some ⟨Bd, 0, none⟩), .pointer (some ⟨Bc, 0, none⟩), .pointer (some ⟨Bo, 0, none⟩)]) ∧
      AskS w' mb Bd Ba Bf Bo Bc at_ b.far b.O.length ∧ Up w w' ∧ w.heap.size ≤ Bf ∧ w.heap.size ≤ Bo := by
  obtain ⟨A, c, c3, c2⟩ := hb.cells
  have hbb := hb.lt
  obtain ⟨m, hml⟩ : ∃ m, b.O.length = m := ⟨_, rfl⟩
  obtain ⟨far, hfar⟩ : ∃ far, b.far = far := ⟨_, rfl⟩
  rw [hml] at c2 ⊢
  rw [hfar] at c3 ⊢
  have HM := Lib.hid hm
  have hua := (Up.alloc w (.cells #[.map (some mb)] 52)).trans (Up.alloc _ (.cells #[.int .i64 at_] 3))
  have hS : ((w.alloc (.cells #[.map (some mb)] 52)).alloc (.cells #[.int .i64 at_] 3)).cell? ⟨bb, 3, none⟩ = some (.int .i64 far) ∧ ((w.alloc (.cells #[.map (some mb)] 52)).alloc (.cells #[.int .i64 at_] 3)).cell? ⟨bb, 2, none⟩ = some (.slice A m c) := ⟨cell_up hua c3, cell_up hua c2⟩
  clear hb hm c2 c3 hua hml hfar
  go_enter Try.func18, Try.ntmps18
  go_wp2_with fail
  go_region_held3 (fun w' => w'.cell? ⟨bb, 3, none⟩ = some (.int .i64 far) ∧ w'.cell? ⟨bb, 2, none⟩ = some (.slice A m c))
    (first | assumption | with_reducible exact keepB (Up.drew _) (by assumption) | with_reducible exact keepB (Up.alloc _ _) (by assumption) | exact keepB (((Up.alloc _ _).trans (Up.alloc _ _)).trans (Up.drew _)) hS | go_keep)
    (fail)
  · clear hS
    go_wp2
    go_ret
    obtain ⟨b0, b1, b2, b3, b4, hu⟩ := boxes5 w 52 3 3 3 59 (.map (some mb)) (.int .i64 at_) (.int .i64 far) (.int .i64 m) (.func (.func 23) #[] #[.pointer (some ⟨w.heap.size + 1 + 1, 0, none⟩), .pointer (some ⟨w.heap.size + 1, 0, none⟩)]) _ rfl
    replace hu := hu.trans (Up.drew _)
    exact ⟨_, _, _, _, _, rfl, ⟨b0, b1, b2, b3, b4, HM.out.up hu, by omega, by omega, by omega⟩, hu, by omega, by omega⟩
  · clear hS
    go_wp2
    go_ret
    obtain ⟨b0, b1, b2, b3, b4, hu⟩ := boxes5 w 52 3 3 3 59 (.map (some mb)) (.int .i64 at_) (.int .i64 m) (.int .i64 far) (.func (.func 23) #[] #[.pointer (some ⟨w.heap.size + 1 + 1 + 1, 0, none⟩), .pointer (some ⟨w.heap.size + 1, 0, none⟩)]) _ rfl
    replace hu := hu.trans (Up.drew _)
    exact ⟨_, _, _, _, _, rfl, ⟨b0, b1, b3, b2, b4, HM.out.up hu, by omega, by omega, by omega⟩, hu, by omega, by omega⟩
end Go.Proofs.Ytkkefgbmdghklaa
