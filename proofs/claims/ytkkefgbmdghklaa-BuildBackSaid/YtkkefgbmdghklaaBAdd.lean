/- A builder's inner functions: add, leaf, begin. -/
import Derived.Test.YtkkefgbmdghklaaBEnd
import Derived.Deep.AppendLies
namespace Go.Proofs.Ytkkefgbmdghklaa
open Go.RowKit

theorem infoPN : (Try.prog.info? 51).map (fun i => (i.zero, i.size, i.bytes)) = some (some (.pointer none), 1, 8) := by kernel_rfl
theorem nd_app {L : List Nd} {x : Nd} {i : Nat} (h : i < L.length) : nd (L ++ [x]) i = nd L i := by
  unfold nd
  rw [List.getD_eq_getElem?_getD, List.getD_eq_getElem?_getD, List.getElem?_append_left h]
theorem nd_app_last {L : List Nd} {x : Nd} : nd (L ++ [x]) L.length = x := by
  unfold nd
  rw [List.getD_eq_getElem?_getD, List.getElem?_append_right (Nat.le_refl _), Nat.sub_self]
  rfl
theorem BIs.pushed {w W W4 : World} {bb q : Nat} {vN vN' vO : Value} {Q : List Nat} {k p : Int} {b : Bs} {x : Nd} (h : BIs w bb vN vO Q k b) (hlt : ∀ x ∈ b.O, x < b.N.length) (hu : Up w W) (hq : W.heap[q]? = some (.cells (ncs x) 46)) (hqn : w.heap.size ≤ q)
    (hg : W.grownBy W4 vN.ownBlock) (hown : W4.ownsRow 0 51 1 vN' (b.N.length + 1) (ptrs Q ++ [.pointer (some ⟨q, 0, none⟩)])) (hat : ∀ g, vN'.ownBlock = some g → vN.ownBlock = some g ∨ w.heap.size ≤ g) :
    BIs ((W4.setCell ⟨bb, 1, none⟩ vN').setCell ⟨bb, 3, none⟩ (.int .i64 p)) bb vN' vO (Q ++ [q]) k ⟨b.N ++ [x], b.O, p⟩ := by
  obtain ⟨n1, n2, n3, n4⟩ := h.ne_bb
  have hl := h.len
  have hs := Below.size hu
  have hbb := heap_lt h.blk
  have hT : Turn (fun i => vN.ownBlock = some i) w W4 := (Turn.of_up _ hu).trans (Turn.grown hg (fun r e _ => e))
  have hvO : ∀ g, vO.ownBlock = some g → vN'.ownBlock ≠ some g := fun g e e2 => by
    rcases hat g e2 with e3 | e3
    · exact h.apart g e3 e
    · have := (own_lt h.rO e).1; omega
  have hnb : vN'.ownBlock ≠ some bb := fun e => by
    rcases hat bb e with e3 | e3
    · exact n1 bb e3 rfl
    · omega
  have hblk : W4.heap[bb]? = some (.cells (bcs k vN vO b.far) 50) := (hT.block bb hbb (fun e => n1 bb e rfl)).trans h.blk
  have hqb : q ≠ bb := by omega
  have hq4 : W4.heap[q]? = some (.cells (ncs x) 46) := (hg.block q (heap_lt hq) (fun e => by have := (own_lt h.rN e.symm).1; omega)).trans hq
  refine ⟨heap_set (heap_set hblk _) _, ?_, ?_, fun g e e2 => hvO g e2 e, by rw [List.length_append, List.length_append, hl]; rfl, ?_, fun i hi => ?_⟩
  · have h1 : (b.N ++ [x]).length = b.N.length + 1 := by rw [List.length_append]; rfl
    dsimp only
    rw [h1, ptrs_app]
    exact ownsRow_set (ownsRow_set hown hnb _ _) hnb _ _
  · dsimp only
    rw [opq_more q (fun y hy => by rw [hl]; exact hlt y hy)]
    exact ownsRow_set (ownsRow_set (ownsRow_turn h.rO hT (fun g e e2 => h.apart g e2 e)) (fun e => n2 _ e rfl) _ _) (fun e => n2 _ e rfl) _ _
  · rw [List.nodup_append]
    refine ⟨h.nodup, List.nodup_cons.2 ⟨by simp, List.nodup_nil⟩, fun a ha c hc e => ?_⟩
    rw [List.mem_singleton] at hc
    subst e hc
    obtain ⟨j, hj, rfl⟩ := List.getElem_of_mem ha
    have := heap_lt (h.nodes j hj)
    omega
  · dsimp only
    by_cases hi2 : i < Q.length
    · rw [List.getElem_append_left hi2, nd_app (by omega)]
      refine (heap_set_ne (n3 i hi2) _).trans ((heap_set_ne (n3 i hi2) _).trans ?_)
      exact (hT.block _ (heap_lt (h.nodes i hi2)) (fun e => n4 _ i hi2 (.inl e) rfl)).trans (h.nodes i hi2)
    · have hiq : i = Q.length := by rw [List.length_append, List.length_singleton] at hi; omega
      subst hiq
      have e9 : (Q ++ [q])[Q.length] = q := by
        rw [List.getElem_append_right (Nat.le_refl _)]
        simp
      rw [e9, hl, nd_app_last]
      exact (heap_set_ne hqb _).trans ((heap_set_ne hqb _).trans hq4)
theorem keep3 {w1 w2 : World} {a b c : Addr} {u v x : Value} (hu : Up w1 w2) (h : w1.cell? a = some u ∧ w1.cell? b = some v ∧ w1.cell? c = some x) : w2.cell? a = some u ∧ w2.cell? b = some v ∧ w2.cell? c = some x :=
  ⟨(Below.cell hu (World.block_lt_of_cell? w1 a h.1)).trans h.1, (Below.cell hu (World.block_lt_of_cell? w1 b h.2.1)).trans h.2.1, (Below.cell hu (World.block_lt_of_cell? w1 c h.2.2)).trans h.2.2⟩
theorem BIs.blk4 {w W W4 : World} {bb : Nat} {vN vO : Value} {Q : List Nat} {k : Int} {b : Bs} (h : BIs w bb vN vO Q k b) (hu : Up w W) (hg : W.grownBy W4 vN.ownBlock) : W4.heap[bb]? = some (.cells (bcs k vN vO b.far) 50) := by
  obtain ⟨n1, n2, n3, n4⟩ := h.ne_bb
  have hT : Turn (fun i => vN.ownBlock = some i) w W4 := (Turn.of_up _ hu).trans (Turn.grown hg (fun r e _ => e))
  exact (hT.block bb (heap_lt h.blk) (fun e => n1 bb e rfl)).trans h.blk
theorem BIs.new4 {w W W4 : World} {bb n : Nat} {vN vO : Value} {Q : List Nat} {k : Int} {b : Bs} {o : Obj} (h : BIs w bb vN vO Q k b) (hg : W.grownBy W4 vN.ownBlock) (hn : w.heap.size ≤ n) (ho : W.heap[n]? = some o) : W4.heap[n]? = some o :=
  (hg.block n (heap_lt ho) (fun e => by have := (own_lt h.rN e.symm).1; omega)).trans ho
set_option maxRecDepth 100000 in
set_option maxHeartbeats 2000000 in
theorem add_any (w : World) (bb : Nat) (vN vO : Value) (Q : List Nat) (k : Int) (b : Bs) (h : BIs w bb vN vO Q k b) (hlt : ∀ x ∈ b.O, x < b.N.length) (hn : b.N.length ≤ 1000000) (hle : b.O.length ≤ b.N.length) (x0 x1 x2 x3 : Int) :
    Calls Try.prog 25 #[.pointer (some ⟨bb, 0, none⟩), .agg #[.int .u8 x0, .int .u8 x1, .int .i64 x2, .int .i64 x3]] w fun e w' => ∃ vN' q, e = .returned (.pointer (some ⟨q, 0, none⟩)) ∧ BIs w' bb vN' vO (Q ++ [q]) k ⟨b.N ++ [(x1, x2, 0, (b.O.length : Int) + 1)], b.O, x2⟩ ∧ Turn (fun i => i = bb ∨ vN.ownBlock = some i) w w' ∧ w.heap.size ≤ q ∧ ∀ g, vN'.ownBlock = some g → vN.ownBlock = some g ∨ w.heap.size ≤ g := by
  obtain ⟨vo, co, ho⟩ : ∃ A c, vO = .slice A b.O.length c := by
    rcases owns_cell h.rO with ⟨rfl, h0⟩ | ⟨g, c, rfl, -⟩
    · rw [h0]; exact ⟨none, 0, rfl⟩
    · exact ⟨_, c, rfl⟩
  have H := Lib.hid h
  have HLT := Lib.hid hlt
  have u1 := Up.alloc w (.cells #[.int .u8 x0, .int .u8 x1, .int .i64 x2, .int .i64 x3] 42)
  have e1 : (w.alloc (.cells #[.int .u8 x0, .int .u8 x1, .int .i64 x2, .int .i64 x3] 42)).cell? ⟨w.heap.size, 1, none⟩ = some (.int .u8 x1) := cellOf (Go.heap_alloc_new _ _) rfl
  have e2 : (w.alloc (.cells #[.int .u8 x0, .int .u8 x1, .int .i64 x2, .int .i64 x3] 42)).cell? ⟨w.heap.size, 2, none⟩ = some (.int .i64 x2) := cellOf (Go.heap_alloc_new _ _) rfl
  have c2 := cell_up u1 h.c2
  obtain ⟨m, hm⟩ : ∃ m, b.O.length = m := ⟨_, rfl⟩
  rw [hm] at ho hle ⊢
  rw [ho] at c2
  have j1 : IntKind.i64.wrap ((m : Int) + 1) = (m : Int) + 1 := IntWalk.i64_in _ (by omega)
  have hS : (w.alloc (.cells #[.int .u8 x0, .int .u8 x1, .int .i64 x2, .int .i64 x3] 42)).cell? ⟨w.heap.size, 1, none⟩ = some (.int .u8 x1) ∧ (w.alloc (.cells #[.int .u8 x0, .int .u8 x1, .int .i64 x2, .int .i64 x3] 42)).cell? ⟨w.heap.size, 2, none⟩ = some (.int .i64 x2) ∧ (w.alloc (.cells #[.int .u8 x0, .int .u8 x1, .int .i64 x2, .int .i64 x3] 42)).cell? ⟨bb, 2, none⟩ = some (.slice vo m co) := ⟨e1, e2, c2⟩
  clear e1 e2 c2 u1 hle h hlt
  have HN := Lib.hid hn
  clear hn
  go_enter Try.func25, Try.ntmps25
  go_wp2_with fail
  go_region_held3 (fun w' => w'.cell? ⟨w.heap.size, 1, none⟩ = some (.int .u8 x1) ∧ w'.cell? ⟨w.heap.size, 2, none⟩ = some (.int .i64 x2) ∧ w'.cell? ⟨bb, 2, none⟩ = some (.slice vo m co))
    (first | assumption | with_reducible exact keep3 (Up.drew _) (by assumption) | with_reducible exact keep3 (Up.alloc _ _) (by assumption))
    (fail)
  obtain ⟨W2, hW2⟩ : ∃ W2, ((w.alloc (.cells #[.int .u8 x0, .int .u8 x1, .int .i64 x2, .int .i64 x3] 42)).alloc (.cells #[.int .u8 x1, .int .i64 x2, .int .i64 0, .int .i64 ((m : Int) + 1)] 46)).drew = W2 := ⟨_, rfl⟩
  have hu2 : Up w W2 := by rw [← hW2]; exact ((Up.alloc w _).trans (Up.alloc _ _)).trans (Up.drew _)
  have hs2 : W2.heap.size = w.heap.size + 2 := by rw [← hW2]; simp
  have hev : W2.heap[w.heap.size]? = some (.cells #[.int .u8 x0, .int .u8 x1, .int .i64 x2, .int .i64 x3] 42) := by
    rw [← hW2]
    exact (Below.heap_alloc _ _ _ (by simp)).trans (Go.heap_alloc_new _ _)
  have hnd : W2.heap[w.heap.size + 1]? = some (.cells (ncs (x1, x2, 0, (m : Int) + 1)) 46) := by rw [← hW2]; exact heap_new2 _ _ _
  have HH := Lib.hid (H.out.up hu2)
  have k1 := HH.out.c1
  have HU2 := Lib.hid hu2
  have HEv := Lib.hid hev
  have HNd := Lib.hid hnd
  have hM := Lib.hid hm
  simp only [hW2]
  obtain ⟨N0, hN0⟩ : ∃ N0, w.heap.size = N0 := ⟨_, rfl⟩
  rw [hN0] at HEv HNd hs2
  simp only [hN0]
  have HN0 := Lib.hid hN0
  have hbb : bb < W2.heap.size := heap_lt HH.out.blk
  have hev2 : N0 < W2.heap.size := by omega
  obtain ⟨i0, hi0, hz0, hz1, hz2⟩ := info_parts infoPN
  obtain ⟨n, hnn⟩ : ∃ n, b.N.length = n := ⟨_, rfl⟩
  have HNN := Lib.hid hnn
  have hN3 := HN.out
  rw [hnn] at hN3
  have b1 : n + 1 ≤ maxLen := by unfold maxLen; omega
  have b2 : (n + 1) * 8 ≤ 140737488355328 := by omega
  have hown2 : W2.ownsRow 0 51 1 vN n (ptrs Q) := hnn ▸ HH.out.rN
  have HS2 := Lib.hid hs2
  clear hS hW2 hu2 hev hnd hm hN0 hnn hN3 hs2
  go_wp2_with (at_builtin; (refine wpList_append_lies _ rfl _ _ 48 rfl 0 51 i0 (.pointer none) 1 8 Try.underlying48 hi0 hz0 hz1 hz2 rfl (by decide) vN n (ptrs Q) rfl (hown2.alloc _) ⟨W2.heap.size, 0, none⟩ 1 1 [.pointer (some ⟨N0 + 1, 0, none⟩)] rfl rfl (cell_one_new _ _ _) (by simp [Value.oneCell']) (by omega) b1 b2 (Nat.zero_le _) _ rfl ?_); intro g4 cap4 W4 hown4 hgrow4 hat4 hlt4; have hb4 := H.out.blk4 (HU2.out.trans (Up.alloc _ _)) hgrow4; have ev4 := H.out.new4 hgrow4 (Nat.le_of_eq HN0.out) ((Below.heap_alloc _ _ _ hev2).trans HEv.out); have d1 : W4.cell? ⟨bb, 1, none⟩ = some vN := cellOf hb4 rfl; have z1 : W4.frozen? ⟨bb, 1, none⟩ = false := frozenOf hb4; have z3 : W4.frozen? ⟨bb, 3, none⟩ = false := frozenOf hb4; have d3 : (W4.setCell ⟨bb, 1, none⟩ (.slice (some ⟨g4, 0, none⟩) (n + 1) cap4)).cell? ⟨bb, 3, none⟩ = some (.int .i64 b.far) := cellOf (heap_set hb4 _) rfl; have dv : (W4.setCell ⟨bb, 1, none⟩ (.slice (some ⟨g4, 0, none⟩) (n + 1) cap4)).cell? ⟨N0, 2, none⟩ = some (.int .i64 x2) := cellOf ((heap_set_ne (Nat.ne_of_gt (Nat.lt_of_lt_of_eq (heap_lt H.out.blk) HN0.out)) _).trans ev4) rfl; have HO4 := Lib.hid hown4; have HG4 := Lib.hid hgrow4; have HA4 := Lib.hid hat4; clear hown4 hgrow4 hat4 hb4 ev4 hlt4)
  go_ret
  have hU := HU2.out.trans (Up.alloc W2 (.cells #[.pointer (some ⟨N0 + 1, 0, none⟩)] 51))
  have hN := HN0.out
  have hat : ∀ g, (Value.slice (some ⟨g4, 0, none⟩) (n + 1) cap4).ownBlock = some g → vN.ownBlock = some g ∨ w.heap.size ≤ g := fun g e => by
    obtain rfl := Option.some.inj e
    rcases HA4.out with h1 | h1
    · exact .inl h1
    · right
      have := Below.size hU
      show w.heap.size ≤ g4
      omega
  have hq : (W2.alloc (.cells #[.pointer (some ⟨N0 + 1, 0, none⟩)] 51)).heap[N0 + 1]? = some (.cells (ncs (x1, x2, 0, (m : Int) + 1)) 46) := (Below.heap_alloc _ _ _ (by have := HS2.out; omega)).trans HNd.out
  refine ⟨_, N0 + 1, rfl, H.out.pushed HLT.out hU hq (by omega) HG4.out (by rw [HNN.out]; exact HO4.out) hat, ?_, by omega, hat⟩
  exact (((Turn.of_up _ hU).trans (Turn.grown HG4.out (fun r e _ => .inr e))).trans (Turn.set _ (.inl rfl) _ _)).trans (Turn.set _ (.inl rfl) _ _)
end Go.Proofs.Ytkkefgbmdghklaa
