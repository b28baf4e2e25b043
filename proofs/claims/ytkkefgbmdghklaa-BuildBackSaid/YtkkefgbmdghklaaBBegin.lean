/- A builder's inner functions: begin. -/
import Derived.Test.YtkkefgbmdghklaaBLeaf
import Derived.Deep.RegionLaw
namespace Go.Proofs.Ytkkefgbmdghklaa
open Go.RowKit

theorem BIs.pushOpen {w W w5 : World} {bb x : Nat} {vN vO vO' : Value} {Q : List Nat} {k : Int} {b : Bs} (h : BIs w bb vN vO Q k b) (hu : Up w W) (hx : x < Q.length) (hg : W.grownBy w5 vO.ownBlock) (hown : w5.ownsRow 0 51 1 vO' (b.O.length + 1) (ptrs (opq Q b.O) ++ [.pointer (some ⟨Q[x], 0, none⟩)]))
    (hat : ∀ g, vO'.ownBlock = some g → vO.ownBlock = some g ∨ w.heap.size ≤ g) : BIs (w5.setCell ⟨bb, 2, none⟩ vO') bb vN vO' Q k ⟨b.N, b.O ++ [x], b.far⟩ := by
  obtain ⟨n1, n2, n3, n4⟩ := h.ne_bb
  have hs := Below.size hu
  have hbb := heap_lt h.blk
  have hT : Turn (fun i => vO.ownBlock = some i) w w5 := (Turn.of_up _ hu).trans (Turn.grown hg (fun r e _ => e))
  have hvN : ∀ g, vN.ownBlock = some g → vO'.ownBlock ≠ some g := fun g e e2 => by
    rcases hat g e2 with e3 | e3
    · exact h.apart g e e3
    · have := (own_lt h.rN e).1; omega
  have hnb : vO'.ownBlock ≠ some bb := fun e => by
    rcases hat bb e with e3 | e3
    · exact n2 bb e3 rfl
    · omega
  have hblk : w5.heap[bb]? = some (.cells (bcs k vN vO b.far) 50) := (hT.block bb hbb (fun e => n2 bb e rfl)).trans h.blk
  refine ⟨heap_set hblk _, ?_, ?_, fun g e e2 => hvN g e e2, h.len, h.nodup, fun i hi => ?_⟩
  · exact ownsRow_set (ownsRow_turn h.rN hT (fun g e e2 => h.apart g e e2)) (fun e => n1 _ e rfl) _ _
  · dsimp only
    have e1 : opq Q [x] = [Q[x]] := by
      unfold opq
      rw [List.map_singleton, List.getD_eq_getElem?_getD, List.getElem?_eq_getElem hx]
      rfl
    rw [opq_app, ptrs_app, e1, List.length_append, List.length_singleton]
    exact ownsRow_set hown hnb _ _
  · exact (heap_set_ne (n3 i hi) _).trans ((hT.block _ (heap_lt (h.nodes i hi)) (fun e => n4 _ i hi (.inr e) rfl)).trans (h.nodes i hi))
theorem BIs.blk5 {w W W4 : World} {bb : Nat} {vN vO : Value} {Q : List Nat} {k : Int} {b : Bs} (h : BIs w bb vN vO Q k b) (hu : Up w W) (hg : W.grownBy W4 vO.ownBlock) : W4.heap[bb]? = some (.cells (bcs k vN vO b.far) 50) := by
  obtain ⟨n1, n2, n3, n4⟩ := h.ne_bb
  have hT : Turn (fun i => vO.ownBlock = some i) w W4 := (Turn.of_up _ hu).trans (Turn.grown hg (fun r e _ => e))
  exact (hT.block bb (heap_lt h.blk) (fun e => n2 bb e rfl)).trans h.blk
theorem BIs.rowO {w : World} {bb q m : Nat} {vN vO : Value} {Q : List Nat} {k p : Int} {N : List Nd} {O : List Nat} (h : BIs w bb vN vO (Q ++ [q]) k ⟨N, O, p⟩) (hm : O.length = m) (hl : ∀ y ∈ O, y < Q.length) : w.ownsRow 0 51 1 vO m (ptrs (opq Q O)) := by
  have h1 := h.rO
  dsimp only at h1
  rw [opq_more q hl, hm] at h1
  exact h1
set_option maxRecDepth 100000 in
set_option maxHeartbeats 4000000 in
theorem begin_any (w : World) (bb : Nat) (G : Nat → Prop) (k : Int) (b : Bs) (hb : BAt w bb G k b) (hG0 : ∀ i, w.heap.size ≤ i → G i) (hlt : ∀ x ∈ b.O, x < b.N.length) (hn : b.N.length ≤ 1000000) (hle : b.O.length ≤ b.N.length) (x0 x1 x2 x3 : Int) :
    Calls Try.prog 20 #[.pointer (some ⟨bb, 0, none⟩), .agg #[.int .u8 x0, .int .u8 x1, .int .i64 x2, .int .i64 x3]] w (Done1 w bb G k ⟨b.N ++ [(x1, x2, 0, (b.O.length : Int) + 1)], b.O ++ [b.N.length], x2⟩) := by
  obtain ⟨vN, vO, Q, h, hG⟩ := hb
  obtain ⟨W, hW⟩ : ∃ W, w.alloc (.cells #[.int .u8 x0, .int .u8 x1, .int .i64 x2, .int .i64 x3] 42) = W := ⟨_, rfl⟩
  have u1 : Up w W := by rw [← hW]; exact Up.alloc w _
  have hs : W.heap.size = w.heap.size + 1 := by rw [← hW]; simp
  have hev : W.heap[w.heap.size]? = some (.cells #[.int .u8 x0, .int .u8 x1, .int .i64 x2, .int .i64 x3] 42) := by rw [← hW]; exact Go.heap_alloc_new _ _
  have HC := Lib.hid (add_any W.drew bb vN vO Q k b ((h.up u1).up (Up.drew W)) hlt hn hle x0 x1 x2 x3)
  have e0 : W.cell? ⟨w.heap.size, 0, none⟩ = some (.int .u8 x0) := cellOf hev rfl
  have e1 : W.cell? ⟨w.heap.size, 1, none⟩ = some (.int .u8 x1) := cellOf hev rfl
  have e2 : W.cell? ⟨w.heap.size, 2, none⟩ = some (.int .i64 x2) := cellOf hev rfl
  have e3 : W.cell? ⟨w.heap.size, 3, none⟩ = some (.int .i64 x3) := cellOf hev rfl
  have c2 : W.cell? ⟨bb, 2, none⟩ = some vO := (h.up u1).c2
  have HU := Lib.hid u1
  have HS := Lib.hid hs
  have HG := Lib.hid hG
  have HG0 := Lib.hid hG0
  obtain ⟨m, hm⟩ : ∃ m, b.O.length = m := ⟨_, rfl⟩
  have HM := Lib.hid hm
  have HLQ := Lib.hid (show ∀ y ∈ b.O, y < Q.length from fun y hy => by have := hlt y hy; have := h.len; omega)
  rw [hm] at HC ⊢
  have b1 : m + 1 ≤ maxLen := by unfold maxLen; omega
  have b2 : (m + 1) * 8 ≤ 140737488355328 := by omega
  clear hlt hn hle hev h u1 hs hG hG0 hm
  obtain ⟨i0, hi0, hz0, hz1, hz2⟩ := info_parts infoPN
  go_enter Try.func20, Try.ntmps20
  go_wp2_with fail
  clear hW
  obtain ⟨N0, hN0⟩ : ∃ N0, w.heap.size = N0 := ⟨_, rfl⟩
  rw [hN0] at e0 e1 e2 e3 HS HG0
  simp only [hN0]
  have HN0 := Lib.hid hN0
  clear hN0
  go_region_law (first
    | (refine step_append_lies _ (by rfl) _ _ _ (by rfl) 0 51 i0 (.pointer none) 1 8 Try.underlying48 hi0 hz0 hz1 hz2 rfl (by decide) vO m (ptrs (opq Q b.O)) (by rfl) (HOWN.alloc _) ⟨w1.heap.size, 0, none⟩ 1 1 [.pointer (some ⟨q, 0, none⟩)] (by rfl) (by rfl) (cell_one_new _ _ _) (by simp [Value.oneCell']) (by omega) b1 b2 (Nat.zero_le _) (w1.heap.size + 1) (by simp) ?_; intro g5 cap5 w5 hown5 hgrow hat5 _; have hb5 := HB1.out.blk5 (Up.alloc _ _) hgrow; have z2 : w5.frozen? ⟨bb, 2, none⟩ = false := frozenOf hb5; have d2 : w5.cell? ⟨bb, 2, none⟩ = some vO := cellOf hb5 rfl)
    | (go_simp; go_at_call 25; ((with_reducible refine HC.out.mono ?_); rintro e w1 ⟨vN', q, rfl, hB1, hT1, hq1, hv1⟩; have HB1 := Lib.hid hB1; have HT1 := Lib.hid hT1; have HQ1 := Lib.hid hq1; have HV1 := Lib.hid hv1; have b8 := hB1.c2; have b9 := (hB1.up (Up.alloc w1 (.cells #[.pointer (some ⟨q, 0, none⟩)] 51))).c2; have HOWN := hB1.rowO HM.out HLQ.out; clear hB1 hT1 hq1 hv1)))
  all_goals
    go_end0
    have hlast := HB1.out.last
    have hat : ∀ g, (Value.slice (some ⟨g5, 0, none⟩) (m + 1) cap5).ownBlock = some g → vO.ownBlock = some g ∨ w1.heap.size ≤ g := fun g e => by
      obtain rfl := Option.some.inj e
      rcases hat5 with h1 | h1
      · exact .inl h1
      · right
        show w1.heap.size ≤ g5
        omega
    have hown6 : w5.ownsRow 0 51 1 (.slice (some ⟨g5, 0, none⟩) (m + 1) cap5) (b.O.length + 1) (ptrs (opq (Q ++ [q]) b.O) ++ [.pointer (some ⟨(Q ++ [q])[b.N.length]'hlast.2.1, 0, none⟩)]) := by
      rw [hlast.2.2, HM.out, opq_more q HLQ.out]
      exact hown5
    have hb6 := HB1.out.pushOpen (Up.alloc w1 _) hlast.2.1 hgrow hown6 hat
    have hGN : ∀ i, i < W.drew.heap.size → (i = bb ∨ vN.ownBlock = some i) → G i := fun i _ h => by
      rcases h with rfl | h
      · exact HG.out _ (.inl rfl)
      · exact HG.out _ (.inr (.inl h))
    have hGn := HN0.out
    have hszW : W.drew.heap.size = N0 + 1 := HS.out
    have hsz : N0 + 1 ≤ q := by have := HQ1.out; omega
    have hsw : N0 + 1 ≤ w1.heap.size := by have := HT1.out.size; omega
    refine ⟨rfl, ⟨_, _, _, hb6, fun i hi => ?_⟩, ?_⟩
    · rcases hi with h | h | h | h
      · exact HG.out i (.inl h)
      · rcases HV1.out i h with h2 | h2
        · exact HG.out i (.inr (.inl h2))
        · exact HG0.out i (by omega)
      · rcases hat i h with h2 | h2
        · exact HG.out i (.inr (.inr (.inl h2)))
        · exact HG0.out i (by omega)
      · rcases List.mem_append.1 h with h | h
        · exact HG.out i (.inr (.inr (.inr h)))
        · rw [List.mem_singleton] at h
          subst h
          exact HG0.out i (by omega)
    · exact ((((Turn.of_up G HU.out).trans (Turn.drew G W)).trans (HT1.out.mono hGN)).trans ((Turn.alloc G w1 _).trans (Turn.grown hgrow (fun r e _ => HG.out r (.inr (.inr (.inl e))))))).trans (Turn.set w5 (HG.out _ (.inl rfl)) _ _)
end Go.Proofs.Ytkkefgbmdghklaa
