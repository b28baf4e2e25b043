/- A builder's inner functions: end. -/
import Derived.Test.YtkkefgbmdghklaaBRep
namespace Go.Proofs.Ytkkefgbmdghklaa
open Go.RowKit

theorem row_at {w : World} {B n : Nat} {T : TypeId} {v : Value} {Q : List Nat} (h : w.ownsRow B T 1 v n (ptrs Q)) {i : Nat} (hi : i < Q.length) : ∃ g c, v = .slice (some ⟨g, 0, none⟩) n c ∧ n ≤ c ∧ g < w.heap.size ∧ w.cell? ⟨g, i, none⟩ = some (.pointer (some ⟨Q[i], 0, none⟩)) := by
  have hl := h.1
  rw [ptrs_len] at hl
  rcases owns_cell h with ⟨rfl, rfl⟩ | ⟨g, c, rfl, -, h2, h3⟩
  · omega
  · refine ⟨g, c, rfl, owns_cap h, h2, h3 i _ ?_⟩
    unfold ptrs
    rw [List.getElem?_map, List.getElem?_eq_getElem hi]
    rfl
theorem row_take {w : World} {B g n c m : Nat} {T : TypeId} {Q : List Nat} (h : w.ownsRow B T 1 (.slice (some ⟨g, 0, none⟩) n c) n (ptrs Q)) (hm : m ≤ n) : w.ownsRow B T 1 (.slice (some ⟨g, 0, none⟩) m c) m (ptrs (Q.take m)) := by
  have hl := h.1
  rw [ptrs_len] at hl
  refine ⟨by rw [ptrs_len, List.length_take]; omega, ?_⟩
  rcases h.2 with ⟨e, -⟩ | ⟨g', cap, cur, e, h1, h2, h3, h4, h5, h6⟩
  · cases e
  · injection e with e1 e2 e3
    injection e1 with e1
    injection e1 with e1
    subst e1 e3
    refine .inr ⟨g, c, cur, rfl, h1, h2, by omega, h4, h5, ?_⟩
    have e6 : (cur.toList.take (n * 1)).take (m * 1) = (ptrs Q).take (m * 1) := by rw [h6]
    rw [List.take_take, show min (m * 1) (n * 1) = m * 1 from by omega] at e6
    rw [e6]
    unfold ptrs
    rw [List.map_take, Nat.mul_one]
theorem last_at {O : List Nat} (h : 0 < O.length) : O[O.length - 1]'(by omega) = O.getLastD 0 := by
  rw [List.getLastD_eq_getLast?, List.getLast?_eq_getElem?, List.getElem?_eq_getElem (by omega)]
  rfl
theorem BIs.setOpen {w : World} {bb : Nat} {vN vO vO' : Value} {Q : List Nat} {k : Int} {b : Bs} (h : BIs w bb vN vO Q k b) {O : List Nat} (hr : w.ownsRow 0 51 1 vO' O.length (ptrs (opq Q O))) (ha : vO'.ownBlock = vO.ownBlock) : BIs (w.setCell ⟨bb, 2, none⟩ vO') bb vN vO' Q k ⟨b.N, O, b.far⟩ := by
  obtain ⟨n1, n2, n3, -⟩ := h.ne_bb
  exact ⟨heap_set h.blk _, ownsRow_set h.rN (fun e => n1 _ e rfl) _ _, ownsRow_set hr (fun e => n2 _ (ha ▸ e) rfl) _ _, fun g e e2 => h.apart g e (ha ▸ e2), h.len, h.nodup, fun i hi => (heap_set_ne (n3 i hi) _).trans (h.nodes i hi)⟩
set_option maxRecDepth 100000 in
set_option maxHeartbeats 2000000 in
theorem end_any (w : World) (bb : Nat) (G : Nat → Prop) (k : Int) (b : Bs) (hb : BAt w bb G k b) (ho : 0 < b.O.length) (hlt : ∀ x ∈ b.O, x < b.N.length) (hn : b.N.length ≤ 1000000) (hle : b.O.length ≤ b.N.length) (x0 x1 x2 x3 : Int) :
    Calls Try.prog 21 #[.pointer (some ⟨bb, 0, none⟩), .agg #[.int .u8 x0, .int .u8 x1, .int .i64 x2, .int .i64 x3]] w fun e w' => e = .returned (.tuple #[]) ∧ BAt w' bb G k ⟨b.N.modify (b.O.getLastD 0) (shutN x2 x1), b.O.dropLast, x2⟩ ∧ Turn G w w' := by
  obtain ⟨vN, vO, Q, h, hG⟩ := hb
  obtain ⟨m, hm⟩ : ∃ m, b.O.length = m + 1 := ⟨b.O.length - 1, by omega⟩
  have hql : m < (opq Q b.O).length := by rw [opq_len]; omega
  obtain ⟨g, c, rfl, hc, hg, cg⟩ := row_at h.rO hql
  rw [hm] at hc
  have hi : b.O.getLastD 0 < b.N.length := hlt _ (by rw [← last_at ho]; exact List.getElem_mem _)
  have hi2 : b.O.getLastD 0 < Q.length := by rw [h.len]; exact hi
  have hq : (opq Q b.O)[m] = Q[b.O.getLastD 0] := by
    have h1 : (opq Q b.O)[m]? = some Q[b.O.getLastD 0] := by
      have e : b.O[m]? = some (b.O.getLastD 0) := by
        rw [← last_at ho, List.getElem?_eq_getElem (by omega)]
        congr 2
        omega
      unfold opq
      rw [List.getElem?_map, e, Option.map_some, List.getD_eq_getElem?_getD, List.getElem?_eq_getElem hi2]
      rfl
    rw [List.getElem?_eq_getElem hql] at h1
    exact Option.some.inj h1
  rw [hq] at cg
  have hO' : w.ownsRow 0 51 1 (.slice (some ⟨g, 0, none⟩) m c) b.O.dropLast.length (ptrs (opq Q b.O.dropLast)) := by
    have := row_take (m := m) (hm ▸ h.rO) (by omega)
    rw [List.length_dropLast, hm, Nat.add_sub_cancel]
    have e : opq Q b.O.dropLast = (opq Q b.O).take m := by unfold opq; rw [List.dropLast_eq_take, hm, Nat.add_sub_cancel, List.map_take]
    rw [e]
    exact this
  have HB1 := Lib.hid (h.setOpen hO' rfl)
  have HB2 := Lib.hid (HB1.out.setN (f := fun x => (x.1, x.2.1, x2, x.2.2.2)) (j := 2) (v := .int .i64 x2) hi2 rfl)
  have HB3 := Lib.hid (HB2.out.setN (f := fun x => (x1, x.2.1, x.2.2.1, x.2.2.2)) (j := 0) (v := .int .u8 x1) hi2 rfl)
  have HB4 := Lib.hid (HB2.out.setFar x2)
  have HB5 := Lib.hid (HB3.out.setFar x2)
  obtain ⟨n1, n2, n3, n4⟩ := h.ne_bb
  have hne := n3 _ hi2
  have hnd := h.nodes _ hi2
  obtain ⟨q, hqq⟩ : ∃ q, Q[b.O.getLastD 0] = q := ⟨_, rfl⟩
  have HGq : Hid (G q) := Lib.hid (hG q (.inr (.inr (.inr (by rw [← hqq]; exact List.getElem_mem _)))))
  have HGb : Hid (G bb) := Lib.hid (hG bb (.inl rfl))
  rw [hqq] at cg hne hnd HB2 HB3 HB4 HB5
  have hqs : q < w.heap.size := heap_lt hnd
  have hbs : bb < w.heap.size := heap_lt h.blk
  have hgb : g ≠ bb := n2 g rfl
  have HG := Lib.hid hG
  have c2 := h.c2
  have z2 := h.fz 2
  have z3 := h.fz 3
  have zq2 : w.frozen? ⟨q, 2, none⟩ = false := frozenOf hnd
  have zq0 : w.frozen? ⟨q, 0, none⟩ = false := frozenOf hnd
  obtain ⟨x, hx⟩ : ∃ x, nd b.N (b.O.getLastD 0) = x := ⟨_, rfl⟩
  rw [hx] at hnd
  have d1 : (w.setCell ⟨bb, 2, none⟩ (.slice (some ⟨g, 0, none⟩) m c)).cell? ⟨q, 2, none⟩ = some (.int .i64 x.2.2.1) := cellOf ((heap_set_ne hne _).trans hnd) rfl
  have hqd : ((w.setCell ⟨bb, 2, none⟩ (.slice (some ⟨g, 0, none⟩) m c)).setCell ⟨q, 2, none⟩ (.int .i64 x2)).heap[q]? = some (.cells #[.int .u8 x.1, .int .i64 x.2.1, .int .i64 x2, .int .i64 x.2.2.2] 46) := heap_set ((heap_set_ne hne _).trans hnd) _
  have d2 : ((w.setCell ⟨bb, 2, none⟩ (.slice (some ⟨g, 0, none⟩) m c)).setCell ⟨q, 2, none⟩ (.int .i64 x2)).cell? ⟨q, 0, none⟩ = some (.int .u8 x.1) := cellOf hqd rfl
  have d3 : ((w.setCell ⟨bb, 2, none⟩ (.slice (some ⟨g, 0, none⟩) m c)).setCell ⟨q, 2, none⟩ (.int .i64 x2)).cell? ⟨bb, 3, none⟩ = some (.int .i64 b.far) := HB2.out.c3
  have d4 : (((w.setCell ⟨bb, 2, none⟩ (.slice (some ⟨g, 0, none⟩) m c)).setCell ⟨q, 2, none⟩ (.int .i64 x2)).setCell ⟨q, 0, none⟩ (.int .u8 x1)).cell? ⟨bb, 3, none⟩ = some (.int .i64 b.far) := HB3.out.c3
  have j1 : (m : Int) ≤ c := Int.ofNat_le.2 (Nat.le_of_succ_le hc)
  have e1 : IntKind.i64.wrap ((m : Int) + 1 - 1) = m := (IntWalk.i64_in _ (by omega)).trans (by omega)
  have e2 : wrap64 (m : Int) = m := IntWalk.wrap64_in _ (by omega)
  rw [hm] at c2
  obtain ⟨li, hli⟩ : ∃ li, b.O.getLastD 0 = li := ⟨_, rfl⟩
  rw [hli] at HB2 HB3 HB4 HB5 ⊢
  clear hli h hO' n1 n2 n3 n4 hG hnd hqd hx hqq hq hi hi2 hql hm ho hlt hn hle hne
  by_cases hk : x1 = 0
  · subst hk
    have HF := Lib.hid (show (b.N.modify li fun x => (x.1, x.2.1, x2, x.2.2.2)) = b.N.modify li (shutN x2 0) from rfl)
    clear HB3 HB5 d4
    go_enter Try.func21, Try.ntmps21
    go_wp2
    go_end0
    refine ⟨rfl, ?_, ?_⟩
    · have h5 := HB4.out
      rw [HF.out] at h5
      exact ⟨vN, _, Q, h5.up (Up.alloc _ _), HG.out⟩
    · exact ((Turn.set _ HGb.out _ _).trans (Turn.set _ HGq.out _ _)).trans ((Turn.set _ HGb.out _ _).trans (Turn.alloc _ _ _))
  · have f0 : (x1 == 0) = false := beq_false_of_ne hk
    have HF := Lib.hid (show ((b.N.modify li fun x => (x.1, x.2.1, x2, x.2.2.2)).modify li fun x => (x1, x.2.1, x.2.2.1, x.2.2.2)) = b.N.modify li (shutN x2 x1) by
      rw [List.modify_modify_eq]
      congr 1
      funext x
      unfold shutN
      rw [if_neg hk]
      rfl)
    clear HB4 hk
    go_enter Try.func21, Try.ntmps21
    go_wp2
    go_end0
    refine ⟨rfl, ?_, ?_⟩
    · have h5 := HB5.out
      rw [HF.out] at h5
      exact ⟨vN, _, Q, h5.up (Up.alloc _ _), HG.out⟩
    · exact (((Turn.set _ HGb.out _ _).trans (Turn.set _ HGq.out _ _)).trans (Turn.set _ HGq.out _ _)).trans ((Turn.set _ HGb.out _ _).trans (Turn.alloc _ _ _))
end Go.Proofs.Ytkkefgbmdghklaa
