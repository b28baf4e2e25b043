/- A builder's inner functions: leaf, begin. -/
import Derived.Test.YtkkefgbmdghklaaBAdd
namespace Go.Proofs.Ytkkefgbmdghklaa
open Go.RowKit

/-- What a call leaves of a builder that stands in blocks of G. -/
def Done1 (w : World) (bb : Nat) (G : Nat → Prop) (k : Int) (b' : Bs) (e : Ending) (w' : World) : Prop := e = .returned (.tuple #[]) ∧ BAt w' bb G k b' ∧ Turn G w w'
theorem BIs.last {w : World} {bb q : Nat} {vN vO : Value} {Q : List Nat} {k p : Int} {N : List Nd} {O : List Nat} {x : Nd} (h : BIs w bb vN vO (Q ++ [q]) k ⟨N ++ [x], O, p⟩) : w.heap[q]? = some (.cells (ncs x) 46) ∧ ∃ hi : N.length < (Q ++ [q]).length, (Q ++ [q])[N.length] = q := by
  have hl := h.len
  dsimp only at hl
  rw [List.length_append, List.length_append] at hl
  have hQ : Q.length = N.length := by simpa using hl
  have hi : N.length < (Q ++ [q]).length := by rw [List.length_append, List.length_singleton]; omega
  have e9 : (Q ++ [q])[N.length] = q := by
    rw [List.getElem_append_right (by omega)]
    simp
  have := h.nodes N.length hi
  rw [e9] at this
  dsimp only at this
  rw [nd_app_last] at this
  exact ⟨this, hi, e9⟩
theorem modify_last {N : List Nd} {x : Nd} (f : Nd → Nd) : (N ++ [x]).modify N.length f = N ++ [f x] := by
  apply List.ext_getElem?
  intro i
  rw [List.getElem?_modify]
  by_cases h : i < N.length
  · rw [List.getElem?_append_left h, List.getElem?_append_left h]
    have e : N.length ≠ i := by omega
    simp [e]
  · by_cases e : i = N.length
    · subst e
      simp
    · rw [List.getElem?_eq_none (by simp; omega), List.getElem?_eq_none (by simp; omega)]
      rfl
theorem keep4 {W W' : World} {N : Nat} {v0 v1 v2 v3 : Value} (hk : ∀ (j : Nat) (v : Value), W.cell? ⟨N, j, none⟩ = some v → W'.cell? ⟨N, j, none⟩ = some v)
    (h : W.cell? ⟨N, 0, none⟩ = some v0 ∧ W.cell? ⟨N, 1, none⟩ = some v1 ∧ W.cell? ⟨N, 2, none⟩ = some v2 ∧ W.cell? ⟨N, 3, none⟩ = some v3) : W'.cell? ⟨N, 0, none⟩ = some v0 ∧ W'.cell? ⟨N, 1, none⟩ = some v1 ∧ W'.cell? ⟨N, 2, none⟩ = some v2 ∧ W'.cell? ⟨N, 3, none⟩ = some v3 :=
  ⟨hk _ _ h.1, hk _ _ h.2.1, hk _ _ h.2.2.1, hk _ _ h.2.2.2⟩
theorem set_ne {w : World} {q N : Nat} {i : Nat} {u : Value} (hne : N ≠ q) (j : Nat) (v : Value) (h : w.cell? ⟨N, j, none⟩ = some v) : (w.setCell ⟨q, i, none⟩ u).cell? ⟨N, j, none⟩ = some v :=
  (World.cell?_of_block (heap_set_ne hne u)).trans h
theorem BIs.none_new {w : World} {bb n : Nat} {vN vO : Value} {Q : List Nat} {k : Int} {b : Bs} (h : BIs w bb vN vO Q k b) (hn : w.heap.size ≤ n) : ¬ (n = bb ∨ vN.ownBlock = some n) := by
  rintro (e | e)
  · have := heap_lt h.blk; omega
  · have := (own_lt h.rN e).1; omega
set_option maxRecDepth 100000 in
set_option maxHeartbeats 2000000 in
theorem leaf_any (w : World) (bb : Nat) (G : Nat → Prop) (k : Int) (b : Bs) (hb : BAt w bb G k b) (hG0 : ∀ i, w.heap.size ≤ i → G i) (hlt : ∀ x ∈ b.O, x < b.N.length) (hn : b.N.length ≤ 1000000) (hle : b.O.length ≤ b.N.length) (x0 x1 x2 x3 : Int) :
    Calls Try.prog 22 #[.pointer (some ⟨bb, 0, none⟩), .agg #[.int .u8 x0, .int .u8 x1, .int .i64 x2, .int .i64 x3]] w (Done1 w bb G k ⟨b.N ++ [(x1, x2, x3, (b.O.length : Int) + 1)], b.O, x3⟩) := by
  obtain ⟨vN, vO, Q, h, hG⟩ := hb
  obtain ⟨W, hW⟩ : ∃ W, w.alloc (.cells #[.int .u8 x0, .int .u8 x1, .int .i64 x2, .int .i64 x3] 42) = W := ⟨_, rfl⟩
  have u1 : Up w W := by rw [← hW]; exact Up.alloc w _
  have hs : W.heap.size = w.heap.size + 1 := by rw [← hW]; simp
  have hev : W.heap[w.heap.size]? = some (.cells #[.int .u8 x0, .int .u8 x1, .int .i64 x2, .int .i64 x3] 42) := by rw [← hW]; exact Go.heap_alloc_new _ _
  have HC := Lib.hid (add_any W.drew bb vN vO Q k b ((h.up u1).up (Up.drew W)) hlt hn hle x0 x1 x2 x3)
  have HEv := Lib.hid hev
  have hS : W.cell? ⟨w.heap.size, 0, none⟩ = some (.int .u8 x0) ∧ W.cell? ⟨w.heap.size, 1, none⟩ = some (.int .u8 x1) ∧ W.cell? ⟨w.heap.size, 2, none⟩ = some (.int .i64 x2) ∧ W.cell? ⟨w.heap.size, 3, none⟩ = some (.int .i64 x3) := ⟨cellOf hev rfl, cellOf hev rfl, cellOf hev rfl, cellOf hev rfl⟩
  have HNo := Lib.hid (h.none_new (Nat.le_refl _))
  have HH := Lib.hid h
  have HU := Lib.hid u1
  have HS := Lib.hid hs
  have HG := Lib.hid hG
  have HG0 := Lib.hid hG0
  clear hlt hn hle hev h u1 hs hG hG0
  go_enter Try.func22, Try.ntmps22
  go_wp2_with fail
  clear hW
  obtain ⟨N0, hN0⟩ : ∃ N0, w.heap.size = N0 := ⟨_, rfl⟩
  rw [hN0] at hS HEv HNo HS HG0
  simp only [hN0]
  have HN0 := Lib.hid hN0
  clear hN0
  go_region_held3 (fun w' => w'.cell? ⟨N0, 0, none⟩ = some (.int .u8 x0) ∧ w'.cell? ⟨N0, 1, none⟩ = some (.int .u8 x1) ∧ w'.cell? ⟨N0, 2, none⟩ = some (.int .i64 x2) ∧ w'.cell? ⟨N0, 3, none⟩ = some (.int .i64 x3))
    (first | assumption | with_reducible exact keep4 (fun _ _ hv => cell_up (Up.drew _) hv) (by assumption) | with_reducible exact keep4 hk1 (by assumption) | exact keep4 (fun j v hv => set_ne hq9 j v hv) (by assumption))
    ((go_at_call 25; ((with_reducible refine HC.out.mono ?_); rintro e w1 ⟨vN', q, rfl, hB1, hT1, hq1, hv1⟩; have hk1 : ∀ (j : Nat) (v : Value), W.drew.cell? ⟨N0, j, none⟩ = some v → w1.cell? ⟨N0, j, none⟩ = some v := (fun j v hv => hT1.cell HNo.out hv); have dq : w1.cell? ⟨q, 2, none⟩ = some (.int .i64 0) := cellOf hB1.last.1 rfl; have zq : w1.frozen? ⟨q, 2, none⟩ = false := frozenOf hB1.last.1; have hq9 : N0 ≠ q := (fun e9 => Nat.lt_irrefl N0 (Nat.lt_of_lt_of_le (Nat.lt_of_lt_of_eq (Nat.lt_succ_self N0) HS.out.symm) (e9 ▸ hq1))))))
  have HB := Lib.hid hB1
  have HT := Lib.hid hT1
  have HV := Lib.hid hv1
  have HQ := Lib.hid hq1
  have hb2 := hB1.setN (i := b.N.length) (f := fun x => (x.1, x.2.1, x3, x.2.2.2)) (j := 2) (v := .int .i64 x3) hB1.last.2.1 rfl
  rw [hB1.last.2.2] at hb2
  dsimp only at hb2
  rw [modify_last] at hb2
  have z3 : (w1.setCell ⟨q, 2, none⟩ (.int .i64 x3)).cell? ⟨bb, 3, none⟩ = some (.int .i64 x2) := hb2.c3
  have zf : w1.frozen? ⟨bb, 3, none⟩ = false := hB1.fz 3
  have HB2 := Lib.hid hb2
  have hkk : (w1.setCell ⟨q, 2, none⟩ (.int .i64 x3)).cell? ⟨N0, 3, none⟩ = some (.int .i64 x3) := (by assumption : _ ∧ _ ∧ _ ∧ _).2.2.2
  clear hS dq zq hq9 hk1 hB1 hT1 hv1 hb2 hq1
  go_wp2
  go_end0
  have hGN : ∀ i, i < W.drew.heap.size → (i = bb ∨ vN.ownBlock = some i) → G i := fun i _ h => by
    rcases h with rfl | h
    · exact HG.out _ (.inl rfl)
    · exact HG.out _ (.inr (.inl h))
  have hGn := HN0.out
  have hsz : N0 + 1 ≤ q := by have := HQ.out; have := HS.out; have e : W.drew.heap.size = W.heap.size := rfl; omega
  refine ⟨rfl, ⟨_, _, _, HB2.out.setFar x3, fun i hi => ?_⟩, ?_⟩
  · rcases hi with h | h | h | h
    · exact HG.out i (.inl h)
    · rcases HV.out i h with h2 | h2
      · exact HG.out i (.inr (.inl h2))
      · exact HG0.out i (by have := HS.out; have e : W.drew.heap.size = W.heap.size := rfl; omega)
    · exact HG.out i (.inr (.inr (.inl h)))
    · rcases List.mem_append.1 h with h | h
      · exact HG.out i (.inr (.inr (.inr h)))
      · rw [List.mem_singleton] at h
        subst h
        exact HG0.out i (by omega)
  · exact ((((Turn.of_up G HU.out).trans (Turn.drew G W)).trans (HT.out.mono hGN)).trans (Turn.set w1 (HG0.out q (by omega)) _ _)).trans (Turn.set _ (HG.out _ (.inl rfl)) _ _)
end Go.Proofs.Ytkkefgbmdghklaa
