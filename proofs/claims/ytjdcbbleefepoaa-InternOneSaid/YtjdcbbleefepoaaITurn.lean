/- What a call may turn. -/
import Derived.Test.YtjdcbbleefepoaaBase
namespace Go.Proofs.Ytjdcbbleefepoaa
open Go.RowKit

theorem setCell_grown (w : World) (K j : Nat) (u : Value) : w.grownBy (w.setCell ⟨K, j, none⟩ u) (some K) := by
  have hb := Below.setCell (Below.refl K w) (p := ⟨K, j, none⟩) (Nat.le_refl _) u
  refine ⟨Below.os hb, Below.tape hb, Below.output hb, Below.size hb, fun k _ hne => ?_⟩
  have hk : K ≠ k := fun e => hne (by rw [e])
  simp [World.setCell, Array.getElem?_modify, hk]
theorem block_add (a : Addr) (n : Nat) : (a.add n).block = a.block := by unfold Addr.add; split <;> rfl
theorem spot_cell {w : World} {a : Addr} {v : Value} (h : w.cell? a = some v) : a.spot = none := by
  unfold World.cell? at h
  split at h
  · cases hs : a.spot with
    | none => rfl
    | some k => rw [hs] at h; cases h
  · cases h
theorem add_flat {a : Addr} (h : a.spot = none) (k : Nat) : a.add k = ⟨a.block, a.off + k, none⟩ := by
  obtain ⟨b, o, sp⟩ := a
  obtain rfl : sp = none := h
  unfold Addr.add
  split
  · rename_i h0; subst h0; rfl
  · rfl
/-- Only blocks of G may have turned. -/
structure Turn (G : Nat → Prop) (w w' : World) : Prop where
  os : w'.os = w.os
  tape : w'.tape = w.tape
  output : w'.output = w.output
  size : w.heap.size ≤ w'.heap.size
  block : ∀ k, k < w.heap.size → ¬ G k → w'.heap[k]? = w.heap[k]?
section
variable {G G' : Nat → Prop} {a b c w w' : World}
theorem Turn.refl (G : Nat → Prop) (w : World) : Turn G w w := ⟨rfl, rfl, rfl, Nat.le_refl _, fun _ _ _ => rfl⟩
theorem Turn.trans (h : Turn G a b) (k : Turn G b c) : Turn G a c :=
  ⟨k.os.trans h.os, k.tape.trans h.tape, k.output.trans h.output, Nat.le_trans h.size k.size, fun i hi hg => (k.block i (Nat.lt_of_lt_of_le hi h.size) hg).trans (h.block i hi hg)⟩
theorem Turn.mono (h : Turn G a b) (hG : ∀ i, i < a.heap.size → G i → G' i) : Turn G' a b := ⟨h.os, h.tape, h.output, h.size, fun i hi hg => h.block i hi (fun k => hg (hG i hi k))⟩
theorem Turn.of_up (G : Nat → Prop) (h : Up a b) : Turn G a b := ⟨Below.os h, Below.tape h, Below.output h, Below.size h, fun k hk _ => Below.block h k hk⟩
theorem Turn.up (h : Turn G a b) (hG : ∀ i, i < a.heap.size → ¬ G i) : Up a b := ⟨h.os, h.tape, h.output, h.size, fun k hk => h.block k hk (hG k hk)⟩
theorem Turn.below {B : Nat} (h : Turn G a b) (hB : B ≤ a.heap.size) (hG : ∀ i, G i → B ≤ i) : Below B a b := ⟨h.os, h.tape, h.output, h.size, fun k hk => h.block k (Nat.lt_of_lt_of_le hk hB) (fun g => by have := hG k g; omega)⟩
theorem Turn.grown {row : Option Nat} (h : a.grownBy b row) (hG : ∀ r, row = some r → r < a.heap.size → G r) : Turn G a b :=
  ⟨h.os, h.tape, h.output, h.size, fun k hk hg => h.block k hk (fun e => hg (hG k e.symm hk))⟩
theorem Turn.alloc (G : Nat → Prop) (w : World) (o : Obj) : Turn G w (w.alloc o) := .of_up G (Up.alloc w o)
theorem Turn.drew (G : Nat → Prop) (w : World) : Turn G w w.drew := .of_up G (Up.drew w)
theorem Turn.set (w : World) {K : Nat} (hK : G K) (j : Nat) (v : Value) : Turn G w (w.setCell ⟨K, j, none⟩ v) :=
  .grown (setCell_grown w K j v) fun r e _ => by injection e with e; rw [← e]; exact hK
theorem Turn.cell (h : Turn G a b) {k j : Nat} {v : Value} (hg : ¬ G k) (hc : a.cell? ⟨k, j, none⟩ = some v) : b.cell? ⟨k, j, none⟩ = some v := by
  have hb : k < a.heap.size := World.block_lt_of_cell? a ⟨k, j, none⟩ hc
  exact (World.cell?_of_block (h.block k hb hg)).trans hc
end
theorem Up.trans' {G : Nat → Prop} {a b c : World} (h : Up a b) (k : Turn G b c) (hG : ∀ i, G i → a.heap.size ≤ i) : Up a c := Below.trans h (k.below (Below.size h) hG)
end Go.Proofs.Ytjdcbbleefepoaa
