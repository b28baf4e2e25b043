/- A row of marks in memory. -/
import Derived.Test.YtopdbilkpkgccaaDoorMkReads
import Derived.Test.YtopdbilkpkgccaaDoorMkApt
namespace Go.Proofs.YtopdbilkpkgccaaDoor
open Go.RowKit

theorem gen_world {P : Program} {s : Code} {Q : Exit → Act → World → Prop} {a : Act} {W : World} (h : ∀ W', W = W' → s.wp P Q a W') : s.wp P Q a W := h W rfl
def mrow (m : Mk) : List Value := [.int .u8 (m.ch : Nat), .int .i64 (m.ct : Nat), .int .i64 (m.tt : Nat), .int .i64 (m.fr : Nat), .int .i64 (m.en : Nat), .int .i64 (m.la : Nat)]
def mtabC (T : List Mk) : List Value := T.flatMap mrow
theorem mtab_at : ∀ (T : List Mk) (i : Nat) (m : Mk), T[i]? = some m → ∀ (j : Nat) (v : Value), (mrow m)[j]? = some v → (mtabC T)[i * 6 + j]? = some v
  | [], i, m, h, _, _, _ => by simp at h
  | r :: T, 0, m, h, j, v, hv => by
    have h : r = m := by simpa using h
    subst h
    show (mrow r ++ mtabC T)[0 * 6 + j]? = some v
    have hj := (List.getElem?_eq_some_iff.1 hv).1
    rw [Nat.zero_mul, Nat.zero_add, List.getElem?_append_left hj]
    exact hv
  | r :: T, i + 1, m, h, j, v, hv => by
    have h : T[i]? = some m := by simpa using h
    have ih := mtab_at T i m h j v hv
    show (mrow r ++ mtabC T)[(i + 1) * 6 + j]? = some v
    have hl : (mrow r).length = 6 := rfl
    rw [List.getElem?_append_right (by rw [hl]; omega), hl, show (i + 1) * 6 + j - 6 = i * 6 + j by omega]
    exact ih
def MTab (W : World) (b : Nat) (T : List Mk) : Prop := ∀ (i : Nat) (m : Mk), T[i]? = some m → ∀ (j : Nat) (v : Value), (mrow m)[j]? = some v → W.cell? ⟨b, i * 6 + j, none⟩ = some v
theorem MTab.up {W W' : World} {b : Nat} {T : List Mk} (h : MTab W b T) (hu : Up W W') : MTab W' b T := fun i m hm j v hv => cell_up hu (h i m hm j v hv)
theorem mtab_new (W : World) (T : List Mk) (cs : Array Value) (t : TypeId) (h : cs = (mtabC T).toArray) : MTab (W.alloc (.cells cs t)) W.heap.size T := fun i m hm j v hv => by
  refine cellOf (Go.heap_alloc_new _ _) ?_
  rw [h]
  have := mtab_at T i m hm j v hv
  simpa using this
theorem MTab.row {W : World} {b i : Nat} {T : List Mk} {m : Mk} (h : MTab W b T) (hm : T[i]? = some m) :
    W.cell? ⟨b, i * 6, none⟩ = some (.int .u8 (m.ch : Nat)) ∧ W.cell? ⟨b, i * 6 + 1, none⟩ = some (.int .i64 (m.ct : Nat)) ∧ W.cell? ⟨b, i * 6 + 2, none⟩ = some (.int .i64 (m.tt : Nat)) ∧ W.cell? ⟨b, i * 6 + 3, none⟩ = some (.int .i64 (m.fr : Nat)) ∧ W.cell? ⟨b, i * 6 + 4, none⟩ = some (.int .i64 (m.en : Nat)) ∧ W.cell? ⟨b, i * 6 + 5, none⟩ = some (.int .i64 (m.la : Nat)) :=
  ⟨h i m hm 0 _ rfl, h i m hm 1 _ rfl, h i m hm 2 _ rfl, h i m hm 3 _ rfl, h i m hm 4 _ rfl, h i m hm 5 _ rfl⟩
theorem MTab.row0 {W : World} {b i : Nat} {T : List Mk} (h : MTab W b T) (hm : T[i]? = some noM) :
    W.cell? ⟨b, i * 6, none⟩ = some (.int .u8 0) ∧ W.cell? ⟨b, i * 6 + 1, none⟩ = some (.int .i64 0) ∧ W.cell? ⟨b, i * 6 + 2, none⟩ = some (.int .i64 0) ∧ W.cell? ⟨b, i * 6 + 3, none⟩ = some (.int .i64 0) ∧ W.cell? ⟨b, i * 6 + 4, none⟩ = some (.int .i64 0) ∧ W.cell? ⟨b, i * 6 + 5, none⟩ = some (.int .i64 0) := h.row hm
end Go.Proofs.YtopdbilkpkgccaaDoor
