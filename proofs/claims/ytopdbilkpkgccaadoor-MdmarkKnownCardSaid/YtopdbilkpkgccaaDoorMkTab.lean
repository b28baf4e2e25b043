/- A table of texts and what stands there, in memory. -/
import Derived.Test.YtopdbilkpkgccaaDoorMkReads
namespace Go.Proofs.YtopdbilkpkgccaaDoor
open Go.RowKit

def rowC (S : ByteArray) (m : Mk) : List Value := [.string S, .int .u8 (m.ch : Nat), .int .i64 (m.ct : Nat), .int .i64 (m.tt : Nat), .int .i64 (m.fr : Nat), .int .i64 (m.en : Nat), .int .i64 (m.la : Nat)]
def tabC (T : List (ByteArray × Mk)) : List Value := T.flatMap fun r => rowC r.1 r.2
theorem tab_at : ∀ (T : List (ByteArray × Mk)) (i : Nat) (S : ByteArray) (m : Mk), T[i]? = some (S, m) → ∀ (j : Nat) (v : Value), (rowC S m)[j]? = some v → (tabC T)[i * 7 + j]? = some v
  | [], i, S, m, h, _, _, _ => by simp at h
  | r :: T, 0, S, m, h, j, v, hv => by
    have h : r = (S, m) := by simpa using h
    subst h
    show (rowC S m ++ tabC T)[0 * 7 + j]? = some v
    have hj := (List.getElem?_eq_some_iff.1 hv).1
    rw [Nat.zero_mul, Nat.zero_add, List.getElem?_append_left hj]
    exact hv
  | r :: T, i + 1, S, m, h, j, v, hv => by
    have h : T[i]? = some (S, m) := by simpa using h
    have ih := tab_at T i S m h j v hv
    show (rowC r.1 r.2 ++ tabC T)[(i + 1) * 7 + j]? = some v
    have hl : (rowC r.1 r.2).length = 7 := rfl
    rw [List.getElem?_append_right (by rw [hl]; omega), hl, show (i + 1) * 7 + j - 7 = i * 7 + j by omega]
    exact ih
/-- The table lies at the head of the block b. -/
def TabAt (W : World) (b : Nat) (T : List (ByteArray × Mk)) : Prop := ∀ (i : Nat) (S : ByteArray) (m : Mk), T[i]? = some (S, m) → ∀ (j : Nat) (v : Value), (rowC S m)[j]? = some v → W.cell? ⟨b, i * 7 + j, none⟩ = some v
theorem TabAt.up {W W' : World} {b : Nat} {T : List (ByteArray × Mk)} (h : TabAt W b T) (hu : Up W W') : TabAt W' b T := fun i S m hm j v hv => cell_up hu (h i S m hm j v hv)
theorem tab_new (W : World) (T : List (ByteArray × Mk)) (cs : Array Value) (t : TypeId) (h : cs = (tabC T).toArray) : TabAt (W.alloc (.cells cs t)) W.heap.size T := fun i S m hm j v hv => by
  refine cellOf (Go.heap_alloc_new _ _) ?_
  rw [h]
  have := tab_at T i S m hm j v hv
  simpa using this
/-- Its row's cells. -/
theorem TabAt.row {W : World} {b i : Nat} {T : List (ByteArray × Mk)} {S : ByteArray} {m : Mk} (h : TabAt W b T) (hm : T[i]? = some (S, m)) :
    W.cell? ⟨b, i * 7, none⟩ = some (.string S) ∧ W.cell? ⟨b, i * 7 + 1, none⟩ = some (.int .u8 (m.ch : Nat)) ∧ W.cell? ⟨b, i * 7 + 1 + 1, none⟩ = some (.int .i64 (m.ct : Nat)) ∧ W.cell? ⟨b, i * 7 + 1 + 2, none⟩ = some (.int .i64 (m.tt : Nat)) ∧ W.cell? ⟨b, i * 7 + 1 + 3, none⟩ = some (.int .i64 (m.fr : Nat)) ∧ W.cell? ⟨b, i * 7 + 1 + 4, none⟩ = some (.int .i64 (m.en : Nat)) ∧ W.cell? ⟨b, i * 7 + 1 + 5, none⟩ = some (.int .i64 (m.la : Nat)) :=
  ⟨h i S m hm 0 _ rfl, h i S m hm 1 _ rfl, h i S m hm 2 _ rfl, h i S m hm 3 _ rfl, h i S m hm 4 _ rfl, h i S m hm 5 _ rfl, h i S m hm 6 _ rfl⟩
/-- What a table's rows tell, tried one by one. -/
def okT (f : List Nat → Mk × Bool) (b : Mk → Bool) (T : List (ByteArray × Mk)) : Prop := ∀ (i : Nat) (S : ByteArray) (m : Mk), T[i]? = some (S, m) → S.size ≤ 1000 ∧ f (restL (bl S) 0) = (m, b m)
theorem okT_nil (f : List Nat → Mk × Bool) (b : Mk → Bool) : okT f b [] := fun i S m h => by simp at h
theorem okT_cons {f : List Nat → Mk × Bool} {b : Mk → Bool} {T : List (ByteArray × Mk)} {S : ByteArray} {m : Mk} (h1 : S.size ≤ 1000) (h2 : f (restL (bl S) 0) = (m, b m)) (h : okT f b T) : okT f b ((S, m) :: T) := fun i S' m' hi => by
  cases i with
  | zero =>
    have hi : (S, m) = (S', m') := by simpa using hi
    injection hi with e1 e2
    subst e1 e2
    exact ⟨h1, h2⟩
  | succ i => exact h i S' m' (by simpa using hi)
end Go.Proofs.YtopdbilkpkgccaaDoor
