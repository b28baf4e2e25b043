/- Numbers in a row; lists that are the same are told to be so: the document's comparisons, the statements' own copy. -/
import Derived.Test.YtkkefgbmdghklaaTMath
namespace Go.Proofs.Ytkkefgbmdghklaa
open Go.RowKit

theorem infoInt : (Try.prog.info? 3).map (fun i => (i.zero, i.size, i.bytes)) = some (some (.int .i64 0), 1, 8) := by kernel_rfl
theorem infoNode : (Try.prog.info? 46).map (fun i => (i.zero, i.size, i.bytes)) = some (some (.agg #[.int .u8 0, .int .i64 0, .int .i64 0, .int .i64 0]), 4, 32) := by kernel_rfl
theorem inCells_at {o : List Int} {j : Nat} (h : j < o.length) : (inCells o)[j]? = some (.int .i64 o[j]) := by
  unfold inCells
  rw [List.getElem?_map, List.getElem?_eq_getElem h]
  rfl
theorem inCells_one (o : List Int) : ∀ u ∈ inCells o, u.oneCell' = true := by
  intro u hu
  unfold inCells at hu
  rw [List.mem_map] at hu
  obtain ⟨x, -, rfl⟩ := hu
  rfl
theorem inCells_append (a b : List Int) : inCells (a ++ b) = inCells a ++ inCells b := by unfold inCells; rw [List.map_append]
theorem inCells_len (a : List Int) : (inCells a).length = a.length := by unfold inCells; rw [List.length_map]
theorem RowI.form {w : World} {B : Nat} {v : Value} {o : List Int} (h : RowI w B v o) : ∃ A c, v = .slice A o.length c ∧ ∀ j (hj : j < o.length), ∃ g, A = some ⟨g, 0, none⟩ ∧ B ≤ g ∧ w.cell? ⟨g, j, none⟩ = some (.int .i64 o[j]) := by
  rcases owns_cell h with ⟨rfl, hz⟩ | ⟨g, c, rfl, hg, hw, hc⟩
  · exact ⟨none, 0, by rw [hz], fun j hj => absurd hj (by omega)⟩
  · exact ⟨_, c, rfl, fun j hj => ⟨g, rfl, hg, hc _ _ (inCells_at hj)⟩⟩
theorem RowI.take {w : World} {B g m c k : Nat} {o : List Int} (h : RowI w B (.slice (some ⟨g, 0, none⟩) m c) o) (hk : k ≤ o.length) : RowI w B (.slice (some ⟨g, 0, none⟩) k c) (o.take k) := by
  unfold RowI at h ⊢
  have hl : (o.take k).length = k := by rw [List.length_take]; omega
  rw [hl]
  refine ⟨by rw [inCells_len, hl]; omega, ?_⟩
  rcases h.2 with ⟨e, -⟩ | ⟨g', cap, cur, e, h1, h2, h3, h4, h5, h6⟩
  · cases e
  · injection e with e1 e2 e3
    injection e1 with e1
    injection e1 with e1
    subst e1 e3
    refine .inr ⟨g, c, cur, rfl, h1, h2, by omega, h4, h5, ?_⟩
    have e6 : (cur.toList.take (o.length * 1)).take k = (inCells o).take k := by rw [h6]
    rw [List.take_take, show min k (o.length * 1) = k * 1 from by omega] at e6
    rw [e6]
    unfold inCells
    rw [List.map_take]
theorem owns_cap {w : World} {B m c : Nat} {a : Addr} {k n : Nat} {xs : List Value} {T : TypeId} (h : w.ownsRow B T k (.slice (some a) m c) n xs) : n ≤ c := by
  rcases h.2 with ⟨e, -⟩ | ⟨g', cap, cur, e, h1, h2, h3, h4, h5, h6⟩
  · cases e
  · injection e with e1 e2 e3
    subst e3
    exact h3
theorem owns_set {w : World} {B g n c k j : Nat} {T : TypeId} {xs : List Value} {u : Value} (h : w.ownsRow B T k (.slice (some ⟨g, 0, none⟩) n c) n xs) (_ : j < xs.length) : (w.setCell ⟨g, j, none⟩ u).ownsRow B T k (.slice (some ⟨g, 0, none⟩) n c) n (xs.set j u) := by
  refine ⟨by rw [List.length_set]; exact h.1, ?_⟩
  rcases h.2 with ⟨e, -⟩ | ⟨g', cap, cur, e, h1, h2, h3, h4, h5, h6⟩
  · cases e
  · injection e with e1 e2 e3
    injection e1 with e1
    injection e1 with e1
    subst e1 e3
    refine .inr ⟨g, c, cur.setIfInBounds j u, rfl, h1, ?_, h3, h4, by simpa using h5, ?_⟩
    · simp [World.setCell, Array.getElem?_modify, h2]
    · rw [Array.toList_setIfInBounds, ← h6, List.take_set]
theorem owns_fz {w : World} {B n c k : Nat} {g : Nat} {T : TypeId} {xs : List Value} (h : w.ownsRow B T k (.slice (some ⟨g, 0, none⟩) n c) n xs) (j : Nat) : w.frozen? ⟨g, j, none⟩ = false := by
  rcases h.2 with ⟨e, -⟩ | ⟨g', cap, cur, e, h1, h2, -⟩
  · cases e
  · injection e with e1 e2 e3
    injection e1 with e1
    injection e1 with e1
    subst e1
    exact frozenOf h2
theorem own_base {W : World} {N z m : Nat} {v : Value} {xs : List Value} {e : TypeId} {k : Nat} (hr : W.ownsRow N e z v m xs) (hk : v.ownBlock = some k) : N ≤ k := by
  rcases hr.2 with ⟨rfl, _⟩ | ⟨g, cap, cur, rfl, h1, _⟩
  · cases hk
  · obtain rfl : g = k := by simpa [Value.ownBlock] using hk
    exact h1
theorem rowI_up {w w' : World} {B : Nat} {v : Value} {o : List Int} (h : RowI w B v o) (hu : Up w w') : RowI w' B v o := World.ownsRow.kept h (Up.grownBy hu) (by cases hv : Value.ownBlock _ <;> simp)
theorem rowN_up {w w' : World} {B : Nat} {v : Value} {o : List Nd} (h : RowN w B v o) (hu : Up w w') : RowN w' B v o := World.ownsRow.kept h (Up.grownBy hu) (by cases hv : Value.ownBlock _ <;> simp)
end Go.Proofs.Ytkkefgbmdghklaa
