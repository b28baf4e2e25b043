/- Trees as lists: the open nodes, plain facts. -/
import Derived.Test.YtkkefgbmdghklaaTInts
import Derived.Deep.AppendLies
import Derived.Deep.CutBlock
namespace Go.Proofs.Ytkkefgbmdghklaa
open Go.RowKit

/-- How far the nodes that are open reach, of each depth; of the root none is asked. -/
def reach (L : List Nd) (i : Nat) : List Int := 0 :: ((st L i).drop 1).map fun k => (nd L k).2.2.1
def idx (L : List Nd) (i : Nat) : List Int := (st L i).map fun (k : Nat) => (k : Int)
theorem nds_nd {w : World} {A : Option Addr} {n : Nat} {L : List Nd} (h : Nds w A n L) (i : Nat) (hi : i < n) : ∃ b o, A = some ⟨b, o, none⟩ ∧ b < w.heap.size ∧ w.cell? ⟨b, o + i * 4, none⟩ = some (.int .u8 (nd L i).1) ∧ w.cell? ⟨b, o + i * 4 + 1, none⟩ = some (.int .i64 (nd L i).2.1) ∧ w.cell? ⟨b, o + i * 4 + 2, none⟩ = some (.int .i64 (nd L i).2.2.1) ∧ w.cell? ⟨b, o + i * 4 + 3, none⟩ = some (.int .i64 (nd L i).2.2.2) := by
  have hl := h.len
  obtain ⟨b, o, h1⟩ := h.at_ i (by omega)
  rw [nd_eq] at h1
  exact ⟨b, o, h1⟩
theorem nd_ok {L : List Nd} (h : ∀ x ∈ L, NdOk x) (i : Nat) : NdOk (nd L i) := by
  by_cases hi : i < L.length
  · rw [← nd_eq hi]
    exact h _ (List.getElem_mem hi)
  · have : nd L i = (0, 0, 0, 0) := by
      unfold nd
      rw [List.getD_eq_getElem?_getD, List.getElem?_eq_none (by omega)]
      rfl
    rw [this]
    exact ⟨by decide, by decide, by decide, by decide⟩
theorem heap_new2 (w : World) (x y : Obj) : ((w.alloc x).alloc y).heap[w.heap.size + 1]? = some y := by
  have := Go.heap_alloc_new (w.alloc x) y
  rwa [World.size_alloc] at this
theorem rowI_lit (w : World) (x : Int) : RowI (w.alloc (.cells #[.int .i64 x] 3)) w.heap.size (.slice (some ⟨w.heap.size, 0, none⟩) 1 1) [x] :=
  ⟨rfl, .inr ⟨w.heap.size, 1, #[.int .i64 x], rfl, Nat.le_refl _, Go.heap_alloc_new _ _, Nat.le_refl _, by unfold maxLen; omega, rfl, rfl⟩⟩
theorem rowI_cell {w : World} {B g m c : Nat} {o : List Int} (h : RowI w B (.slice (some ⟨g, 0, none⟩) m c) o) {j : Nat} {z : Int} (hj : o[j]? = some z) : w.cell? ⟨g, j, none⟩ = some (.int .i64 z) := by
  obtain ⟨A, c', e, h1⟩ := h.form
  obtain ⟨hlt, hz⟩ := List.getElem?_eq_some_iff.1 hj
  obtain ⟨g', hA, -, hc⟩ := h1 j hlt
  injection e with e1
  rw [hA] at e1
  injection e1 with e1
  injection e1 with e1
  subst e1
  rw [hz] at hc
  exact hc
theorem rowI_fz {w : World} {B g m c : Nat} {o : List Int} (h : RowI w B (.slice (some ⟨g, 0, none⟩) m c) o) (j : Nat) : w.frozen? ⟨g, j, none⟩ = false := by
  rcases h.2 with ⟨e, -⟩ | ⟨g', cap, cur, e, h1, h2, -⟩
  · cases e
  · injection e with e1
    injection e1 with e1
    injection e1 with e1
    subst e1
    exact frozenOf h2
theorem rowI_lt {w : World} {B g m c : Nat} {o : List Int} (h : RowI w B (.slice (some ⟨g, 0, none⟩) m c) o) : B ≤ g ∧ g < w.heap.size ∧ m = o.length ∧ m ≤ c := by
  rcases h.2 with ⟨e, -⟩ | ⟨g', cap, cur, e, h1, h2, h3, -⟩
  · cases e
  · injection e with e1 e2 e3
    injection e1 with e1
    injection e1 with e1
    subst e1
    exact ⟨h1, (Array.getElem?_eq_some_iff.1 h2).1, e2, by omega⟩
theorem st_first (L : List Nd) : ∀ i, (∀ q, q < i → okA L q) → ∃ P, st L i = 0 :: P
  | 0, _ => ⟨[], rfl⟩
  | i + 1, h => by
    obtain ⟨P, hP⟩ := st_first L i (fun q hq => h q (by omega))
    obtain ⟨h1, -⟩ := h i (by omega)
    obtain ⟨d, hd⟩ : ∃ d, (dep L (i + 1)).toNat = d + 1 := ⟨(dep L (i + 1)).toNat - 1, by omega⟩
    rw [st_succ, hd, hP]
    exact ⟨_, rfl⟩
theorem idx_len (L : List Nd) (i : Nat) : (idx L i).length = (st L i).length := List.length_map ..
theorem reach_len (L : List Nd) (i : Nat) : (reach L i).length = (st L i).length := by
  obtain ⟨P, hP⟩ := st_last L i
  unfold reach
  rw [List.length_cons, List.length_map, List.length_drop, hP, List.length_append, List.length_singleton]
  omega
theorem st_lenle (L : List Nd) : ∀ i, (st L i).length ≤ i + 1
  | 0 => Nat.le_refl _
  | i + 1 => by
    have := st_lenle L i
    rw [st_succ, List.length_append, List.length_take, List.length_singleton]
    omega
theorem idx_at {L : List Nd} {i k : Nat} (h : k < (st L i).length) : (idx L i)[k]? = some (((st L i).getD k 0 : Nat) : Int) := by
  unfold idx
  rw [List.getElem?_map, List.getD_eq_getElem?_getD, List.getElem?_eq_getElem h]
  rfl
theorem reach_at {L : List Nd} {i k : Nat} (h : k < (st L i).length) (h1 : 1 ≤ k) : (reach L i)[k]? = some (nd L ((st L i).getD k 0)).2.2.1 := by
  obtain ⟨q, rfl⟩ : ∃ q, k = q + 1 := ⟨k - 1, by omega⟩
  show (((st L i).drop 1).map fun k => (nd L k).2.2.1)[q]? = _
  rw [List.getElem?_map, List.getElem?_drop, Nat.add_comm 1 q, List.getD_eq_getElem?_getD, List.getElem?_eq_getElem h]
  rfl
theorem setCell_grown (w : World) (K j : Nat) (u : Value) : w.grownBy (w.setCell ⟨K, j, none⟩ u) (some K) := by
  have hb := Below.setCell (Below.refl K w) (p := ⟨K, j, none⟩) (Nat.le_refl _) u
  refine ⟨Below.os hb, Below.tape hb, Below.output hb, Below.size hb, fun k _ hne => ?_⟩
  have hk : K ≠ k := fun e => hne (by rw [e])
  simp [World.setCell, Array.getElem?_modify, hk]
theorem inCells_set (o : List Int) (k : Nat) (x : Int) : (inCells o).set k (.int .i64 x) = inCells (o.set k x) := by
  unfold inCells
  rw [List.map_set]
theorem take_set {o : List Int} {k : Nat} {x : Int} (h : k < o.length) : (o.take (k + 1)).set k x = o.take k ++ [x] := by
  rw [List.take_succ_eq_append_getElem h]
  rw [List.set_append_right _ _ (by rw [List.length_take]; omega)]
  rw [List.length_take, show k - min k o.length = 0 from by omega]
  rfl
theorem idx_next {L : List Nd} {j E : Nat} (hd : dep L (j + 1) = (E : Int) + 1) : idx L (j + 1) = (idx L j).take (E + 1) ++ [(j : Int) + 1] := by
  unfold idx
  rw [st_succ, hd, show ((E : Int) + 1).toNat = E + 1 from by omega, List.map_append, List.map_take]
  rfl
theorem reach_app {L : List Nd} {j E : Nat} {x0 x1 x2 x3 : Int} (hx : nd L (j + 1) = (x0, x1, x2, x3)) (hd : dep L (j + 1) = (E : Int) + 1) (hq : ∀ q, q < j → okA L q) : reach L (j + 1) = (reach L j).take (E + 1) ++ [x2] := by
  obtain ⟨P, hP⟩ : ∃ P, st L j = 0 :: P := st_first L j hq
  unfold reach
  rw [st_succ, hd, show ((E : Int) + 1).toNat = E + 1 from by omega, hP]
  show 0 :: ((0 :: P.take E ++ [j + 1]).drop 1).map _ = (0 :: ((0 :: P).drop 1).map _).take (E + 1) ++ [x2]
  simp [hx]
theorem reach_next {L : List Nd} {j E : Nat} {x0 x1 x2 x3 : Int} (hx : nd L (j + 1) = (x0, x1, x2, x3)) (hd : dep L (j + 1) = (E : Int) + 1) (hq : ∀ q, q < j → okA L q) (hk : E + 1 < (st L j).length) : reach L (j + 1) = ((reach L j).take (E + 1 + 1)).set (E + 1) x2 := by
  rw [reach_app hx hd hq, take_set (by rw [reach_len]; exact hk)]
/-- A call that tells whether something is so. -/
def SaysB (P : Prop) (w : World) (e : Ending) (w' : World) : Prop := (∃ b, e = .returned (.bool b) ∧ (b = true ↔ P)) ∧ Up w w'
theorem saysB_no {P : Prop} {w w' : World} (h : ¬ P) (hu : Up w w') : SaysB P w (.returned (.bool false)) w' := ⟨⟨_, rfl, ⟨fun h => by (cases h), fun k => absurd k h⟩⟩, hu⟩
theorem saysB_yes {P : Prop} {w w' : World} (h : P) (hu : Up w w') : SaysB P w (.returned (.bool true)) w' := ⟨⟨_, rfl, ⟨fun _ => h, fun _ => rfl⟩⟩, hu⟩
/-- A list is well laid as far as node n. -/
def Good (L : List Nd) (n : Nat) : Prop := dep L 0 = 0 ∧ ∀ j, j + 1 < n → okA L j
theorem Good.ok {L : List Nd} {n i : Nat} (h : Good L n) (hi : i < n) : ∀ j, j < i → okA L j := fun j hj => h.2 j (by omega)
theorem IsT.good {L : List Nd} {m : Int} (h : IsT L m) : Good L L.length := ⟨by unfold dep; rw [h.root], h.ok⟩
theorem Good.len {L : List Nd} {n i : Nat} (h : Good L n) (hi : i < n) : ((st L i).length : Int) = dep L i + 1 ∧ 0 ≤ dep L i := st_len h.1 (h.ok hi)
/-- An open node's own open nodes are those ahead; behind it all lies deeper. -/
theorem st_sub {L : List Nd} {n : Nat} (h : Good L n) : ∀ {i : Nat}, i < n → ∀ (k x : Nat), (st L i)[k]? = some x → st L x = (st L i).take (k + 1) ∧ x ≤ i ∧ ∀ y, x < y → y ≤ i → (k : Int) < dep L y
  | 0, _, k, x, hx => by
    have hk : k = 0 ∧ x = 0 := by
      match k, hx with
      | 0, hx => exact ⟨rfl, by simpa [st] using hx.symm⟩
    obtain ⟨rfl, rfl⟩ := hk
    exact ⟨rfl, Nat.le_refl _, fun y h1 h2 => by omega⟩
  | i + 1, hi, k, x, hx => by
    obtain ⟨h1, h2⟩ := h.len (show i < n by omega)
    obtain ⟨h3, h4, -⟩ := h.2 i hi
    have hl : ((st L i).take (dep L (i + 1)).toNat).length = (dep L (i + 1)).toNat := by rw [List.length_take]; omega
    rw [st_succ, List.getElem?_append, hl] at hx
    by_cases hk : k < (dep L (i + 1)).toNat
    · rw [if_pos hk, List.getElem?_take, if_pos hk] at hx
      obtain ⟨e1, e2, e3⟩ := st_sub h (show i < n by omega) k x hx
      refine ⟨?_, by omega, fun y hy1 hy2 => ?_⟩
      · rw [e1, st_succ, List.take_append_of_le_length (by rw [hl]; omega), List.take_take, show min (k + 1) (dep L (i + 1)).toNat = k + 1 from by omega]
      · by_cases hy : y ≤ i
        · exact e3 y hy1 hy
        · obtain rfl : y = i + 1 := by omega
          omega
    · rw [if_neg hk] at hx
      have hk2 : k - (dep L (i + 1)).toNat = 0 := by
        rcases Nat.eq_zero_or_pos (k - (dep L (i + 1)).toNat) with e | e
        · exact e
        · rw [List.getElem?_eq_none (by simp; omega)] at hx; cases hx
      rw [hk2] at hx
      have hx2 : i + 1 = x := by simpa using hx
      subst hx2
      refine ⟨?_, Nat.le_refl _, fun y h5 h6 => by omega⟩
      rw [List.take_of_length_le]
      rw [st_succ, List.length_append, hl, List.length_singleton]
      omega
end Go.Proofs.Ytkkefgbmdghklaa
