/- The document's table of states. -/
import Derived.Test.YtjdcbbleefepoaaISt
import Derived.Test.YtjdcbbleefepoaaITurn
import Derived.Deep.AppendLies
namespace Go.Proofs.Ytjdcbbleefepoaa
open Go.RowKit

/-- The cells of a row of states. -/
def rows (L : List (Array Value)) : List Value := (L.map (·.toList)).flatten
theorem rows_len {L : List (Array Value)} (h : ∀ x ∈ L, IsS x) : (rows L).length = L.length * 82 := by
  induction L with
  | nil => rfl
  | cons x r ih =>
    have h1 : (rows (x :: r)).length = x.size + (rows r).length := by simp [rows]
    rw [h1, ih fun y hy => h y (List.mem_cons_of_mem _ hy), (h x (List.mem_cons_self ..)).size, List.length_cons]
    omega
theorem rows_snoc (L : List (Array Value)) (x : Array Value) : rows (L ++ [x]) = rows L ++ x.toList := by simp [rows]
theorem rows_at {L : List (Array Value)} (h : ∀ x ∈ L, IsS x) : ∀ (i : Nat) (hi : i < L.length) (j : Nat) (v : Value), (L[i]).toList[j]? = some v → (rows L)[i * 82 + j]? = some v := by
  induction L with
  | nil => intro i hi; exact absurd hi (Nat.not_lt_zero _)
  | cons x r ih =>
    intro i hi j v hv
    have hs := (h x (List.mem_cons_self ..)).size
    have hr : rows (x :: r) = x.toList ++ rows r := by simp [rows]
    cases i with
    | zero =>
      have hv' : x.toList[j]? = some v := hv
      have hj : j < x.toList.length := (List.getElem?_eq_some_iff.1 hv').1
      rw [hr, Nat.zero_mul, Nat.zero_add, List.getElem?_append_left hj]
      exact hv'
    | succ i =>
      have hv' : (r[i]'(by simpa using hi)).toList[j]? = some v := hv
      rw [hr, List.getElem?_append_right (by simp [hs]; omega)]
      have := ih (fun y hy => h y (List.mem_cons_of_mem _ hy)) i (by simpa using hi) j v hv'
      rw [← this]
      congr 1
      simp [hs]
      omega
/-- A row of states in memory. -/
theorem row_range {W : World} {base : Nat} {v : Value} {L : List (Array Value)} (h : W.ownsRow base TS 82 v L.length (rows L)) (hS : ∀ x ∈ L, IsS x) (i : Nat) (hi : i < L.length) : ∃ g cap, v = .slice (some ⟨g, 0, none⟩) L.length cap ∧ base ≤ g ∧ g < W.heap.size ∧ W.rangeAt g (i * 82) (L[i]).toList := by
  rcases h.2 with ⟨-, h0⟩ | ⟨g, cap, cur, hv, hb, hg, hn, -, hsz, htake⟩
  · omega
  · refine ⟨g, cap, hv, hb, (Array.getElem?_eq_some_iff.1 hg).1, fun j u hu => ?_⟩
    have h1 := rows_at hS i hi j u hu
    have hlen := rows_len hS
    have hj : i * 82 + j < (rows L).length := (List.getElem?_eq_some_iff.1 h1).1
    rw [← htake, List.getElem?_take] at h1
    rw [hlen] at hj
    rw [if_pos hj] at h1
    exact cellOf hg (by simpa using h1)
/-- Where a state stands in a list; how many it has, if nowhere. -/
noncomputable def fI (L : List (Array Value)) (x : Array Value) : Nat := L.findIdx (fun y => eqS y x)
noncomputable def fB (L : List (Array Value)) (x : Array Value) : Bool := decide (fI L x < L.length)
noncomputable def fE (L : List (Array Value)) (x : Array Value) : Nat := if fI L x < L.length then fI L x else 0
theorem fI_at {L : List (Array Value)} {x : Array Value} {i : Nat} (hi : i < L.length) (h : eqS L[i] x = true) (hb : ∀ k (hk : k < i), eqS (L[k]'(by omega)) x = false) : fI L x = i := by
  unfold fI
  rw [List.findIdx_eq hi]
  exact ⟨h, fun j hj => hb j hj⟩
theorem fI_none {L : List (Array Value)} {x : Array Value} (h : ∀ k (hk : k < L.length), eqS L[k] x = false) : fI L x = L.length := by
  unfold fI
  rw [List.findIdx_eq_length]
  intro y hy
  obtain ⟨k, hk, rfl⟩ := List.getElem_of_mem hy
  exact h k hk
/-- The document's table. -/
structure RT (W : World) (base tb : Nat) (v : Value) (L : List (Array Value)) : Prop where
  lo : base ≤ tb
  box : W.heap[tb]? = some (.cells #[v] 29)
  own : W.ownsRow base TS 82 v L.length (rows L)
  apart : v.ownBlock ≠ some tb
  st : ∀ x ∈ L, IsS x
theorem owns_turn {W W' : World} {G : Nat → Prop} {base : Nat} {e : TypeId} {size : Nat} {v : Value} {n : Nat} {xs : List Value} (h : W.ownsRow base e size v n xs) (ht : Turn G W W') (hv : ∀ g, v.ownBlock = some g → ¬ G g) : W'.ownsRow base e size v n xs := by
  refine ⟨h.1, ?_⟩
  rcases h.2 with hn | ⟨g, cap, cur, rfl, hb, hg, rest⟩
  · exact .inl hn
  · exact .inr ⟨g, cap, cur, rfl, hb, (ht.block g (Array.getElem?_eq_some_iff.1 hg).1 (hv g rfl)).trans hg, rest⟩
theorem RT.turn {W W' : World} {G : Nat → Prop} {base tb : Nat} {v : Value} {L : List (Array Value)} (h : RT W base tb v L) (ht : Turn G W W') (h1 : ¬ G tb) (h2 : ∀ g, v.ownBlock = some g → ¬ G g) : RT W' base tb v L :=
  ⟨h.lo, (ht.block tb (Array.getElem?_eq_some_iff.1 h.box).1 h1).trans h.box, owns_turn h.own ht h2, h.apart, h.st⟩
theorem RT.up {W W' : World} {base tb : Nat} {v : Value} {L : List (Array Value)} (h : RT W base tb v L) (hu : Up W W') : RT W' base tb v L :=
  h.turn (.of_up (fun _ => False) hu) (fun k => k) (fun _ _ k => k)
end Go.Proofs.Ytjdcbbleefepoaa
