/- Ends of ranges as memory holds them. -/
import Derived.Test.YtbgdphjjepbafaaSTurn
import Derived.Test.YtbgdphjjepbafaaSFun
import Derived.Test.YtbgdphjjepbafaaSEnds
import Derived.RangeFuncBox
namespace Go.Proofs.Ytbgdphjjepbafaa
open Go.RowKit

theorem infoEnd : (Try.prog.info? 58).map (fun i => (i.zero, i.size, i.bytes)) = some (some (.agg #[.int .i64 0, .int .i64 0, .int .i64 0]), 3, 24) := by kernel_rfl
def encEv (e : Ev) : List Value := [.int .i64 e.1, .int .i64 e.2.1, .int .i64 e.2.2]
def evCells : List Ev → List Value
  | [] => []
  | e :: t => .int .i64 e.1 :: .int .i64 e.2.1 :: .int .i64 e.2.2 :: evCells t
theorem evCells_len : ∀ E : List Ev, (evCells E).length = E.length * 3
  | [] => rfl
  | e :: t => by show (evCells t).length + 1 + 1 + 1 = (t.length + 1) * 3; rw [evCells_len t]; omega
theorem evCells_append : ∀ E F : List Ev, evCells (E ++ F) = evCells E ++ evCells F
  | [], _ => rfl
  | e :: t, F => by
    show Value.int .i64 e.1 :: .int .i64 e.2.1 :: .int .i64 e.2.2 :: evCells (t ++ F) = _
    rw [evCells_append t F]
    rfl
theorem evCells_at : ∀ (E : List Ev) (i : Nat) (h : i < E.length), (evCells E)[i * 3]? = some (.int .i64 (E[i]'h).1) ∧ (evCells E)[i * 3 + 1]? = some (.int .i64 (E[i]'h).2.1) ∧ (evCells E)[i * 3 + 2]? = some (.int .i64 (E[i]'h).2.2)
  | e :: t, 0, _ => ⟨rfl, rfl, rfl⟩
  | e :: t, i + 1, h => by
    have := evCells_at t i (by simpa using h)
    rw [show (i + 1) * 3 = i * 3 + 1 + 1 + 1 from by omega]
    exact this
theorem evCells_one (E : List Ev) : ∀ u ∈ evCells E, u.oneCell' = true := by
  induction E with
  | nil => intro u h; cases h
  | cons r t ih =>
    intro u h
    rcases List.mem_cons.1 h with e | h
    · subst e; rfl
    rcases List.mem_cons.1 h with e | h
    · subst e; rfl
    rcases List.mem_cons.1 h with e | h
    · subst e; rfl
    · exact ih u h
/-- The cells of a list of ends. -/
structure EvAt (w : World) (g : Nat) (E : List Ev) : Prop where
  ex : ∃ cs : Array Value, w.heap[g]? = some (.cells cs 58 (0, 0)) ∧ ∀ i (h : i < E.length), cs[i * 3]? = some (.int .i64 (E[i]'h).1) ∧ cs[i * 3 + 1]? = some (.int .i64 (E[i]'h).2.1) ∧ cs[i * 3 + 2]? = some (.int .i64 (E[i]'h).2.2)
theorem EvAt.of_heap {w w' : World} {g : Nat} {E : List Ev} (h : EvAt w g E) (he : ∀ cs, w.heap[g]? = some (.cells cs 58 (0, 0)) → w'.heap[g]? = some (.cells cs 58 (0, 0))) : EvAt w' g E := by
  obtain ⟨cs, h1, h2⟩ := h.ex
  exact ⟨cs, he cs h1, h2⟩
theorem EvAt.lt {w : World} {g : Nat} {E : List Ev} (h : EvAt w g E) : g < w.heap.size := by
  obtain ⟨cs, h1, -⟩ := h.ex
  exact (Array.getElem?_eq_some_iff.1 h1).1
theorem EvAt.at_ {w : World} {g : Nat} {E : List Ev} (h : EvAt w g E) (i : Nat) (hi : i < E.length) : w.cell? ⟨g, i * 3, none⟩ = some (.int .i64 (E[i]'hi).1) ∧ w.cell? ⟨g, i * 3 + 1, none⟩ = some (.int .i64 (E[i]'hi).2.1) ∧ w.cell? ⟨g, i * 3 + 2, none⟩ = some (.int .i64 (E[i]'hi).2.2) := by
  obtain ⟨cs, h1, h2⟩ := h.ex
  obtain ⟨a, b, c⟩ := h2 i hi
  exact ⟨by simp [World.cell?, h1, a], by simp [World.cell?, h1, b], by simp [World.cell?, h1, c]⟩
theorem EvAt.keep {w w' : World} {B g : Nat} {E : List Ev} (h : EvAt w g E) (hu : Below B w w') (hB : g < B) : EvAt w' g E := h.of_heap fun _ e => (Below.block hu g hB).trans e
theorem EvAt.up {w w' : World} {g : Nat} {E : List Ev} (h : EvAt w g E) (hu : Up w w') : EvAt w' g E := h.keep hu h.lt
theorem owns_some {w : World} {B k n : Nat} {T : TypeId} {v : Value} {xs : List Value} (h : w.ownsRow B T k v n xs) (hn : 0 < n) : ∃ g c, v = .slice (some ⟨g, 0, none⟩) n c := by
  rcases h.2 with ⟨-, h0⟩ | ⟨g, cap, cur, rfl, -⟩
  · omega
  · exact ⟨g, cap, rfl⟩
end Go.Proofs.Ytbgdphjjepbafaa
