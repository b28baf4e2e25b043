/- What a builder tells: the program's New, Open, Far and Done. -/
import Derived.Test.YtkkefgbmdghklaaBPut
namespace Go.Proofs.Ytkkefgbmdghklaa
open Go.RowKit

/-- Put, at any place. -/
theorem put_full (w : World) (bb : Nat) (G : Nat → Prop) (k : Int) (b : Bs) (hb : BAt w bb G k b) (hG0 : ∀ i, w.heap.size ≤ i → G i) (hok : BOk b) (A : Option Addr) (n c : Nat) (L : List Ev) (hL : Evs w A n L) (hc : n ≤ c) (hA : ∀ a, A = some a → 0 < n → a.block < w.heap.size → ¬ G a.block) (hev : ∀ e ∈ L, EvOk e)
    (hn : b.N.length + n ≤ 1000000) (at_ : Int) :
    Calls Try.prog 8 #[.pointer (some ⟨bb, 0, none⟩), .slice A n c, .int .i64 at_] w fun e w' => e = .returned (.int .i64 (putE at_ b L)) ∧ BAt w' bb G k (putB at_ b L) ∧ Turn G w w' := by
  by_cases h : at_ < 0 ∨ 1048576 < at_
  · refine (put_arg w bb A n c at_ h).mono ?_
    rintro e w' ⟨rfl, rfl⟩
    unfold putB putE
    rw [if_pos h, if_neg (by decide)]
    exact ⟨rfl, hb, Turn.refl _ _⟩
  · refine (put_any w bb G k b hb hG0 hok A n c L hL hc hA hev hn at_ (by omega)).mono ?_
    rintro e w' ⟨rfl, h1, h2⟩
    unfold putB putE
    rw [if_neg h]
    exact ⟨rfl, h1, h2⟩
set_option maxRecDepth 100000 in
set_option maxHeartbeats 1000000 in
theorem new_any (w : World) (k : Int) : Calls Try.prog 13 #[.int .u8 k] w fun e w' => e = .returned (.pointer (some ⟨w.heap.size, 0, none⟩)) ∧ BAt w' w.heap.size (fun i => i = w.heap.size) k Bs.new ∧ Up w w' ∧ w'.heap.size = w.heap.size + 1 := by
  go_enter Try.func13, Try.ntmps13
  go_wp2
  go_ret
  refine ⟨rfl, ⟨.slice none 0 0, .slice none 0 0, [], ⟨Go.heap_alloc_new _ _, World.ownsRow_nil _ _ _ _, World.ownsRow_nil _ _ _ _, fun g h => (by cases h), rfl, List.nodup_nil, fun i h => (by cases h)⟩, fun i h => ?_⟩, Up.alloc _ _, by simp⟩
  rcases h with h | h | h | h
  · exact h
  · cases h
  · cases h
  · cases h
set_option maxRecDepth 100000 in
set_option maxHeartbeats 1000000 in
theorem open_any (w : World) (bb : Nat) (G : Nat → Prop) (k : Int) (b : Bs) (hb : BAt w bb G k b) : Calls Try.prog 9 #[.pointer (some ⟨bb, 0, none⟩)] w fun e w' => e = .returned (.int .i64 (b.O.length : Nat)) ∧ w = w' := by
  obtain ⟨A, c, -, c2⟩ := hb.cells
  clear hb
  go_enter Try.func9, Try.ntmps9
  go_wp2
  go_ret
  exact ⟨rfl, rfl⟩
set_option maxRecDepth 100000 in
set_option maxHeartbeats 1000000 in
theorem far_any (w : World) (bb : Nat) (G : Nat → Prop) (k : Int) (b : Bs) (hb : BAt w bb G k b) : Calls Try.prog 10 #[.pointer (some ⟨bb, 0, none⟩)] w fun e w' => e = .returned (.int .i64 b.far) ∧ w = w' := by
  obtain ⟨A, c, c3, -⟩ := hb.cells
  clear hb
  go_enter Try.func10, Try.ntmps10
  go_wp2
  go_ret
  exact ⟨rfl, rfl⟩
set_option maxRecDepth 100000 in
set_option maxHeartbeats 1000000 in
theorem open_nil (w : World) : Calls Try.prog 9 #[.pointer none] w fun e w' => e = .returned (.int .i64 0) ∧ w = w' := by
  go_enter Try.func9, Try.ntmps9
  go_wp2
  go_ret
  exact ⟨rfl, rfl⟩
set_option maxRecDepth 100000 in
set_option maxHeartbeats 1000000 in
theorem far_nil (w : World) : Calls Try.prog 10 #[.pointer none] w fun e w' => e = .returned (.int .i64 0) ∧ w = w' := by
  go_enter Try.func10, Try.ntmps10
  go_wp2
  go_ret
  exact ⟨rfl, rfl⟩
set_option maxRecDepth 100000 in
set_option maxHeartbeats 1000000 in
theorem done_nil (w : World) (n : Int) : Calls Try.prog 7 #[.pointer none, .int .i64 n] w fun e w' => e = .returned (.tuple #[.slice none 0 0, .int .i64 8]) ∧ w = w' := by
  go_enter Try.func7, Try.ntmps7
  go_wp2
  go_ret2
  exact ⟨rfl, rfl⟩
set_option maxRecDepth 100000 in
set_option maxHeartbeats 1000000 in
theorem done_order (w : World) (bb : Nat) (G : Nat → Prop) (k : Int) (b : Bs) (hb : BAt w bb G k b) (n : Int) (h : n < b.far ∨ 1048576 < n) : Calls Try.prog 7 #[.pointer (some ⟨bb, 0, none⟩), .int .i64 n] w fun e w' => e = .returned (.tuple #[.slice none 0 0, .int .i64 70]) ∧ w = w' := by
  obtain ⟨A, c, c3, -⟩ := hb.cells
  clear hb
  by_cases h1 : n < b.far
  · clear h
    go_enter Try.func7, Try.ntmps7
    go_wp2
    go_ret2
    exact ⟨rfl, rfl⟩
  · have h2 : 1048576 < n := by omega
    have f1 : decide (n < b.far) = false := decide_eq_false h1
    clear h h1
    go_enter Try.func7, Try.ntmps7
    go_wp2
    go_ret2
    exact ⟨rfl, rfl⟩
/-- The nodes that are open, from a number on. -/
def rem (O : List Nat) (i : Nat) : List Nat := O.filter fun x => decide (i ≤ x)
theorem rem_zero (O : List Nat) : rem O 0 = O := by
  unfold rem
  rw [List.filter_eq_self]
  intro x _
  simp
theorem rem_step : ∀ {O : List Nat} {i : Nat}, O.Pairwise (· < ·) → (i ∈ O → rem O i = i :: rem O (i + 1)) ∧ (i ∉ O → rem O i = rem O (i + 1))
  | [], i, _ => ⟨fun h => (by cases h), fun _ => rfl⟩
  | a :: t, i, h => by
    rw [List.pairwise_cons] at h
    obtain ⟨h1, h2⟩ := rem_step (O := t) (i := i) h.2
    unfold rem at h1 h2 ⊢
    rw [List.filter_cons, List.filter_cons]
    by_cases e : i = a
    · subst e
      have hn : i ∉ t := fun hm => Nat.lt_irrefl _ (h.1 i hm)
      have e1 := h2 hn
      refine ⟨fun _ => ?_, fun hm => absurd List.mem_cons_self hm⟩
      rw [if_pos (by simp), if_neg (by simp), e1]
    · by_cases hi : i ≤ a
      · have h5 : i + 1 ≤ a := by omega
        have hn : i ∉ t := fun hm => by have := h.1 i hm; omega
        refine ⟨fun hm => ?_, fun _ => ?_⟩
        · rcases List.mem_cons.1 hm with h6 | h6
          · exact absurd h6 e
          · exact absurd h6 hn
        · rw [if_pos (by simpa using hi), if_pos (by simpa using h5), h2 hn]
      · rw [if_neg (by simpa using hi), if_neg (by simp; omega)]
        refine ⟨fun hm => ?_, fun hm => ?_⟩
        · rcases List.mem_cons.1 hm with h6 | h6
          · exact absurd h6 e
          · exact h1 h6
        · exact h2 (fun h6 => hm (List.mem_cons_of_mem _ h6))
/-- Pointers, from an address on. -/
def PtrAt (w : World) (A : Option Addr) (R : List Nat) : Prop := ∀ j (h : j < R.length), ∃ g o, A = some ⟨g, o, none⟩ ∧ w.cell? ⟨g, o + j, none⟩ = some (.pointer (some ⟨R[j], 0, none⟩))
theorem PtrAt.up {w w' : World} {A : Option Addr} {R : List Nat} (h : PtrAt w A R) (hu : Up w w') : PtrAt w' A R := fun j hj => by
  obtain ⟨g, o, h1, h2⟩ := h j hj
  exact ⟨g, o, h1, cell_up hu h2⟩
theorem toldN_len (k n : Int) (b : Bs) : (told k n b).length = b.N.length + 1 := by
  unfold told
  rw [List.length_cons, List.length_mapIdx]
theorem told_take {k n : Int} {b : Bs} {i : Nat} (h : i < b.N.length) : (told k n b).take (i + 1 + 1) = (told k n b).take (i + 1) ++ [finN n b.O i (nd b.N i)] := by
  rw [List.take_succ_eq_append_getElem (by rw [toldN_len]; omega)]
  congr 2
  unfold told
  rw [List.getElem_cons_succ, List.getElem_mapIdx, nd_eq]
end Go.Proofs.Ytkkefgbmdghklaa
