/- A builder as memory holds it; what a call may turn; lists of events. -/
import Derived.Test.YtkkefgbmdghklaaBMath
import Derived.Test.YtkkefgbmdghklaaBCheck
import Derived.RangeFuncBox
namespace Go.Proofs.Ytkkefgbmdghklaa
open Go.RowKit

/-- Only blocks of G may have turned. -/
structure Turn (G : Nat → Prop) (w w' : World) : Prop where
  os : w'.os = w.os
  tape : w'.tape = w.tape
  output : w'.output = w.output
  size : w.heap.size ≤ w'.heap.size
  block : ∀ k, k < w.heap.size → ¬ G k → w'.heap[k]? = w.heap[k]?
section
variable {G G' : Nat → Prop} {a b c w w' : World}
theorem Turn.refl (G : Nat → Prop) (w : World) : Turn G w w := ⟨rfl, rfl, rfl, Nat.le_refl _, fun _ _ _ => rfl⟩
theorem Turn.trans (h : Turn G a b) (k : Turn G b c) : Turn G a c :=
  ⟨k.os.trans h.os, k.tape.trans h.tape, k.output.trans h.output, Nat.le_trans h.size k.size, fun i hi hg => (k.block i (Nat.lt_of_lt_of_le hi h.size) hg).trans (h.block i hi hg)⟩
theorem Turn.mono (h : Turn G a b) (hG : ∀ i, i < a.heap.size → G i → G' i) : Turn G' a b := ⟨h.os, h.tape, h.output, h.size, fun i hi hg => h.block i hi (fun k => hg (hG i hi k))⟩
theorem Turn.of_up (G : Nat → Prop) (h : Up a b) : Turn G a b := ⟨Below.os h, Below.tape h, Below.output h, Below.size h, fun k hk _ => Below.block h k hk⟩
theorem Turn.up (h : Turn G a b) (hG : ∀ i, i < a.heap.size → ¬ G i) : Up a b := ⟨h.os, h.tape, h.output, h.size, fun k hk => h.block k hk (hG k hk)⟩
theorem Turn.below {B : Nat} (h : Turn G a b) (hB : B ≤ a.heap.size) (hG : ∀ i, G i → B ≤ i) : Below B a b := ⟨h.os, h.tape, h.output, h.size, fun k hk => h.block k (Nat.lt_of_lt_of_le hk hB) (fun g => by have := hG k g; omega)⟩
theorem Turn.grown {row : Option Nat} (h : a.grownBy b row) (hG : ∀ r, row = some r → r < a.heap.size → G r) : Turn G a b :=
  ⟨h.os, h.tape, h.output, h.size, fun k hk hg => h.block k hk (fun e => hg (hG k e.symm hk))⟩
theorem Turn.alloc (G : Nat → Prop) (w : World) (o : Obj) : Turn G w (w.alloc o) := .of_up G (Up.alloc w o)
theorem Turn.drew (G : Nat → Prop) (w : World) : Turn G w w.drew := .of_up G (Up.drew w)
theorem Turn.set (w : World) {K : Nat} (hK : G K) (j : Nat) (v : Value) : Turn G w (w.setCell ⟨K, j, none⟩ v) :=
  .grown (setCell_grown w K j v) fun r e _ => by injection e with e; rw [← e]; exact hK
theorem Turn.cell (h : Turn G a b) {k j : Nat} {v : Value} (hg : ¬ G k) (hc : a.cell? ⟨k, j, none⟩ = some v) : b.cell? ⟨k, j, none⟩ = some v := by
  have hb : k < a.heap.size := World.block_lt_of_cell? a ⟨k, j, none⟩ hc
  exact (World.cell?_of_block (h.block k hb hg)).trans hc
end
/-- Events, as memory holds them. -/
structure Evs (w : World) (A : Option Addr) (n : Nat) (L : List Ev) : Prop where
  len : L.length = n
  at_ : ∀ i (h : i < L.length), ∃ b o, A = some ⟨b, o, none⟩ ∧ b < w.heap.size ∧ w.cell? ⟨b, o + i * 4, none⟩ = some (.int .u8 (L[i]'h).1) ∧ w.cell? ⟨b, o + i * 4 + 1, none⟩ = some (.int .u8 (L[i]'h).2.1) ∧ w.cell? ⟨b, o + i * 4 + 2, none⟩ = some (.int .i64 (L[i]'h).2.2.1) ∧ w.cell? ⟨b, o + i * 4 + 3, none⟩ = some (.int .i64 (L[i]'h).2.2.2)
theorem Evs.up {w w' : World} {A : Option Addr} {n : Nat} {L : List Ev} (h : Evs w A n L) (hu : Up w w') : Evs w' A n L := by
  refine ⟨h.len, fun i hi => ?_⟩
  obtain ⟨b, o, h2, h3, h4, h5, h6, h7⟩ := h.at_ i hi
  exact ⟨b, o, h2, Nat.lt_of_lt_of_le h3 (Below.size hu), cell_up hu h4, cell_up hu h5, cell_up hu h6, cell_up hu h7⟩
theorem Evs.turn {w w' : World} {A : Option Addr} {n : Nat} {L : List Ev} {G : Nat → Prop} (h : Evs w A n L) (hu : Turn G w w') (hA : ∀ a, A = some a → 0 < n → a.block < w.heap.size → ¬ G a.block) : Evs w' A n L := by
  refine ⟨h.len, fun i hi => ?_⟩
  obtain ⟨b, o, h2, h3, h4, h5, h6, h7⟩ := h.at_ i hi
  have hg := hA _ h2 (by have := h.len; omega) h3
  exact ⟨b, o, h2, Nat.lt_of_lt_of_le h3 hu.size, hu.cell hg h4, hu.cell hg h5, hu.cell hg h6, hu.cell hg h7⟩
theorem Evs.nil (w : World) (A : Option Addr) : Evs w A 0 [] := ⟨rfl, fun _ h => absurd h (Nat.not_lt_zero _)⟩
def ev (L : List Ev) (i : Nat) : Ev := L.getD i (0, 0, 0, 0)
theorem ev_eq {L : List Ev} {i : Nat} (h : i < L.length) : L[i] = ev L i := by
  unfold ev
  rw [List.getD_eq_getElem?_getD, List.getElem?_eq_getElem h]
  rfl
theorem evs_ev {w : World} {A : Option Addr} {n : Nat} {L : List Ev} (h : Evs w A n L) (i : Nat) (hi : i < n) : ∃ b o, A = some ⟨b, o, none⟩ ∧ b < w.heap.size ∧ w.cell? ⟨b, o + i * 4, none⟩ = some (.int .u8 (ev L i).1) ∧ w.cell? ⟨b, o + i * 4 + 1, none⟩ = some (.int .u8 (ev L i).2.1) ∧ w.cell? ⟨b, o + i * 4 + 2, none⟩ = some (.int .i64 (ev L i).2.2.1) ∧ w.cell? ⟨b, o + i * 4 + 3, none⟩ = some (.int .i64 (ev L i).2.2.2) := by
  have hl := h.len
  obtain ⟨b, o, h1⟩ := h.at_ i (by omega)
  rw [ev_eq] at h1
  exact ⟨b, o, h1⟩
def evCells : List Ev → List Value
  | [] => []
  | r :: t => .int .u8 r.1 :: .int .u8 r.2.1 :: .int .i64 r.2.2.1 :: .int .i64 r.2.2.2 :: evCells t
theorem evCells_len : ∀ L : List Ev, (evCells L).length = L.length * 4
  | [] => rfl
  | r :: t => by show (evCells t).length + 1 + 1 + 1 + 1 = (t.length + 1) * 4; rw [evCells_len t]; omega
theorem evCells_append : ∀ L M : List Ev, evCells (L ++ M) = evCells L ++ evCells M
  | [], _ => rfl
  | r :: t, M => by
    show Value.int .u8 r.1 :: .int .u8 r.2.1 :: .int .i64 r.2.2.1 :: .int .i64 r.2.2.2 :: evCells (t ++ M) = _
    rw [evCells_append t M]
    rfl
theorem evCells_at : ∀ (L : List Ev) (i : Nat) (h : i < L.length), (evCells L)[i * 4]? = some (.int .u8 (L[i]'h).1) ∧ (evCells L)[i * 4 + 1]? = some (.int .u8 (L[i]'h).2.1) ∧ (evCells L)[i * 4 + 2]? = some (.int .i64 (L[i]'h).2.2.1) ∧ (evCells L)[i * 4 + 3]? = some (.int .i64 (L[i]'h).2.2.2)
  | r :: t, 0, _ => ⟨rfl, rfl, rfl, rfl⟩
  | r :: t, i + 1, h => by
    have := evCells_at t i (by simpa using h)
    rw [show (i + 1) * 4 = i * 4 + 1 + 1 + 1 + 1 from by omega]
    exact this
theorem evCells_one (L : List Ev) : ∀ u ∈ evCells L, u.oneCell' = true := by
  induction L with
  | nil => intro u h; cases h
  | cons r t ih =>
    intro u h
    rcases List.mem_cons.1 h with e | h
    · subst e; rfl
    rcases List.mem_cons.1 h with e | h
    · subst e; rfl
    rcases List.mem_cons.1 h with e | h
    · subst e; rfl
    rcases List.mem_cons.1 h with e | h
    · subst e; rfl
    · exact ih u h
theorem owns_evs {w : World} {B : Nat} {v : Value} {n : Nat} {L : List Ev} (h : w.ownsRow B 42 4 v n (evCells L)) : ∃ A c, v = .slice A n c ∧ Evs w A n L ∧ (∀ a, A = some a → B ≤ a.block ∧ a = ⟨a.block, 0, none⟩) ∧ ∀ a, A = some a → a.block < w.heap.size := by
  have hl : L.length = n := by have := h.1; rw [evCells_len] at this; omega
  rcases owns_cell h with ⟨rfl, rfl⟩ | ⟨g, c, rfl, hg, hw, hc⟩
  · obtain rfl : L = [] := List.eq_nil_of_length_eq_zero hl
    exact ⟨none, 0, rfl, Evs.nil _ _, fun a h => by (cases h), fun a h => by (cases h)⟩
  · refine ⟨some ⟨g, 0, none⟩, c, rfl, ⟨hl, fun i hi => ?_⟩, fun a e => ?_, fun a e => ?_⟩
    · obtain ⟨h1, h2, h3, h4⟩ := evCells_at L i hi
      exact ⟨g, 0, rfl, hw, by rw [Nat.zero_add]; exact hc _ _ h1, by rw [Nat.zero_add]; exact hc _ _ h2, by rw [Nat.zero_add]; exact hc _ _ h3, by rw [Nat.zero_add]; exact hc _ _ h4⟩
    · obtain rfl := Option.some.inj e
      exact ⟨hg, rfl⟩
    · obtain rfl := Option.some.inj e
      exact hw
/-- Pointers to nodes; a node's cells. -/
def ptrs (Q : List Nat) : List Value := Q.map fun q => .pointer (some ⟨q, 0, none⟩)
def ncs (x : Nd) : Array Value := #[.int .u8 x.1, .int .i64 x.2.1, .int .i64 x.2.2.1, .int .i64 x.2.2.2]
def bcs (k : Int) (vN vO : Value) (far : Int) : Array Value := #[.int .u8 k, vN, vO, .int .i64 far]
def opq (Q O : List Nat) : List Nat := O.map fun i => Q.getD i 0
/-- A builder in memory. -/
structure BIs (w : World) (bb : Nat) (vN vO : Value) (Q : List Nat) (k : Int) (b : Bs) : Prop where
  blk : w.heap[bb]? = some (.cells (bcs k vN vO b.far) 50)
  rN : w.ownsRow 0 51 1 vN b.N.length (ptrs Q)
  rO : w.ownsRow 0 51 1 vO b.O.length (ptrs (opq Q b.O))
  apart : ∀ g, vN.ownBlock = some g → vO.ownBlock ≠ some g
  len : Q.length = b.N.length
  nodup : Q.Nodup
  nodes : ∀ i (h : i < Q.length), w.heap[Q[i]]? = some (.cells (ncs (nd b.N i)) 46)
/-- What a builder stands in. -/
def Foot (bb : Nat) (vN vO : Value) (Q : List Nat) (i : Nat) : Prop := i = bb ∨ vN.ownBlock = some i ∨ vO.ownBlock = some i ∨ i ∈ Q
/-- A builder that stands in blocks of G. -/
def BAt (w : World) (bb : Nat) (G : Nat → Prop) (k : Int) (b : Bs) : Prop := ∃ vN vO Q, BIs w bb vN vO Q k b ∧ ∀ i, Foot bb vN vO Q i → G i
theorem heap_lt {w : World} {b : Nat} {o : Obj} (h : w.heap[b]? = some o) : b < w.heap.size := (Array.getElem?_eq_some_iff.1 h).1
theorem own_lt {w : World} {B g : Nat} {T : TypeId} {k n : Nat} {v : Value} {xs : List Value} (h : w.ownsRow B T k v n xs) (hg : v.ownBlock = some g) : g < w.heap.size ∧ ∃ cur, w.heap[g]? = some (.cells cur T) := by
  rcases h.2 with ⟨rfl, -⟩ | ⟨g', cap, cur, rfl, -, h2, -⟩
  · cases hg
  · obtain rfl := Option.some.inj hg
    exact ⟨heap_lt h2, cur, h2⟩
theorem BIs.foot {w : World} {bb : Nat} {vN vO : Value} {Q : List Nat} {k : Int} {b : Bs} (h : BIs w bb vN vO Q k b) {i : Nat} (hi : Foot bb vN vO Q i) : i < w.heap.size := by
  rcases hi with rfl | hi | hi | hi
  · exact heap_lt h.blk
  · exact (own_lt h.rN hi).1
  · exact (own_lt h.rO hi).1
  · obtain ⟨j, hj, rfl⟩ := List.getElem_of_mem hi
    exact heap_lt (h.nodes j hj)
theorem BAt.lt {w : World} {bb : Nat} {G : Nat → Prop} {k : Int} {b : Bs} (h : BAt w bb G k b) : bb < w.heap.size := by
  obtain ⟨vN, vO, Q, h, -⟩ := h
  exact heap_lt h.blk
theorem BAt.g {w : World} {bb : Nat} {G : Nat → Prop} {k : Int} {b : Bs} (h : BAt w bb G k b) : G bb := by
  obtain ⟨vN, vO, Q, -, h⟩ := h
  exact h _ (.inl rfl)
theorem BAt.cap {w : World} {bb : Nat} {G : Nat → Prop} {k : Int} {b : Bs} (h : BAt w bb G k b) : BAt w bb (fun i => G i ∧ i < w.heap.size) k b := by
  obtain ⟨vN, vO, Q, h, hG⟩ := h
  exact ⟨vN, vO, Q, h, fun i hi => ⟨hG i hi, h.foot hi⟩⟩
theorem BAt.mono {w : World} {bb : Nat} {G G' : Nat → Prop} {k : Int} {b : Bs} (h : BAt w bb G k b) (hG : ∀ i, i < w.heap.size → G i → G' i) : BAt w bb G' k b := by
  obtain ⟨vN, vO, Q, h, h2⟩ := h
  exact ⟨vN, vO, Q, h, fun i hi => hG i (h.foot hi) (h2 i hi)⟩
theorem ownsRow_turn {w w' : World} {B : Nat} {T : TypeId} {k n : Nat} {v : Value} {xs : List Value} {G : Nat → Prop} (h : w.ownsRow B T k v n xs) (ht : Turn G w w') (hv : ∀ g, v.ownBlock = some g → ¬ G g) : w'.ownsRow B T k v n xs := by
  refine ⟨h.1, ?_⟩
  rcases h.2 with h2 | ⟨g, cap, cur, rfl, h1, h2, h3⟩
  · exact .inl h2
  · exact .inr ⟨g, cap, cur, rfl, h1, (ht.block g (heap_lt h2) (hv g rfl)).trans h2, h3⟩
theorem BIs.turn {w w' : World} {bb : Nat} {vN vO : Value} {Q : List Nat} {k : Int} {b : Bs} {G : Nat → Prop} (h : BIs w bb vN vO Q k b) (ht : Turn G w w') (hG : ∀ i, Foot bb vN vO Q i → ¬ G i) : BIs w' bb vN vO Q k b :=
  ⟨(ht.block bb (heap_lt h.blk) (hG bb (.inl rfl))).trans h.blk, ownsRow_turn h.rN ht (fun g e => hG g (.inr (.inl e))), ownsRow_turn h.rO ht (fun g e => hG g (.inr (.inr (.inl e)))), h.apart, h.len, h.nodup,
    fun i hi => (ht.block _ (heap_lt (h.nodes i hi)) (hG _ (.inr (.inr (.inr (List.getElem_mem hi)))))).trans (h.nodes i hi)⟩
theorem BAt.turn {w w' : World} {bb : Nat} {k : Int} {b : Bs} {F G : Nat → Prop} (h : BAt w bb F k b) (ht : Turn G w w') (hG : ∀ i, F i → ¬ G i) : BAt w' bb F k b := by
  obtain ⟨vN, vO, Q, h, h2⟩ := h
  exact ⟨vN, vO, Q, h.turn ht (fun i hi => hG i (h2 i hi)), h2⟩
theorem BAt.up {w w' : World} {bb : Nat} {k : Int} {b : Bs} {F : Nat → Prop} (h : BAt w bb F k b) (hu : Up w w') : BAt w' bb F k b := h.turn (Turn.of_up (fun _ => False) hu) (fun _ _ h => h)
theorem BIs.up {w w' : World} {bb : Nat} {vN vO : Value} {Q : List Nat} {k : Int} {b : Bs} (h : BIs w bb vN vO Q k b) (hu : Up w w') : BIs w' bb vN vO Q k b := h.turn (Turn.of_up (fun _ => False) hu) (fun _ _ h => h)
theorem BIs.c0 {w : World} {bb : Nat} {vN vO : Value} {Q : List Nat} {k : Int} {b : Bs} (h : BIs w bb vN vO Q k b) : w.cell? ⟨bb, 0, none⟩ = some (.int .u8 k) := cellOf h.blk rfl
theorem BIs.c1 {w : World} {bb : Nat} {vN vO : Value} {Q : List Nat} {k : Int} {b : Bs} (h : BIs w bb vN vO Q k b) : w.cell? ⟨bb, 1, none⟩ = some vN := cellOf h.blk rfl
theorem BIs.c2 {w : World} {bb : Nat} {vN vO : Value} {Q : List Nat} {k : Int} {b : Bs} (h : BIs w bb vN vO Q k b) : w.cell? ⟨bb, 2, none⟩ = some vO := cellOf h.blk rfl
theorem BIs.c3 {w : World} {bb : Nat} {vN vO : Value} {Q : List Nat} {k : Int} {b : Bs} (h : BIs w bb vN vO Q k b) : w.cell? ⟨bb, 3, none⟩ = some (.int .i64 b.far) := cellOf h.blk rfl
theorem BIs.fz {w : World} {bb : Nat} {vN vO : Value} {Q : List Nat} {k : Int} {b : Bs} (h : BIs w bb vN vO Q k b) (j : Nat) : w.frozen? ⟨bb, j, none⟩ = false := frozenOf h.blk
/-- Stores of one cell. -/
theorem heap_set {w : World} {g j : Nat} {cs : Array Value} {T : TypeId} (h : w.heap[g]? = some (.cells cs T)) (v : Value) : (w.setCell ⟨g, j, none⟩ v).heap[g]? = some (.cells (cs.setIfInBounds j v) T) := by
  exact heap_setCell_same w g j cs T v h
theorem heap_set_ne {w : World} {g i j : Nat} (h : i ≠ g) (v : Value) : (w.setCell ⟨g, j, none⟩ v).heap[i]? = w.heap[i]? := Below.heap_setCell _ _ _ _ h
/-- The blocks of a builder are apart. -/
theorem BIs.ne_bb {w : World} {bb : Nat} {vN vO : Value} {Q : List Nat} {k : Int} {b : Bs} (h : BIs w bb vN vO Q k b) : (∀ g, vN.ownBlock = some g → g ≠ bb) ∧ (∀ g, vO.ownBlock = some g → g ≠ bb) ∧ (∀ i (hi : i < Q.length), Q[i] ≠ bb) ∧ (∀ g i (hi : i < Q.length), vN.ownBlock = some g ∨ vO.ownBlock = some g → Q[i] ≠ g) := by
  refine ⟨fun g e e2 => ?_, fun g e e2 => ?_, fun i hi e => ?_, fun g i hi hg e => ?_⟩
  · obtain ⟨-, cur, h1⟩ := own_lt h.rN e
    rw [e2, h.blk] at h1
    injection h1 with h1
    injection h1 with _ h1
    exact absurd h1 (by decide)
  · obtain ⟨-, cur, h1⟩ := own_lt h.rO e
    rw [e2, h.blk] at h1
    injection h1 with h1
    injection h1 with _ h1
    exact absurd h1 (by decide)
  · have h1 := h.nodes i hi
    rw [e, h.blk] at h1
    injection h1 with h1
    injection h1 with _ h1
    exact absurd h1 (by decide)
  · have h1 := h.nodes i hi
    rw [e] at h1
    rcases hg with hg | hg
    · obtain ⟨-, cur, h2⟩ := own_lt h.rN hg
      rw [h2] at h1
      injection h1 with h1
      injection h1 with _ h1
      exact absurd h1 (by decide)
    · obtain ⟨-, cur, h2⟩ := own_lt h.rO hg
      rw [h2] at h1
      injection h1 with h1
      injection h1 with _ h1
      exact absurd h1 (by decide)
theorem ownsRow_set {w : World} {B g : Nat} {T : TypeId} {k n : Nat} {v : Value} {xs : List Value} (h : w.ownsRow B T k v n xs) (hg : v.ownBlock ≠ some g) (j : Nat) (u : Value) : (w.setCell ⟨g, j, none⟩ u).ownsRow B T k v n xs :=
  ownsRow_turn (G := fun i => i = g) h (Turn.set (G := fun i => i = g) w rfl j u) (fun g' e e2 => hg (by rw [e]; exact congrArg some e2))
theorem BIs.setFar {w : World} {bb : Nat} {vN vO : Value} {Q : List Nat} {k : Int} {b : Bs} (h : BIs w bb vN vO Q k b) (p : Int) : BIs (w.setCell ⟨bb, 3, none⟩ (.int .i64 p)) bb vN vO Q k ⟨b.N, b.O, p⟩ := by
  obtain ⟨n1, n2, n3, -⟩ := h.ne_bb
  exact ⟨heap_set h.blk _, ownsRow_set h.rN (fun e => n1 _ e rfl) _ _, ownsRow_set h.rO (fun e => n2 _ e rfl) _ _, h.apart, h.len, h.nodup, fun i hi => (heap_set_ne (n3 i hi) _).trans (h.nodes i hi)⟩
theorem BIs.setN {w : World} {bb : Nat} {vN vO : Value} {Q : List Nat} {k : Int} {b : Bs} (h : BIs w bb vN vO Q k b) {i : Nat} (hi : i < Q.length) {j : Nat} {v : Value} {f : Nd → Nd} (hf : (ncs (nd b.N i)).setIfInBounds j v = ncs (f (nd b.N i))) : BIs (w.setCell ⟨Q[i], j, none⟩ v) bb vN vO Q k ⟨b.N.modify i f, b.O, b.far⟩ := by
  obtain ⟨n1, n2, n3, n4⟩ := h.ne_bb
  refine ⟨(heap_set_ne (n3 i hi).symm _).trans h.blk, ?_, ownsRow_set h.rO (fun e => n4 _ i hi (.inr e) rfl) _ _, h.apart, by dsimp only; rw [List.length_modify]; exact h.len, h.nodup, fun m hm => ?_⟩
  · dsimp only
    rw [List.length_modify]
    exact ownsRow_set h.rN (fun e => n4 _ i hi (.inl e) rfl) _ _
  · have hl := h.len
    have e1 : nd (b.N.modify i f) m = if i = m then f (nd b.N m) else nd b.N m := by
      unfold nd
      rw [List.getD_eq_getElem?_getD, List.getElem?_modify, List.getD_eq_getElem?_getD, List.getElem?_eq_getElem (show m < b.N.length by omega)]
      by_cases e : i = m
      · simp [e]
      · simp [e]
    dsimp only
    rw [e1]
    by_cases e : i = m
    · subst e
      rw [if_pos rfl, ← hf]
      exact heap_set (h.nodes i hm) _
    · rw [if_neg e]
      refine (heap_set_ne ?_ _).trans (h.nodes m hm)
      intro e2
      exact e ((List.getElem_inj h.nodup).1 e2).symm
theorem ptrs_len (Q : List Nat) : (ptrs Q).length = Q.length := List.length_map ..
theorem opq_len (Q O : List Nat) : (opq Q O).length = O.length := List.length_map ..
theorem ptrs_app (Q R : List Nat) : ptrs (Q ++ R) = ptrs Q ++ ptrs R := List.map_append ..
theorem opq_app (Q O R : List Nat) : opq Q (O ++ R) = opq Q O ++ opq Q R := List.map_append ..
theorem opq_more {Q O : List Nat} (q : Nat) (h : ∀ x ∈ O, x < Q.length) : opq (Q ++ [q]) O = opq Q O := by
  unfold opq
  refine List.map_congr_left fun x hx => ?_
  rw [List.getD_eq_getElem?_getD, List.getD_eq_getElem?_getD, List.getElem?_append_left (h x hx)]
end Go.Proofs.Ytkkefgbmdghklaa
