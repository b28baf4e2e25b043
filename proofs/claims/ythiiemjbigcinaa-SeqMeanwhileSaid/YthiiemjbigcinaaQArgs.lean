/- Arguments: lists of texts, lists of numbers, lists of acts. -/
import Derived.Test.YthiiemjbigcinaaQTurn
import Derived.Lib.SmallJoins
import Derived.OpenShut
import Derived.ShutString
import Derived.ChangeOld
import Derived.ReadAgain
import Derived.Deep.Slices
import Derived.Deep.Fields
import Derived.Deep.Strs
namespace Go.Proofs.Ythiiemjbigcinaa
open Go.Joins Go.ChangeShapes Go.WideShapes Go.RowKit Go.Deep

/-- Texts, as memory holds them. -/
structure Txs (w : World) (A : Option Addr) (n : Nat) (L : List ByteArray) : Prop where
  len : L.length = n
  at_ : ∀ i (h : i < L.length), ∃ b o, A = some ⟨b, o, none⟩ ∧ b < w.heap.size ∧ w.cell? ⟨b, o + i, none⟩ = some (.string (L[i]'h))
/-- Numbers, as memory holds them. -/
structure Nums (w : World) (A : Option Addr) (n : Nat) (Z : List Int) : Prop where
  len : Z.length = n
  at_ : ∀ i (h : i < Z.length), ∃ b o, A = some ⟨b, o, none⟩ ∧ b < w.heap.size ∧ w.cell? ⟨b, o + i, none⟩ = some (.int .i64 (Z[i]'h))
theorem Txs.turn {w w' : World} {A : Option Addr} {n : Nat} {L : List ByteArray} {G : Nat → Prop} (h : Txs w A n L) (hu : Turn G w w') (hA : ∀ a, A = some a → 0 < n → a.block < w.heap.size → ¬ G a.block) : Txs w' A n L := by
  refine ⟨h.len, fun i hi => ?_⟩
  obtain ⟨b, o, h2, h3, h4⟩ := h.at_ i hi
  exact ⟨b, o, h2, Nat.lt_of_lt_of_le h3 hu.size, hu.cell (hA _ h2 (by have := h.len; omega) h3) h4⟩
theorem Nums.turn {w w' : World} {A : Option Addr} {n : Nat} {Z : List Int} {G : Nat → Prop} (h : Nums w A n Z) (hu : Turn G w w') (hA : ∀ a, A = some a → 0 < n → a.block < w.heap.size → ¬ G a.block) : Nums w' A n Z := by
  refine ⟨h.len, fun i hi => ?_⟩
  obtain ⟨b, o, h2, h3, h4⟩ := h.at_ i hi
  exact ⟨b, o, h2, Nat.lt_of_lt_of_le h3 hu.size, hu.cell (hA _ h2 (by have := h.len; omega) h3) h4⟩
theorem Txs.up {w w' : World} {A : Option Addr} {n : Nat} {L : List ByteArray} (h : Txs w A n L) (hu : Up w w') : Txs w' A n L := h.turn (.of_up (fun _ => False) hu) (fun _ _ _ _ k => k)
theorem Nums.up {w w' : World} {A : Option Addr} {n : Nat} {Z : List Int} (h : Nums w A n Z) (hu : Up w w') : Nums w' A n Z := h.turn (.of_up (fun _ => False) hu) (fun _ _ _ _ k => k)
/-- Texts that may be handed in. -/
structure XArg (w : World) (A : Option Addr) (n c : Nat) (L : List ByteArray) : Prop where
  txs : Txs w A n L
  ok : ∀ x ∈ L, x.size ≤ maxLen
  cap : n ≤ c
  len : n ≤ maxLen
  nil : A = none → c = 0
/-- Numbers that may be handed in. -/
structure ZArg (w : World) (A : Option Addr) (n c : Nat) (Z : List Int) : Prop where
  nums : Nums w A n Z
  ok : ∀ x ∈ Z, (Lit.int .i64 x).wf = true
  cap : n ≤ c
  len : n ≤ maxLen
  nil : A = none → c = 0
theorem XArg.turn {w w' : World} {A : Option Addr} {n c : Nat} {L : List ByteArray} {G : Nat → Prop} (h : XArg w A n c L) (hu : Turn G w w') (hA : ∀ a, A = some a → 0 < n → a.block < w.heap.size → ¬ G a.block) : XArg w' A n c L := ⟨h.txs.turn hu hA, h.ok, h.cap, h.len, h.nil⟩
theorem ZArg.turn {w w' : World} {A : Option Addr} {n c : Nat} {L : List Int} {G : Nat → Prop} (h : ZArg w A n c L) (hu : Turn G w w') (hA : ∀ a, A = some a → 0 < n → a.block < w.heap.size → ¬ G a.block) : ZArg w' A n c L := ⟨h.nums.turn hu hA, h.ok, h.cap, h.len, h.nil⟩
theorem XArg.up {w w' : World} {A : Option Addr} {n c : Nat} {L : List ByteArray} (h : XArg w A n c L) (hu : Up w w') : XArg w' A n c L := ⟨h.txs.up hu, h.ok, h.cap, h.len, h.nil⟩
theorem ZArg.up {w w' : World} {A : Option Addr} {n c : Nat} {L : List Int} (h : ZArg w A n c L) (hu : Up w w') : ZArg w' A n c L := ⟨h.nums.up hu, h.ok, h.cap, h.len, h.nil⟩
theorem XArg.lt {w : World} {A : Option Addr} {n c : Nat} {L : List ByteArray} (h : XArg w A n c L) : ∀ a, A = some a → 0 < n → a.block < w.heap.size := fun a e h0 => by
  obtain ⟨b, o, h1, h2, -⟩ := h.txs.at_ 0 (by have := h.txs.len; omega)
  rw [e] at h1
  injection h1 with h1
  subst h1
  exact h2
theorem ZArg.lt {w : World} {A : Option Addr} {n c : Nat} {L : List Int} (h : ZArg w A n c L) : ∀ a, A = some a → 0 < n → a.block < w.heap.size := fun a e h0 => by
  obtain ⟨b, o, h1, h2, -⟩ := h.nums.at_ 0 (by have := h.nums.len; omega)
  rw [e] at h1
  injection h1 with h1
  subst h1
  exact h2
/-- What is done to a row: Do, I, N, the items, the sizes. -/
structure Deed where
  d : Int
  i : Int
  k : Int
  A : Option Addr
  n : Nat
  c : Nat
  L : List ByteArray
  B : Option Addr
  m : Nat
  e : Nat
  Z : List Int
def act0 : Deed := ⟨0, 0, 0, none, 0, 0, [], none, 0, 0, []⟩
def Deed.cells (a : Deed) : List Value := [.int .i64 a.d, .int .i64 a.i, .int .i64 a.k, .slice a.A a.n a.c, .slice a.B a.m a.e]
/-- An act that may be handed in. -/
structure AOk (w : World) (a : Deed) : Prop where
  d : (Lit.int .i64 a.d).wf = true
  i : (Lit.int .i64 a.i).wf = true
  k : (Lit.int .i64 a.k).wf = true
  x : XArg w a.A a.n a.c a.L
  z : ZArg w a.B a.m a.e a.Z
theorem AOk.up {w w' : World} {a : Deed} (h : AOk w a) (hu : Up w w') : AOk w' a := ⟨h.d, h.i, h.k, h.x.up hu, h.z.up hu⟩
/-- Acts that may be handed in. -/
structure AArg (w : World) (A : Option Addr) (n : Nat) (L : List Deed) : Prop where
  len : L.length = n
  at_ : ∀ i (h : i < L.length), ∃ b o, A = some ⟨b, o, none⟩ ∧ b < w.heap.size ∧ w.cell? ⟨b, o + i * 5, none⟩ = some (.int .i64 (L[i]'h).d) ∧ w.cell? ⟨b, o + i * 5 + 1, none⟩ = some (.int .i64 (L[i]'h).i) ∧ w.cell? ⟨b, o + i * 5 + 2, none⟩ = some (.int .i64 (L[i]'h).k) ∧ w.cell? ⟨b, o + i * 5 + 3, none⟩ = some (.slice (L[i]'h).A (L[i]'h).n (L[i]'h).c) ∧ w.cell? ⟨b, o + i * 5 + 4, none⟩ = some (.slice (L[i]'h).B (L[i]'h).m (L[i]'h).e)
  ok : ∀ x ∈ L, AOk w x
theorem AArg.up {w w' : World} {A : Option Addr} {n : Nat} {L : List Deed} (h : AArg w A n L) (hu : Up w w') : AArg w' A n L := by
  refine ⟨h.len, fun i hi => ?_, fun x hx => (h.ok x hx).up hu⟩
  obtain ⟨b, o, h1, h2, h3, h4, h5, h6, h7⟩ := h.at_ i hi
  exact ⟨b, o, h1, Nat.lt_of_lt_of_le h2 (Below.size hu), cell_up hu h3, cell_up hu h4, cell_up hu h5, cell_up hu h6, cell_up hu h7⟩
section
variable {H : Type} {enc : TypeId × Value → H} {P : Program} {w : World} {base : Nat} {spare : Nat → Bool} {held : Bool}
theorem trod_struct5 {t : TypeId} {f0 f1 f2 f3 f4 : Field} {fuel : Nat} {cs : List Value} {x : DataW H × List MemPlace} (ht : P.underlying t = some (.struct #[f0, f1, f2, f3, f4])) (h : DataW.trod enc P w base spare held fuel t cs = some x) :
    ∃ y0 y1 y2 y3 y4 n, x = (.agg [y0.1, y1.1, y2.1, y3.1, y4.1], y0.2 ++ (y1.2 ++ (y2.2 ++ (y3.2 ++ y4.2)))) ∧ cs.length = P.cellsOf t ∧ DataW.trod enc P w base spare held n f0.type ((cs.drop f0.offset).take (P.cellsOf f0.type)) = some y0 ∧
      DataW.trod enc P w base spare held n f1.type ((cs.drop f1.offset).take (P.cellsOf f1.type)) = some y1 ∧ DataW.trod enc P w base spare held n f2.type ((cs.drop f2.offset).take (P.cellsOf f2.type)) = some y2 ∧
      DataW.trod enc P w base spare held n f3.type ((cs.drop f3.offset).take (P.cellsOf f3.type)) = some y3 ∧ DataW.trod enc P w base spare held n f4.type ((cs.drop f4.offset).take (P.cellsOf f4.type)) = some y4 := by
  obtain ⟨xs, n, _, rfl, hl, hlen, hf⟩ := DataW.trod_struct ht h
  match xs, hlen with
  | [y0, y1, y2, y3, y4], _ => exact ⟨y0, y1, y2, y3, y4, n, by simp, hl, by simpa using hf 0 f0 rfl, by simpa using hf 1 f1 rfl, by simpa using hf 2 f2 rfl, by simpa using hf 3 f3 rfl, by simpa using hf 4 f4 rfl⟩
end
section
variable {H : Type} {enc : TypeId × Value → H} {w : World}
theorem txs_trod {n : Nat} {v : Value} {x : DataW H × List MemPlace} (hf : DataW.trod enc Try.prog w 0 (fun _ => true) true n 22 [v] = some x) :
    ∃ (A : Option Addr) (n c : Nat) (L : List ByteArray), v = .slice A n c ∧ XArg w A n c L := by
  have hce : Try.prog.cellsOf 9 = 1 := by kernel_rfl
  rcases open_strs Try.underlying22 Try.underlying9 hce hf with ⟨hcs, -⟩ | ⟨a, len, cap, m, S, hcs, hb, hl, hm, hmm, -, hx⟩
  · simp only [List.cons.injEq, and_true] at hcs
    exact ⟨none, 0, 0, [], hcs, ⟨⟨rfl, fun i h => absurd h (Nat.not_lt_zero _)⟩, fun x hx => by (cases hx), Nat.le_refl _, Nat.zero_le _, fun _ => rfl⟩⟩
  · simp only [List.cons.injEq, and_true] at hcs
    have hmm' : m = cap := hmm
    refine ⟨some a, len, cap, (List.range len).map S, hcs, ⟨⟨by simp, fun i hi => ?_⟩, fun x hx => ?_, hl, Nat.le_trans hl hm, fun h => by cases h⟩⟩
    · have hi' : i < len := by simpa using hi
      have h1 := (hx i (by omega)).1
      have hblk : (a.add i).block < w.heap.size := World.block_lt_of_cell? _ _ h1
      rw [block_add] at hblk
      have hs : a.spot = none := spot_cell (a := a) (by have := (hx 0 (by omega)).1; rwa [show a.add 0 = a from by unfold Addr.add; rw [if_pos rfl]] at this)
      rw [add_flat hs] at h1
      refine ⟨a.block, a.off, ?_, hblk, by simpa using h1⟩
      obtain ⟨b, o, sp⟩ := a
      obtain rfl : sp = none := hs
      rfl
    · rw [List.mem_map] at hx
      obtain ⟨i, hi, rfl⟩ := hx
      exact (hx i (by have := List.mem_range.1 hi; omega)).2
theorem nums_trod {n : Nat} {v : Value} {x : DataW H × List MemPlace} (hf : DataW.trod enc Try.prog w 0 (fun _ => true) true n 23 [v] = some x) :
    ∃ (A : Option Addr) (n c : Nat) (L : List Int), v = .slice A n c ∧ ZArg w A n c L := by
  have hce : Try.prog.cellsOf 3 = 1 := by kernel_rfl
  rcases open_slice1 Try.underlying23 hce hf with h0 | ⟨a, len, cap, m, n, V, D, Pl, hcs, hb, hl, hm, hmm, -, hx⟩
  · have hcs := h0.1
    simp only [List.cons.injEq, and_true] at hcs
    exact ⟨none, 0, 0, [], hcs, ⟨⟨rfl, fun i h => absurd h (Nat.not_lt_zero _)⟩, fun x hx => by (cases hx), Nat.le_refl _, Nat.zero_le _, fun _ => rfl⟩⟩
  · simp only [List.cons.injEq, and_true] at hcs
    have hmm' : m = cap := hmm
    have each : ∀ i, i < m → ∃ z : Int, V i = .int .i64 z ∧ (Lit.int .i64 z).wf = true := fun i hi => by
      obtain ⟨z, h1, -, h3⟩ := DataW.trod_int Try.underlying3 (hx i hi).2
      exact ⟨z, by simpa using h1, h3⟩
    obtain ⟨S, hS⟩ : ∃ S : Nat → Int, ∀ i, i < m → V i = .int .i64 (S i) ∧ (Lit.int .i64 (S i)).wf = true := choose_lt each
    have hc : ∀ i, i < m → w.cell? (a.add i) = some (.int .i64 (S i)) := fun i hi => by rw [(hx i hi).1, (hS i hi).1]
    refine ⟨some a, len, cap, (List.range len).map S, hcs, ⟨⟨by simp, fun i hi => ?_⟩, fun x hx => ?_, hl, Nat.le_trans hl hm, fun h => by cases h⟩⟩
    · have hi' : i < len := by simpa using hi
      have h1 := hc i (by omega)
      have hblk : (a.add i).block < w.heap.size := World.block_lt_of_cell? _ _ h1
      rw [block_add] at hblk
      have hs : a.spot = none := spot_cell (a := a) (by have := hc 0 (by omega); rwa [show a.add 0 = a from by unfold Addr.add; rw [if_pos rfl]] at this)
      rw [add_flat hs] at h1
      refine ⟨a.block, a.off, ?_, hblk, by simpa using h1⟩
      obtain ⟨b, o, sp⟩ := a
      obtain rfl : sp = none := hs
      rfl
    · rw [List.mem_map] at hx
      obtain ⟨i, hi, rfl⟩ := hx
      exact (hS i (by have := List.mem_range.1 hi; omega)).2
set_option maxRecDepth 100000 in
theorem act_at {n : Nat} {cs : List Value} {x : DataW H × List MemPlace} (h : DataW.trod enc Try.prog w 0 (fun _ => true) true n 25 cs = some x) :
    ∃ a : Deed, cs = a.cells ∧ AOk w a := by
  obtain ⟨y0, y1, y2, y3, y4, m, rfl, hl, h0, h1, h2, h3, h4⟩ := trod_struct5 Try.underlying25 h
  have hl3 : cs.length = 5 := hl.trans (by kernel_rfl)
  match cs, hl3 with
  | [c0, c1, c2, c3, c4], _ =>
    have k0 : DataW.trod enc Try.prog w 0 (fun _ => true) true m 3 [c0] = some y0 := h0
    have k1 : DataW.trod enc Try.prog w 0 (fun _ => true) true m 3 [c1] = some y1 := h1
    have k2 : DataW.trod enc Try.prog w 0 (fun _ => true) true m 3 [c2] = some y2 := h2
    have k3 : DataW.trod enc Try.prog w 0 (fun _ => true) true m 22 [c3] = some y3 := h3
    have k4 : DataW.trod enc Try.prog w 0 (fun _ => true) true m 23 [c4] = some y4 := h4
    obtain ⟨n0, e0, -, g0⟩ := DataW.trod_int Try.underlying3 k0
    obtain ⟨n1, e1, -, g1⟩ := DataW.trod_int Try.underlying3 k1
    obtain ⟨n2, e2, -, g2⟩ := DataW.trod_int Try.underlying3 k2
    obtain ⟨A, n3, c, L, rfl, ha⟩ := txs_trod k3
    obtain ⟨B, n4, e, Z, rfl, hb⟩ := nums_trod k4
    simp only [List.cons.injEq, and_true] at e0 e1 e2
    subst e0 e1 e2
    exact ⟨⟨n0, n1, n2, A, n3, c, L, B, n4, e, Z⟩, rfl, ⟨g0, g1, g2, ha, hb⟩⟩
set_option maxRecDepth 100000 in
theorem open_acts {r : Reach} {b0 : Nat} {w2 : World} {v : Value} {d : DataW H} {p : List MemPlace} (hv : Value.okWide Try.prog w2 r b0 41 v) (h : DataW.Trod enc Try.prog w 0 (fun _ => true) true 41 v d p) :
    ∃ (A : Option Addr) (n c : Nat) (L : List Deed), v = .slice A n c ∧ AArg w A n L ∧ n ≤ maxLen := by
  obtain ⟨A, len0, cap0, rfl⟩ := okWide_slice Try.underlying41 hv
  obtain ⟨fuel, hf⟩ := h
  have hce : Try.prog.cellsOf 25 = 5 := by kernel_rfl
  rcases open_slice Try.underlying41 hf with ⟨hcs, -⟩ | ⟨a, len, cap, m, n, D, Pl, hcs, hb, hl, hm, hmm, -, hx⟩
  · have hcs' : [Value.slice A len0 cap0] = [Value.slice none 0 0] := hcs
    simp only [List.cons.injEq, Value.slice.injEq, and_true] at hcs'
    obtain ⟨rfl, rfl, rfl⟩ := hcs'
    exact ⟨none, 0, 0, [], rfl, ⟨rfl, fun i h => absurd h (Nat.not_lt_zero _), fun x hx => by (cases hx)⟩, Nat.zero_le _⟩
  · have hcs' : [Value.slice A len0 cap0] = [Value.slice (some a) len cap] := hcs
    simp only [List.cons.injEq, Value.slice.injEq, and_true] at hcs'
    obtain ⟨rfl, rfl, rfl⟩ := hcs'
    rw [hce] at hx
    have hmm' : m = cap0 := hmm
    have key : ∀ i, i < len0 → ∃ e : Deed, AOk w e ∧ a.block < w.heap.size ∧ w.cell? (a.add (i * 5)) = some (.int .i64 e.d) ∧ w.cell? (a.add (i * 5 + 1)) = some (.int .i64 e.i) ∧ w.cell? (a.add (i * 5 + 2)) = some (.int .i64 e.k) ∧ w.cell? (a.add (i * 5 + 3)) = some (.slice e.A e.n e.c) ∧ w.cell? (a.add (i * 5 + 4)) = some (.slice e.B e.m e.e) := by
      intro i hi
      obtain ⟨cs', hc, ht⟩ := hx i (by omega)
      obtain ⟨e, rfl, hok⟩ := act_at ht
      have hblk := World.cells?_block hc (by omega)
      obtain ⟨_, _, hat⟩ := World.cells?_some hc
      rw [block_add] at hblk
      refine ⟨e, hok, hblk, ?_, ?_, ?_, ?_, ?_⟩
      · have := hat 0 (by omega); rw [Go.Deep.add_add] at this; exact this
      · have := hat 1 (by omega); rw [Go.Deep.add_add] at this; exact this
      · have := hat 2 (by omega); rw [Go.Deep.add_add] at this; exact this
      · have := hat 3 (by omega); rw [Go.Deep.add_add] at this; exact this
      · have := hat 4 (by omega); rw [Go.Deep.add_add] at this; exact this
    obtain ⟨E, hE⟩ : ∃ E : Nat → Deed, ∀ i, i < len0 → AOk w (E i) ∧ a.block < w.heap.size ∧ w.cell? (a.add (i * 5)) = some (.int .i64 (E i).d) ∧ w.cell? (a.add (i * 5 + 1)) = some (.int .i64 (E i).i) ∧ w.cell? (a.add (i * 5 + 2)) = some (.int .i64 (E i).k) ∧ w.cell? (a.add (i * 5 + 3)) = some (.slice (E i).A (E i).n (E i).c) ∧ w.cell? (a.add (i * 5 + 4)) = some (.slice (E i).B (E i).m (E i).e) :=
      ⟨fun i => if h : i < len0 then (key i h).choose else act0, fun i hi => by simp only [dif_pos hi]; exact (key i hi).choose_spec⟩
    refine ⟨some a, len0, cap0, (List.range len0).map E, rfl, ⟨by simp, fun i hi => ?_, fun x hx => ?_⟩, Nat.le_trans hl hm⟩
    · have hi' : i < len0 := by simpa using hi
      obtain ⟨_, _, g0, _⟩ := hE 0 (by omega)
      have hs : a.spot = none := spot_cell (a := a) (by rwa [show a.add (0 * 5) = a from by unfold Addr.add; rw [if_pos (by rfl)]] at g0)
      obtain ⟨h1, h2, h3, h4, h5, h6, h7⟩ := hE i hi'
      rw [add_flat hs] at h3 h4 h5 h6 h7
      have ge : ((List.range len0).map E)[i] = E i := by simp
      rw [ge]
      refine ⟨a.block, a.off, ?_, h2, h3, h4, h5, h6, h7⟩
      obtain ⟨b, o, sp⟩ := a
      obtain rfl : sp = none := hs
      rfl
    · rw [List.mem_map] at hx
      obtain ⟨i, hi, rfl⟩ := hx
      exact (hE i (List.mem_range.1 hi)).1
set_option maxRecDepth 100000 in
theorem open_act {r : Reach} {b0 : Nat} {w2 : World} {v : Value} {d : DataW H} {p : List MemPlace} (hv : Value.okWide Try.prog w2 r b0 25 v) (h : DataW.Trod enc Try.prog w 0 (fun _ => true) true 25 v d p) :
    ∃ a : Deed, v = .agg a.cells.toArray ∧ AOk w a := by
  obtain ⟨cs, rfl, -⟩ := okWide_struct Try.underlying25 hv
  obtain ⟨fuel, hf⟩ := h
  obtain ⟨a, hc, hok⟩ := act_at hf
  refine ⟨a, ?_, hok⟩
  have hc2 : cs.toList = a.cells := hc
  rw [← hc2]
end
section
variable {H : Type} {enc : TypeId × Value → H} {w w' : World} {sp : Nat → Bool}
theorem trodAll_carry (hb : Below w.heap.size w w') : ∀ {ts : List TypeId} {vs : List Value} {ds : List (DataW H)} {ps : List MemPlace},
    DataW.TrodAll enc Try.prog w 0 (fun _ => true) true ts vs ds ps → DataW.TrodAll enc Try.prog w' 0 (fun _ => true) true ts vs ds ps
  | [], [], [], _, h => h
  | _ :: _, _ :: _, _ :: _, _, ⟨p, q, ⟨n, hn⟩, h2, e⟩ => ⟨p, q, ⟨n, DataW.trod_carry n _ _ _ hn (fun x hx => hb.same (DataW.trod_lt n _ _ _ hn x hx))⟩, trodAll_carry hb h2, e⟩
theorem kids_here : Kids Try.prog (· < Try.prog.types.size) := kids_rows (by kernel_rfl) (by kernel_rfl)
theorem slices_here : ∀ t e, t < Try.prog.types.size → Try.prog.underlying t = some (.slice e) → 0 < Try.prog.cellsOf e := slices_full_of _ (by kernel_rfl)
theorem args_back (hb : Below w.heap.size w w') {ts : List TypeId} {vs : List Value} {ds : List (DataW H)} {ps : List MemPlace} (hts : (ts.all fun t => decide (t < Try.prog.types.size)) = true)
    (h : DataW.TrodAll enc Try.prog w 0 (fun _ => true) true ts vs ds ps) (hs : ∀ p ∈ ps, sp p.block = true) : DataW.TrodAll enc Try.prog w' 0 sp true ts vs ds ps :=
  DataW.TrodAll.respare kids_here slices_here (fun t ht => of_decide_eq_true (List.all_eq_true.1 hts t ht)) (trodAll_carry hb h) hs
end

end Go.Proofs.Ythiiemjbigcinaa
