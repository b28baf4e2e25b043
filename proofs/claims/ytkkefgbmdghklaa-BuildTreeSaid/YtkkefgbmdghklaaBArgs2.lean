/- Arguments: lists of acts. -/
import Derived.Test.YtkkefgbmdghklaaBArgs
namespace Go.Proofs.Ytkkefgbmdghklaa
open Go.Joins Go.ChangeShapes Go.WideShapes Go.RowKit Go.Deep

/-- What is done to a builder: Do, At, and the events. -/
structure Act where
  d : Int
  at_ : Int
  A : Option Addr
  n : Nat
  c : Nat
  L : List Ev
/-- Acts that may be handed in. -/
structure AArg (w : World) (A : Option Addr) (n : Nat) (L : List Act) : Prop where
  len : L.length = n
  at_ : ∀ i (h : i < L.length), ∃ b o, A = some ⟨b, o, none⟩ ∧ b < w.heap.size ∧ w.cell? ⟨b, o + i * 3, none⟩ = some (.int .i64 (L[i]'h).d) ∧ w.cell? ⟨b, o + i * 3 + 1, none⟩ = some (.int .i64 (L[i]'h).at_) ∧ w.cell? ⟨b, o + i * 3 + 2, none⟩ = some (.slice (L[i]'h).A (L[i]'h).n (L[i]'h).c)
  ok : ∀ x ∈ L, EArg w x.A x.n x.c x.L
theorem AArg.up {w w' : World} {A : Option Addr} {n : Nat} {L : List Act} (h : AArg w A n L) (hu : Up w w') : AArg w' A n L := by
  refine ⟨h.len, fun i hi => ?_, fun x hx => (h.ok x hx).up hu⟩
  obtain ⟨b, o, h1, h2, h3, h4, h5⟩ := h.at_ i hi
  exact ⟨b, o, h1, Nat.lt_of_lt_of_le h2 (Below.size hu), cell_up hu h3, cell_up hu h4, cell_up hu h5⟩
section
variable {H : Type} {enc : TypeId × Value → H} {w : World}
set_option maxRecDepth 100000 in
theorem act_at {n : Nat} {cs : List Value} {x : DataW H × List MemPlace} (h : DataW.trod enc Try.prog w 0 (fun _ => true) true n 37 cs = some x) :
    ∃ a : Act, cs = [.int .i64 a.d, .int .i64 a.at_, .slice a.A a.n a.c] ∧ EArg w a.A a.n a.c a.L := by
  obtain ⟨y0, y1, y2, m, rfl, hl, h0, h1, h2⟩ := trod_struct3 Try.underlying37 h
  have hl3 : cs.length = 3 := hl.trans (by kernel_rfl)
  match cs, hl3 with
  | [c0, c1, c2], _ =>
    have k0 : DataW.trod enc Try.prog w 0 (fun _ => true) true m 3 [c0] = some y0 := h0
    have k1 : DataW.trod enc Try.prog w 0 (fun _ => true) true m 3 [c1] = some y1 := h1
    have k2 : DataW.trod enc Try.prog w 0 (fun _ => true) true m 22 [c2] = some y2 := h2
    obtain ⟨n0, e0, -, g0⟩ := DataW.trod_int Try.underlying3 k0
    obtain ⟨n1, e1, -, g1⟩ := DataW.trod_int Try.underlying3 k1
    obtain ⟨A, n2, c, L, rfl, ha, -⟩ := evs_trod k2
    simp only [List.cons.injEq, and_true] at e0 e1
    subst e0 e1
    exact ⟨⟨n0, n1, A, n2, c, L⟩, rfl, ha⟩
set_option maxRecDepth 100000 in
theorem open_acts {r : Reach} {b0 : Nat} {w2 : World} {v : Value} {d : DataW H} {p : List MemPlace} (hv : Value.okWide Try.prog w2 r b0 32 v) (h : DataW.Trod enc Try.prog w 0 (fun _ => true) true 32 v d p) :
    ∃ (A : Option Addr) (n c : Nat) (L : List Act), v = .slice A n c ∧ AArg w A n L ∧ n ≤ maxLen := by
  obtain ⟨A, len0, cap0, rfl⟩ := okWide_slice Try.underlying32 hv
  obtain ⟨fuel, hf⟩ := h
  have hce : Try.prog.cellsOf 37 = 3 := by kernel_rfl
  rcases open_slice Try.underlying32 hf with ⟨hcs, -⟩ | ⟨a, len, cap, m, n, D, Pl, hcs, hb, hl, hm, hmm, -, hx⟩
  · have hcs' : [Value.slice A len0 cap0] = [Value.slice none 0 0] := hcs
    simp only [List.cons.injEq, Value.slice.injEq, and_true] at hcs'
    obtain ⟨rfl, rfl, rfl⟩ := hcs'
    exact ⟨none, 0, 0, [], rfl, ⟨rfl, fun i h => absurd h (Nat.not_lt_zero _), fun x hx => by (cases hx)⟩, Nat.zero_le _⟩
  · have hcs' : [Value.slice A len0 cap0] = [Value.slice (some a) len cap] := hcs
    simp only [List.cons.injEq, Value.slice.injEq, and_true] at hcs'
    obtain ⟨rfl, rfl, rfl⟩ := hcs'
    rw [hce] at hx
    have hmm' : m = cap0 := hmm
    have key : ∀ i, i < len0 → ∃ e : Act, EArg w e.A e.n e.c e.L ∧ a.block < w.heap.size ∧ w.cell? (a.add (i * 3)) = some (.int .i64 e.d) ∧ w.cell? (a.add (i * 3 + 1)) = some (.int .i64 e.at_) ∧ w.cell? (a.add (i * 3 + 2)) = some (.slice e.A e.n e.c) := by
      intro i hi
      obtain ⟨cs', hc, ht⟩ := hx i (by omega)
      obtain ⟨e, rfl, hok⟩ := act_at ht
      have hblk := World.cells?_block hc (by omega)
      obtain ⟨_, _, hat⟩ := World.cells?_some hc
      rw [block_add] at hblk
      refine ⟨e, hok, hblk, ?_, ?_, ?_⟩
      · have := hat 0 (by omega); rw [Go.Deep.add_add] at this; exact this
      · have := hat 1 (by omega); rw [Go.Deep.add_add] at this; exact this
      · have := hat 2 (by omega); rw [Go.Deep.add_add] at this; exact this
    obtain ⟨E, hE⟩ : ∃ E : Nat → Act, ∀ i, i < len0 → EArg w (E i).A (E i).n (E i).c (E i).L ∧ a.block < w.heap.size ∧ w.cell? (a.add (i * 3)) = some (.int .i64 (E i).d) ∧ w.cell? (a.add (i * 3 + 1)) = some (.int .i64 (E i).at_) ∧ w.cell? (a.add (i * 3 + 2)) = some (.slice (E i).A (E i).n (E i).c) :=
      ⟨fun i => if h : i < len0 then (key i h).choose else ⟨0, 0, none, 0, 0, []⟩, fun i hi => by simp only [dif_pos hi]; exact (key i hi).choose_spec⟩
    refine ⟨some a, len0, cap0, (List.range len0).map E, rfl, ⟨by simp, fun i hi => ?_, fun x hx => ?_⟩, Nat.le_trans hl hm⟩
    · have hi' : i < len0 := by simpa using hi
      obtain ⟨_, _, g0, _⟩ := hE 0 (by omega)
      have hs : a.spot = none := spot_cell (a := a) g0
      obtain ⟨h1, h2, h3, h4, h5⟩ := hE i hi'
      rw [add_flat hs] at h3 h4 h5
      have ge : ((List.range len0).map E)[i] = E i := by simp
      rw [ge]
      refine ⟨a.block, a.off, ?_, h2, h3, h4, h5⟩
      obtain ⟨b, o, sp⟩ := a
      obtain rfl : sp = none := hs
      rfl
    · rw [List.mem_map] at hx
      obtain ⟨i, hi, rfl⟩ := hx
      exact (hE i (List.mem_range.1 hi)).1
end
end Go.Proofs.Ytkkefgbmdghklaa
