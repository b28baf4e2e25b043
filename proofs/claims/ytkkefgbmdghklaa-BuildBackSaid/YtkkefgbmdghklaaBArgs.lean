/- Arguments: lists of events, lists of acts. -/
import Derived.Test.YtkkefgbmdghklaaBRep
import Derived.Lib.SmallJoins
import Derived.OpenShut
import Derived.ShutString
import Derived.ChangeOld
import Derived.ReadAgain
import Derived.Deep.Slices
import Derived.Deep.Fields
import Derived.Deep.Strs
namespace Go.Proofs.Ytkkefgbmdghklaa
open Go.Joins Go.ChangeShapes Go.WideShapes Go.RowKit Go.Deep
section
variable {H : Type} {enc : TypeId × Value → H} {w : World} {base : Nat} {spare : Nat → Bool} {held : Bool}
set_option maxRecDepth 100000 in
theorem event_at {n : Nat} {cs : List Value} {x : DataW H × List MemPlace} (h : DataW.trod enc Try.prog w base spare held n 42 cs = some x) :
    ∃ a : Ev, cs = [.int .u8 a.1, .int .u8 a.2.1, .int .i64 a.2.2.1, .int .i64 a.2.2.2] ∧ EvOk a := by
  obtain ⟨y0, y1, y2, y3, m, rfl, hl, h0, h1, h2, h3⟩ := trod_struct4 Try.underlying42 h
  have hl3 : cs.length = 4 := hl.trans (by kernel_rfl)
  match cs, hl3 with
  | [c0, c1, c2, c3], _ =>
    have k0 : DataW.trod enc Try.prog w base spare held m 5 [c0] = some y0 := h0
    have k1 : DataW.trod enc Try.prog w base spare held m 5 [c1] = some y1 := h1
    have k2 : DataW.trod enc Try.prog w base spare held m 3 [c2] = some y2 := h2
    have k3 : DataW.trod enc Try.prog w base spare held m 3 [c3] = some y3 := h3
    obtain ⟨n0, e0, -, g0⟩ := DataW.trod_int Try.underlying5 k0
    obtain ⟨n1, e1, -, g1⟩ := DataW.trod_int Try.underlying5 k1
    obtain ⟨n2, e2, -, g2⟩ := DataW.trod_int Try.underlying3 k2
    obtain ⟨n3, e3, -, g3⟩ := DataW.trod_int Try.underlying3 k3
    simp only [List.cons.injEq, and_true] at e0 e1 e2 e3
    subst e0 e1 e2 e3
    exact ⟨(n0, n1, n2, n3), rfl, g0, g1, g2, g3⟩
/-- Events that may be handed in. -/
structure EArg (w : World) (A : Option Addr) (n c : Nat) (L : List Ev) : Prop where
  evs : Evs w A n L
  ok : ∀ x ∈ L, EvOk x
  cap : n ≤ c
  len : n ≤ maxLen
theorem EArg.up {w w' : World} {A : Option Addr} {n c : Nat} {L : List Ev} (h : EArg w A n c L) (hu : Up w w') : EArg w' A n c L := ⟨h.evs.up hu, h.ok, h.cap, h.len⟩
theorem EArg.lt {w : World} {A : Option Addr} {n c : Nat} {L : List Ev} (h : EArg w A n c L) : ∀ a, A = some a → 0 < n → a.block < w.heap.size := fun a e h0 => by
  obtain ⟨b, o, h1, h2, -⟩ := h.evs.at_ 0 (by have := h.evs.len; omega)
  rw [e] at h1
  injection h1 with h1
  subst h1
  exact h2
set_option maxRecDepth 100000 in
/-- A slice of events that is read. -/
theorem evs_trod {n : Nat} {v : Value} {x : DataW H × List MemPlace} (hf : DataW.trod enc Try.prog w 0 (fun _ => true) true n 22 [v] = some x) :
    ∃ (A : Option Addr) (n c : Nat) (L : List Ev), v = .slice A n c ∧ EArg w A n c L ∧ (A = none → n = 0 ∧ c = 0) := by
  have hce : Try.prog.cellsOf 42 = 4 := by kernel_rfl
  rcases open_slice Try.underlying22 hf with ⟨hcs, -⟩ | ⟨a, len, cap, m, n, D, Pl, hcs, hb, hl, hm, hmm, -, hx⟩
  · simp only [List.cons.injEq, and_true] at hcs
    exact ⟨none, 0, 0, [], hcs, ⟨Evs.nil _ _, fun x hx => by (cases hx), Nat.le_refl _, Nat.zero_le _⟩, fun _ => ⟨rfl, rfl⟩⟩
  · simp only [List.cons.injEq, and_true] at hcs
    rw [hce] at hx
    have hmm' : m = cap := hmm
    have key : ∀ i, i < len → ∃ e : Ev, EvOk e ∧ a.block < w.heap.size ∧ w.cell? (a.add (i * 4)) = some (.int .u8 e.1) ∧ w.cell? (a.add (i * 4 + 1)) = some (.int .u8 e.2.1) ∧ w.cell? (a.add (i * 4 + 2)) = some (.int .i64 e.2.2.1) ∧ w.cell? (a.add (i * 4 + 3)) = some (.int .i64 e.2.2.2) := by
      intro i hi
      obtain ⟨cs', hc, ht⟩ := hx i (by omega)
      obtain ⟨e, rfl, hok⟩ := event_at ht
      have hblk := World.cells?_block hc (by omega)
      obtain ⟨_, _, hat⟩ := World.cells?_some hc
      rw [block_add] at hblk
      refine ⟨e, hok, hblk, ?_, ?_, ?_, ?_⟩
      · have := hat 0 (by omega); rw [Go.Deep.add_add] at this; exact this
      · have := hat 1 (by omega); rw [Go.Deep.add_add] at this; exact this
      · have := hat 2 (by omega); rw [Go.Deep.add_add] at this; exact this
      · have := hat 3 (by omega); rw [Go.Deep.add_add] at this; exact this
    obtain ⟨E, hE⟩ : ∃ E : Nat → Ev, ∀ i, i < len → EvOk (E i) ∧ a.block < w.heap.size ∧ w.cell? (a.add (i * 4)) = some (.int .u8 (E i).1) ∧ w.cell? (a.add (i * 4 + 1)) = some (.int .u8 (E i).2.1) ∧ w.cell? (a.add (i * 4 + 2)) = some (.int .i64 (E i).2.2.1) ∧ w.cell? (a.add (i * 4 + 3)) = some (.int .i64 (E i).2.2.2) :=
      ⟨fun i => if h : i < len then (key i h).choose else (0, 0, 0, 0), fun i hi => by simp only [dif_pos hi]; exact (key i hi).choose_spec⟩
    refine ⟨some a, len, cap, (List.range len).map E, hcs, ⟨⟨by simp, fun i hi => ?_⟩, fun x hx => ?_, by omega, Nat.le_trans hl hm⟩, fun h => by cases h⟩
    · have hi' : i < len := by simpa using hi
      obtain ⟨_, _, g0, _⟩ := hE 0 (by omega)
      have hs : a.spot = none := spot_cell (a := a) g0
      obtain ⟨h1, h2, h3, h4, h5, h6⟩ := hE i hi'
      rw [add_flat hs] at h3 h4 h5 h6
      have ge : ((List.range len).map E)[i] = E i := by simp
      rw [ge]
      refine ⟨a.block, a.off, ?_, h2, h3, h4, h5, h6⟩
      obtain ⟨b, o, sp⟩ := a
      obtain rfl : sp = none := hs
      rfl
    · rw [List.mem_map] at hx
      obtain ⟨i, hi, rfl⟩ := hx
      exact (hE i (List.mem_range.1 hi)).1
theorem open_evs {r : Reach} {b0 : Nat} {w2 : World} {v : Value} {d : DataW H} {p : List MemPlace} (hv : Value.okWide Try.prog w2 r b0 22 v) (h : DataW.Trod enc Try.prog w 0 (fun _ => true) true 22 v d p) :
    ∃ (A : Option Addr) (n c : Nat) (L : List Ev), v = .slice A n c ∧ EArg w A n c L ∧ (A = none → n = 0 ∧ c = 0) := by
  obtain ⟨A, len0, cap0, rfl⟩ := okWide_slice Try.underlying22 hv
  obtain ⟨fuel, hf⟩ := h
  exact evs_trod hf
end
end Go.Proofs.Ytkkefgbmdghklaa
