/- Lists of nodes as memory holds them; an argument that is one; arguments of whatever type behind a call that leaves what stood as it was. -/
import Derived.Test.YtkkefgbmdghklaaBase
import Derived.Lib.SmallJoins
import Derived.OpenShut
import Derived.ShutString
import Derived.ChangeOld
import Derived.ReadAgain
import Derived.Deep.Slices
import Derived.Deep.Fields
import Derived.Deep.Strs
import Derived.Laws.AppendOwnNone
import Derived.Maps.AppendAt
namespace Go.Proofs.Ytkkefgbmdghklaa
open Go.Joins Go.ChangeShapes Go.WideShapes Go.RowKit Go.Deep

section
variable {H : Type} {enc : TypeId × Value → H} {w w' : World} {sp : Nat → Bool}
theorem trodAll_carry (hb : Below w.heap.size w w') : ∀ {ts : List TypeId} {vs : List Value} {ds : List (DataW H)} {ps : List MemPlace},
    DataW.TrodAll enc Try.prog w 0 (fun _ => true) true ts vs ds ps → DataW.TrodAll enc Try.prog w' 0 (fun _ => true) true ts vs ds ps
  | [], [], [], _, h => h
  | _ :: _, _ :: _, _ :: _, _, ⟨p, q, ⟨n, hn⟩, h2, e⟩ => ⟨p, q, ⟨n, DataW.trod_carry n _ _ _ hn (fun x hx => hb.same (DataW.trod_lt n _ _ _ hn x hx))⟩, trodAll_carry hb h2, e⟩
theorem kids_here : Kids Try.prog (· < Try.prog.types.size) := kids_rows (by kernel_rfl) (by kernel_rfl)
theorem slices_here : ∀ t e, t < Try.prog.types.size → Try.prog.underlying t = some (.slice e) → 0 < Try.prog.cellsOf e := slices_full_of _ (by kernel_rfl)
theorem args_back (hb : Below w.heap.size w w') {ts : List TypeId} {vs : List Value} {ds : List (DataW H)} {ps : List MemPlace} (hts : (ts.all fun t => decide (t < Try.prog.types.size)) = true)
    (h : DataW.TrodAll enc Try.prog w 0 (fun _ => true) true ts vs ds ps) (hs : ∀ p ∈ ps, sp p.block = true) : DataW.TrodAll enc Try.prog w' 0 sp true ts vs ds ps :=
  DataW.TrodAll.respare kids_here slices_here (fun t ht => of_decide_eq_true (List.all_eq_true.1 hts t ht)) (trodAll_carry hb h) hs
end

/-- A node: its kind, where it begins and ends, how deep it lies. -/
abbrev Nd : Type := Int × Int × Int × Int
def NdOk (x : Nd) : Prop := (Lit.int .u8 x.1).wf = true ∧ (Lit.int .i64 x.2.1).wf = true ∧ (Lit.int .i64 x.2.2.1).wf = true ∧ (Lit.int .i64 x.2.2.2).wf = true
/-- A list of nodes, as memory holds it. -/
structure Nds (w : World) (A : Option Addr) (n : Nat) (L : List Nd) : Prop where
  len : L.length = n
  at_ : ∀ i (h : i < L.length), ∃ b o, A = some ⟨b, o, none⟩ ∧ b < w.heap.size ∧ w.cell? ⟨b, o + i * 4, none⟩ = some (.int .u8 (L[i]'h).1) ∧ w.cell? ⟨b, o + i * 4 + 1, none⟩ = some (.int .i64 (L[i]'h).2.1) ∧ w.cell? ⟨b, o + i * 4 + 2, none⟩ = some (.int .i64 (L[i]'h).2.2.1) ∧ w.cell? ⟨b, o + i * 4 + 3, none⟩ = some (.int .i64 (L[i]'h).2.2.2)
theorem Nds.keep {w w' : World} {B : Nat} {A : Option Addr} {n : Nat} {L : List Nd} (h : Nds w A n L) (hu : Below B w w') (hB : ∀ a, A = some a → a.block < B) : Nds w' A n L := by
  refine ⟨h.len, fun i hi => ?_⟩
  obtain ⟨b, o, h2, h3, h4, h5, h6, h7⟩ := h.at_ i hi
  have hc : ∀ k, w'.cell? ⟨b, k, none⟩ = w.cell? ⟨b, k, none⟩ := fun k => Below.cell hu (show b < B from hB _ h2)
  exact ⟨b, o, h2, Nat.lt_of_lt_of_le h3 (Below.size hu), (hc _).trans h4, (hc _).trans h5, (hc _).trans h6, (hc _).trans h7⟩
theorem Nds.up {w w' : World} {A : Option Addr} {n : Nat} {L : List Nd} (h : Nds w A n L) (hu : Up w w') : Nds w' A n L := by
  refine ⟨h.len, fun i hi => ?_⟩
  obtain ⟨b, o, h2, h3, h4, h5, h6, h7⟩ := h.at_ i hi
  exact ⟨b, o, h2, Nat.lt_of_lt_of_le h3 (Below.size hu), cell_up hu h4, cell_up hu h5, cell_up hu h6, cell_up hu h7⟩
theorem Nds.nil (w : World) (A : Option Addr) : Nds w A 0 [] := ⟨rfl, fun _ h => absurd h (Nat.not_lt_zero _)⟩
/-- The cells of a list of nodes, and of numbers. -/
def ndCells : List Nd → List Value
  | [] => []
  | r :: t => .int .u8 r.1 :: .int .i64 r.2.1 :: .int .i64 r.2.2.1 :: .int .i64 r.2.2.2 :: ndCells t
def inCells (L : List Int) : List Value := L.map fun x => .int .i64 x
theorem ndCells_len : ∀ L : List Nd, (ndCells L).length = L.length * 4
  | [] => rfl
  | r :: t => by show (ndCells t).length + 1 + 1 + 1 + 1 = (t.length + 1) * 4; rw [ndCells_len t]; omega
theorem ndCells_append : ∀ L M : List Nd, ndCells (L ++ M) = ndCells L ++ ndCells M
  | [], _ => rfl
  | r :: t, M => by
    show Value.int .u8 r.1 :: .int .i64 r.2.1 :: .int .i64 r.2.2.1 :: .int .i64 r.2.2.2 :: ndCells (t ++ M) = _
    rw [ndCells_append t M]
    rfl
theorem ndCells_at : ∀ (L : List Nd) (i : Nat) (h : i < L.length), (ndCells L)[i * 4]? = some (.int .u8 (L[i]'h).1) ∧ (ndCells L)[i * 4 + 1]? = some (.int .i64 (L[i]'h).2.1) ∧ (ndCells L)[i * 4 + 2]? = some (.int .i64 (L[i]'h).2.2.1) ∧ (ndCells L)[i * 4 + 3]? = some (.int .i64 (L[i]'h).2.2.2)
  | r :: t, 0, _ => ⟨rfl, rfl, rfl, rfl⟩
  | r :: t, i + 1, h => by
    have := ndCells_at t i (by simpa using h)
    rw [show (i + 1) * 4 = i * 4 + 1 + 1 + 1 + 1 from by omega]
    exact this
theorem ndCells_one (L : List Nd) : ∀ u ∈ ndCells L, u.oneCell' = true := by
  induction L with
  | nil => intro u h; cases h
  | cons r t ih =>
    intro u h
    rcases List.mem_cons.1 h with e | h
    · subst e; rfl
    rcases List.mem_cons.1 h with e | h
    · subst e; rfl
    rcases List.mem_cons.1 h with e | h
    · subst e; rfl
    rcases List.mem_cons.1 h with e | h
    · subst e; rfl
    · exact ih u h
theorem owns_cell {w : World} {B : Nat} {T : TypeId} {k n : Nat} {v : Value} {xs : List Value} (h : w.ownsRow B T k v n xs) : (v = .slice none 0 0 ∧ n = 0) ∨ ∃ g c, v = .slice (some ⟨g, 0, none⟩) n c ∧ B ≤ g ∧ g < w.heap.size ∧ ∀ (j : Nat) (u : Value), xs[j]? = some u → w.cell? ⟨g, j, none⟩ = some u := by
  rcases h.2 with ⟨e, e2⟩ | ⟨g, cap, cur, rfl, hg, hh, hn, hc, hs, ht⟩
  · exact .inl ⟨e, e2⟩
  · refine .inr ⟨g, cap, rfl, hg, (Array.getElem?_eq_some_iff.1 hh).1, fun j u hu => ?_⟩
    have hj : cur[j]? = some u := by
      rw [← ht] at hu
      rw [← Array.getElem?_toList]
      rw [List.getElem?_take] at hu
      split at hu
      · exact hu
      · cases hu
    simp [World.cell?, hh, hj]
theorem owns_nds {w : World} {B : Nat} {v : Value} {n : Nat} {L : List Nd} (h : w.ownsRow B 46 4 v n (ndCells L)) : ∃ A c, v = .slice A n c ∧ Nds w A n L ∧ (∀ a, A = some a → B ≤ a.block ∧ a = ⟨a.block, 0, none⟩) ∧ ∀ a, A = some a → a.block < w.heap.size := by
  have hl : L.length = n := by have := h.1; rw [ndCells_len] at this; omega
  rcases owns_cell h with ⟨rfl, rfl⟩ | ⟨g, c, rfl, hg, hw, hc⟩
  · obtain rfl : L = [] := List.eq_nil_of_length_eq_zero hl
    exact ⟨none, 0, rfl, Nds.nil _ _, fun a h => by (cases h), fun a h => by (cases h)⟩
  · refine ⟨some ⟨g, 0, none⟩, c, rfl, ⟨hl, fun i hi => ?_⟩, fun a e => ?_, fun a e => ?_⟩
    · obtain ⟨h1, h2, h3, h4⟩ := ndCells_at L i hi
      exact ⟨g, 0, rfl, hw, by rw [Nat.zero_add]; exact hc _ _ h1, by rw [Nat.zero_add]; exact hc _ _ h2, by rw [Nat.zero_add]; exact hc _ _ h3, by rw [Nat.zero_add]; exact hc _ _ h4⟩
    · obtain rfl := Option.some.inj e
      exact ⟨hg, rfl⟩
    · obtain rfl := Option.some.inj e
      exact hw
theorem block_add (a : Addr) (n : Nat) : (a.add n).block = a.block := by unfold Addr.add; split <;> rfl
theorem spot_cell {w : World} {a : Addr} {v : Value} (h : w.cell? a = some v) : a.spot = none := by
  unfold World.cell? at h
  split at h
  · cases hs : a.spot with
    | none => rfl
    | some k => rw [hs] at h; cases h
  · cases h
theorem add_flat {a : Addr} (h : a.spot = none) (k : Nat) : a.add k = ⟨a.block, a.off + k, none⟩ := by
  obtain ⟨b, o, sp⟩ := a
  obtain rfl : sp = none := h
  unfold Addr.add
  split
  · rename_i h0; subst h0; rfl
  · rfl
section
variable {H : Type} {enc : TypeId × Value → H} {w : World} {base : Nat} {spare : Nat → Bool} {held : Bool}
set_option maxRecDepth 100000 in
theorem node_at {n : Nat} {cs : List Value} {x : DataW H × List MemPlace} (h : DataW.trod enc Try.prog w base spare held n 46 cs = some x) :
    ∃ a : Nd, cs = [.int .u8 a.1, .int .i64 a.2.1, .int .i64 a.2.2.1, .int .i64 a.2.2.2] ∧ NdOk a := by
  obtain ⟨y0, y1, y2, y3, m, rfl, hl, h0, h1, h2, h3⟩ := trod_struct4 Try.underlying46 h
  have hl3 : cs.length = 4 := hl.trans (by kernel_rfl)
  match cs, hl3 with
  | [c0, c1, c2, c3], _ =>
    have k0 : DataW.trod enc Try.prog w base spare held m 5 [c0] = some y0 := h0
    have k1 : DataW.trod enc Try.prog w base spare held m 3 [c1] = some y1 := h1
    have k2 : DataW.trod enc Try.prog w base spare held m 3 [c2] = some y2 := h2
    have k3 : DataW.trod enc Try.prog w base spare held m 3 [c3] = some y3 := h3
    obtain ⟨n0, e0, -, g0⟩ := DataW.trod_int Try.underlying5 k0
    obtain ⟨n1, e1, -, g1⟩ := DataW.trod_int Try.underlying3 k1
    obtain ⟨n2, e2, -, g2⟩ := DataW.trod_int Try.underlying3 k2
    obtain ⟨n3, e3, -, g3⟩ := DataW.trod_int Try.underlying3 k3
    simp only [List.cons.injEq, and_true] at e0 e1 e2 e3
    subst e0 e1 e2 e3
    exact ⟨(n0, n1, n2, n3), rfl, g0, g1, g2, g3⟩
set_option maxRecDepth 100000 in
theorem open_nodes {r : Reach} {b0 : Nat} {w2 : World} {v : Value} {d : DataW H} {p : List MemPlace} (hv : Value.okWide Try.prog w2 r b0 24 v) (h : DataW.Trod enc Try.prog w 0 (fun _ => true) true 24 v d p) :
    ∃ (A : Option Addr) (n c : Nat) (L : List Nd), v = .slice A n c ∧ Nds w A n L ∧ (∀ x ∈ L, NdOk x) ∧ n ≤ maxLen ∧ (A = none → n = 0 ∧ c = 0) := by
  obtain ⟨A, len0, cap0, rfl⟩ := okWide_slice Try.underlying24 hv
  obtain ⟨fuel, hf⟩ := h
  have hce : Try.prog.cellsOf 46 = 4 := by kernel_rfl
  rcases open_slice Try.underlying24 hf with ⟨hcs, -⟩ | ⟨a, len, cap, m, n, D, Pl, hcs, hb, hl, hm, hmm, -, hx⟩
  · have hcs' : [Value.slice A len0 cap0] = [Value.slice none 0 0] := hcs
    simp only [List.cons.injEq, Value.slice.injEq, and_true] at hcs'
    obtain ⟨rfl, rfl, rfl⟩ := hcs'
    exact ⟨none, 0, 0, [], rfl, Nds.nil _ _, fun x hx => by (cases hx), Nat.zero_le _, fun _ => ⟨rfl, rfl⟩⟩
  · have hcs' : [Value.slice A len0 cap0] = [Value.slice (some a) len cap] := hcs
    simp only [List.cons.injEq, Value.slice.injEq, and_true] at hcs'
    obtain ⟨rfl, rfl, rfl⟩ := hcs'
    rw [hce] at hx
    have hmm' : m = cap0 := hmm
    have key : ∀ i, i < len0 → ∃ e : Nd, NdOk e ∧ a.block < w.heap.size ∧ w.cell? (a.add (i * 4)) = some (.int .u8 e.1) ∧ w.cell? (a.add (i * 4 + 1)) = some (.int .i64 e.2.1) ∧ w.cell? (a.add (i * 4 + 2)) = some (.int .i64 e.2.2.1) ∧ w.cell? (a.add (i * 4 + 3)) = some (.int .i64 e.2.2.2) := by
      intro i hi
      obtain ⟨cs', hc, ht⟩ := hx i (by omega)
      obtain ⟨e, rfl, hok⟩ := node_at ht
      have hblk := World.cells?_block hc (by omega)
      obtain ⟨_, _, hat⟩ := World.cells?_some hc
      rw [block_add] at hblk
      refine ⟨e, hok, hblk, ?_, ?_, ?_, ?_⟩
      · have := hat 0 (by omega); rw [Go.Deep.add_add] at this; exact this
      · have := hat 1 (by omega); rw [Go.Deep.add_add] at this; exact this
      · have := hat 2 (by omega); rw [Go.Deep.add_add] at this; exact this
      · have := hat 3 (by omega); rw [Go.Deep.add_add] at this; exact this
    obtain ⟨E, hE⟩ : ∃ E : Nat → Nd, ∀ i, i < len0 → NdOk (E i) ∧ a.block < w.heap.size ∧ w.cell? (a.add (i * 4)) = some (.int .u8 (E i).1) ∧ w.cell? (a.add (i * 4 + 1)) = some (.int .i64 (E i).2.1) ∧ w.cell? (a.add (i * 4 + 2)) = some (.int .i64 (E i).2.2.1) ∧ w.cell? (a.add (i * 4 + 3)) = some (.int .i64 (E i).2.2.2) :=
      ⟨fun i => if h : i < len0 then (key i h).choose else (0, 0, 0, 0), fun i hi => by simp only [dif_pos hi]; exact (key i hi).choose_spec⟩
    refine ⟨some a, len0, cap0, (List.range len0).map E, rfl, ⟨by simp, fun i hi => ?_⟩, fun x hx => ?_, Nat.le_trans hl hm, fun h => by cases h⟩
    · have hi' : i < len0 := by simpa using hi
      obtain ⟨_, _, g0, _⟩ := hE 0 (by omega)
      have hs : a.spot = none := spot_cell (a := a) g0
      obtain ⟨h1, h2, h3, h4, h5, h6⟩ := hE i hi'
      rw [add_flat hs] at h3 h4 h5 h6
      have ge : ((List.range len0).map E)[i] = E i := by simp
      rw [ge]
      refine ⟨a.block, a.off, ?_, h2, h3, h4, h5, h6⟩
      obtain ⟨b, o, sp⟩ := a
      obtain rfl : sp = none := hs
      rfl
    · rw [List.mem_map] at hx
      obtain ⟨i, hi, rfl⟩ := hx
      exact (hE i (List.mem_range.1 hi)).1
end
theorem wf64 {a : Int} (h : (Lit.int .i64 a).wf = true) : -9223372036854775808 ≤ a ∧ a ≤ 9223372036854775807 := by
  simpa [Lit.wf, IntKind.min, IntKind.max, IntKind.signed, IntKind.bits] using h
theorem wf8 {a : Int} (h : (Lit.int .u8 a).wf = true) : 0 ≤ a ∧ a ≤ 255 := by
  simpa [Lit.wf, IntKind.min, IntKind.max, IntKind.signed, IntKind.bits] using h
open Go.ChangeAt in
set_option maxRecDepth 100000 in
theorem nodes_lt {r : Reach} {b0 : Nat} {w : World} {A : Option Addr} {n c : Nat} (hv : Value.okWide Try.prog w r b0 24 (.slice A n c)) : ∀ b, A = some b → b.block < w.heap.size := by
  rintro b rfl
  simp only [Value.okWide, Try.underlying24, Cell.okWide, Cell.ok] at hv
  obtain ⟨-, -, -, -, row, cells, hs, -⟩ := hv
  unfold World.shape? at hs
  rcases Nat.lt_or_ge b.block w.heap.size with h | h
  · exact h
  · rw [Array.getElem?_eq_none h] at hs
    cases hs
/-- A list that may be handed in. -/
structure NArg (w : World) (A : Option Addr) (n : Nat) (L : List Nd) : Prop where
  nds : Nds w A n L
  lt : ∀ b, A = some b → b.block < w.heap.size
  ok : ∀ x ∈ L, NdOk x
theorem NArg.up {w w' : World} {A : Option Addr} {n : Nat} {L : List Nd} (h : NArg w A n L) (hu : Up w w') : NArg w' A n L :=
  ⟨h.nds.up hu, fun b e => Nat.lt_of_lt_of_le (h.lt b e) (Below.size hu), h.ok⟩
/-- A list of nodes, and of numbers, in a row that lies at B or above. -/
def RowN (w : World) (B : Nat) (v : Value) (L : List Nd) : Prop := w.ownsRow B 46 4 v L.length (ndCells L)
def RowI (w : World) (B : Nat) (v : Value) (o : List Int) : Prop := w.ownsRow B 3 1 v o.length (inCells o)
end Go.Proofs.Ytkkefgbmdghklaa
