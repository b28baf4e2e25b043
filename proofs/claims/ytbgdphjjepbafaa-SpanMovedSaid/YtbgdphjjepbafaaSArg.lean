/- Lists of ranges, and of places, as memory holds them; an argument that is a list of ranges; arguments of whatever type behind a call that leaves what stood as it was. -/
import Derived.Test.YtbgdphjjepbafaaEditArgB
import Derived.Test.YtbgdphjjepbafaaSMath
import Derived.ReadAgain
import Derived.Deep.Slices
import Derived.Deep.Fields
import Derived.Deep.Strs
namespace Go.Proofs.Ytbgdphjjepbafaa
open Go.Joins Go.ChangeShapes Go.WideShapes Go.RowKit Go.Deep

section
variable {H : Type} {enc : TypeId × Value → H} {w w' : World} {sp : Nat → Bool}
theorem trodAll_carry (hb : Below w.heap.size w w') : ∀ {ts : List TypeId} {vs : List Value} {ds : List (DataW H)} {ps : List MemPlace},
    DataW.TrodAll enc Try.prog w 0 (fun _ => true) true ts vs ds ps → DataW.TrodAll enc Try.prog w' 0 (fun _ => true) true ts vs ds ps
  | [], [], [], _, h => h
  | _ :: _, _ :: _, _ :: _, _, ⟨p, q, ⟨n, hn⟩, h2, e⟩ => ⟨p, q, ⟨n, DataW.trod_carry n _ _ _ hn (fun x hx => hb.same (DataW.trod_lt n _ _ _ hn x hx))⟩, trodAll_carry hb h2, e⟩
theorem kids_here : Kids Try.prog (· < Try.prog.types.size) := kids_rows (by kernel_rfl) (by kernel_rfl)
theorem slices_here : ∀ t e, t < Try.prog.types.size → Try.prog.underlying t = some (.slice e) → 0 < Try.prog.cellsOf e := slices_full_of _ (by kernel_rfl)
theorem args_back (hb : Below w.heap.size w w') {ts : List TypeId} {vs : List Value} {ds : List (DataW H)} {ps : List MemPlace} (hts : (ts.all fun t => decide (t < Try.prog.types.size)) = true)
    (h : DataW.TrodAll enc Try.prog w 0 (fun _ => true) true ts vs ds ps) (hs : ∀ p ∈ ps, sp p.block = true) : DataW.TrodAll enc Try.prog w' 0 sp true ts vs ds ps :=
  DataW.TrodAll.respare kids_here slices_here (fun t ht => of_decide_eq_true (List.all_eq_true.1 hts t ht)) (trodAll_carry hb h) hs
end

/-- A list of ranges, as memory holds it. -/
def RgOk (r : Rng) : Prop := (Lit.int .i64 r.1).wf = true ∧ (Lit.int .i64 r.2).wf = true
structure Rgs (w : World) (A : Option Addr) (n : Nat) (L : List Rng) : Prop where
  len : L.length = n
  at_ : ∀ i (h : i < L.length), ∃ b o, A = some ⟨b, o, none⟩ ∧ b < w.heap.size ∧ w.cell? ⟨b, o + i * 2, none⟩ = some (.int .i64 (L[i]'h).1) ∧ w.cell? ⟨b, o + i * 2 + 1, none⟩ = some (.int .i64 (L[i]'h).2)
theorem Rgs.keep {w w' : World} {B : Nat} {A : Option Addr} {n : Nat} {L : List Rng} (h : Rgs w A n L) (hu : Below B w w') (hB : ∀ a, A = some a → a.block < B) : Rgs w' A n L := by
  refine ⟨h.len, fun i hi => ?_⟩
  obtain ⟨b, o, h2, h3, h4, h5⟩ := h.at_ i hi
  have hc : ∀ k, w'.cell? ⟨b, k, none⟩ = w.cell? ⟨b, k, none⟩ := fun k => Below.cell hu (show b < B from hB _ h2)
  exact ⟨b, o, h2, Nat.lt_of_lt_of_le h3 (Below.size hu), (hc _).trans h4, (hc _).trans h5⟩
theorem Rgs.up {w w' : World} {A : Option Addr} {n : Nat} {L : List Rng} (h : Rgs w A n L) (hu : Up w w') : Rgs w' A n L := by
  refine ⟨h.len, fun i hi => ?_⟩
  obtain ⟨b, o, h2, h3, h4, h5⟩ := h.at_ i hi
  exact ⟨b, o, h2, Nat.lt_of_lt_of_le h3 (Below.size hu), cell_up hu h4, cell_up hu h5⟩
theorem Rgs.nil (w : World) (A : Option Addr) : Rgs w A 0 [] := ⟨rfl, fun _ h => absurd h (Nat.not_lt_zero _)⟩
/-- The cells of a list of ranges, and of places. -/
def rgCells : List Rng → List Value
  | [] => []
  | r :: t => .int .i64 r.1 :: .int .i64 r.2 :: rgCells t
def inCells (L : List Int) : List Value := L.map fun x => .int .i64 x
theorem rgCells_len : ∀ L : List Rng, (rgCells L).length = L.length * 2
  | [] => rfl
  | r :: t => by show (rgCells t).length + 1 + 1 = (t.length + 1) * 2; rw [rgCells_len t]; omega
theorem rgCells_append : ∀ L M : List Rng, rgCells (L ++ M) = rgCells L ++ rgCells M
  | [], _ => rfl
  | r :: t, M => by
    show Value.int .i64 r.1 :: .int .i64 r.2 :: rgCells (t ++ M) = _
    rw [rgCells_append t M]
    rfl
theorem rgCells_at : ∀ (L : List Rng) (i : Nat) (h : i < L.length), (rgCells L)[i * 2]? = some (.int .i64 (L[i]'h).1) ∧ (rgCells L)[i * 2 + 1]? = some (.int .i64 (L[i]'h).2)
  | r :: t, 0, _ => ⟨rfl, rfl⟩
  | r :: t, i + 1, h => by
    have := rgCells_at t i (by simpa using h)
    rw [show (i + 1) * 2 = i * 2 + 1 + 1 from by omega]
    exact this
theorem rgCells_one (L : List Rng) : ∀ u ∈ rgCells L, u.oneCell' = true := by
  induction L with
  | nil => intro u h; cases h
  | cons r t ih =>
    intro u h
    rcases List.mem_cons.1 h with e | h
    · subst e; rfl
    · rcases List.mem_cons.1 h with e | h
      · subst e; rfl
      · exact ih u h
theorem owns_cell {w : World} {B : Nat} {T : TypeId} {k n : Nat} {v : Value} {xs : List Value} (h : w.ownsRow B T k v n xs) : (v = .slice none 0 0 ∧ n = 0) ∨ ∃ g c, v = .slice (some ⟨g, 0, none⟩) n c ∧ B ≤ g ∧ g < w.heap.size ∧ ∀ (j : Nat) (u : Value), xs[j]? = some u → w.cell? ⟨g, j, none⟩ = some u := by
  rcases h.2 with ⟨e, e2⟩ | ⟨g, cap, cur, rfl, hg, hh, hn, hc, hs, ht⟩
  · exact .inl ⟨e, e2⟩
  · refine .inr ⟨g, cap, rfl, hg, (Array.getElem?_eq_some_iff.1 hh).1, fun j u hu => ?_⟩
    have hj : cur[j]? = some u := by
      rw [← ht] at hu
      rw [← Array.getElem?_toList]
      rw [List.getElem?_take] at hu
      split at hu
      · exact hu
      · cases hu
    simp [World.cell?, hh, hj]
theorem owns_rgs {w : World} {B : Nat} {v : Value} {n : Nat} {L : List Rng} (h : w.ownsRow B 29 2 v n (rgCells L)) : ∃ A c, v = .slice A n c ∧ Rgs w A n L ∧ ∀ a, A = some a → B ≤ a.block ∧ a = ⟨a.block, 0, none⟩ := by
  have hl : L.length = n := by have := h.1; rw [rgCells_len] at this; omega
  rcases owns_cell h with ⟨rfl, rfl⟩ | ⟨g, c, rfl, hg, hw, hc⟩
  · obtain rfl : L = [] := List.eq_nil_of_length_eq_zero hl
    exact ⟨none, 0, rfl, Rgs.nil _ _, fun a h => by cases h⟩
  · refine ⟨some ⟨g, 0, none⟩, c, rfl, ⟨hl, fun i hi => ?_⟩, fun a e => ?_⟩
    · obtain ⟨h1, h2⟩ := rgCells_at L i hi
      exact ⟨g, 0, rfl, hw, by rw [Nat.zero_add]; exact hc _ _ h1, by rw [Nat.zero_add]; exact hc _ _ h2⟩
    · obtain rfl := Option.some.inj e
      exact ⟨hg, rfl⟩
theorem block_add (a : Addr) (n : Nat) : (a.add n).block = a.block := by unfold Addr.add; split <;> rfl
theorem spot_cell {w : World} {a : Addr} {v : Value} (h : w.cell? a = some v) : a.spot = none := by
  unfold World.cell? at h
  split at h
  · cases hs : a.spot with
    | none => rfl
    | some k => rw [hs] at h; cases h
  · cases h
theorem add_flat {a : Addr} (h : a.spot = none) (k : Nat) : a.add k = ⟨a.block, a.off + k, none⟩ := by
  obtain ⟨b, o, sp⟩ := a
  obtain rfl : sp = none := h
  unfold Addr.add
  split
  · rename_i h0; subst h0; rfl
  · rfl
section
variable {H : Type} {enc : TypeId × Value → H} {w : World} {base : Nat} {spare : Nat → Bool} {held : Bool}
set_option maxRecDepth 100000 in
theorem range_at {n : Nat} {cs : List Value} {x : DataW H × List MemPlace} (h : DataW.trod enc Try.prog w base spare held n 29 cs = some x) :
    ∃ a : Rng, cs = [.int .i64 a.1, .int .i64 a.2] ∧ RgOk a := by
  obtain ⟨y0, y1, m, rfl, hl, h0, h1⟩ := trod_struct2 Try.underlying29 h
  have hl3 : cs.length = 2 := hl.trans (by kernel_rfl)
  match cs, hl3 with
  | [c0, c1], _ =>
    have k0 : DataW.trod enc Try.prog w base spare held m 3 [c0] = some y0 := h0
    have k1 : DataW.trod enc Try.prog w base spare held m 3 [c1] = some y1 := h1
    obtain ⟨n0, e0, -, g0⟩ := DataW.trod_int Try.underlying3 k0
    obtain ⟨n1, e1, -, g1⟩ := DataW.trod_int Try.underlying3 k1
    simp only [List.cons.injEq, and_true] at e0 e1
    subst e0 e1
    exact ⟨(n0, n1), rfl, g0, g1⟩
set_option maxRecDepth 100000 in
theorem open_ranges {r : Reach} {b0 : Nat} {w2 : World} {v : Value} {d : DataW H} {p : List MemPlace} (hv : Value.okWide Try.prog w2 r b0 22 v) (h : DataW.Trod enc Try.prog w 0 (fun _ => true) true 22 v d p) :
    ∃ (A : Option Addr) (n c : Nat) (L : List Rng), v = .slice A n c ∧ Rgs w A n L ∧ (∀ x ∈ L, RgOk x) ∧ n ≤ maxLen ∧ (A = none → n = 0 ∧ c = 0) := by
  obtain ⟨A, len0, cap0, rfl⟩ := okWide_slice Try.underlying22 hv
  obtain ⟨fuel, hf⟩ := h
  have hce : Try.prog.cellsOf 29 = 2 := by kernel_rfl
  rcases open_slice Try.underlying22 hf with ⟨hcs, -⟩ | ⟨a, len, cap, m, n, D, Pl, hcs, hb, hl, hm, hmm, -, hx⟩
  · have hcs' : [Value.slice A len0 cap0] = [Value.slice none 0 0] := hcs
    simp only [List.cons.injEq, Value.slice.injEq, and_true] at hcs'
    obtain ⟨rfl, rfl, rfl⟩ := hcs'
    exact ⟨none, 0, 0, [], rfl, Rgs.nil _ _, fun x hx => by (cases hx), Nat.zero_le _, fun _ => ⟨rfl, rfl⟩⟩
  · have hcs' : [Value.slice A len0 cap0] = [Value.slice (some a) len cap] := hcs
    simp only [List.cons.injEq, Value.slice.injEq, and_true] at hcs'
    obtain ⟨rfl, rfl, rfl⟩ := hcs'
    rw [hce] at hx
    have hmm' : m = cap0 := hmm
    have key : ∀ i, i < len0 → ∃ e : Rng, RgOk e ∧ a.block < w.heap.size ∧ w.cell? (a.add (i * 2)) = some (.int .i64 e.1) ∧ w.cell? (a.add (i * 2 + 1)) = some (.int .i64 e.2) := by
      intro i hi
      obtain ⟨cs', hc, ht⟩ := hx i (by omega)
      obtain ⟨e, rfl, hok⟩ := range_at ht
      have hblk := World.cells?_block hc (by omega)
      obtain ⟨_, _, hat⟩ := World.cells?_some hc
      rw [block_add] at hblk
      refine ⟨e, hok, hblk, ?_, ?_⟩
      · have := hat 0 (by omega); rw [Go.Deep.add_add] at this; exact this
      · have := hat 1 (by omega); rw [Go.Deep.add_add] at this; exact this
    obtain ⟨E, hE⟩ : ∃ E : Nat → Rng, ∀ i, i < len0 → RgOk (E i) ∧ a.block < w.heap.size ∧ w.cell? (a.add (i * 2)) = some (.int .i64 (E i).1) ∧ w.cell? (a.add (i * 2 + 1)) = some (.int .i64 (E i).2) :=
      ⟨fun i => if h : i < len0 then (key i h).choose else (0, 0), fun i hi => by simp only [dif_pos hi]; exact (key i hi).choose_spec⟩
    refine ⟨some a, len0, cap0, (List.range len0).map E, rfl, ⟨by simp, fun i hi => ?_⟩, fun x hx => ?_, Nat.le_trans hl hm, fun h => by cases h⟩
    · have hi' : i < len0 := by simpa using hi
      obtain ⟨_, _, g0, _⟩ := hE 0 (by omega)
      have hs : a.spot = none := spot_cell (a := a) g0
      obtain ⟨h1, h2, h3, h4⟩ := hE i hi'
      rw [add_flat hs] at h3 h4
      have ge : ((List.range len0).map E)[i] = E i := by simp
      rw [ge]
      refine ⟨a.block, a.off, ?_, h2, h3, h4⟩
      obtain ⟨b, o, sp⟩ := a
      obtain rfl : sp = none := hs
      rfl
    · rw [List.mem_map] at hx
      obtain ⟨i, hi, rfl⟩ := hx
      exact (hE i (List.mem_range.1 hi)).1
end
end Go.Proofs.Ytbgdphjjepbafaa
