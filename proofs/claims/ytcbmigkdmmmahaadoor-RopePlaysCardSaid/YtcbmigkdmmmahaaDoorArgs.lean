/- Arguments of whatever type: behind a call that leaves what stood as it was they read as they did. -/
import Derived.Test.YtcbmigkdmmmahaaDoorEditArg
import Derived.ReadAgain
import Derived.Deep.Slices
import Derived.Deep.Fields
import Derived.Deep.Strs
namespace Go.Proofs.YtcbmigkdmmmahaaDoor
open Go.Joins Go.ChangeShapes Go.WideShapes Go.RowKit Go.Deep

section
variable {H : Type} {enc : TypeId × Value → H} {w w' : World} {sp : Nat → Bool}
theorem trodAll_carry (hb : Below w.heap.size w w') : ∀ {ts : List TypeId} {vs : List Value} {ds : List (DataW H)} {ps : List MemPlace},
    DataW.TrodAll enc Tryd.prog w 0 (fun _ => true) true ts vs ds ps → DataW.TrodAll enc Tryd.prog w' 0 (fun _ => true) true ts vs ds ps
  | [], [], [], _, h => h
  | _ :: _, _ :: _, _ :: _, _, ⟨p, q, ⟨n, hn⟩, h2, e⟩ => ⟨p, q, ⟨n, DataW.trod_carry n _ _ _ hn (fun x hx => hb.same (DataW.trod_lt n _ _ _ hn x hx))⟩, trodAll_carry hb h2, e⟩
theorem kids_here : Kids Tryd.prog (· < Tryd.prog.types.size) := kids_rows (by kernel_rfl) (by kernel_rfl)
theorem slices_here : ∀ t e, t < Tryd.prog.types.size → Tryd.prog.underlying t = some (.slice e) → 0 < Tryd.prog.cellsOf e := slices_full_of _ (by kernel_rfl)
theorem args_back (hb : Below w.heap.size w w') {ts : List TypeId} {vs : List Value} {ds : List (DataW H)} {ps : List MemPlace} (hts : (ts.all fun t => decide (t < Tryd.prog.types.size)) = true)
    (h : DataW.TrodAll enc Tryd.prog w 0 (fun _ => true) true ts vs ds ps) (hs : ∀ p ∈ ps, sp p.block = true) : DataW.TrodAll enc Tryd.prog w' 0 sp true ts vs ds ps :=
  DataW.TrodAll.respare kids_here slices_here (fun t ht => of_decide_eq_true (List.all_eq_true.1 hts t ht)) (trodAll_carry hb h) hs
end

/-- A list of edits, as memory holds it. -/
def Edits (w : World) (A : Option Addr) (n : Nat) (E : Nat → Int × Int × ByteArray) : Prop :=
  ∀ i, i < n → EdOk (E i) ∧ ∃ b o, A = some ⟨b, o, none⟩ ∧ b < w.heap.size ∧ w.cell? ⟨b, o + i * 3, none⟩ = some (.int .i64 (E i).1) ∧ w.cell? ⟨b, o + i * 3 + 1, none⟩ = some (.int .i64 (E i).2.1) ∧ w.cell? ⟨b, o + i * 3 + 2, none⟩ = some (.string (E i).2.2)
theorem block_add (a : Addr) (n : Nat) : (a.add n).block = a.block := by unfold Addr.add; split <;> rfl
theorem spot_cell {w : World} {a : Addr} {v : Value} (h : w.cell? a = some v) : a.spot = none := by
  unfold World.cell? at h
  split at h
  · cases hs : a.spot with
    | none => rfl
    | some k => rw [hs] at h; cases h
  · cases h
theorem add_flat {a : Addr} (h : a.spot = none) (k : Nat) : a.add k = ⟨a.block, a.off + k, none⟩ := by
  obtain ⟨b, o, sp⟩ := a
  obtain rfl : sp = none := h
  unfold Addr.add
  split
  · rename_i h0; subst h0; rfl
  · rfl
theorem Edits.up {w w' : World} {A : Option Addr} {n : Nat} {E : Nat → Int × Int × ByteArray} (h : Edits w A n E) (hu : Up w w') : Edits w' A n E := by
  intro i hi
  obtain ⟨h1, b, o, h2, h3, h4, h5, h6⟩ := h i hi
  have hc : ∀ k, w'.cell? ⟨b, k, none⟩ = w.cell? ⟨b, k, none⟩ := fun k => Below.cell hu h3
  exact ⟨h1, b, o, h2, Nat.lt_of_lt_of_le h3 (Below.size hu), (hc _).trans h4, (hc _).trans h5, (hc _).trans h6⟩

section
variable {H : Type} {enc : TypeId × Value → H} {w : World} {base : Nat} {spare : Nat → Bool} {held : Bool}
set_option maxRecDepth 100000 in
theorem edit_at {n : Nat} {cs : List Value} {x : DataW H × List MemPlace} (h : DataW.trod enc Tryd.prog w base spare held n 31 cs = some x) :
    ∃ a : Int × Int × ByteArray, cs = [.int .i64 a.1, .int .i64 a.2.1, .string a.2.2] ∧ EdOk a := by
  obtain ⟨y0, y1, y2, m, rfl, hl, h0, h1, h2⟩ := trod_struct3 Tryd.underlying31 h
  have hl3 : cs.length = 3 := hl.trans (by kernel_rfl)
  match cs, hl3 with
  | [c0, c1, c2], _ =>
    have k0 : DataW.trod enc Tryd.prog w base spare held m 3 [c0] = some y0 := h0
    have k1 : DataW.trod enc Tryd.prog w base spare held m 3 [c1] = some y1 := h1
    have k2 : DataW.trod enc Tryd.prog w base spare held m 9 [c2] = some y2 := h2
    obtain ⟨n0, e0, -, g0⟩ := DataW.trod_int Tryd.underlying3 k0
    obtain ⟨n1, e1, -, g1⟩ := DataW.trod_int Tryd.underlying3 k1
    obtain ⟨n2, e2, -, g2⟩ := DataW.trod_string Tryd.underlying9 k2
    simp only [List.cons.injEq, and_true] at e0 e1 e2
    subst e0 e1 e2
    exact ⟨(n0, n1, n2), rfl, g0, g1, g2⟩
set_option maxRecDepth 100000 in
theorem open_edits {r : Reach} {b0 : Nat} {w2 : World} {v : Value} {d : DataW H} {p : List MemPlace} (hv : Value.okWide Tryd.prog w2 r b0 29 v) (h : DataW.Trod enc Tryd.prog w 0 (fun _ => true) true 29 v d p) :
    ∃ (A : Option Addr) (n c : Nat) (E : Nat → Int × Int × ByteArray), v = .slice A n c ∧ Edits w A n E ∧ n ≤ maxLen := by
  obtain ⟨A, len0, cap0, rfl⟩ := okWide_slice Tryd.underlying29 hv
  obtain ⟨fuel, hf⟩ := h
  have hce : Tryd.prog.cellsOf 31 = 3 := by kernel_rfl
  rcases open_slice Tryd.underlying29 hf with ⟨hcs, -⟩ | ⟨a, len, cap, m, n, D, Pl, hcs, hb, hl, hm, hmm, -, hx⟩
  · have hcs' : [Value.slice A len0 cap0] = [Value.slice none 0 0] := hcs
    simp only [List.cons.injEq, Value.slice.injEq, and_true] at hcs'
    obtain ⟨rfl, rfl, rfl⟩ := hcs'
    exact ⟨none, 0, 0, fun _ => (0, 0, ⟨#[]⟩), rfl, fun i hi => absurd hi (Nat.not_lt_zero _), Nat.zero_le _⟩
  · have hcs' : [Value.slice A len0 cap0] = [Value.slice (some a) len cap] := hcs
    simp only [List.cons.injEq, Value.slice.injEq, and_true] at hcs'
    obtain ⟨rfl, rfl, rfl⟩ := hcs'
    rw [hce] at hx
    have hmm' : m = cap0 := hmm
    have key : ∀ i, i < len0 → ∃ e : Int × Int × ByteArray, EdOk e ∧ a.block < w.heap.size ∧ w.cell? (a.add (i * 3)) = some (.int .i64 e.1) ∧ w.cell? (a.add (i * 3 + 1)) = some (.int .i64 e.2.1) ∧ w.cell? (a.add (i * 3 + 2)) = some (.string e.2.2) := by
      intro i hi
      obtain ⟨cs', hc, ht⟩ := hx i (by omega)
      obtain ⟨e, rfl, hok⟩ := edit_at ht
      have hblk := World.cells?_block hc (by omega)
      obtain ⟨_, _, hat⟩ := World.cells?_some hc
      rw [block_add] at hblk
      refine ⟨e, hok, hblk, ?_, ?_, ?_⟩
      · have := hat 0 (by omega); rw [Go.Deep.add_add] at this; exact this
      · have := hat 1 (by omega); rw [Go.Deep.add_add] at this; exact this
      · have := hat 2 (by omega); rw [Go.Deep.add_add] at this; exact this
    obtain ⟨E, hE⟩ : ∃ E : Nat → Int × Int × ByteArray, ∀ i, i < len0 → EdOk (E i) ∧ a.block < w.heap.size ∧ w.cell? (a.add (i * 3)) = some (.int .i64 (E i).1) ∧ w.cell? (a.add (i * 3 + 1)) = some (.int .i64 (E i).2.1) ∧ w.cell? (a.add (i * 3 + 2)) = some (.string (E i).2.2) :=
      ⟨fun i => if h : i < len0 then (key i h).choose else (0, 0, ⟨#[]⟩), fun i hi => by simp only [dif_pos hi]; exact (key i hi).choose_spec⟩
    refine ⟨some a, len0, cap0, E, rfl, fun i hi => ?_, Nat.le_trans hl hm⟩
    obtain ⟨_, _, g0, _, _⟩ := hE 0 (by omega)
    have hs : a.spot = none := spot_cell (a := a) g0
    obtain ⟨h1, h2, h3, h4, h5⟩ := hE i hi
    rw [add_flat hs] at h3 h4 h5
    refine ⟨h1, a.block, a.off, ?_, h2, h3, h4, h5⟩
    obtain ⟨b, o, sp⟩ := a
    obtain rfl : sp = none := hs
    rfl
end
end Go.Proofs.YtcbmigkdmmmahaaDoor
