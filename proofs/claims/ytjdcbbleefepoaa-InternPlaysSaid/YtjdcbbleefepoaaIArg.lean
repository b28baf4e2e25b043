/- Arguments: a state, a list of states, a list of acts. -/
import Derived.Test.YtjdcbbleefepoaaIState
import Derived.Lib.SmallJoins
import Derived.OpenShut
import Derived.ChangeOld
import Derived.ReadAgain
import Derived.Deep.Slices
import Derived.Deep.Fields
import Derived.SizedLaws
namespace Go.Proofs.Ytjdcbbleefepoaa
open Go.Joins Go.ChangeShapes Go.WideShapes Go.RowKit Go.Deep

section
variable {H : Type} {enc : TypeId × Value → H} {w : World} {base : Nat} {spare : Nat → Bool} {held : Bool}
theorem formed_S {x : Array Value} (h : x.size = 82) : (Value.agg x).formed Try.prog TS = true := by
  obtain ⟨fs, hu⟩ := sUnd
  simp only [Value.formed, hu, sCells, h]
  rfl
theorem mem_flatAll {l : Lit} : ∀ {ds : List (DataW H)}, l ∈ DataW.flatAll ds → ∃ d ∈ ds, l ∈ d.flat
  | [], h => by simp [DataW.flatAll] at h
  | d :: r, h => by
    simp only [DataW.flatAll, List.mem_append] at h
    rcases h with h | h
    · exact ⟨d, by simp, h⟩
    · obtain ⟨e, he, hl⟩ := mem_flatAll h
      exact ⟨e, by simp [he], hl⟩
theorem mem_weightsAll {e : TypeId} {n : Nat} : ∀ {ds : List (DataW H)} {d : DataW H}, d ∈ ds → n ∈ d.weights Try.prog e → n ∈ DataW.weightsAll Try.prog e ds
  | [], _, h, _ => by cases h
  | d0 :: r, d, h, hn => by
    simp only [DataW.weightsAll, List.mem_append]
    rcases List.mem_cons.1 h with h | h
    · subst h; exact .inl hn
    · exact .inr (mem_weightsAll h hn)
/-- A text within plain data is weighed. -/
theorem strs_weigh : ∀ (m : Nat) (t : TypeId), Try.prog.keyTypeAt m t = true → ∀ (n : Nat) (cs : List Value) (x : DataW H × List MemPlace), DataW.trod enc Try.prog w base spare held n t cs = some x → ∀ bs, Lit.string bs ∈ x.1.flat → bs.length ∈ x.1.weights Try.prog t
  | 0, _, h => by simp [Program.keyTypeAt] at h
  | m + 1, t, hk => by
    intro n cs x h bs hb
    unfold Program.keyTypeAt at hk
    cases hu : Try.prog.underlying t with
    | none => simp [hu] at hk
    | some kd =>
      cases kd
      case bool =>
        obtain ⟨b, rfl, rfl⟩ := DataW.trod_bool hu h
        simp [DataW.flat] at hb
      case int q =>
        obtain ⟨z, rfl, rfl, hw⟩ := DataW.trod_int hu h
        simp [DataW.flat] at hb
      case string =>
        obtain ⟨s, rfl, rfl, hs⟩ := DataW.trod_string hu h
        have : bs = s.data.toList := by simpa [DataW.flat] using hb
        subst this
        simp [DataW.weights]
      case array len e =>
        simp only [hu] at hk
        obtain ⟨xs, k, -, rfl, -, hlen, hx⟩ := DataW.trod_array hu h
        have hb' : Lit.string bs ∈ DataW.flatAll (xs.map (·.1)) := by simpa only [DataW.flat] using hb
        obtain ⟨d, hd, hl⟩ := mem_flatAll hb'
        obtain ⟨y, hy, rfl⟩ := List.mem_map.1 hd
        obtain ⟨i, hi, rfl⟩ := List.getElem_of_mem hy
        have := strs_weigh m e hk k _ xs[i] ((hx i (by omega)).trans (List.getElem?_eq_getElem hi)) bs hl
        simp only [DataW.weights, hu]
        exact mem_weightsAll hd this
      case struct fs =>
        simp only [hu, Bool.and_eq_true, Bool.not_eq_true'] at hk
        obtain ⟨xs, k, -, rfl, -, hlen, hx⟩ := DataW.trod_struct hu h
        have hb' : Lit.string bs ∈ DataW.flatAll (xs.map (·.1)) := by simpa only [DataW.flat] using hb
        obtain ⟨d, hd, hl⟩ := mem_flatAll hb'
        obtain ⟨y, hy, rfl⟩ := List.mem_map.1 hd
        obtain ⟨i, hi, rfl⟩ := List.getElem_of_mem hy
        have hif : i < fs.size := by omega
        have hf : Try.prog.keyTypeAt m fs[i].type = true := by
          have := Array.all_eq_true_iff_forall_mem.1 hk.1.1 fs[i] (Array.getElem_mem hif)
          simpa using (Bool.and_eq_true_iff.1 this).2
        have := strs_weigh m fs[i].type hf k _ xs[i] ((hx i fs[i] (Array.getElem?_eq_getElem hif)).trans (List.getElem?_eq_getElem hi)) bs hl
        simp only [DataW.weights, hu]
        exact DataW.weights_mem_each (j := i) (by simp [hif]) (by simp [hi]) _ this
      all_goals (simp [hu] at hk; done)
theorem isS_trod {n : Nat} {cs : List Value} {x : DataW H × List MemPlace} (h : DataW.trod enc Try.prog w base spare held n TS cs = some x) (hl : cs.length = 82) (hw : ∀ k ∈ x.1.weights Try.prog TS, k ≤ reachBytes) : IsS cs.toArray := by
  obtain ⟨h1, -⟩ := keyLits_of_trod _ TS sDeep n cs x h
  have hsb : shortB cs.toArray = true := by
    refine List.all_eq_true.2 fun v hv => ?_
    split
    · rename_i s
      have hc := cells_of_lits (P := Try.prog) 4 TS (tiled_of_laidOut laidOut 4 TS sVar sDeep4) _ _ _ h1
      have hv' : Value.string s ∈ x.1.flat.map Lit.toCell := by rw [← hc]; simpa using hv
      obtain ⟨l, hl1, hl2⟩ := List.mem_map.1 hv'
      cases l with
      | string bs =>
        have e : s = ⟨bs.toArray⟩ := by
          have : Value.string ⟨bs.toArray⟩ = Value.string s := hl2
          injection this with this
          exact this.symm
        have hb := hw _ (strs_weigh _ TS sDeep n cs x h bs hl1)
        have hr := Nat.le_of_lt reachBytes_lt
        rw [e]
        refine decide_eq_true ?_
        have hz : (⟨bs.toArray⟩ : ByteArray).size = bs.length := by simp [ByteArray.size]
        omega
      | _ => exact absurd hl2 (by simp [Lit.toCell])
    · rfl
  refine ⟨⟨.string (keyBytes x.1.flat), ?_⟩, hsb⟩
  obtain ⟨fs, hu⟩ := sUnd
  unfold keyOf
  simp only [hu]
  rw [if_pos (by rw [show Try.prog.keyType TS = true from sDeep, formed_S (by simpa using hl)]; rfl)]
  show (Try.prog.keyLits (Try.prog.types.size + 1) TS cs.toArray.toList).map _ = _
  rw [List.toList_toArray, h1]
  rfl
theorem open_state {r : Reach} {b0 : Nat} {w2 : World} {v : Value} {d : DataW H} {p : List MemPlace} (hv : Value.okWide Try.prog w2 r b0 TS v) (h : DataW.Trod enc Try.prog w base spare held TS v d p) (hw : ∀ k ∈ d.weights Try.prog TS, k ≤ reachBytes) : ∃ x, v = .agg x ∧ IsS x := by
  obtain ⟨fs, hu⟩ := sUnd
  obtain ⟨cs, rfl, hsz⟩ := okWide_struct hu hv
  obtain ⟨n, hf⟩ := h
  refine ⟨cs, rfl, ?_⟩
  have := isS_trod (cs := cs.toList) hf (by rw [Array.length_toList, hsz, sCells]) hw
  rwa [Array.toArray_toList] at this
/-- States, as memory holds them. -/
structure StL (w : World) (A : Option Addr) (n : Nat) (L : List (Array Value)) : Prop where
  len : L.length = n
  at_ : ∀ i (h : i < L.length), ∃ b o, A = some ⟨b, o, none⟩ ∧ b < w.heap.size ∧ w.rangeAt b (o + i * 82) (L[i]'h).toList
  ok : ∀ x ∈ L, IsS x
theorem StL.turn {w w' : World} {A : Option Addr} {n : Nat} {L : List (Array Value)} {G : Nat → Prop} (h : StL w A n L) (hu : Turn G w w') (hG : ∀ i, i < w.heap.size → (∃ o, A = some ⟨i, o, none⟩) → ¬ G i) : StL w' A n L := by
  refine ⟨h.len, fun i hi => ?_, h.ok⟩
  obtain ⟨b, o, h2, h3, h4⟩ := h.at_ i hi
  exact ⟨b, o, h2, Nat.lt_of_lt_of_le h3 hu.size, fun j v hv => hu.cell (hG b h3 ⟨o, h2⟩) (h4 j v hv)⟩
theorem StL.up {w w' : World} {A : Option Addr} {n : Nat} {L : List (Array Value)} (h : StL w A n L) (hu : Up w w') : StL w' A n L := h.turn (.of_up (fun _ => False) hu) (fun _ _ _ k => k)
/-- An act: what is done, a number, a state. -/
structure Deed where
  d : Int
  k : Int
  x : Array Value
noncomputable def deed0 : Deed := ⟨0, 0, z0⟩
def Deed.cells (a : Deed) : List Value := .int .i64 a.d :: .int .i64 a.k :: a.x.toList
structure DOk (a : Deed) : Prop where
  d : (Lit.int .i64 a.d).wf = true
  k : (Lit.int .i64 a.k).wf = true
  x : IsS a.x
theorem DOk.len {a : Deed} (h : DOk a) : a.cells.length = 84 := by simp [Deed.cells, h.x.size]
/-- Acts, as memory holds them. -/
structure DeL (w : World) (A : Option Addr) (n : Nat) (L : List Deed) : Prop where
  len : L.length = n
  at_ : ∀ i (h : i < L.length), ∃ b o, A = some ⟨b, o, none⟩ ∧ b < w.heap.size ∧ w.rangeAt b (o + i * 84) (L[i]'h).cells
  ok : ∀ x ∈ L, DOk x
theorem DeL.up {w w' : World} {A : Option Addr} {n : Nat} {L : List Deed} (h : DeL w A n L) (hu : Up w w') : DeL w' A n L := by
  refine ⟨h.len, fun i hi => ?_, h.ok⟩
  obtain ⟨b, o, h2, h3, h4⟩ := h.at_ i hi
  exact ⟨b, o, h2, Nat.lt_of_lt_of_le h3 (Below.size hu), fun j v hv => cell_up hu (h4 j v hv)⟩
theorem cells_range {a : Addr} (hs : a.spot = none) {k n : Nat} {cs : List Value} (h : w.cells? 0 (a.add k) n = some cs) : w.rangeAt a.block (a.off + k) cs := fun j v hv => by
  obtain ⟨-, hl, hat⟩ := World.cells?_some h
  have hj : j < cs.length := (List.getElem?_eq_some_iff.1 hv).1
  have := hat j (by omega)
  rw [Go.Deep.add_add, add_flat hs] at this
  rw [← Nat.add_assoc] at this
  rw [this, ← hv]
theorem spot_of {a : Addr} {n : Nat} {cs : List Value} (h : w.cells? 0 (a.add 0) n = some cs) (h0 : 0 < n) : a.spot = none := by
  obtain ⟨-, hl, hat⟩ := World.cells?_some h
  have h1 := hat 0 h0
  rw [List.getElem?_eq_getElem (by omega), show (a.add 0).add 0 = a from by unfold Addr.add; rfl] at h1
  exact spot_cell h1
theorem open_states {r : Reach} {b0 : Nat} {w2 : World} {v : Value} {d : DataW H} {p : List MemPlace} (hv : Value.okWide Try.prog w2 r b0 27 v) (h : DataW.Trod enc Try.prog w 0 (fun _ => true) true 27 v d p) (hw : ∀ k ∈ d.weights Try.prog 27, k ≤ reachBytes) :
    ∃ (A : Option Addr) (n c : Nat) (L : List (Array Value)), v = .slice A n c ∧ StL w A n L ∧ n ≤ maxLen := by
  obtain ⟨A, len0, cap0, rfl⟩ := okWide_slice Try.underlying27 hv
  obtain ⟨fuel, hf⟩ := h
  rcases open_slice Try.underlying27 hf with ⟨hcs, -⟩ | ⟨a, len, cap, m, n, D, Pl, hcs, hb, hl, hm, hmm, hxx, hx⟩
  · have hcs' : [Value.slice A len0 cap0] = [Value.slice none 0 0] := hcs
    simp only [List.cons.injEq, Value.slice.injEq, and_true] at hcs'
    obtain ⟨rfl, rfl, rfl⟩ := hcs'
    exact ⟨none, 0, 0, [], rfl, ⟨rfl, fun i h => absurd h (Nat.not_lt_zero _), fun x hx => by (cases hx)⟩, Nat.zero_le _⟩
  · have hcs' : [Value.slice A len0 cap0] = [Value.slice (some a) len cap] := hcs
    simp only [List.cons.injEq, Value.slice.injEq, and_true] at hcs'
    obtain ⟨rfl, rfl, rfl⟩ := hcs'
    have hmm' : m = cap0 := hmm
    have hce : Try.prog.cellsOf 37 = 82 := by kernel_rfl
    rw [hce] at hx
    have key : ∀ i, i < len0 → ∃ e : Array Value, IsS e ∧ a.block < w.heap.size ∧ a.spot = none ∧ w.rangeAt a.block (a.off + i * 82) e.toList := by
      intro i hi
      obtain ⟨cs', hc, ht⟩ := hx i (by omega)
      have hblk := World.cells?_block hc (by omega)
      rw [block_add] at hblk
      obtain ⟨-, h1, h2⟩ := World.cells?_some hc
      obtain ⟨cs0, hc0, -⟩ := hx 0 (by omega)
      rw [Nat.zero_mul] at hc0
      have hs := spot_of hc0 (by omega)
      have hd : d = .slice ((List.range len0).map D) ((List.range (m - len0)).map fun j => D (len0 + j)) := congrArg Prod.fst hxx
      exact ⟨cs'.toArray, isS_trod ht h1 (fun k hk => hw k (by
        rw [hd]
        simp only [DataW.weights, Try.underlying27]
        exact List.mem_cons_of_mem _ (List.mem_append_left _ (mem_weightsAll (List.mem_map.2 ⟨i, List.mem_range.2 hi, rfl⟩) hk)))), hblk, hs, by rw [List.toList_toArray]; exact cells_range hs hc⟩
    obtain ⟨E, hE⟩ : ∃ E : Nat → Array Value, ∀ i, i < len0 → IsS (E i) ∧ a.block < w.heap.size ∧ a.spot = none ∧ w.rangeAt a.block (a.off + i * 82) (E i).toList :=
      ⟨fun i => if h : i < len0 then (key i h).choose else #[], fun i hi => by simp only [dif_pos hi]; exact (key i hi).choose_spec⟩
    refine ⟨some a, len0, cap0, (List.range len0).map E, rfl, ⟨by simp, fun i hi => ?_, fun x hx => ?_⟩, Nat.le_trans hl hm⟩
    · have hi' : i < len0 := by simpa using hi
      obtain ⟨h1, h2, hs, h3⟩ := hE i hi'
      have ge : ((List.range len0).map E)[i] = E i := by simp
      rw [ge]
      refine ⟨a.block, a.off, ?_, h2, h3⟩
      obtain ⟨b, o, sp⟩ := a
      obtain rfl : sp = none := hs
      rfl
    · rw [List.mem_map] at hx
      obtain ⟨i, hi, rfl⟩ := hx
      exact (hE i (List.mem_range.1 hi)).1
theorem deed_trod {n : Nat} {cs : List Value} {x : DataW H × List MemPlace} (h : DataW.trod enc Try.prog w base spare held n 39 cs = some x) (hw : ∀ k ∈ x.1.weights Try.prog 39, k ≤ reachBytes) : ∃ e : Deed, DOk e ∧ cs = e.cells := by
  obtain ⟨xs, m, _, rfl, hl, hlen, hf⟩ := DataW.trod_struct Try.underlying39 h
  have hce : Try.prog.cellsOf 39 = 84 := by kernel_rfl
  rw [hce] at hl
  have k1 : Try.prog.cellsOf 3 = 1 := by kernel_rfl
  have k2 : Try.prog.cellsOf 37 = 82 := by kernel_rfl
  have f0 := hf 0 _ rfl
  simp [k1] at f0
  have f1 := hf 1 _ rfl
  simp [k1] at f1
  have f2 := hf 2 _ rfl
  simp [k2] at f2
  have hlen3 : xs.length = 3 := by simpa using hlen
  rw [List.getElem?_eq_getElem (by omega)] at f0 f1 f2
  match cs, hl with
  | c0 :: c1 :: r, hl =>
    have hr : r.length = 82 := by simpa using hl
    obtain ⟨n0, e0, -, g0⟩ := DataW.trod_int Try.underlying3 f0
    obtain ⟨n1, e1, -, g1⟩ := DataW.trod_int Try.underlying3 f1
    have e0' : [c0] = [Value.int .i64 n0] := by simpa using e0
    have e1' : [c1] = [Value.int .i64 n1] := by simpa using e1
    simp only [List.cons.injEq, and_true] at e0' e1'
    subst e0' e1'
    have hS := isS_trod f2 (by simp [hr]) (fun k hk => hw k (by
      simp only [DataW.weights, Try.underlying39]
      exact DataW.weights_mem_each (j := 2) rfl (by simp [hlen3]) _ hk))
    have hd : List.take 82 (List.drop 2 (Value.int .i64 n0 :: Value.int .i64 n1 :: r)) = r := by
      rw [List.drop_succ_cons, List.drop_succ_cons, List.drop_zero, List.take_of_length_le (by omega)]
    rw [hd] at hS
    exact ⟨⟨n0, n1, r.toArray⟩, ⟨g0, g1, hS⟩, by simp [Deed.cells]⟩
theorem open_acts {r : Reach} {b0 : Nat} {w2 : World} {v : Value} {d : DataW H} {p : List MemPlace} (hv : Value.okWide Try.prog w2 r b0 22 v) (h : DataW.Trod enc Try.prog w 0 (fun _ => true) true 22 v d p) (hw : ∀ k ∈ d.weights Try.prog 22, k ≤ reachBytes) :
    ∃ (A : Option Addr) (n c : Nat) (L : List Deed), v = .slice A n c ∧ DeL w A n L ∧ n ≤ maxLen := by
  obtain ⟨A, len0, cap0, rfl⟩ := okWide_slice Try.underlying22 hv
  obtain ⟨fuel, hf⟩ := h
  rcases open_slice Try.underlying22 hf with ⟨hcs, -⟩ | ⟨a, len, cap, m, n, D, Pl, hcs, hb, hl, hm, hmm, hxx, hx⟩
  · have hcs' : [Value.slice A len0 cap0] = [Value.slice none 0 0] := hcs
    simp only [List.cons.injEq, Value.slice.injEq, and_true] at hcs'
    obtain ⟨rfl, rfl, rfl⟩ := hcs'
    exact ⟨none, 0, 0, [], rfl, ⟨rfl, fun i h => absurd h (Nat.not_lt_zero _), fun x hx => by (cases hx)⟩, Nat.zero_le _⟩
  · have hcs' : [Value.slice A len0 cap0] = [Value.slice (some a) len cap] := hcs
    simp only [List.cons.injEq, Value.slice.injEq, and_true] at hcs'
    obtain ⟨rfl, rfl, rfl⟩ := hcs'
    have hmm' : m = cap0 := hmm
    have hce : Try.prog.cellsOf 39 = 84 := by kernel_rfl
    rw [hce] at hx
    have key : ∀ i, i < len0 → ∃ e : Deed, DOk e ∧ a.block < w.heap.size ∧ a.spot = none ∧ w.rangeAt a.block (a.off + i * 84) e.cells := by
      intro i hi
      obtain ⟨cs', hc, ht⟩ := hx i (by omega)
      have hblk := World.cells?_block hc (by omega)
      rw [block_add] at hblk
      obtain ⟨cs0, hc0, -⟩ := hx 0 (by omega)
      rw [Nat.zero_mul] at hc0
      have hs := spot_of hc0 (by omega)
      have hd : d = .slice ((List.range len0).map D) ((List.range (m - len0)).map fun j => D (len0 + j)) := congrArg Prod.fst hxx
      obtain ⟨e, he, rfl⟩ := deed_trod ht (fun k hk => hw k (by
        rw [hd]
        simp only [DataW.weights, Try.underlying22]
        exact List.mem_cons_of_mem _ (List.mem_append_left _ (mem_weightsAll (List.mem_map.2 ⟨i, List.mem_range.2 hi, rfl⟩) hk))))
      exact ⟨e, he, hblk, hs, cells_range hs hc⟩
    obtain ⟨E, hE⟩ : ∃ E : Nat → Deed, ∀ i, i < len0 → DOk (E i) ∧ a.block < w.heap.size ∧ a.spot = none ∧ w.rangeAt a.block (a.off + i * 84) (E i).cells :=
      ⟨fun i => if h : i < len0 then (key i h).choose else deed0, fun i hi => by simp only [dif_pos hi]; exact (key i hi).choose_spec⟩
    refine ⟨some a, len0, cap0, (List.range len0).map E, rfl, ⟨by simp, fun i hi => ?_, fun x hx => ?_⟩, Nat.le_trans hl hm⟩
    · have hi' : i < len0 := by simpa using hi
      obtain ⟨h1, h2, hs, h3⟩ := hE i hi'
      have ge : ((List.range len0).map E)[i] = E i := by simp
      rw [ge]
      refine ⟨a.block, a.off, ?_, h2, h3⟩
      obtain ⟨b, o, sp⟩ := a
      obtain rfl : sp = none := hs
      rfl
    · rw [List.mem_map] at hx
      obtain ⟨i, hi, rfl⟩ := hx
      exact (hE i (List.mem_range.1 hi)).1
theorem trodAll_carry {w' : World} (hb : Below w.heap.size w w') : ∀ {ts : List TypeId} {vs : List Value} {ds : List (DataW H)} {ps : List MemPlace},
    DataW.TrodAll enc Try.prog w 0 (fun _ => true) true ts vs ds ps → DataW.TrodAll enc Try.prog w' 0 (fun _ => true) true ts vs ds ps
  | [], [], [], _, h => h
  | _ :: _, _ :: _, _ :: _, _, ⟨p, q, ⟨n, hn⟩, h2, e⟩ => ⟨p, q, ⟨n, DataW.trod_carry n _ _ _ hn (fun x hx => hb.same (DataW.trod_lt n _ _ _ hn x hx))⟩, trodAll_carry hb h2, e⟩
theorem kids_here : Kids Try.prog (· < Try.prog.types.size) := kids_rows (by kernel_rfl) (by kernel_rfl)
theorem slices_here : ∀ t e, t < Try.prog.types.size → Try.prog.underlying t = some (.slice e) → 0 < Try.prog.cellsOf e := slices_full_of _ (by kernel_rfl)
theorem args_back {w' : World} {sp : Nat → Bool} (hb : Below w.heap.size w w') {ts : List TypeId} {vs : List Value} {ds : List (DataW H)} {ps : List MemPlace} (hts : (ts.all fun t => decide (t < Try.prog.types.size)) = true)
    (h : DataW.TrodAll enc Try.prog w 0 (fun _ => true) true ts vs ds ps) (hs : ∀ p ∈ ps, sp p.block = true) : DataW.TrodAll enc Try.prog w' 0 sp true ts vs ds ps :=
  DataW.TrodAll.respare kids_here slices_here (fun t ht => of_decide_eq_true (List.all_eq_true.1 hts t ht)) (trodAll_carry hb h) hs
end
end Go.Proofs.Ytjdcbbleefepoaa
