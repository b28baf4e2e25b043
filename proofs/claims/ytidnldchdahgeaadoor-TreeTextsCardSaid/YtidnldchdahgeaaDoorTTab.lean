/- The library's table of powers of ten; numbers behind a row of bytes; a tree's numbers are small. -/
import Derived.Test.YtidnldchdahgeaaDoorTUpP
import Derived.Test.YtidnldchdahgeaaDoorTText
import Derived.Lib.ItoaLen
import Derived.Lib.LaidTab
import Derived.LaidMore
import Derived.Stop.LaidErr
namespace Go.Proofs.YtidnldchdahgeaaDoor
open Go.RowKit

/-- The library's table. -/
structure Tab (w : World) : Prop where
  is : Lib.TabIs Tryd.prog w Tryd.nmPow .u64 Lib.pow10Tab
theorem Tab.below {w : World} (h : Tab w) : Lib.TabBelow Tryd.prog w.heap.size w Tryd.nmPow .u64 Lib.pow10Tab := Lib.tabBelow_of_tabIs h.is
theorem Tab.up {w w' : World} (h : Tab w) (hu : Up w w') : Tab w' := ⟨h.below w' hu⟩
theorem tab_of_mem {P : Program} {W : World} {name : String} {k : IntKind} {zs : List Int} {g : Nat} {t e : TypeId} {n : Nat}
    (hg : P.globalNamed name = some g) (hty : (P.globals[g]?).map (·.type) = some t) (ht : P.underlying t = some (.array n e)) (he : P.underlying e = some (.int k)) (hce : P.cellsOf e = 1) (hct : P.cellsOf t = n) :
    ∀ {l : List (String × DataW Unit)}, (name, Lib.tabData k zs) ∈ l → laidMet P l W → Lib.TabIs P W name k zs := by
  intro l
  induction l with
  | nil => intro h; cases h
  | cons x l ih =>
    intro hm h
    by_cases e : x = (name, Lib.tabData k zs)
    · subst e; exact Lib.tabIs_of_head hg hty ht he hce hct h
    · have hm' : (name, Lib.tabData k zs) ∈ l := by
        rcases List.mem_cons.1 hm with h1 | h1
        · exact absurd h1.symm e
        · exact h1
      exact ih hm' h.tail
theorem tab_of_laid {W : World} {l : List (String × DataW Unit)} (h1 : ∃ i : Nat, l[i]? = some (Tryd.nmPow, Rows.laid_internal_strconv_uint64pow10)) (h : laidMet Tryd.prog l W) : Tab W :=
  ⟨tab_of_mem (g := 0) (t := 88) (e := 48) (n := 20) (by kernel_rfl) (by kernel_rfl) Tryd.underlying88 Tryd.underlying48 (by kernel_rfl) (by kernel_rfl) (h1.elim fun _ e => List.mem_of_getElem? e) h⟩
/-- A list of bytes, in a row that lies at B or above. -/
def RowB (w : World) (B : Nat) (v : Value) (l : List UInt8) : Prop := w.ownsRow B 5 1 v l.length (Lib.byteCells l)
theorem rowB_up {w w' : World} {B : Nat} {v : Value} {l : List UInt8} (h : RowB w B v l) (hu : Up w w') : RowB w' B v l := World.ownsRow.kept h (Up.grownBy hu) (by cases hv : Value.ownBlock _ <;> simp)
theorem byteCells_app (a b : List UInt8) : Lib.byteCells (a ++ b) = Lib.byteCells a ++ Lib.byteCells b := by unfold Lib.byteCells; rw [List.map_append]
theorem infoByte : (Tryd.prog.info? 5).map (fun i => (i.zero, i.size, i.bytes)) = some (some (.int .u8 0), 1, 1) := by kernel_rfl
theorem dig_itoa {z : Int} (h : 0 ≤ z) : Lib.itoa z = dig z := by
  obtain ⟨u, rfl⟩ : ∃ u : Nat, z = u := ⟨z.toNat, by omega⟩
  rw [Lib.itoa_nonneg]
  unfold dig
  rw [Int.toNat_natCast]
theorem dig_len {z : Int} (h : 0 ≤ z) (h1 : z ≤ 9223372036854775807) : (dig z).length ≤ 21 := by rw [← dig_itoa h]; exact Lib.itoa_length_le z (by omega) h1
theorem appendInt_any (w W : World) (hw : Up w W) (hT : Tab w) (v : Value) (l : List UInt8) (hv : RowB W w.heap.size v l) (hl : l.length + 21 ≤ 140737488355328) (z : Int) (h0 : 0 ≤ z) (h1 : z ≤ 9223372036854775807) :
    Calls Tryd.prog 42 #[v, .int .i64 z, .int .i64 10] W fun e w' => ∃ v', e = .returned v' ∧ RowB w' w.heap.size v' (l ++ dig z) ∧ Up w w' := by
  refine (Tryd.strconv_AppendInt_10 w.heap.size l.length z (by omega) h1 v (Lib.byteCells l) W hv (Below.size hw) hl (hT.below.on hw)).mono ?_
  rintro e w' ⟨v', rfl, h2, h3, -⟩
  refine ⟨v', rfl, ?_, Below.trans hw h3⟩
  unfold RowB
  rw [List.length_append, byteCells_app, ← dig_itoa h0]
  exact h2
/-- A tree's numbers are small. -/
theorem fit_in {L : List Nd} (hF : Fit L) (hok : ∀ x ∈ L, NdOk x) (hl : L.length ≤ 10000) : ∀ (m i : Nat), i < m → i < L.length → NdIn (nd L i) ∧ 0 ≤ (nd L i).2.1 ∧ (nd L i).2.2.1 ≤ 1048576 ∧ dep L i ≤ 10000
  | 0, _, h, _ => absurd h (Nat.not_lt_zero _)
  | m + 1, i, hm, hi => by
    have hG := hF.good
    have hd := hG.len hi
    have hle := st_lenle L i
    have hk := wf8 (nd_ok hok i).1
    have key : 0 ≤ (nd L i).2.1 ∧ (nd L i).2.1 ≤ (nd L i).2.2.1 ∧ (nd L i).2.2.1 ≤ 1048576 := by
      cases i with
      | zero =>
        have h1 := hF.root
        have h2 := hF.lo
        have h3 := hF.hi
        rw [h1] at h2 h3
        rw [h1]
        exact ⟨Int.le_refl _, h2, h3⟩
      | succ j =>
        obtain ⟨o1, o2, o3, o4, o5, -⟩ := hG.2 j hi
        have hj := hG.len (show j < L.length by omega)
        have hp : (st L j).getD ((dep L (j + 1)).toNat - 1) 0 ≤ j := by
          rw [List.getD_eq_getElem?_getD, List.getElem?_eq_getElem (by omega)]
          exact st_le L j _ (List.getElem_mem _)
        obtain ⟨-, p1, p2, -⟩ := fit_in hF hok hl m _ (show (st L j).getD ((dep L (j + 1)).toNat - 1) 0 < m by omega) (by omega)
        exact ⟨by omega, o4, by omega⟩
    have hdd : (nd L i).2.2.2 = dep L i := rfl
    exact ⟨⟨hk, ⟨by omega, by omega⟩, ⟨by omega, by omega⟩, ⟨by omega, by omega⟩⟩, key.1, key.2.2, by omega⟩
/-- A line's numbers, one by one, each with the byte behind it. -/
def colV (x : Nd) (c : Nat) : Int := if c = 0 then x.2.2.2 else if c = 1 then x.1 else if c = 2 then x.2.1 else x.2.2.1
def prC (x : Nd) : Nat → List UInt8
  | 0 => []
  | c + 1 => prC x c ++ dig (colV x c) ++ [endB c]
theorem prC_four (x : Nd) : prC x 4 = prN x := by
  show ((([] ++ dig (colV x 0) ++ [endB 0]) ++ dig (colV x 1) ++ [endB 1]) ++ dig (colV x 2) ++ [endB 2]) ++ dig (colV x 3) ++ [endB 3] = _
  have e0 : colV x 0 = x.2.2.2 := rfl
  have e1 : colV x 1 = x.1 := rfl
  have e2 : colV x 2 = x.2.1 := rfl
  have e3 : colV x 3 = x.2.2.1 := rfl
  have b0 : endB 0 = 32 := rfl
  have b1 : endB 1 = 32 := rfl
  have b2 : endB 2 = 32 := rfl
  have b3 : endB 3 = 10 := rfl
  rw [e0, e1, e2, e3, b0, b1, b2, b3]
  unfold prN
  simp only [List.append_assoc, List.cons_append, List.nil_append]
theorem colV_in {x : Nd} (h : NdIn x) (c : Nat) : 0 ≤ colV x c ∧ colV x c ≤ 1099511627776 := by
  unfold colV
  obtain ⟨h1, h2, h3, h4⟩ := h
  split
  · exact h4
  split
  · exact ⟨h1.1, by omega⟩
  split
  · exact h2
  · exact h3
theorem prC_len {x : Nd} (h : NdIn x) : ∀ c, (prC x c).length ≤ 22 * c
  | 0 => Nat.le_refl _
  | c + 1 => by
    have h1 := prC_len h c
    have h2 := colV_in h c
    have h3 := dig_len h2.1 (by omega)
    show (prC x c ++ dig (colV x c) ++ [endB c]).length ≤ _
    rw [List.length_append, List.length_append, List.length_singleton]
    omega
theorem prL_len {L : List Nd} (h : ∀ x ∈ L, NdIn x) : (prL L).length ≤ 88 * L.length := by
  induction L with
  | nil => exact Nat.le_refl _
  | cons x t ih =>
    have h1 := ih (fun y hy => h y (List.mem_cons_of_mem _ hy))
    have h2 := prC_len (h x List.mem_cons_self) 4
    rw [prC_four] at h2
    show (prN x ++ prL t).length ≤ 88 * (t.length + 1)
    rw [List.length_append]
    omega
theorem mem_nd {L : List Nd} {x : Nd} (h : x ∈ L) : ∃ i, i < L.length ∧ nd L i = x := by
  obtain ⟨i, hi, e⟩ := List.getElem_of_mem h
  exact ⟨i, hi, by rw [← nd_eq hi]; exact e⟩
theorem fit_all {L : List Nd} (hF : Fit L) (hok : ∀ x ∈ L, NdOk x) (hl : L.length ≤ 10000) : ∀ x ∈ L, NdIn x := by
  intro x hx
  obtain ⟨i, hi, rfl⟩ := mem_nd hx
  exact (fit_in hF hok hl (i + 1) i (Nat.lt_succ_self i) hi).1
end Go.Proofs.YtidnldchdahgeaaDoor
