/- States, as values: whatever cells they have, their type being one that a map may be keyed by. -/
import Derived.Test.YtjdcbbleefepoaaBase
import Derived.Maps.Own
import Derived.MapViews
import Derived.DeepKeys4
import Derived.Deep.MidRow
import Derived.Laws.StructEq
namespace Go.Proofs.Ytjdcbbleefepoaa
open Go.RowKit

abbrev TS : TypeId := 37
theorem laidOut : laidOutB Try.prog = true := by kernel_rfl
theorem sRow : TS < Try.prog.types.size := of_decide_eq_true (by kernel_rfl)
theorem sDeep : Try.prog.keyTypeAt (Try.prog.types.size + 1) TS = true := by kernel_rfl
theorem sDeep4 : Try.prog.keyTypeAt 4 TS = true := by kernel_rfl
theorem sWide : (match Try.prog.underlying TS with | some (.array _ _) | some (.struct _) => true | _ => false) = true := by kernel_rfl
theorem sLaw : WideMaps.KeyLaw Try.prog TS := deep_law_laid laidOut (m := 4) (by omega) sRow sDeep4 sWide
theorem sCells : Try.prog.cellsOf TS = 82 := by kernel_rfl
theorem sInfo : (Try.prog.info? TS).map (·.size) = some 82 := by kernel_rfl
theorem sVar : isVar Try.prog TS = true := by kernel_rfl
/-- Its texts are no longer than the form's own reach. -/
def shortB (x : Array Value) : Bool := x.toList.all fun v => match v with | .string s => decide (s.size ≤ 140737488355328) | _ => true
theorem short_at {x : Array Value} (h : shortB x = true) {s : ByteArray} (hs : Value.string s ∈ x.toList) : s.size ≤ 140737488355328 := by
  have := List.all_eq_true.1 h _ hs
  simpa using this
/-- The cells of a state. -/
def IsS (x : Array Value) : Prop := (∃ l, keyOf Try.prog TS (.agg x) = some l) ∧ shortB x = true
theorem IsS.lits {x : Array Value} (h : IsS x) : ∃ L : List Lit, Try.prog.keyLits (Try.prog.types.size + 1) TS x.toList = some L := by
  obtain ⟨⟨l, hl⟩, -⟩ := h
  obtain ⟨xs, L, e, h1, -⟩ := keyOf_top sWide hl
  injection e with e
  subst e
  exact ⟨L, h1⟩
theorem sUnd : ∃ fs, Try.prog.underlying TS = some (.struct fs) := ⟨_, Try.underlying37⟩
theorem IsS.size {x : Array Value} (h : IsS x) : x.size = 82 := by
  obtain ⟨L, hL⟩ := h.lits
  obtain ⟨fs, hu⟩ := sUnd
  unfold Program.keyLits at hL
  simp only [hu] at hL
  split at hL
  · rename_i k
    have := k.1
    rw [sCells] at this
    simpa using this
  · cases hL
theorem IsS.one {x : Array Value} (h : IsS x) : x.all (·.oneCell') = true := by
  obtain ⟨L, hL⟩ := h.lits
  have hc := cells_of_lits (P := Try.prog) 4 TS (tiled_of_laidOut laidOut 4 TS sVar sDeep4) _ _ _ hL
  rw [Array.all_eq_true_iff_forall_mem]
  intro v hv
  have hv' : v ∈ L.map Lit.toCell := by rw [← hc]; simpa using hv
  rw [List.mem_map] at hv'
  obtain ⟨l, -, rfl⟩ := hv'
  cases l <;> rfl
noncomputable def eqS (x y : Array Value) : Bool := @decide (x = y) (Classical.propDecidable _)
theorem eqS_true {x y : Array Value} : eqS x y = true ↔ x = y := by unfold eqS; simp
theorem eqS_self (x : Array Value) : eqS x x = true := eqS_true.2 rfl
theorem eqS_comm (x y : Array Value) : eqS x y = eqS y x := by rw [Bool.eq_iff_iff, eqS_true, eqS_true]; exact ⟨Eq.symm, Eq.symm⟩
theorem run_equal_S {x y : Array Value} (hx : IsS x) (hy : IsS y) (w : World) : (Op.equal TS (.agg x) (.agg y)).run Try.prog w = .ok (eqS x y) w := by
  obtain ⟨⟨lx, h1⟩, -⟩ := hx
  obtain ⟨⟨ly, h2⟩, -⟩ := hy
  obtain ⟨r, hr, hi⟩ := run_equal_deep w (m := 4) (by omega) sDeep4 sWide h1 h2
  rw [hr]
  congr 1
  rw [Bool.eq_iff_iff, eqS_true, hi]
  constructor
  · rintro rfl
    have := sLaw.inj h1 h2
    injection this
  · rintro rfl
    rw [h1] at h2
    injection h2
theorem run_eql_S {x y : Array Value} (hx : IsS x) (hy : IsS y) (w : World) : (binOp .eql TS (.agg x) (.agg y)).run Try.prog w = .ok (.bool (eqS x y)) w := by
  simp only [binOp]
  simp [run_equal_S hx hy]
theorem run_neq_S {x y : Array Value} (hx : IsS x) (hy : IsS y) (w : World) : (binOp .neq TS (.agg x) (.agg y)).run Try.prog w = .ok (.bool (!eqS x y)) w := by
  simp only [binOp]
  simp [run_equal_S hx hy]
/-- The state of zeros. -/
noncomputable def z0 : Array Value := match Try.prog.info? TS with
  | some i => match i.zero with
    | some (.agg x) => x
    | _ => #[]
  | none => #[]
theorem z0_info : (Try.prog.info? TS).map (·.zero) = some (some (.agg z0)) := by kernel_rfl
theorem z0_is : IsS z0 := ⟨⟨((keyOf Try.prog TS (.agg z0)).getD (.bool false)), by kernel_rfl⟩, by kernel_rfl⟩
/-- A state in memory. -/
theorem load_S {x : Array Value} (h : IsS x) {w : World} {b o : Nat} (hr : w.rangeAt b o x.toList) : (Instr.loadAt TS (.pointer (some ⟨b, o, none⟩))).run Try.prog w = .ok (.agg x) w := by
  have := run_loadAt_mid (P := Try.prog) w b o TS x.toList _ hr (show Try.prog.underlying TS = some ((Try.prog.underlying TS).getD .bool) by kernel_rfl) (by kernel_rfl) (by rw [sInfo]; simp [h.size])
  rwa [Array.toArray_toList] at this
theorem store_S {x : Array Value} (h : IsS x) {w : World} {b o : Nat} (ht : w.there b o 82) : (Instr.storeAt TS (.pointer (some ⟨b, o, none⟩)) (.agg x)).run Try.prog w = .ok () (w.setCells b o x.toList) :=
  run_storeAt_mid (P := Try.prog) w b o TS x (by rw [h.size]; exact ht) (by rw [sInfo, h.size]) h.one
theorem range_box (w : World) (x : Array Value) (t : TypeId) : (w.alloc (.cells x t)).rangeAt w.heap.size 0 x.toList := fun j v hv => by
  rw [Nat.zero_add]
  exact cellOf (Go.heap_alloc_new _ _) (by simpa using hv)
theorem range_up {w w' : World} (hu : Up w w') {b o : Nat} {l : List Value} (h : w.rangeAt b o l) : w'.rangeAt b o l := fun j v hv => cell_up hu (h j v hv)
end Go.Proofs.Ytjdcbbleefepoaa
