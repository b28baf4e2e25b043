/- PytokenKnown, walked over what the program's Scan answers. -/
import Derived.Test.YtlpkflioikmgjaaDoorYLawK0
import Derived.Deep.CutBlock
namespace Go.Proofs.YtlpkflioikmgjaaDoor
open Go.RowKit

theorem keepKW {w W W2 : World} {N b i j : Nat} {x y : Value} (hu : Up W W2) (h : KW W N ∧ Up w W ∧ W.cell? ⟨b, i, none⟩ = some x ∧ W.cell? ⟨b, j, none⟩ = some y) : KW W2 N ∧ Up w W2 ∧ W2.cell? ⟨b, i, none⟩ = some x ∧ W2.cell? ⟨b, j, none⟩ = some y :=
  ⟨h.1.up hu, h.2.1.trans hu, cell_up hu h.2.2.1, cell_up hu h.2.2.2⟩
theorem KW.lt {w : World} {N : Nat} (h : KW w N) : N + 46 < w.heap.size := (Array.getElem?_eq_some_iff.1 (h 46 _ rfl)).1
theorem KW.set {w : World} {N bx k : Nat} {u : Value} (h : KW w N) (hb : N + 46 < bx) : KW (w.setCell ⟨bx, k, none⟩ u) N := fun j o e => by
  have hj : j < 46 + 1 := by
    have := (List.getElem?_eq_some_iff.1 e).1
    exact this
  rw [setCell_far w bx k u (N + j) (by omega)]
  exact h j o e
theorem keepSet {w W : World} {N bx k i j : Nat} {u x y : Value} (hb : N + 46 < bx) (hw : w.heap.size ≤ bx) (h : KW W N ∧ Up w W ∧ W.cell? ⟨N + 46, i, none⟩ = some x ∧ W.cell? ⟨N + 46, j, none⟩ = some y) : KW (W.setCell ⟨bx, k, none⟩ u) N ∧ Up w (W.setCell ⟨bx, k, none⟩ u) ∧ (W.setCell ⟨bx, k, none⟩ u).cell? ⟨N + 46, i, none⟩ = some x ∧ (W.setCell ⟨bx, k, none⟩ u).cell? ⟨N + 46, j, none⟩ = some y :=
  ⟨h.1.set hb, Below.setCell (p := ⟨bx, k, none⟩) h.2.1 hw u, by rw [World.cell?_setCell_far _ _ _ _ (by show bx ≠ N + 46; omega)]; exact h.2.2.1, by rw [World.cell?_setCell_far _ _ _ _ (by show bx ≠ N + 46; omega)]; exact h.2.2.2⟩
theorem boxZ {W w1 : World} {o : Obj} (hu : Up (W.alloc o).drew w1) : w1.heap[W.heap.size]? = some o := by
  rw [Below.block ((Up.drew _).trans hu) _ (by rw [World.size_alloc]; omega)]
  exact Go.heap_alloc_new _ _
theorem Evs.far {w : World} {A : Option Addr} {n g k : Nat} {u : Value} {es : List PEv} (h : Evs w A n es) (hA : ∀ a, A = some a → g < a.block) : Evs (w.setCell ⟨g, k, none⟩ u) A n es := by
  refine ⟨h.len, fun i hi => ?_⟩
  obtain ⟨b, o, h1, h2, c0, c1, c2, c3⟩ := h.at_ i hi
  have hb : g ≠ b := Nat.ne_of_lt (hA _ h1)
  exact ⟨b, o, h1, by simpa [World.setCell] using h2, by rw [World.cell?_setCell_far _ _ _ _ hb]; exact c0, by rw [World.cell?_setCell_far _ _ _ _ hb]; exact c1, by rw [World.cell?_setCell_far _ _ _ _ hb]; exact c2, by rw [World.cell?_setCell_far _ _ _ _ hb]; exact c3⟩
theorem box6 {w : World} {A : Option Addr} {n g : Nat} {T : TypeId} {es : List PEv} {z0 z1 z2 z3 z4 z5 : Value} (h : w.heap[g]? = some (.cells #[z0, z1, z2, z3, z4, z5] T)) (he : Evs w A n es) (hA : ∀ a, A = some a → g < a.block) (a b c d e f : Value) :
    ((((((w.setCell ⟨g, 0, none⟩ a).setCell ⟨g, 1, none⟩ b).setCell ⟨g, 2, none⟩ c).setCell ⟨g, 3, none⟩ d).setCell ⟨g, 4, none⟩ e).setCell ⟨g, 5, none⟩ f).heap[g]? = some (.cells #[a, b, c, d, e, f] T) ∧ Evs ((((((w.setCell ⟨g, 0, none⟩ a).setCell ⟨g, 1, none⟩ b).setCell ⟨g, 2, none⟩ c).setCell ⟨g, 3, none⟩ d).setCell ⟨g, 4, none⟩ e).setCell ⟨g, 5, none⟩ f) A n es := by
  have h1 := heap_setCell_same w g 0 _ T a h
  have h2 := heap_setCell_same _ g 1 _ T b h1
  have h3 := heap_setCell_same _ g 2 _ T c h2
  have h4 := heap_setCell_same _ g 3 _ T d h3
  have h5 := heap_setCell_same _ g 4 _ T e h4
  have h6 := heap_setCell_same _ g 5 _ T f h5
  exact ⟨h6, (((((he.far hA).far hA).far hA).far hA).far hA).far hA⟩
theorem boxOut {w : World} {b : Nat} {v : Value} {st : PSt} {T : TypeId} (h : w.heap[b]? = some (.cells (outA v st) T)) : w.cell? ⟨b, 0, none⟩ = some v ∧ w.cell? ⟨b, 1, none⟩ = some (.int .u8 (st.mark : Nat)) ∧ w.cell? ⟨b, 2, none⟩ = some (.int .i64 st.depth) := ⟨cellOf h rfl, cellOf h rfl, cellOf h rfl⟩
theorem kSzs : (List.range 24).all (fun i => (fSz i).all fun x => decide (x ≤ 100)) = true := by decide +kernel
theorem kSzB {i : Nat} (h : i < 24) (k : Nat) : (fSz i).getD k 0 ≤ 100 := by
  rw [List.getD_eq_getElem?_getD]
  cases hx : (fSz i)[k]? with
  | none => exact Nat.zero_le _
  | some x => exact of_decide_eq_true (List.all_eq_true.1 (List.all_eq_true.1 kSzs i (List.mem_range.2 h)) x (List.mem_of_getElem? hx))
theorem cellOf4 {w : World} {b : Nat} {x y z u : Value} {T : TypeId} (h : w.heap[b]? = some (.cells #[x, y, z, u] T)) : w.cell? ⟨b, 1, none⟩ = some y ∧ w.cell? ⟨b, 2, none⟩ = some z ∧ w.cell? ⟨b, 3, none⟩ = some u := ⟨cellOf h rfl, cellOf h rfl, cellOf h rfl⟩
theorem kn28 : (scanE (bl ⟨#[105, 102, 32, 97, 58, 32, 35, 32, 120]⟩) 0 0 0).2 = ⟨0, 0, false, true, true⟩ := by kernel_rfl
theorem kn29 : (scanE (bl ⟨#[123, 97, 58]⟩) 0 0 0).2 = ⟨0, 1, false, true, false⟩ := by kernel_rfl
theorem kn30 : (scanE (bl ⟨#[35, 32, 120]⟩) 0 0 0).2 = ⟨0, 0, false, false, false⟩ := by kernel_rfl
theorem kn31 : (scanE (bl ⟨#[120, 58, 61]⟩) 0 0 (-5)).2 = ⟨0, 0, false, true, false⟩ := by kernel_rfl
theorem kn32 : (scanE (bl ⟨#[40]⟩) 0 0 1048581).2 = ⟨0, 1048576, false, true, false⟩ := by kernel_rfl
theorem kn33 : (scanE (bl ⟨#[120]⟩) 5 3 2).2 = ⟨3, 2, false, false, false⟩ := by kernel_rfl
theorem kn33e : (scanE (bl ⟨#[120]⟩) 5 3 2).1.length = 0 := by kernel_rfl
def zeroP : Array Value := #[.slice none 0 0, .int .u8 0, .int .i64 0, .bool false, .bool false, .bool false]
/-- The region of a number in a code. -/
def fReg (n : Nat) : Code → Option Code
  | .region k o m => if k = n then some (.region k o m) else none
  | .loop c => fReg n c
  | .seq a b => (fReg n a).or (fReg n b)
  | .block _ c => fReg n c
  | .scope c => fReg n c
  | .cond _ a b => (fReg n a).or (fReg n b)
  | _ => none
noncomputable def reg11_1 : Code := ((Tryd.f4.body.bind (fReg 1)).getD .skip)
noncomputable def reg11_5 : Code := ((Tryd.f4.body.bind (fReg 5)).getD .skip)
noncomputable def reg11_6 : Code := ((Tryd.f4.body.bind (fReg 6)).getD .skip)
noncomputable def reg11_12 : Code := ((Tryd.f4.body.bind (fReg 12)).getD .skip)
noncomputable def reg11_18 : Code := ((Tryd.f4.body.bind (fReg 18)).getD .skip)
noncomputable def reg11_19 : Code := ((Tryd.f4.body.bind (fReg 19)).getD .skip)
noncomputable def reg11_25 : Code := ((Tryd.f4.body.bind (fReg 25)).getD .skip)
noncomputable def reg11_28 : Code := ((Tryd.f4.body.bind (fReg 28)).getD .skip)
noncomputable def reg11_29 : Code := ((Tryd.f4.body.bind (fReg 29)).getD .skip)
noncomputable def reg11_30 : Code := ((Tryd.f4.body.bind (fReg 30)).getD .skip)
noncomputable def reg11_31 : Code := ((Tryd.f4.body.bind (fReg 31)).getD .skip)
noncomputable def reg11_32 : Code := ((Tryd.f4.body.bind (fReg 32)).getD .skip)
noncomputable def reg11_33 : Code := ((Tryd.f4.body.bind (fReg 33)).getD .skip)
/-- What the program's Scan answers, as leaves and what is open. -/
def ScP (line : ByteArray) (a : Int) (m : Nat) (d : Int) (es : List PEv) (st : PSt) : Prop := ∀ W, TabsP W → Calls Tryd.prog 6 #[.string line, .int .i64 a, .int .u8 (m : Nat), .int .i64 d] W fun e w' => ∃ v, e = .returned (.agg (outA v st)) ∧ RowE w' W.heap.size v es ∧ Up W w'
theorem wp_only {P : Program} {s : Code} {K : Act → World → Prop} {Q' : Exit → Act → World → Prop} {a : Act} {w : World} (h : s.wp P (Exit.then K (fun _ _ _ => False)) a w) : s.wp P (Exit.then K Q') a w := by
  refine wp_mono h ?_
  intro e a' w' hq
  cases e with
  | normal => exact hq
  | exit id => exact hq.elim
  | goto l => exact hq.elim
  | ret => exact hq.elim
  | panic ch => exact hq.elim
  | outgrown => exact hq.elim
theorem obj_up {w w' : World} {g : Nat} {o : Obj} (hu : Up w w') (h : w.heap[g]? = some o) : w'.heap[g]? = some o := (Below.block hu g (Array.getElem?_eq_some_iff.1 h).1).trans h
end Go.Proofs.YtlpkflioikmgjaaDoor
