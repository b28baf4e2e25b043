/- States in memory: a load, a store, a comparison, each as one step. -/
import Derived.Test.YtjdcbbleefepoaaISt
import Derived.Great.BuildSlice
import Derived.Laws.ResultCell
namespace Go.Proofs.Ytjdcbbleefepoaa
open Go.RowKit

theorem range_one {w : World} {b o : Nat} {x y : Array Value} (hx : IsS x) (hy : IsS y) (h : w.rangeAt b o x.toList) (k : w.rangeAt b o y.toList) : x = y := by
  apply Array.ext (by rw [hx.size, hy.size])
  intro i h1 h2
  have e1 := h i x[i] (by simp)
  have e2 := k i y[i] (by simp)
  rw [e1] at e2
  injection e2
open Classical in
/-- What a load of a state gives. -/
noncomputable def ldV (v : Value) (w : World) : Option Value := if h : ∃ x : Array Value, ∃ b o, v = .pointer (some ⟨b, o, none⟩) ∧ IsS x ∧ w.rangeAt b o x.toList then some (.agg (Classical.choose h)) else none
theorem ldV_of {w : World} {b o : Nat} {x : Array Value} (hx : IsS x) (h : w.rangeAt b o x.toList) : ldV (.pointer (some ⟨b, o, none⟩)) w = some (.agg x) := by
  have he : ∃ x : Array Value, ∃ b' o', (Value.pointer (some ⟨b, o, none⟩)) = .pointer (some ⟨b', o', none⟩) ∧ IsS x ∧ w.rangeAt b' o' x.toList := ⟨x, b, o, rfl, hx, h⟩
  unfold ldV
  rw [dif_pos he]
  obtain ⟨b', o', e, h1, h2⟩ := Classical.choose_spec he
  injection e with e; injection e with e; injection e with e1 e2
  subst e1; subst e2
  rw [range_one h1 hx h2 h]
theorem ldV_inv {w : World} {v u : Value} (h : ldV v w = some u) : ∃ x b o, v = .pointer (some ⟨b, o, none⟩) ∧ u = .agg x ∧ IsS x ∧ w.rangeAt b o x.toList := by
  unfold ldV at h
  split at h
  · rename_i he
    injection h with h
    obtain ⟨b, o, h1, h2, h3⟩ := Classical.choose_spec he
    exact ⟨_, b, o, h1, h.symm, h2, h3⟩
  · cases h
theorem ldV_drew (v : Value) (w : World) : ldV v w.drew = ldV v w := rfl
theorem ldV_drewN (v : Value) (w : World) (n : Nat) : ldV v (w.drewN n) = ldV v w := rfl
theorem ldV_up {w w' : World} (hu : Up w w') {v u : Value} (h : ldV v w = some u) : ldV v w' = some u := by
  obtain ⟨x, b, o, rfl, rfl, hx, hr⟩ := ldV_inv h
  exact ldV_of hx (range_up hu hr)
/-- A load that is no load of a state. -/
noncomputable def ldBad (v : Value) (w : World) : Result Value := (Instr.loadAt TS v).run Try.prog w
theorem ld_rule (v : Value) (w : World) : (Instr.loadAt TS v).run Try.prog w = match ldV v w with | some u => .ok u w | none => ldBad v w := by
  cases h : ldV v w with
  | none => rfl
  | some u =>
    obtain ⟨x, b, o, rfl, rfl, hx, hr⟩ := ldV_inv h
    exact load_S hx hr
open Classical in
/-- What a store of a state leaves. -/
noncomputable def stV (v u : Value) (w : World) : Option World := if h : ∃ x : Array Value, ∃ b o, v = .pointer (some ⟨b, o, none⟩) ∧ u = .agg x ∧ IsS x ∧ w.there b o 82 then
    some (w.setCells (Classical.choose (Classical.choose_spec h)) (Classical.choose (Classical.choose_spec (Classical.choose_spec h))) (Classical.choose h).toList) else none
theorem stV_of {w : World} {b o : Nat} {x : Array Value} (hx : IsS x) (h : w.there b o 82) : stV (.pointer (some ⟨b, o, none⟩)) (.agg x) w = some (w.setCells b o x.toList) := by
  have he : ∃ y : Array Value, ∃ b' o', (Value.pointer (some ⟨b, o, none⟩)) = .pointer (some ⟨b', o', none⟩) ∧ Value.agg x = .agg y ∧ IsS y ∧ w.there b' o' 82 := ⟨x, b, o, rfl, rfl, hx, h⟩
  unfold stV
  rw [dif_pos he]
  have hs := Classical.choose_spec (Classical.choose_spec (Classical.choose_spec he))
  generalize Classical.choose (Classical.choose_spec (Classical.choose_spec he)) = o' at hs ⊢
  generalize Classical.choose (Classical.choose_spec he) = b' at hs ⊢
  generalize Classical.choose he = y at hs ⊢
  obtain ⟨e, e', -, -⟩ := hs
  injection e with e; injection e with e; injection e with e1 e2
  injection e' with e3
  rw [e1, e2, e3]
theorem stV_inv {w w' : World} {v u : Value} (h : stV v u w = some w') : ∃ x b o, v = .pointer (some ⟨b, o, none⟩) ∧ u = .agg x ∧ IsS x ∧ w.there b o 82 ∧ w' = w.setCells b o x.toList := by
  unfold stV at h
  split at h
  · rename_i he
    injection h with h
    obtain ⟨h1, h2, h3, h4⟩ := Classical.choose_spec (Classical.choose_spec (Classical.choose_spec he))
    exact ⟨_, _, _, h1, h2, h3, h4, h.symm⟩
  · cases h
noncomputable def stBad (v u : Value) (w : World) : Result Unit := (Instr.storeAt TS v u).run Try.prog w
theorem st_rule (v u : Value) (w : World) : (Instr.storeAt TS v u).run Try.prog w = match stV v u w with | some w' => .ok () w' | none => stBad v u w := by
  cases h : stV v u w with
  | none => rfl
  | some w' =>
    obtain ⟨x, b, o, rfl, rfl, hx, ht, rfl⟩ := stV_inv h
    exact store_S hx ht
open Classical in
/-- What a comparison of states gives. -/
noncomputable def eqV (x y : Array Value) : Option Bool := if IsS x ∧ IsS y then some (eqS x y) else none
theorem eqV_of {x y : Array Value} (hx : IsS x) (hy : IsS y) : eqV x y = some (eqS x y) := by unfold eqV; rw [if_pos ⟨hx, hy⟩]
theorem eqV_inv {x y : Array Value} {b : Bool} (h : eqV x y = some b) : IsS x ∧ IsS y ∧ eqS x y = b := by
  unfold eqV at h
  split at h
  · rename_i k
    injection h with h
    exact ⟨k.1, k.2, h⟩
  · cases h
noncomputable def eqlBad (x y : Array Value) (w : World) : Result Value := (binOp .eql TS (.agg x) (.agg y)).run Try.prog w
noncomputable def neqBad (x y : Array Value) (w : World) : Result Value := (binOp .neq TS (.agg x) (.agg y)).run Try.prog w
theorem eql_rule (x y : Array Value) (w : World) : (binOp .eql TS (.agg x) (.agg y)).run Try.prog w = match eqV x y with | some b => .ok (.bool b) w | none => eqlBad x y w := by
  cases h : eqV x y with
  | none => rfl
  | some b =>
    obtain ⟨hx, hy, rfl⟩ := eqV_inv h
    exact run_eql_S hx hy w
theorem neq_rule (x y : Array Value) (w : World) : (binOp .neq TS (.agg x) (.agg y)).run Try.prog w = match eqV x y with | some b => .ok (.bool (!b)) w | none => neqBad x y w := by
  cases h : eqV x y with
  | none => rfl
  | some b =>
    obtain ⟨hx, hy, rfl⟩ := eqV_inv h
    exact run_neq_S hx hy w
/-- The four steps, shut. -/
@[irreducible] def ldS (v : Value) : Sem Value := Instr.loadAt TS v
@[irreducible] def stS (v u : Value) : Sem Unit := Instr.storeAt TS v u
@[irreducible] def elS (x y : Value) : Sem Value := binOp .eql TS x y
@[irreducible] def neS (x y : Value) : Sem Value := binOp .neq TS x y
@[irreducible] def zrS : Sem Value := zeroValue TS
theorem ldS_eq (v : Value) : Instr.loadAt TS v = ldS v := by unfold ldS; rfl
theorem stS_eq (v u : Value) : Instr.storeAt TS v u = stS v u := by unfold stS; rfl
theorem elS_eq (x y : Value) : binOp .eql TS x y = elS x y := by unfold elS; rfl
theorem neS_eq (x y : Value) : binOp .neq TS x y = neS x y := by unfold neS; rfl
theorem zrS_eq : zeroValue TS = zrS := by unfold zrS; rfl
theorem ldS_run (v : Value) (w : World) : (ldS v).run Try.prog w = match ldV v w with | some u => .ok u w | none => ldBad v w := by rw [← ldS_eq]; exact ld_rule v w
theorem stS_run (v u : Value) (w : World) : (stS v u).run Try.prog w = match stV v u w with | some w' => .ok () w' | none => stBad v u w := by rw [← stS_eq]; exact st_rule v u w
theorem elS_run (x y : Array Value) (w : World) : (elS (.agg x) (.agg y)).run Try.prog w = match eqV x y with | some b => .ok (.bool b) w | none => eqlBad x y w := by rw [← elS_eq]; exact eql_rule x y w
theorem neS_run (x y : Array Value) (w : World) : (neS (.agg x) (.agg y)).run Try.prog w = match eqV x y with | some b => .ok (.bool (!b)) w | none => neqBad x y w := by rw [← neS_eq]; exact neq_rule x y w
theorem zrS_run (w : World) : zrS.run Try.prog w = .ok (.agg z0) w := by
  rw [← zrS_eq]
  kernel_rfl
@[irreducible] def bsS (k : Nat) (ps : Array (Nat × Value)) : Sem Value := Instr.buildSlice 27 k ps
theorem bsS_eq (k : Nat) (ps : Array (Nat × Value)) : Instr.buildSlice 27 k ps = bsS k ps := by unfold bsS; rfl
noncomputable def bsBad (v : Value) (w : World) : Result Value := (bsS 1 #[(0, v)]).run Try.prog w
theorem sInfo' : ∃ i, Try.prog.info? TS = some i ∧ i.zero = some (.agg z0) ∧ i.size = 82 := by
  have h1 := z0_info
  have h2 := sInfo
  cases h : Try.prog.info? TS with
  | none => rw [h] at h1; cases h1
  | some i =>
    rw [h] at h1 h2
    exact ⟨i, rfl, by simpa using h1, by simpa using h2⟩
noncomputable def okS (x : Array Value) : Bool := @decide (IsS x) (Classical.propDecidable _)
theorem okS_of {x : Array Value} (h : IsS x) : okS x = true := by unfold okS; simp [h]
theorem bsS_run (x : Array Value) (w : World) : (bsS 1 #[(0, .agg x)]).run Try.prog w = match okS x with | true => .ok (.slice (some ⟨w.heap.size, 0, none⟩) 1 1) (w.alloc (.cells x TS)) | false => bsBad (.agg x) w := by
  split
  · rename_i hok
    have hx : IsS x := by unfold okS at hok; simpa using hok
    rw [← bsS_eq]
    obtain ⟨i, h1, h2, h3⟩ := sInfo'
    have hz := z0_is.size
    have hw := Great.fill_whole (s := 82) (by omega) [.agg x] ((Array.range (1 * i.size)).map ((Value.agg z0).cells[· % (Value.agg z0).cells.size]!)) (fun v hv => by rw [List.mem_singleton] at hv; subst hv; exact hx.size) (by simp [h3])
    refine run_buildSlice w 27 TS 1 #[(0, .agg x)] x i (.agg z0) Try.underlying27 h1 h2 (by rw [h3]; omega) (by rw [h3]; omega) ?_
    rw [h3] at hw ⊢
    rw [show (#[(0, Value.agg x)] : Array (Nat × Value)).toList = (([Value.agg x].zipIdx 0).map fun y => (y.2, y.1)) from rfl, hw]
    congr 1
    simp [Value.cells]
  · rfl
@[irreducible] def bdS (ps : Array (Nat × Value)) : Sem Value := Instr.build TS ps
theorem bdS_eq (ps : Array (Nat × Value)) : Instr.build TS ps = bdS ps := by unfold bdS; rfl
noncomputable def z1 : Array Value := ((Try.prog.built TS [(2, .int .u8 1)])).getD #[]
theorem bdS_run0 (w : World) : (bdS #[]).run Try.prog w = .ok (.agg z0) w := by rw [← bdS_eq]; kernel_rfl
theorem bdS_run1 (w : World) : (bdS #[(2, .int .u8 1)]).run Try.prog w = .ok (.agg z1) w := by rw [← bdS_eq]; kernel_rfl
theorem z1_is : IsS z1 := ⟨⟨((keyOf Try.prog TS (.agg z1)).getD (.bool false)), by kernel_rfl⟩, by kernel_rfl⟩
theorem z01 : z0 ≠ z1 := fun h => by
  have e0 : z0[65]? = some (.int .u8 0) := by kernel_rfl
  have e1 : z1[65]? = some (.int .u8 1) := by kernel_rfl
  rw [h, e1] at e0
  cases e0
theorem there_box (w : World) {x : Array Value} (hx : IsS x) (t : TypeId) : (w.alloc (.cells x t)).there w.heap.size 0 82 := fun j hj => by
  rw [Nat.zero_add]
  have hj' : j < x.size := by rw [hx.size]; exact hj
  exact ⟨by rw [cellOf (Go.heap_alloc_new w _) (Array.getElem?_eq_getElem hj')]; rfl, frozenOf (Go.heap_alloc_new w _)⟩
theorem set_ld {w : World} {b o : Nat} {y : Array Value} (hy : IsS y) (ht : w.there b o 82) : ldV (.pointer (some ⟨b, o, none⟩)) (w.setCells b o y.toList) = some (.agg y) :=
  ldV_of hy (World.rangeAt_setCells_same w b o y.toList (by rw [Array.length_toList, hy.size]; exact ht))
theorem set_below (B b : Nat) (hb : B ≤ b) : ∀ (l : List Value) (o : Nat) (w w0 : World), Below B w0 w → Below B w0 (w.setCells b o l)
  | [], _, _, _, h => h
  | v :: r, o, _, w0, h => set_below B b hb r (o + 1) _ w0 (Below.setCell h (p := ⟨b, o, none⟩) hb v)
theorem set_upS {w W : World} {b o : Nat} {l : List Value} (h : Up w W) (hb : w.heap.size ≤ b) : Up w (W.setCells b o l) := set_below w.heap.size b hb l o W w h
theorem ldVar_of {v u : Value} {w : World} (h : ldV v w = some u) : ∃ a, v = .pointer (some a) ∧ (loadVar TS a).run Try.prog w = .ok u w := by
  obtain ⟨x, b, o, rfl, rfl, hx, hr⟩ := ldV_inv h
  refine ⟨_, rfl, ?_⟩
  have := run_loadVar_mid (P := Try.prog) w b o TS x.toList _ hr (show Try.prog.underlying TS = some ((Try.prog.underlying TS).getD .bool) by kernel_rfl) (by kernel_rfl) (by rw [sInfo]; simp [hx.size])
  rwa [Array.toArray_toList] at this
theorem res_S {fn : Func} {p u : Tmp} (h : fn.results = #[.cell p TS, .tmp u]) (tmps : Array Value) (w : World) (a : Addr) (v : Value) (hp : tmps.getD p undef = .pointer (some a)) (hv : ldV (.pointer (some a)) w = some v) :
    (results fn tmps).run Try.prog w = .ok (.tuple #[v, tmps.getD u undef]) w := by
  obtain ⟨a', e, h2⟩ := ldVar_of hv
  injection e with e; injection e with e
  subst e
  rw [results_cell_tmp h, hp]
  simp only [asAddr, Sem.run_pure, Result.andThen_ok, h2]
theorem g0_rule : Try.prog.eqGuardType Try.prog.depth TS = false := by kernel_rfl
end Go.Proofs.Ytjdcbbleefepoaa
