/- Acts in memory: a load, a store, each as one step. -/
import Derived.Test.YtjdcbbleefepoaaIArg
namespace Go.Proofs.Ytjdcbbleefepoaa
open Go.RowKit

abbrev TA : TypeId := 39
/-- The cells of an act. -/
def IsD (x : Array Value) : Prop := ∃ e : Deed, DOk e ∧ x = e.cells.toArray
theorem aInfo : (Try.prog.info? TA).map (·.size) = some 84 := by kernel_rfl
theorem IsD.size {x : Array Value} (h : IsD x) : x.size = 84 := by
  obtain ⟨e, he, rfl⟩ := h
  rw [List.size_toArray]
  exact he.len
theorem IsD.one {x : Array Value} (h : IsD x) : x.all (·.oneCell') = true := by
  obtain ⟨e, he, rfl⟩ := h
  rw [Array.all_eq_true_iff_forall_mem]
  intro v hv
  have hv' : v ∈ e.cells := by simpa using hv
  unfold Deed.cells at hv'
  rcases List.mem_cons.1 hv' with rfl | hv'
  · rfl
  rcases List.mem_cons.1 hv' with rfl | hv'
  · rfl
  exact (Array.all_eq_true_iff_forall_mem.1 he.x.one) v (by simpa using hv')
theorem load_D {x : Array Value} (h : IsD x) {w : World} {b o : Nat} (hr : w.rangeAt b o x.toList) : (Instr.loadAt TA (.pointer (some ⟨b, o, none⟩))).run Try.prog w = .ok (.agg x) w := by
  have := run_loadAt_mid (P := Try.prog) w b o TA x.toList _ hr (show Try.prog.underlying TA = some ((Try.prog.underlying TA).getD .bool) by kernel_rfl) (by kernel_rfl) (by rw [aInfo]; simp [h.size])
  rwa [Array.toArray_toList] at this
theorem store_D {x : Array Value} (h : IsD x) {w : World} {b o : Nat} (ht : w.there b o 84) : (Instr.storeAt TA (.pointer (some ⟨b, o, none⟩)) (.agg x)).run Try.prog w = .ok () (w.setCells b o x.toList) :=
  run_storeAt_mid (P := Try.prog) w b o TA x (by rw [h.size]; exact ht) (by rw [aInfo, h.size]) h.one
theorem range_oneA {w : World} {b o : Nat} {x y : Array Value} (hx : IsD x) (hy : IsD y) (h : w.rangeAt b o x.toList) (k : w.rangeAt b o y.toList) : x = y := by
  apply Array.ext (by rw [hx.size, hy.size])
  intro i h1 h2
  have e1 := h i x[i] (by simp)
  have e2 := k i y[i] (by simp)
  rw [e1] at e2
  injection e2
open Classical in
/-- What a load of a state gives. -/
noncomputable def ldVA (v : Value) (w : World) : Option Value := if h : ∃ x : Array Value, ∃ b o, v = .pointer (some ⟨b, o, none⟩) ∧ IsD x ∧ w.rangeAt b o x.toList then some (.agg (Classical.choose h)) else none
theorem ldV_ofA {w : World} {b o : Nat} {x : Array Value} (hx : IsD x) (h : w.rangeAt b o x.toList) : ldVA (.pointer (some ⟨b, o, none⟩)) w = some (.agg x) := by
  have he : ∃ x : Array Value, ∃ b' o', (Value.pointer (some ⟨b, o, none⟩)) = .pointer (some ⟨b', o', none⟩) ∧ IsD x ∧ w.rangeAt b' o' x.toList := ⟨x, b, o, rfl, hx, h⟩
  unfold ldVA
  rw [dif_pos he]
  obtain ⟨b', o', e, h1, h2⟩ := Classical.choose_spec he
  injection e with e; injection e with e; injection e with e1 e2
  subst e1; subst e2
  rw [range_oneA h1 hx h2 h]
theorem ldV_invA {w : World} {v u : Value} (h : ldVA v w = some u) : ∃ x b o, v = .pointer (some ⟨b, o, none⟩) ∧ u = .agg x ∧ IsD x ∧ w.rangeAt b o x.toList := by
  unfold ldVA at h
  split at h
  · rename_i he
    injection h with h
    obtain ⟨b, o, h1, h2, h3⟩ := Classical.choose_spec he
    exact ⟨_, b, o, h1, h.symm, h2, h3⟩
  · cases h
theorem ldV_drewA (v : Value) (w : World) : ldVA v w.drew = ldVA v w := rfl
theorem ldV_drewNA (v : Value) (w : World) (n : Nat) : ldVA v (w.drewN n) = ldVA v w := rfl
theorem ldV_upA {w w' : World} (hu : Up w w') {v u : Value} (h : ldVA v w = some u) : ldVA v w' = some u := by
  obtain ⟨x, b, o, rfl, rfl, hx, hr⟩ := ldV_invA h
  exact ldV_ofA hx (range_up hu hr)
/-- A load that is no load of a state. -/
noncomputable def ldBadA (v : Value) (w : World) : Result Value := (Instr.loadAt TA v).run Try.prog w
theorem ld_ruleA (v : Value) (w : World) : (Instr.loadAt TA v).run Try.prog w = match ldVA v w with | some u => .ok u w | none => ldBadA v w := by
  cases h : ldVA v w with
  | none => rfl
  | some u =>
    obtain ⟨x, b, o, rfl, rfl, hx, hr⟩ := ldV_invA h
    exact load_D hx hr
open Classical in
/-- What a store of a state leaves. -/
noncomputable def stVA (v u : Value) (w : World) : Option World := if h : ∃ x : Array Value, ∃ b o, v = .pointer (some ⟨b, o, none⟩) ∧ u = .agg x ∧ IsD x ∧ w.there b o 84 then
    some (w.setCells (Classical.choose (Classical.choose_spec h)) (Classical.choose (Classical.choose_spec (Classical.choose_spec h))) (Classical.choose h).toList) else none
theorem stV_ofA {w : World} {b o : Nat} {x : Array Value} (hx : IsD x) (h : w.there b o 84) : stVA (.pointer (some ⟨b, o, none⟩)) (.agg x) w = some (w.setCells b o x.toList) := by
  have he : ∃ y : Array Value, ∃ b' o', (Value.pointer (some ⟨b, o, none⟩)) = .pointer (some ⟨b', o', none⟩) ∧ Value.agg x = .agg y ∧ IsD y ∧ w.there b' o' 84 := ⟨x, b, o, rfl, rfl, hx, h⟩
  unfold stVA
  rw [dif_pos he]
  have hs := Classical.choose_spec (Classical.choose_spec (Classical.choose_spec he))
  generalize Classical.choose (Classical.choose_spec (Classical.choose_spec he)) = o' at hs ⊢
  generalize Classical.choose (Classical.choose_spec he) = b' at hs ⊢
  generalize Classical.choose he = y at hs ⊢
  obtain ⟨e, e', -, -⟩ := hs
  injection e with e; injection e with e; injection e with e1 e2
  injection e' with e3
  rw [e1, e2, e3]
theorem stV_invA {w w' : World} {v u : Value} (h : stVA v u w = some w') : ∃ x b o, v = .pointer (some ⟨b, o, none⟩) ∧ u = .agg x ∧ IsD x ∧ w.there b o 84 ∧ w' = w.setCells b o x.toList := by
  unfold stVA at h
  split at h
  · rename_i he
    injection h with h
    obtain ⟨h1, h2, h3, h4⟩ := Classical.choose_spec (Classical.choose_spec (Classical.choose_spec he))
    exact ⟨_, _, _, h1, h2, h3, h4, h.symm⟩
  · cases h
noncomputable def stBadA (v u : Value) (w : World) : Result Unit := (Instr.storeAt TA v u).run Try.prog w
theorem st_ruleA (v u : Value) (w : World) : (Instr.storeAt TA v u).run Try.prog w = match stVA v u w with | some w' => .ok () w' | none => stBadA v u w := by
  cases h : stVA v u w with
  | none => rfl
  | some w' =>
    obtain ⟨x, b, o, rfl, rfl, hx, ht, rfl⟩ := stV_invA h
    exact store_D hx ht
@[irreducible] def ldSA (v : Value) : Sem Value := Instr.loadAt TA v
@[irreducible] def stSA (v u : Value) : Sem Unit := Instr.storeAt TA v u
@[irreducible] def zrSA : Sem Value := zeroValue TA
theorem ldSA_eq (v : Value) : Instr.loadAt TA v = ldSA v := by unfold ldSA; rfl
theorem stSA_eq (v u : Value) : Instr.storeAt TA v u = stSA v u := by unfold stSA; rfl
theorem zrSA_eq : zeroValue TA = zrSA := by unfold zrSA; rfl
theorem ldSA_run (v : Value) (w : World) : (ldSA v).run Try.prog w = match ldVA v w with | some u => .ok u w | none => ldBadA v w := by rw [← ldSA_eq]; exact ld_ruleA v w
theorem stSA_run (v u : Value) (w : World) : (stSA v u).run Try.prog w = match stVA v u w with | some w' => .ok () w' | none => stBadA v u w := by rw [← stSA_eq]; exact st_ruleA v u w
/-- The act of zeros. -/
noncomputable def zA : Array Value := match Try.prog.info? TA with
  | some i => match i.zero with
    | some (.agg x) => x
    | _ => #[]
  | none => #[]
theorem zrSA_run (w : World) : zrSA.run Try.prog w = .ok (.agg zA) w := by
  rw [← zrSA_eq]
  kernel_rfl
theorem zA_size : zA.size = 84 := by kernel_rfl
theorem there_boxA (w : World) (t : TypeId) : (w.alloc (.cells zA t)).there w.heap.size 0 84 := fun j hj => by
  rw [Nat.zero_add]
  have hj' : j < zA.size := by rw [zA_size]; exact hj
  exact ⟨by rw [cellOf (Go.heap_alloc_new w _) (Array.getElem?_eq_getElem hj')]; rfl, frozenOf (Go.heap_alloc_new w _)⟩
/-- What stands in an act's box. -/
theorem deed_box {w : World} {b : Nat} {a : Deed} (ha : DOk a) (ht : w.there b 0 84) : (w.setCells b 0 a.cells).cell? ⟨b, 0, none⟩ = some (.int .i64 a.d) ∧ (w.setCells b 0 a.cells).cell? ⟨b, 1, none⟩ = some (.int .i64 a.k) ∧ ldV (.pointer (some ⟨b, 2, none⟩)) (w.setCells b 0 a.cells) = some (.agg a.x) := by
  have hr := World.rangeAt_setCells_same w b 0 a.cells (by rw [ha.len]; exact ht)
  refine ⟨hr 0 _ rfl, hr 1 _ rfl, ldV_of ha.x fun j v hv => ?_⟩
  have := hr (j + 2) v (by unfold Deed.cells; simpa using hv)
  rw [Nat.zero_add, Nat.add_comm j 2] at this
  exact this
end Go.Proofs.Ytjdcbbleefepoaa
