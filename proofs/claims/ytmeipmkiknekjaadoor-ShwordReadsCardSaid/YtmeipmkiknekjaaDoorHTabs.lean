/- The program's constant table of operators, as memory holds it. -/
import Derived.Test.YtmeipmkiknekjaaDoorHMem
import Derived.Test.YtmeipmkiknekjaaDoorShelf
import Derived.Lib.LaidU8
namespace Go.Proofs.YtmeipmkiknekjaaDoor
open Go.RowKit

abbrev AT : TypeId := 45
/-- The operators by their numbers. -/
def opB (k : Nat) : ByteArray := toB (opsL.getD k [])
structure TabH (w : World) : Prop where
  op : ∀ k, k < 17 → w.cell? ⟨0, k, none⟩ = some (.string (opB k))
theorem TabH.up {w w' : World} (h : TabH w) (hu : Up w w') : TabH w' := ⟨fun k hk => cell_up hu (h.op k hk)⟩
noncomputable def nmOps : String := ((Tryd.prog.globals[0]?).map (·.name)).getD ""
theorem gOps : Tryd.prog.globalNamed nmOps = some 0 := by kernel_rfl
theorem tOps : (Tryd.prog.globals[0]?).map (·.type) = some AT := by kernel_rfl
theorem ops_of_reads {w : World} (h : Lib.VarReads Tryd.prog w nmOps Rows.laid_indenture_shword_operators) : ∀ m, m < 17 → w.cell? ⟨0, m, none⟩ = some (.string (opB m)) := by
  intro m hm
  obtain ⟨g, t, cs, fuel, p, hg, hty, hvar, hd⟩ := h
  obtain rfl := Option.some.inj (gOps.symm.trans hg)
  obtain rfl := Option.some.inj (tOps.symm.trans hty)
  obtain ⟨fuel', d, q, hdi, he⟩ := Lib.array_elem Tryd.underlying45 hd m hm
  rw [show Tryd.prog.cellsOf 9 = 1 from by kernel_rfl, Nat.mul_one] at he
  obtain ⟨s, hs, hx, -⟩ := DataW.trod_string Tryd.underlying9 he
  have h0 := congrArg (·[0]?) hs
  simp only [List.getElem?_take, List.getElem?_drop] at h0
  rw [World.var?_cell hg hvar m, ← Array.getElem?_toList]
  have h1 : cs.toList[m]? = some (.string s) := by simpa using h0
  rw [h1]
  have hd2 : d = .lit (.string s.data.toList) := congrArg Prod.fst hx
  have hsd : ∀ l : List UInt8, (DataW.lit (.string l) : DataW Unit) = d → s = ⟨l.toArray⟩ := fun l e => by
    rw [hd2] at e
    injection e with e
    injection e with e
    rw [e]
  match m, hm with
  | 0, _ | 1, _ | 2, _ | 3, _ | 4, _ | 5, _ | 6, _ | 7, _ | 8, _ | 9, _ | 10, _ | 11, _ | 12, _ | 13, _ | 14, _ | 15, _ | 16, _ =>
    have e := hsd _ (Option.some.inj hdi)
    rw [e]
    rfl
  | _ + 17, h => exact absurd h (by omega)
theorem tabH_of_laid {w : World} (h : laidMet Tryd.prog Rows.shwordReadsRow.laid w) : TabH w := by
  have m0 := Lib.laidMet.reads h (List.mem_of_getElem? (i := 0) rfl)
  refine ⟨ops_of_reads ?_⟩
  exact cast (congrArg (fun n => Lib.VarReads Tryd.prog w n _) (show _ = nmOps by kernel_rfl)) m0
/-- The table, loaded. -/
@[irreducible] def ldO (v : Value) : Sem Value := Instr.loadAt AT v
theorem ldO_eq (v : Value) : Instr.loadAt AT v = ldO v := by unfold ldO; rfl
def opsA : Array Value := #[.string (opB 0), .string (opB 1), .string (opB 2), .string (opB 3), .string (opB 4), .string (opB 5), .string (opB 6), .string (opB 7), .string (opB 8), .string (opB 9), .string (opB 10), .string (opB 11), .string (opB 12), .string (opB 13), .string (opB 14), .string (opB 15), .string (opB 16)]
theorem opsA_at (j : Nat) (v : Value) (hv : opsA.toList[j]? = some v) : j < 17 ∧ v = .string (opB j) := by
  have hj : j < 17 := (List.getElem?_eq_some_iff.1 hv).1
  refine ⟨hj, ?_⟩
  have key : ∀ i : Fin 17, opsA.toList[i.val]? = some (.string (opB i.val)) := fun ⟨i, hi⟩ => by
    match i, hi with
    | 0, _ | 1, _ | 2, _ | 3, _ | 4, _ | 5, _ | 6, _ | 7, _ | 8, _ | 9, _ | 10, _ | 11, _ | 12, _ | 13, _ | 14, _ | 15, _ | 16, _ => rfl
    | _ + 17, h => exact absurd h (by omega)
  exact (Option.some.inj ((key ⟨j, hj⟩).symm.trans hv)).symm
theorem ldO_run {w : World} (h : TabH w) : (ldO (.pointer (some ⟨0, 0, none⟩))).run Tryd.prog w = .ok (.agg opsA) w := by
  rw [← ldO_eq]
  have hr : w.rangeAt 0 0 opsA.toList := fun j v hv => by
    obtain ⟨hj, rfl⟩ := opsA_at j v hv
    rw [Nat.zero_add]
    exact h.op j hj
  have := run_loadAt_mid (P := Tryd.prog) w 0 0 AT opsA.toList _ hr (show Tryd.prog.underlying AT = some ((Tryd.prog.underlying AT).getD .bool) by kernel_rfl) (by kernel_rfl) (by kernel_rfl)
  rwa [Array.toArray_toList] at this
theorem ixO (k : Nat) (hk : k < 17) (W : World) : (Instr.index AT (.agg opsA) (.int .i64 (k : Nat))).run Tryd.prog W = .ok (.string (opB k)) W := by
  match k, hk with
  | 0, _ | 1, _ | 2, _ | 3, _ | 4, _ | 5, _ | 6, _ | 7, _ | 8, _ | 9, _ | 10, _ | 11, _ | 12, _ | 13, _ | 14, _ | 15, _ | 16, _ => first | rfl | simp [Instr.index, go_sem, opsA]
  | _ + 17, h => exact absurd h (by omega)
theorem ops_drop (k : Nat) (hk : k < 17) : opsL.drop k = bl (opB k) :: opsL.drop (k + 1) ∧ 1 ≤ (opB k).size ∧ (opB k).size ≤ 3 := by
  have h : ∀ k : Fin 17, opsL.drop k.val = opsL.getD k.val [] :: opsL.drop (k.val + 1) ∧ 1 ≤ (opsL.getD k.val []).length ∧ (opsL.getD k.val []).length ≤ 3 ∧ ∀ c ∈ opsL.getD k.val [], c < 256 := by decide
  obtain ⟨h1, h2, h3, h4⟩ := h ⟨k, hk⟩
  unfold opB
  rw [bl_toB h4, toB_len]
  exact ⟨h1, h2, h3⟩
end Go.Proofs.YtmeipmkiknekjaaDoor
