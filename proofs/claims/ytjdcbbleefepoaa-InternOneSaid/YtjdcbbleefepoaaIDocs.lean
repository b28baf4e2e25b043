/- What the documents of a state are, as cells: a text and two Bools each. -/
import Derived.Test.YtjdcbbleefepoaaIRun
import Derived.DeepKeys2
namespace Go.Proofs.Ytjdcbbleefepoaa
open Go.RowKit

abbrev DS : TypeId := 35
abbrev ES : TypeId := 34
theorem mapM_each {α β : Type} {f : α → Option β} : ∀ {l : List α} {ys : List β}, l.mapM f = some ys → ∀ x ∈ l, ∃ y, f x = some y
  | [], _, _, _, h => by cases h
  | x :: l, ys, h, z, hz => by
    rw [List.mapM_cons] at h
    simp only [bind, Option.bind_eq_some_iff, pure, Option.some.injEq] at h
    obtain ⟨y, hy, ys', hys, rfl⟩ := h
    rcases List.mem_cons.1 hz with hz | hz
    · subst hz; exact ⟨y, hy⟩
    · exact mapM_each hys z hz
theorem lits_struct {m : Nat} {t : TypeId} {cs : List Value} {L : List Lit} {fs : Array Field} (hu : Try.prog.underlying t = some (.struct fs)) (h : Try.prog.keyLits m t cs = some L) {i : Nat} {f : Field} (hf : fs[i]? = some f) :
    ∃ m' L', Try.prog.keyLits m' f.type ((cs.drop f.offset).take (Try.prog.cellsOf f.type)) = some L' := by
  cases m with
  | zero => simp [Program.keyLits] at h
  | succ m =>
    unfold Program.keyLits at h
    simp only [hu] at h
    split at h
    · obtain ⟨xs, hx, -⟩ := Option.map_eq_some_iff.1 h
      obtain ⟨y, hy⟩ := mapM_each hx f (Array.mem_toList_iff.2 (Array.mem_of_getElem? hf))
      exact ⟨m, y, hy⟩
    · cases h
theorem lits_array {m n : Nat} {t e : TypeId} {cs : List Value} {L : List Lit} (hu : Try.prog.underlying t = some (.array n e)) (h : Try.prog.keyLits m t cs = some L) {i : Nat} (hi : i < n) :
    ∃ m' L', Try.prog.keyLits m' e ((cs.drop (i * Try.prog.cellsOf e)).take (Try.prog.cellsOf e)) = some L' := by
  cases m with
  | zero => simp [Program.keyLits] at h
  | succ m =>
    unfold Program.keyLits at h
    simp only [hu] at h
    split at h
    · obtain ⟨xs, hx, -⟩ := Option.map_eq_some_iff.1 h
      obtain ⟨y, hy⟩ := mapM_each hx i (List.mem_range.2 hi)
      exact ⟨m, y, hy⟩
    · cases h
theorem lits_string {m : Nat} {t : TypeId} {cs : List Value} {L : List Lit} (hu : Try.prog.underlying t = some .string) (h : Try.prog.keyLits m t cs = some L) : ∃ s, cs = [.string s] := by
  cases m with
  | zero => simp [Program.keyLits] at h
  | succ m =>
    unfold Program.keyLits at h
    simp only [hu] at h
    split at h <;> first | cases h | skip
    all_goals simp_all
theorem lits_bool {m : Nat} {t : TypeId} {cs : List Value} {L : List Lit} (hu : Try.prog.underlying t = some .bool) (h : Try.prog.keyLits m t cs = some L) : ∃ s, cs = [.bool s] := by
  cases m with
  | zero => simp [Program.keyLits] at h
  | succ m =>
    unfold Program.keyLits at h
    simp only [hu] at h
    split at h <;> first | cases h | skip
    all_goals simp_all
theorem take_one {l : List Value} {k : Nat} {v : Value} (h : (l.drop k).take 1 = [v]) : l[k]? = some v := by
  have h1 : ((l.drop k).take 1)[0]? = some v := by rw [h]; rfl
  rw [List.getElem?_take_of_lt (by omega), List.getElem?_drop] at h1
  exact h1
theorem docs_of {x : Array Value} (hx : IsS x) : ∃ (S : Nat → ByteArray) (P Q : Nat → Bool), ∀ k, k < 4 → x.toList[69 + k * 3]? = some (.string (S k)) ∧ x.toList[69 + k * 3 + 1]? = some (.bool (P k)) ∧ x.toList[69 + k * 3 + 2]? = some (.bool (Q k)) ∧ (S k).size ≤ 140737488355328 := by
  obtain ⟨L, hL⟩ := hx.lits
  obtain ⟨m1, L1, h1⟩ := lits_struct Try.underlying37 hL (i := 6) rfl
  have c1 : Try.prog.cellsOf 35 = 12 := by kernel_rfl
  have c2 : Try.prog.cellsOf 34 = 3 := by kernel_rfl
  have c3 : Try.prog.cellsOf 9 = 1 := by kernel_rfl
  have c4 : Try.prog.cellsOf 4 = 1 := by kernel_rfl
  change Try.prog.keyLits m1 DS ((x.toList.drop 69).take (Try.prog.cellsOf DS)) = some L1 at h1
  rw [c1] at h1
  have key : ∀ k, k < 4 → ∃ (s : ByteArray) (p q : Bool), x.toList[69 + k * 3]? = some (.string s) ∧ x.toList[69 + k * 3 + 1]? = some (.bool p) ∧ x.toList[69 + k * 3 + 2]? = some (.bool q) ∧ s.size ≤ 140737488355328 := fun k hk => by
    obtain ⟨m2, L2, h2⟩ := lits_array Try.underlying35 h1 hk
    rw [c2] at h2
    obtain ⟨m3, L3, h3⟩ := lits_struct Try.underlying34 h2 (i := 0) rfl
    obtain ⟨m4, L4, h4⟩ := lits_struct Try.underlying34 h2 (i := 1) rfl
    obtain ⟨m5, L5, h5⟩ := lits_struct Try.underlying34 h2 (i := 2) rfl
    obtain ⟨s, hs⟩ := lits_string Try.underlying9 h3
    obtain ⟨p, hp⟩ := lits_bool Try.underlying4 h4
    obtain ⟨q, hq⟩ := lits_bool Try.underlying4 h5
    change (List.drop 0 _).take (Try.prog.cellsOf 9) = _ at hs
    change (List.drop 1 _).take (Try.prog.cellsOf 4) = _ at hp
    change (List.drop 2 _).take (Try.prog.cellsOf 4) = _ at hq
    rw [c3] at hs
    rw [c4] at hp hq
    have g : ∀ (j : Nat), j < 3 → ∀ v, (((((x.toList.drop 69).take 12).drop (k * 3)).take 3))[j]? = some v → x.toList[69 + k * 3 + j]? = some v := fun j hj v hv => by
      rw [List.getElem?_take_of_lt hj, List.getElem?_drop, List.getElem?_take_of_lt (by omega), List.getElem?_drop] at hv
      rw [← hv]
      congr 1
      omega
    have e0 := g 0 (by omega) _ (take_one hs)
    have e1 := g 1 (by omega) _ (take_one hp)
    have e2 := g 2 (by omega) _ (take_one hq)
    exact ⟨s, p, q, e0, e1, e2, short_at hx.2 (List.mem_of_getElem? e0)⟩
  refine ⟨fun k => if h : k < 4 then (key k h).choose else ByteArray.empty, fun k => if h : k < 4 then (key k h).choose_spec.choose else false, fun k => if h : k < 4 then (key k h).choose_spec.choose_spec.choose else false, fun k hk => ?_⟩
  simp only [dif_pos hk]
  exact (key k hk).choose_spec.choose_spec.choose_spec
/-- The documents, loaded. -/
@[irreducible] def ldD (v : Value) : Sem Value := Instr.loadAt DS v
theorem ldD_eq (v : Value) : Instr.loadAt DS v = ldD v := by unfold ldD; rfl
def docA (S : Nat → ByteArray) (P Q : Nat → Bool) : Array Value := #[.string (S 0), .bool (P 0), .bool (Q 0), .string (S 1), .bool (P 1), .bool (Q 1), .string (S 2), .bool (P 2), .bool (Q 2), .string (S 3), .bool (P 3), .bool (Q 3)]
theorem ldD_run {S : Nat → ByteArray} {P Q : Nat → Bool} {w : World} {b : Nat} {x : Array Value} (hr : w.rangeAt b 0 x.toList) (hd : ∀ k, k < 4 → x.toList[69 + k * 3]? = some (.string (S k)) ∧ x.toList[69 + k * 3 + 1]? = some (.bool (P k)) ∧ x.toList[69 + k * 3 + 2]? = some (.bool (Q k)) ∧ (S k).size ≤ 140737488355328) :
    (ldD (.pointer (some ⟨b, 69, none⟩))).run Try.prog w = .ok (.agg (docA S P Q)) w := by
  rw [← ldD_eq]
  have hr' : w.rangeAt b 69 (docA S P Q).toList := fun j v hv => by
    have h0 := hd 0 (by omega); have h1 := hd 1 (by omega); have h2 := hd 2 (by omega); have h3 := hd 3 (by omega)
    have hj : j < 12 := (List.getElem?_eq_some_iff.1 hv).1
    have e : x.toList[69 + j]? = some v := by
      rw [← hv]
      match j, hj with
      | 0, _ => exact h0.1
      | 1, _ => exact h0.2.1
      | 2, _ => exact h0.2.2.1
      | 3, _ => exact h1.1
      | 4, _ => exact h1.2.1
      | 5, _ => exact h1.2.2.1
      | 6, _ => exact h2.1
      | 7, _ => exact h2.2.1
      | 8, _ => exact h2.2.2.1
      | 9, _ => exact h3.1
      | 10, _ => exact h3.2.1
      | 11, _ => exact h3.2.2.1
    have := hr (69 + j) v e
    rwa [Nat.zero_add] at this
  have := run_loadAt_mid (P := Try.prog) w b 69 DS (docA S P Q).toList _ hr' (show Try.prog.underlying DS = some ((Try.prog.underlying DS).getD .bool) by kernel_rfl) (by kernel_rfl) (by kernel_rfl)
  rwa [Array.toArray_toList] at this
theorem ixD {S : Nat → ByteArray} {P Q : Nat → Bool} (k : Nat) (hk : k < 4) (W : World) : (Instr.index DS (.agg (docA S P Q)) (.int .i64 (k : Nat))).run Try.prog W = .ok (.agg #[.string (S k), .bool (P k), .bool (Q k)]) W := by
  match k, hk with
  | 0, _ => first | rfl | simp [Instr.index, go_sem, docA]
  | 1, _ => first | rfl | simp [Instr.index, go_sem, docA]
  | 2, _ => first | rfl | simp [Instr.index, go_sem, docA]
  | 3, _ => first | rfl | simp [Instr.index, go_sem, docA]
theorem set_range {w : World} {b j : Nat} {l : List Value} {v : Value} (h : w.rangeAt b 0 l) (hv : l[j]? = some v) : (w.setCell ⟨b, j, none⟩ v).rangeAt b 0 l := fun i u hu => by
  rw [Nat.zero_add]
  by_cases e : i = j
  · subst e
    rw [hv] at hu
    injection hu with hu
    subst hu
    have := h i v hv
    rw [Nat.zero_add] at this
    exact World.cell?_setCell_same' w ⟨b, i, none⟩ v (by rw [this]; rfl)
  · rw [World.cell?_setCell_other w ⟨b, j, none⟩ ⟨b, i, none⟩ v (fun k => e (by injection k with _ k; exact k.symm))]
    have := h i u hu
    rwa [Nat.zero_add] at this
theorem there_up {w w' : World} {b o n : Nat} (hu : Up w w') (h : w.there b o n) : w'.there b o n := fun j hj => by
  obtain ⟨h1, h2⟩ := h j hj
  obtain ⟨v, hv⟩ := Option.isSome_iff_exists.1 h1
  exact ⟨by rw [cell_up hu hv]; rfl, by rw [← h2]; exact World.frozen?_of_block (Below.block hu b (World.block_lt_of_cell? w _ hv))⟩
theorem there_set {w : World} {b o n : Nat} (h : w.there b o n) (b' j : Nat) (v : Value) : (w.setCell ⟨b', j, none⟩ v).there b o n := World.there_setCells h b' j [v]
end Go.Proofs.Ytjdcbbleefepoaa
