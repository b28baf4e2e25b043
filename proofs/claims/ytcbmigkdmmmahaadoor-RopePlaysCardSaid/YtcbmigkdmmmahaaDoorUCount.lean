/- The program's Valid and Count, at every text: over its steps. -/
import Derived.Test.YtcbmigkdmmmahaaDoorUSteps
import Derived.RangeFuncFrom
namespace Go.Proofs.YtcbmigkdmmmahaaDoor
open Go.RowKit Go.Shelf
attribute [local go_sem] Oper.semAt_some

noncomputable def validS (s : ByteArray) : Bool := (stepsFrom s 0).all (·.2)
noncomputable def countS (s : ByteArray) : Nat := (stepsFrom s 0).length
theorem cell_new_l (W : World) (v : Value) (t : TypeId) : (W.alloc (.cells #[v] t)).cell? ⟨W.heap.size, 0, none⟩ = some v ∧ (W.alloc (.cells #[v] t)).frozen? ⟨W.heap.size, 0, none⟩ = false :=
  ⟨by simp, by simp⟩
theorem cell_alloc_l {W : World} {a : Addr} {v : Value} (o : Obj) (h : W.cell? a = some v) : (W.alloc o).cell? a = some v := cell_kept h (Up.alloc W o).grownBy (fun r e => by cases e)
theorem frozen_alloc_l {W : World} {a : Addr} {v : Value} (o : Obj) (h : W.cell? a = some v) (hf : W.frozen? a = false) : (W.alloc o).frozen? a = false := (frozen_kept h (Up.alloc W o).grownBy (fun r e => by cases e)).trans hf
theorem steps_length (s : ByteArray) : ∀ m a, s.size - a ≤ m → (stepsFrom s a).length ≤ s.size - a := by
  intro m
  induction m with
  | zero => intro a h; rw [stepsFrom_nil (by omega)]; simp
  | succ m ih =>
    intro a h
    by_cases hlt : a < s.size
    · have h1 := stepLen_pos s a
      have h2 := stepLen_in hlt
      rw [stepsFrom_cons hlt]
      have := ih (a + stepLen s a) (by omega)
      simp only [List.length_cons]
      omega
    · rw [stepsFrom_nil hlt]; simp
theorem countS_le (s : ByteArray) : countS s ≤ s.size := by
  have := steps_length s s.size 0 (by omega)
  unfold countS; omega
theorem valid_yes {s : ByteArray} {l : List (Nat × Bool)} (hl : l = stepsFrom s 0) (h : ∀ x ∈ l, x.2 = true) : validS s = true := by
  unfold validS; rw [← hl, List.all_eq_true]; exact h
theorem valid_no {s : ByteArray} {l : List (Nat × Bool)} (hl : l <+: stepsFrom s 0) {x : Nat × Bool} (hx : x ∈ l) (h : x.2 = false) : validS s = false := by
  unfold validS; rw [List.all_eq_false]; exact ⟨x, hl.subset hx, by simp [h]⟩

set_option maxRecDepth 100000 in
set_option maxHeartbeats 2000000 in
theorem count_in (s : ByteArray) (hs : s.size ≤ maxLen) (w : World) (hT : Tabs w) :
    CallsIn Fence.wide 4 Tryd.prog 63 #[.string s] w fun e w' => e = .returned (.int .i64 (countS s : Nat)) ∧ Up w w' := by
  have hbig := hT.big
  have hs' := hs
  have hcl := countS_le s
  unfold maxLen at hs'
  refine callsIn_of_wp_marks Tryd.func63 rfl trivial ?_ rfl
  simp only [Tryd.ntmps63, List.size_toArray, List.length_cons, List.length_nil, Nat.reduceAdd, Nat.reduceSub, Array.replicate_succ, Array.replicate_zero, List.push_toArray, List.append_toArray, List.nil_append, List.cons_append]
  gi_wp2_with (refine ⟨trivial, ?_⟩; gi_at_call 65; refine ((callsIn_wide (n := 3)).2 (steps_in s _)).mono ?_; rintro e w' ⟨rfl, rfl⟩)
  have c0 := cell_new_l w (.int .i64 0) 3
  have c1 := cell_new_l (w.alloc (.cells #[.int .i64 0] 3)) (.string s) 9
  simp only [World.size_alloc] at c1
  have hB0 : Below w.heap.size w ((w.alloc (.cells #[.int .i64 0] 3)).alloc (.cells #[.string s] 9)) := ((Below.refl _ w).alloc (Nat.le_refl _) _).alloc (by simp) _
  refine wpIn_rangeFunc_ownF rfl (by omega) (gf := 70) (lb := #[.pointer (some ⟨w.heap.size + 1, 0, none⟩)]) rfl trivial (enters_of Tryd.func70 (by kernel_rfl) rfl)
    (steps_stops 3 (by omega) (w.heap.size + 1) w.heap.size (by omega) s hs _ (hT.of_below (by omega) hB0) c1.1) kpS_t (kpS_b (by simp; omega) (by simp)) (Below.refl _ _) (fun _ => rfl)
    (fun pre W => (W.cell? ⟨w.heap.size, 0, none⟩ = some (.int .i64 (pre.length : Nat)) ∧ W.frozen? ⟨w.heap.size, 0, none⟩ = false) ∧ Below w.heap.size w W)
    (fun _ _ _ => False)
    (OwnFrom.and (Own.from (fun s A B row hs hg hr => ⟨cell_kept hs.1 hg hr, (frozen_kept hs.1 hg hr).trans hs.2⟩) _) (ownFrom_below (Nat.le_refl _) (by simp; omega)))
    (fun _ _ _ _ _ hs _ _ => hs)
    ⟨⟨cell_alloc_l _ c0.1, frozen_alloc_l _ c0.1 c0.2⟩, hB0⟩
    (fun x => { tmps := #[.string s, undef, .int .i64 0, .pointer (some ⟨w.heap.size, 0, none⟩), .string s, .func (.func 70) #[] #[.pointer (some ⟨w.heap.size + 1, 0, none⟩)], .int .i64 (x.1 : Nat), .bool x.2, undef, undef, undef], defers := [] }) ?assign ?body ?done ?stop
  case assign =>
    intro l x W K hK
    gi_wp2
    simpa [encStep] using hK
  case body =>
    rintro l pre ⟨a, b⟩ W ⟨⟨hc, hf⟩, hB⟩ hN
    have hN' : pre.length < countS s := hN
    clear hN
    gi_wp2
    refine ⟨KeepsOthers.setCell _ _ _, ⟨(Below.refl w.heap.size W).setCell (p := ⟨w.heap.size, 0, none⟩) (Nat.le_refl _) _, World.cell?_of_block (Below.heap_setCell _ _ _ _ (by simp))⟩, ⟨?_, by rw [World.frozen?_setCell]; exact hf⟩, hB.setCell (p := ⟨w.heap.size, 0, none⟩) (Nat.le_refl _) _⟩
    refine (World.cell?_setCell_same' _ _ _ (by rw [hc]; rfl)).trans ?_
    simp
  case done =>
    rintro D ys W hD rfl ⟨⟨hc, _⟩, hB⟩ hK
    have hc' : W.cell? ⟨w.heap.size, 0, none⟩ = some (.int .i64 (countS s : Nat)) := hc
    clear hc
    gi_wp2
    refine ⟨by simp, .inl ⟨_, _, rfl, run_takeDeferred hK, ?_⟩⟩
    exact ⟨_, results_tmp rfl _ _ _, rfl, hB.trans (belowK_b (w := w) (Nat.le_refl _) W D _ _ (by simp at hD; omega) hK rfl rfl)⟩
  case stop =>
    rintro D c pre W _ _ h _
    exact h.elim

theorem count_any (s : ByteArray) (hs : s.size ≤ maxLen) (w : World) (hT : Tabs w) : Calls Tryd.prog 63 #[.string s] w fun e w' => e = .returned (.int .i64 (countS s : Nat)) ∧ Up w w' :=
  callsIn_wide.1 (count_in s hs w hT)
end Go.Proofs.YtcbmigkdmmmahaaDoor
