/- The program's sort of ends: a permutation of them that rises. -/
import Derived.Test.YtbgdphjjepbafaaSEv
import Derived.Test.YtbgdphjjepbafaaShelf
namespace Go.Proofs.Ytbgdphjjepbafaa
open Go.RowKit Go.Shelf Go.Sort

instance : Inhabited Ev := ⟨(0, 0, 0)⟩
theorem lt_cmp (x y : Ev) : ltOf (fun x y : Ev => cmpI x.1 y.1) x y = decide (x.1 < y.1) := by
  unfold ltOf cmpI
  by_cases h1 : x.1 < y.1
  · simp [h1]
  · by_cases h2 : y.1 < x.1 <;> simp [h1, h2]
theorem swo_cmp : SWO (ltOf fun x y : Ev => cmpI x.1 y.1) where
  irrefl x := by rw [lt_cmp]; simp
  trans x y z h1 h2 := by rw [lt_cmp] at *; simp at *; omega
  ntrans x y z h1 h2 := by rw [lt_cmp] at *; simp at *; omega
set_option maxRecDepth 100000 in
set_option maxHeartbeats 1000000 in
theorem less_any (x y : Ev) (W : World) : Calls Try.prog 44 #[.agg (encEv x).toArray, .agg (encEv y).toArray] W fun e w' => e = .returned (.int .i64 (cmpI x.1 y.1)) ∧ ∃ q os', w' = grow (W.drewN q) os' := by
  have hC := fun W => (cmp_any x.1 y.1 W)
  obtain ⟨x1, x2, x3⟩ := x
  obtain ⟨y1, y2, y3⟩ := y
  unfold encEv
  simp only at hC ⊢
  generalize cmpI x1 y1 = r at hC ⊢
  have HC := Lib.hid hC
  clear hC
  go_enter Try.func44, Try.ntmps44
  go_wp2_with (go_at_call 45; ((with_reducible refine (HC.out _).mono ?_); rintro e w1 ⟨rfl, rfl⟩))
  go_ret
  exact ⟨rfl, 0, _, by rw [alloc_eq_grow, alloc_eq_grow, grow_grow]; rfl⟩
theorem evs_holds {w : World} {B g n c : Nat} {E : List Ev} (h : w.ownsRow B 58 3 (.slice (some ⟨g, 0, none⟩) n c) n (evCells E)) : HoldsK encEv 3 w g 0 E.toArray ∧ B ≤ g ∧ ∃ cur, w.heap[g]? = some (.cells cur 58 (0, 0)) := by
  rcases h.2 with ⟨e, -⟩ | ⟨g', cap, cur, e, h1, h2, h3, h4, h5, h6⟩
  · cases e
  injection e with e1 e2 e3
  injection e1 with e1
  injection e1 with e1
  subst e1
  have hl := h.1
  rw [evCells_len] at hl
  refine ⟨fun j hj => ?_, h1, cur, h2⟩
  have hj3 : j < E.length * 3 := by simpa using hj
  have hi : j / 3 < E.length := by omega
  obtain ⟨a0, a1, a2⟩ := evCells_at E (j / 3) hi
  have hc : (evCells E)[j]? = some (flatK encEv 3 E.toArray)[j]! := by
    rw [get_flatK _ _ _ _ (by simpa using hj3)]
    have hE : E.toArray[j / 3]! = E[j / 3] := by simp [hi]
    rw [hE]
    have h3' : j % 3 = 0 ∨ j % 3 = 1 ∨ j % 3 = 2 := by omega
    rcases h3' with e | e | e
    · rw [e]
      have ej : j = j / 3 * 3 := by omega
      rw [show (evCells E)[j]? = (evCells E)[j / 3 * 3]? from by rw [← ej], a0]
      rfl
    · rw [e]
      have ej : j = j / 3 * 3 + 1 := by omega
      rw [show (evCells E)[j]? = (evCells E)[j / 3 * 3 + 1]? from by rw [← ej], a1]
      rfl
    · rw [e]
      have ej : j = j / 3 * 3 + 2 := by omega
      rw [show (evCells E)[j]? = (evCells E)[j / 3 * 3 + 2]? from by rw [← ej], a2]
      rfl
  have hk : cur[j]? = some (flatK encEv 3 E.toArray)[j]! := by
    rw [← hc, ← h6, ← Array.getElem?_toList, List.getElem?_take, if_pos (by omega)]
  refine ⟨?_, ?_⟩
  · simp [World.cell?, h2, hk]
  · simp [World.frozen?, h2]
theorem asc_of : ∀ {E : List Ev}, (∀ i j (h : i < j) (hj : j < E.length), (E[i]'(by omega)).1 ≤ (E[j]'hj).1) → Asc E
  | [], _ => trivial
  | e :: r, h => by
    refine ⟨fun f hf => ?_, asc_of (E := r) fun i j hij hj => h (i + 1) (j + 1) (by omega) (by simpa using hj)⟩
    obtain ⟨j, hj, rfl⟩ := List.getElem_of_mem hf
    exact h 0 (j + 1) (by omega) (by simpa using hj)
theorem below_grow {B : Nat} {w x : World} (os : Array Obj) (h : Below B w x) (hB : B ≤ w.heap.size) : Below B w (grow x os) :=
  ⟨show x.os = w.os from Below.os h, show x.tape = w.tape from Below.tape h, show x.output = w.output from Below.output h, by have := Below.size h; rw [size_grow]; omega, fun k hk => by
    rw [← Below.block h k hk]
    have : k < x.heap.size := by have := Below.size h; omega
    simp [grow, Array.getElem?_append, this]⟩
theorem below_row {B g m : Nat} {w : World} {d : Array Ev} (hg : B ≤ g) : Below B w (putRowK encEv 3 (Sort.ahead w m) g 0 d) :=
  ⟨rfl, rfl, rfl, by simp [putRowK, putRow, mapBlock, Sort.ahead], fun k hk => by simp [putRowK, putRow, mapBlock, Sort.ahead, Array.getElem?_modify, show g ≠ k by omega]⟩
theorem sort_any (w : World) (B g c : Nat) (E : List Ev) (h : w.ownsRow B 58 3 (.slice (some ⟨g, 0, none⟩) E.length c) E.length (evCells E)) (hl : E.length ≤ 100000) :
    Calls Try.prog 43 #[.slice (some ⟨g, 0, none⟩) E.length c, .func (.func 44) #[] #[]] w fun e w' =>
      e = .returned (.tuple #[]) ∧ ∃ E' : List Ev, E'.Perm E ∧ Asc E' ∧ EvAt w' g E' ∧ Below B w w' := by
  obtain ⟨hH, hB, cur, hcur⟩ := evs_holds h
  have hg : g < w.heap.size := (Array.getElem?_eq_some_iff.1 hcur).1
  have eg : ∀ args w, (callFunc 44 args).run Try.prog w = .ok (.enter 44 args) w := enters_of Try.func44 (by kernel_rfl) rfl
  have hcon := AnyQ.slices_SortFunc Try.sortLays 3 Try.isAgg58 Try.sizeOf58 encEv (fun _ => rfl) (fun x v hv => by simp [encEv] at hv; rcases hv with rfl | rfl | rfl <;> rfl) (fun x y => cmpI x.1 y.1) swo_cmp 44 #[] g 0 c E.toArray w eg (fun m os dk hs x y => less_any x y _) hH hg (by simp; omega)
  have hsz : E.toArray.size = E.length := by simp
  rw [hsz] at hcon
  refine Calls.mono hcon ?_
  rintro e w' ⟨rfl, d', m, os, hp, hs, rfl⟩
  obtain ⟨hp1, -, hp3⟩ := hp
  have hd : d'.size = E.length := by rw [hp1, hsz]
  have hx : ∀ d : Array Ev, d.extract 0 d.size = d := fun d => by simp
  have hperm : d'.toList.Perm E := by
    have h1 := hp3
    rw [show d'.extract 0 E.length = d' from by rw [← hd]; exact hx d', show E.toArray.extract 0 E.length = E.toArray from by rw [← hsz]; exact hx _] at h1
    exact h1
  have hW := holdsK_sortWorldK_c encEv 3 w g 0 E.toArray d' m os hH hg (by rw [hd, hsz])
  refine ⟨rfl, d'.toList, hperm, ?_, ?_, ?_⟩
  · refine asc_of fun i j hij hj => ?_
    have hj' : j < d'.size := by simpa using hj
    have h1 := hs i j (Nat.zero_le _) hij (by omega)
    rw [lt_cmp, getElem!_pos d' i (by omega), getElem!_pos d' j hj'] at h1
    have h2 := of_decide_eq_false h1
    simpa using h2
  · have hheap : ∃ cs, (sortWorldK encEv 3 w g 0 m d' os).heap[g]? = some (.cells cs 58 (0, 0)) := by
      have h1 : (w.heap.modify g (onCells (putCells id 0 (flatK encEv 3 d'))))[g]? = some (onCells (putCells id 0 (flatK encEv 3 d')) (.cells cur 58 (0, 0))) := by
        rw [Array.getElem?_modify, if_pos rfl, hcur]
        rfl
      refine ⟨putCells id 0 (flatK encEv 3 d') cur, ?_⟩
      show ((w.heap.modify g (onCells (putCells id 0 (flatK encEv 3 d')))) ++ os)[g]? = _
      rw [Array.getElem?_append_left (by simpa using hg), h1]
      rfl
    obtain ⟨cs, hcs⟩ := hheap
    refine ⟨cs, hcs, fun i hi => ?_⟩
    have hi' : i < d'.size := by simpa using hi
    have k0 := (HoldsK.cell hW hi' (c := 0) (by decide)).1
    have k1 := (HoldsK.cell hW hi' (c := 1) (by decide)).1
    have k2 := (HoldsK.cell hW hi' (c := 2) (by decide)).1
    rw [getElem!_pos d' i hi'] at k0 k1 k2
    simp only [World.cell?, hcs] at k0 k1 k2
    simp at k0 k1 k2
    exact ⟨k0, k1, k2⟩
  · exact below_grow _ (below_row hB) (by omega)
end Go.Proofs.Ytbgdphjjepbafaa
