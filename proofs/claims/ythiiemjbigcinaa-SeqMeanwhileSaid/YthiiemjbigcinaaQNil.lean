/- What the statements ask of no row; SeqNil walked. -/
import Derived.Test.YthiiemjbigcinaaQRange
import Derived.Test.YthiiemjbigcinaaQWake
namespace Go.Proofs.Ythiiemjbigcinaa
open Go.RowKit

/-- What is told of no row. -/
structure SeqN : Prop where
  splice : ∀ w i n A k c B m d, Calls Try.prog 11 #[.pointer none, .int .i64 i, .int .i64 n, .slice A k c, .slice B m d] w fun e w' => e = .returned (.int .i64 8) ∧ Up w w'
  at_ : ∀ w i, Calls Try.prog 7 #[.pointer none, .int .i64 i] w fun e w' => e = .returned (.tuple #[.string ⟨#[]⟩, .int .i64 0, .int .i64 8]) ∧ Up w w'
  sum : ∀ w i, Calls Try.prog 8 #[.pointer none, .int .i64 i] w fun e w' => e = .returned (.tuple #[.int .i64 0, .int .i64 8]) ∧ Up w w'
  find : ∀ w i, Calls Try.prog 9 #[.pointer none, .int .i64 i] w fun e w' => e = .returned (.tuple #[.int .i64 0, .int .i64 0, .int .i64 8]) ∧ Up w w'
  len : ∀ w, Calls Try.prog 12 #[.pointer none] w fun e w' => e = .returned (.int .i64 0) ∧ Up w w'
  size : ∀ w, Calls Try.prog 13 #[.pointer none] w fun e w' => e = .returned (.int .i64 0) ∧ Up w w'
  deep : ∀ w, Calls Try.prog 14 #[.pointer none] w fun e w' => e = .returned (.int .i64 0) ∧ Up w w'
  all : ∃ gf, (∀ args w, (callFunc gf args).run Try.prog w = .ok (.enter gf args) w) ∧ ∀ w, Calls Try.prog 10 #[.pointer none] w fun e w' => ∃ lb, e = .returned (.func (.func gf) #[] lb) ∧ Up w w' ∧ Tells Fence.wide 3 Try.prog gf lb encA (fun _ _ => True) (fun _ => False) [] w'
theorem results_bool {fn : Func} {p : Tmp} (h : fn.results = #[.cell p 4]) (tmps : Array Value) (W : World) (B : Nat) (b : Bool) (hp : tmps.getD p undef = .pointer (some ⟨B, 0, none⟩)) (hb : Boxed W B 4 (.bool b)) : (results fn tmps).run Try.prog W = .ok (.bool b) W := by
  have hp' : tmps[p]?.getD undef = .pointer (some ⟨B, 0, none⟩) := by simpa using hp
  have hl : (loadVar 4 ⟨B, 0, none⟩).run Try.prog W = .ok (.bool b) W := by
    have hagg : (isAgg 4).run Try.prog W = .ok false W := by
      unfold isAgg
      rw [Sem.run_bind, run_underlying Try.underlying4 W]
      rfl
    simp [loadVar, Sem.run_bind, hagg, Result.andThen, load, Sem.run, hb.cell]
  simp [results, h, hp', asAddr, hl]
/-- A deed in its box, and the result's. -/
structure DBox (w : World) (xd xi xk : Int) (vA vB : Value) (b : Bool) (W : World) : Prop where
  box : W.heap[w.heap.size]? = some (.cells #[.int .i64 xd, .int .i64 xi, .int .i64 xk, vA, vB] 25)
  res : Boxed W (w.heap.size + 1) 4 (.bool b)
  up : Up w W
section
variable {w W W' : World} {xd xi xk : Int} {vA vB : Value} {b : Bool}
theorem keepD {D : Nat} {o : Obj} (h : W.heap[D]? = some o) (hu : Up W W') : W'.heap[D]? = some o := (Below.block hu D (Array.getElem?_eq_some_iff.1 h).1).trans h
theorem DBox.more (h : DBox w xd xi xk vA vB b W) (hu : Up W W') : DBox w xd xi xk vA vB b W' :=
  ⟨(Below.block hu _ (Array.getElem?_eq_some_iff.1 h.box).1).trans h.box, h.res.kept (Up.grownBy hu) (fun e => by cases e), h.up.trans hu⟩
theorem DBox.c1 (h : DBox w xd xi xk vA vB b W) : W.cell? ⟨w.heap.size, 1, none⟩ = some (.int .i64 xi) := cellOf h.box rfl
theorem DBox.c2 (h : DBox w xd xi xk vA vB b W) : W.cell? ⟨w.heap.size, 2, none⟩ = some (.int .i64 xk) := cellOf h.box rfl
theorem DBox.c3 (h : DBox w xd xi xk vA vB b W) : W.cell? ⟨w.heap.size, 3, none⟩ = some vA := cellOf h.box rfl
theorem DBox.c4 (h : DBox w xd xi xk vA vB b W) : W.cell? ⟨w.heap.size, 4, none⟩ = some vB := cellOf h.box rfl
theorem DBox.new (w : World) (xd xi xk : Int) (vA vB : Value) : DBox w xd xi xk vA vB false ((w.alloc (.cells #[.int .i64 xd, .int .i64 xi, .int .i64 xk, vA, vB] 25)).alloc (.cells #[.bool false] 4)) := by
  refine ⟨(Below.block (Up.alloc _ _) _ (by simp)).trans (Go.heap_alloc_new w _), ?_, (Up.alloc w _).trans (Up.alloc _ _)⟩
  have := Boxed.new (w.alloc (.cells #[.int .i64 xd, .int .i64 xi, .int .i64 xk, vA, vB] 25)) 4 (.bool false)
  rw [World.size_alloc] at this
  exact this
end
section
variable {S : World → Nat → (Nat → Prop) → Row → Prop} (hC : SeqC S) (hN : SeqN)
include hC hN
set_option maxRecDepth 100000 in
set_option maxHeartbeats 4000000 in
theorem nil_in (w : World) (X : Deed) (hX : AOk w X) : CallsIn Fence.wide 4 Try.prog 3 #[.agg X.cells.toArray] w fun e w' => e = .returned (.bool true) ∧ Below w.heap.size w w' := by
  have HW := Lib.hid (fun W => wakes_any hC W)
  have HN := Lib.hid hN
  obtain ⟨gf, eg, hall⟩ := hN.all
  have HAl := Lib.hid hall
  obtain ⟨xd, xi, xk, xA, xn, xc, xL, xB, xm, xe, xZ⟩ := X
  unfold Deed.cells
  have hnf : ∀ (W : World) (lb : Array Value), (binOp .eql 35 (.func (.func gf) #[] lb) .nilFunc).run Try.prog W = .ok (.bool false) W := fun W lb => by kernel_rfl
  have HX := Lib.hid (DBox.new w xd xi xk (.slice xA xn xc) (.slice xB xm xe))
  clear hX hC hN hall
  refine callsIn_of_wp_marks Try.func3 rfl trivial ?_ rfl
  simp only [Try.ntmps3, List.size_toArray, List.length_cons, List.length_nil, Nat.reduceAdd, Nat.reduceSub, Array.replicate_succ, Array.replicate_zero, List.push_toArray, List.append_toArray, List.nil_append, List.cons_append]
  gi_wp2_with (first
    | (refine ⟨trivial, ?_⟩; gi_at_call 7; ((with_reducible refine ((callsIn_wide (n := 3)).2 (HN.out.at_ _ _)).mono ?_); rintro e w1 ⟨rfl, hu1⟩; have HX := Lib.hid (HX.out.more hu1); have c1 := HX.out.c1; have c2 := HX.out.c2; have c3 := HX.out.c3; have c4 := HX.out.c4; clear hu1))
    | (refine ⟨trivial, ?_⟩; gi_at_call 8; ((with_reducible refine ((callsIn_wide (n := 3)).2 (HN.out.sum _ _)).mono ?_); rintro e w2 ⟨rfl, hu2⟩; have HX := Lib.hid (HX.out.more hu2); have c1 := HX.out.c1; have c2 := HX.out.c2; have c3 := HX.out.c3; have c4 := HX.out.c4; clear hu2))
    | (refine ⟨trivial, ?_⟩; gi_at_call 9; ((with_reducible refine ((callsIn_wide (n := 3)).2 (HN.out.find _ _)).mono ?_); rintro e w3 ⟨rfl, hu3⟩; have HX := Lib.hid (HX.out.more hu3); have c1 := HX.out.c1; have c2 := HX.out.c2; have c3 := HX.out.c3; have c4 := HX.out.c4; clear hu3))
    | (refine ⟨trivial, ?_⟩; gi_at_call 10; ((with_reducible refine ((callsIn_wide (n := 3)).2 (HAl.out _)).mono ?_); rintro e w4 ⟨lb, rfl, hu4, ht4⟩; have HX := Lib.hid (HX.out.more hu4); have c1 := HX.out.c1; have c2 := HX.out.c2; have c3 := HX.out.c3; have c4 := HX.out.c4; clear hu4)))
  have HX4 := Lib.hid HX.out
  refine range_none rfl (by omega) (gf := gf) (lb := lb) rfl trivial eg ht4 (fun _ => rfl)
    (fun W => DBox w xd xi xk (.slice xA xn xc) (.slice xB xm xe) false W) ?hI HX.out ?done
  case hI =>
    intro s X Y row h hg hr
    have h4 : w.heap.size + 1 < w4.heap.size := (Array.getElem?_eq_some_iff.1 HX.out.res).1
    have h5 : ∀ r, row = some r → w4.heap.size ≤ r := fun r e => (hr r e).1
    exact ⟨(hg.block _ (Array.getElem?_eq_some_iff.1 h.box).1 (fun e => by have := h5 _ e.symm; omega)).trans h.box, h.res.kept hg (fun e => by have := h5 _ e.symm; omega), h.up.trans' (Turn.grown (G := fun i => w4.heap.size ≤ i) hg (fun r e _ => h5 r e)) (fun i h => by omega)⟩
  case done =>
    intro D W hD hI hDD
    have HX := Lib.hid hI
    have c1 := HX.out.c1; have c2 := HX.out.c2; have c3 := HX.out.c3; have c4 := HX.out.c4
    have HD := Lib.hid hDD
    have HDn := Lib.hid hD
    clear hI hDD hD
    gi_wp2_with (first
      | (refine ⟨trivial, ?_⟩; gi_at_call 11; ((with_reducible refine ((callsIn_wide (n := 3)).2 (HN.out.splice _ _ _ _ _ _ _ _ _)).mono ?_); rintro e w5 ⟨rfl, hu5⟩; have HX := Lib.hid (HX.out.more hu5); have HD := Lib.hid (keepD HD.out hu5); have c1 := HX.out.c1; have c2 := HX.out.c2; have c3 := HX.out.c3; have c4 := HX.out.c4; clear hu5))
      | (refine ⟨trivial, ?_⟩; gi_at_call 12; ((with_reducible refine ((callsIn_wide (n := 3)).2 (HN.out.len _)).mono ?_); rintro e w6 ⟨rfl, hu6⟩; have HX := Lib.hid (HX.out.more hu6); have HD := Lib.hid (keepD HD.out hu6); have c1 := HX.out.c1; have c2 := HX.out.c2; have c3 := HX.out.c3; have c4 := HX.out.c4; clear hu6))
      | (refine ⟨trivial, ?_⟩; gi_at_call 13; ((with_reducible refine ((callsIn_wide (n := 3)).2 (HN.out.size _)).mono ?_); rintro e w7 ⟨rfl, hu7⟩; have HX := Lib.hid (HX.out.more hu7); have HD := Lib.hid (keepD HD.out hu7); have c1 := HX.out.c1; have c2 := HX.out.c2; have c3 := HX.out.c3; have c4 := HX.out.c4; clear hu7))
      | (refine ⟨trivial, ?_⟩; gi_at_call 14; ((with_reducible refine ((callsIn_wide (n := 3)).2 (HN.out.deep _)).mono ?_); rintro e w8 ⟨rfl, hu8⟩; have HX := Lib.hid (HX.out.more hu8); have HD := Lib.hid (keepD HD.out hu8); have c1 := HX.out.c1; have c2 := HX.out.c2; have c3 := HX.out.c3; have c4 := HX.out.c4; clear hu8))
      | (refine ⟨trivial, ?_⟩; gi_at_call 15; ((with_reducible refine ((callsIn_wide (n := 3)).2 (HW.out _)).mono ?_); rintro e w9 ⟨rfl, hu9⟩; have HX := Lib.hid (HX.out.more hu9); have HD := Lib.hid (keepD HD.out hu9); have c1 := HX.out.c1; have c2 := HX.out.c2; have c3 := HX.out.c3; have c4 := HX.out.c4; have cr := HX.out.res.cell; have cf := HX.out.res.frozen; clear hu9)))
    have h4 : w.heap.size + 1 < w4.heap.size := (Array.getElem?_eq_some_iff.1 HX4.out.res).1
    have hne : D ≠ w.heap.size + 1 := by have := HDn.out; omega
    have hD9 := HD.out
    have hD8 : (w9.setCell ⟨w.heap.size + 1, 0, none⟩ (.bool true)).heap[D]? = some (.deferred (some [])) := ((setCell_grown w9 (w.heap.size + 1) 0 (.bool true)).block D (Array.getElem?_eq_some_iff.1 hD9).1 (fun e => hne (Option.some.inj e))).trans hD9
    have hr := Boxed.set (.bool true) HX.out.res
    refine ⟨by simp, .inl ⟨_, _, rfl, run_takeDeferred hD8, ?_⟩⟩
    have hr2 : Boxed ((w9.setCell ⟨w.heap.size + 1, 0, none⟩ (.bool true)).putObj D (.deferred none)) (w.heap.size + 1) 4 (.bool true) := (World.putObj_heap_other (fun e => hne e.symm)).trans hr
    refine ⟨_, results_bool rfl _ _ _ true rfl hr2, rfl, ?_⟩
    refine Below.trans HX.out.up (Below.trans (Turn.below (G := fun i => w.heap.size ≤ i) (Turn.set w9 (K := w.heap.size + 1) (Nat.le_succ _) 0 (.bool true)) (Below.size HX.out.up) (fun _ h => h)) ?_)
    exact belowK_b (w := w) (Nat.le_refl _) _ D _ _ (by have := HDn.out; omega) hD8 rfl rfl
theorem nil_walk (w : World) (X : Deed) (hX : AOk w X) : Calls Try.prog 3 #[.agg X.cells.toArray] w fun e w' => e = .returned (.bool true) ∧ Below w.heap.size w w' := (callsIn_wide (n := 4)).1 (nil_in hC hN w X hX)
end
end Go.Proofs.Ythiiemjbigcinaa
