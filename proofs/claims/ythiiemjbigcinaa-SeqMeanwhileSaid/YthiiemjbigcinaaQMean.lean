/- What stands between two rounds of SeqMeanwhile's loops. -/
import Derived.Test.YthiiemjbigcinaaQAll
import Derived.Test.YthiiemjbigcinaaQOne
import Derived.Maps.AppendAt
namespace Go.Proofs.Ythiiemjbigcinaa
open Go.RowKit

/-- A block of cells. -/
def cel (w : World) (i : Nat) : Prop := ∃ (cs : Array Value) (t : TypeId) (fr : Nat × Nat), w.heap[i]? = some (.cells cs t fr)
/-- A splice turns a row's head alone. -/
structure SeqT (S : World → Nat → (Nat → Prop) → Row → Prop) : Prop where
  splice : ∀ w sb G R i n A k c L B m d Z, S w sb G R → I64 i → I64 n → XArg w A k c L → ZArg w B m d Z → k ≤ 1000000 →
    Calls Try.prog 11 #[ptr sb, .int .i64 i, .int .i64 n, .slice A k c, .slice B m d] w fun e w' => (∃ v, e = .returned (.int .i64 v)) ∧ (∃ R', S w' sb (fun j => G j ∨ w.heap.size ≤ j) R') ∧ Turn (fun j => j = sb) w w'
  cells : ∀ {w sb G R}, S w sb G R → S w sb (fun i => G i ∧ cel w i) R
  head : ∀ {w sb G R}, S w sb G R → G sb
theorem Tr.cells {G : Nat → Prop} {w : World} : ∀ {t : QT} {v : Value}, Tr G w t v → Tr (fun i => G i ∧ cel w i) w t v
  | .nil, _, h => h
  | .node _ _ _, _, ⟨b, vl, vr, e, hg, hc, h1, h2⟩ => ⟨b, vl, vr, e, ⟨hg, _, _, _, hc⟩, hc, Tr.cells h1, Tr.cells h2⟩
theorem srow_bad (w : World) (sb : Nat) (G : Nat → Prop) (R : Row) (i n : Int) (A : Option Addr) (k c : Nat) (B : Option Addr) (m d : Nat) (hS : SRow w sb G R) (hi : I64 i) (h4 : ¬ k = m) :
    Calls Try.prog 11 #[ptr sb, .int .i64 i, .int .i64 n, .slice A k c, .slice B m d] w fun e w' => (∃ v, e = .returned (.int .i64 v)) ∧ Up w w' := by
  unfold I64 at hi
  have hlen := hS.ok.len
  by_cases h0 : i < 0
  · exact (splice_r1 w sb i n A k c B m d h0).mono fun e w' h => ⟨⟨_, h.1⟩, h.2⟩
  by_cases h1 : n < 0
  · exact (splice_r2 w sb i n A k c B m d (decide_eq_false h0) h1).mono fun e w' h => ⟨⟨_, h.1⟩, h.2⟩
  by_cases h2 : (R.length : Int) < i
  · exact (splice_r3 w sb R.length i n A k c B m d hS.sln (decide_eq_false h0) (decide_eq_false h1) h2).mono fun e w' h => ⟨⟨_, h.1⟩, h.2⟩
  have e1 : IntKind.i64.wrap ((R.length : Int) - i) = (R.length : Int) - i := IntWalk.i64_in _ (by omega)
  by_cases h3 : (R.length : Int) - i < n
  · exact (splice_r4 w sb R.length i n A k c B m d hS.sln (decide_eq_false h0) (decide_eq_false h1) (decide_eq_false h2) e1 h3).mono fun e w' h => ⟨⟨_, h.1⟩, h.2⟩
  exact (splice_a1 w sb R.length i n A k c B m d hS.sln (decide_eq_false h0) (decide_eq_false h1) (decide_eq_false h2) e1 (decide_eq_false h3) h4).mono fun e w' h => ⟨⟨_, h.1⟩, h.2⟩
theorem seqT : SeqT SRow where
  splice w sb G R i n A k c L B m d Z hS hi hn hA hB hk := by
    by_cases h4 : k = m
    · exact (srow_splice w sb G R i n A k c L B m d Z hS hi hn hA hB hk (h4 ▸ hk)).mono fun e w' ⟨h1, h2, h3⟩ => ⟨⟨_, h1⟩, ⟨_, h2⟩, h3.mono fun _ _ g => g.2⟩
    · exact (srow_bad w sb G R i n A k c B m d hS hi h4).mono fun e w' ⟨h1, h2⟩ => ⟨h1, ⟨R, (hS.up h2).mono fun _ _ g => .inl g⟩, .of_up _ h2⟩
  cells hS := by
    obtain ⟨t, p, h1, h2, h3, h4, h5⟩ := hS.ex
    exact ⟨⟨t, p, ⟨h1, _, _, _, h2⟩, h2, h3.cells.mono fun i _ g => ⟨⟨g.1.1, g.2⟩, g.1.2⟩, h4, h5⟩, hS.ok⟩
  head hS := by
    obtain ⟨t, p, h1, -⟩ := hS.ex
    exact h1
theorem keeps_turn {W W' : World} {P : Nat → Prop} (ht : Turn P W W') (hc : ∀ i, P i → i < W.heap.size → cel W i) : KeepsOthers W W' :=
  ⟨ht.size, fun k o hk ho => by
    have hlt := (Array.getElem?_eq_some_iff.1 hk).1
    by_cases hp : P k
    · obtain ⟨cs, t, fr, h⟩ := hc k hp hlt
      rw [hk] at h
      cases h
      cases ho
    · exact (ht.block k hlt hp).trans hk⟩
theorem kpS_turn {W W' : World} {P Fz : Nat → Prop} (ht : Turn P W W') (hF : ∀ i, Fz i → ¬ P i) : KpS Fz W W' := fun b hb _ _ _ e =>
  (ht.block b (Array.getElem?_eq_some_iff.1 e).1 (hF b hb)).trans e
theorem box_turn {W W' : World} {P : Nat → Prop} {B : Nat} {t : TypeId} {v : Value} (h : Boxed W B t v) (ht : Turn P W W') (hB : ¬ P B) : Boxed W' B t v := (ht.block B h.lt hB).trans h

/-- What stands between two rounds of the first loop. -/
structure Mn1 (n5 bw : Nat) (w5 : World) (pre : List (Nat × ByteArray)) (W : World) (v : Value) : Prop where
  bx : Boxed W bw 22 v
  row : W.ownsRow n5 9 1 v pre.length (pre.map fun x => .string x.2)
  tn : Turn (fun i => i = bw ∨ n5 ≤ i) w5 W
section
variable {n5 bw : Nat} {w5 X Y W w3 : World} {pre : List (Nat × ByteArray)} {v : Value}
theorem Mn1.grown {row : Option Nat} (h : Mn1 n5 bw w5 pre X v) (hg : X.grownBy Y row) (hr : ∀ r, row = some r → n5 ≤ r ∧ ∃ o : Obj, X.heap[r]? = some o ∧ o.isCells = false) : Mn1 n5 bw w5 pre Y v := by
  have ne : ∀ (b : Nat) (cs : Array Value) (t : TypeId), X.heap[b]? = some (Obj.cells cs t (0, 0)) → some b ≠ row := by
    intro b cs t hb e
    obtain ⟨-, o, ho, h1⟩ := hr b e.symm
    rw [hb] at ho
    cases ho
    cases h1
  refine ⟨h.bx.kept hg (ne _ _ _ h.bx), h.row.kept hg ?_, h.tn.trans (Turn.grown hg fun r e _ => .inr (hr r e).1)⟩
  rcases h.row.2 with ⟨rfl, _⟩ | ⟨g, cap, cur, rfl, h1, h2, _⟩
  · exact .inl rfl
  · exact .inr (ne _ _ _ h2)
theorem qowns_block {B k n : Nat} {T : TypeId} {v : Value} {xs : List Value} (h : W.ownsRow B T k v n xs) : ∀ r, v.ownBlock = some r → B ≤ r ∧ ∃ cs : Array Value, W.heap[r]? = some (Obj.cells cs T (0, 0)) := by
  intro r e
  rcases h.2 with ⟨rfl, _⟩ | ⟨g, cap, cur, rfl, h1, h2, _⟩
  · cases e
  · have : g = r := by simpa [Value.ownBlock] using e
    subst this
    exact ⟨h1, cur, h2⟩
theorem Mn1.app {Fz : Nat → Prop} {tmp : Obj} {g cap m : Nat} {x : Nat × ByteArray} (h : Mn1 n5 bw w5 pre W v) (hF : ∀ i, Fz i → i < n5 ∧ i ≠ bw)
    (hown : w3.ownsRow n5 9 1 (.slice (some ⟨g, 0, none⟩) (m + 1) cap) (pre ++ [x]).length ((pre ++ [x]).map fun x => .string x.2)) (hgrow : (W.alloc tmp).grownBy w3 v.ownBlock) :
    KeepsOthers W (w3.setCell ⟨bw, 0, none⟩ (.slice (some ⟨g, 0, none⟩) (m + 1) cap)) ∧ KpS Fz W (w3.setCell ⟨bw, 0, none⟩ (.slice (some ⟨g, 0, none⟩) (m + 1) cap)) ∧ Mn1 n5 bw w5 (pre ++ [x]) (w3.setCell ⟨bw, 0, none⟩ (.slice (some ⟨g, 0, none⟩) (m + 1) cap)) (.slice (some ⟨g, 0, none⟩) (m + 1) cap) := by
  have hv1 : Boxed w3 bw 22 v := (h.bx.alloc _).kept hgrow (h.bx.not_row (by decide) h.row)
  have hblk := fun r e => qowns_block (h.row.alloc tmp) r e
  have hset := setCell_grown w3 bw 0 (.slice (some ⟨g, 0, none⟩) (m + 1) cap)
  have hsz := h.tn.size
  have t1 : Turn (fun i => n5 ≤ i) W w3 := (Turn.alloc _ W tmp).trans (Turn.grown hgrow fun r e _ => (hblk r e).1)
  have t2 : Turn (fun i => i = bw ∨ n5 ≤ i) W (w3.setCell ⟨bw, 0, none⟩ (.slice (some ⟨g, 0, none⟩) (m + 1) cap)) := (t1.mono fun _ _ k => .inr k).trans (Turn.grown hset fun r e _ => by cases e; exact .inl rfl)
  refine ⟨(((KeepsOthers.alloc W _).trans (KeepsOthers.of_grownBy hgrow fun q ob e hq => by obtain ⟨-, cs, hcs⟩ := hblk q e; rw [hq] at hcs; cases hcs; rfl)).trans (KeepsOthers.setCell _ _ _)), kpS_turn t2 fun i hi k => ?_, hv1.set _, ?_, h.tn.trans t2⟩
  · have := hF i hi
    rcases k with k | k
    · exact this.2 k
    · omega
  · exact hown.kept hset (.inr (hv1.not_row (by decide) hown).symm)
/-- What the first loop has gathered. -/
theorem Mn1.was {R : Row} (h : Mn1 n5 bw w5 (itemsOf R) W v) : ∃ A c, v = .slice A R.length c ∧ ∀ i, i < R.length → ∃ g, A = some ⟨g, 0, none⟩ ∧ n5 ≤ g ∧ W.cell? ⟨g, i, none⟩ = some (.string (nt R i)) := by
  have hl : (itemsOf R).length = R.length := by unfold itemsOf; simp
  have hr := h.row
  rw [hl] at hr
  rcases hr.2 with ⟨rfl, h0⟩ | ⟨g, cap, cur, rfl, h1, h2, h3, h4, h5, h6⟩
  · exact ⟨none, 0, by rw [h0], fun i hi => by omega⟩
  · refine ⟨_, cap, rfl, fun i hi => ⟨g, rfl, h1, cellOf h2 ?_⟩⟩
    have e1 : (cur.toList.take (R.length * 1))[i]? = some (.string (nt R i)) := by
      rw [h6]
      unfold itemsOf
      rw [List.map_map, List.getElem?_map, List.getElem?_range hi]
      rfl
    rw [List.getElem?_take_of_lt (by omega)] at e1
    simpa using e1
end
/-- What stands between two rounds of the second loop. -/
structure Mn2 (S : World → Nat → (Nat → Prop) → Row → Prop) (w7 : World) (sb bk : Nat) (G : Nat → Prop) (k : Nat) (W : World) : Prop where
  ex : ∃ G' R', S W sb G' R' ∧ (∀ i, G' i → cel W i) ∧ (∀ i, i < w7.heap.size → G' i → G i)
  tn : Turn (fun i => i = sb ∨ i = bk ∨ w7.heap.size ≤ i) w7 W
  bk : Boxed W bk 3 (.int .i64 (k : Nat))
section
variable {S : World → Nat → (Nat → Prop) → Row → Prop} (hC : SeqC S) (hT : SeqT S)
variable {w7 W X Y : World} {sb bk k : Nat} {G : Nat → Prop}
include hC
theorem Mn2.grown {row : Option Nat} (h : Mn2 S w7 sb bk G k X) (hg : X.grownBy Y row) (hr : ∀ r, row = some r → w7.heap.size ≤ r ∧ ∃ o : Obj, X.heap[r]? = some o ∧ o.isCells = false) : Mn2 S w7 sb bk G k Y := by
  obtain ⟨G', R', h1, h2, h3⟩ := h.ex
  have ne : ∀ b, cel X b → some b ≠ row := by
    rintro b ⟨cs, t, fr, hb⟩ e
    obtain ⟨-, o, ho, h1⟩ := hr b e.symm
    rw [hb] at ho
    cases ho
    cases h1
  have ht : Turn (fun i => row = some i) X Y := Turn.grown hg fun r e _ => e
  refine ⟨⟨G', R', hC.turn h1 ht (fun i _ g e => ne i (h2 i g) e.symm), fun i g => ?_, h3⟩, h.tn.trans (Turn.grown hg fun r e _ => .inr (.inr (hr r e).1)), h.bk.kept hg (ne bk ⟨_, _, _, h.bk⟩)⟩
  obtain ⟨cs, t, fr, hb⟩ := h2 i g
  exact ⟨cs, t, fr, (hg.block i (Array.getElem?_eq_some_iff.1 hb).1 (ne i ⟨_, _, _, hb⟩)).trans hb⟩
theorem Mn2.up (h : Mn2 S w7 sb bk G k W) (hu : Up W Y) : Mn2 S w7 sb bk G k Y := h.grown hC (Up.grownBy hu) (fun r e => by cases e)
theorem Mn2.set (h : Mn2 S w7 sb bk G k W) (hb : ¬ G bk) (h7 : bk < w7.heap.size) (q : Nat) : Mn2 S w7 sb bk G q (W.setCell ⟨bk, 0, none⟩ (.int .i64 (q : Nat))) := by
  obtain ⟨G', R', h1, h2, h3⟩ := h.ex
  have ht : Turn (fun j => j = bk) W (W.setCell ⟨bk, 0, none⟩ (.int .i64 (q : Nat))) := Turn.set W (G := fun j => j = bk) rfl 0 _
  have hne : ∀ i, G' i → i ≠ bk := fun i g e => hb (h3 bk h7 (e ▸ g))
  refine ⟨⟨G', R', hC.turn h1 ht (fun i _ g e => hne i g e), fun i g => ?_, h3⟩, h.tn.trans (ht.mono fun _ _ e => .inr (.inl e)), h.bk.set _⟩
  obtain ⟨cs, t, fr, hi⟩ := h2 i g
  exact ⟨cs, t, fr, (ht.block i (Array.getElem?_eq_some_iff.1 hi).1 (hne i g)).trans hi⟩
theorem Mn2.len (h : Mn2 S w7 sb bk G k W) : ∃ n : Nat, (n : Int) ≤ 2097152 ∧ Calls Try.prog 12 #[ptr sb] W fun e W' => e = .returned (.int .i64 (n : Nat)) ∧ Up W W' := by
  obtain ⟨G', R', h1, h2, h3⟩ := h.ex
  exact ⟨_, by have := (hC.ok h1).len; omega, hC.len W sb G' R' h1⟩
omit hC in
include hT in
theorem Mn2.keeps (h : Mn2 S w7 sb bk G k W) (ht : Turn (fun j => j = sb ∨ j = bk) W Y) : KeepsOthers W Y := by
  obtain ⟨G', R', h1, h2, h3⟩ := h.ex
  refine keeps_turn ht fun i hi _ => ?_
  rcases hi with rfl | rfl
  · exact h2 _ (hT.head h1)
  · exact ⟨_, _, _, h.bk⟩
omit hC in
include hT in
theorem Mn2.splice (h : Mn2 S w7 sb bk G k W) (hb : bk ≠ sb) (i n : Int) (A : Option Addr) (q c : Nat) (L : List ByteArray) (B : Option Addr) (m d : Nat) (Z : List Int) (hi : I64 i) (hn : I64 n) (hA : XArg W A q c L) (hB : ZArg W B m d Z) (hq : q ≤ 1000000) :
    Calls Try.prog 11 #[ptr sb, .int .i64 i, .int .i64 n, .slice A q c, .slice B m d] W fun e W' => (∃ v, e = .returned (.int .i64 v)) ∧ Mn2 S w7 sb bk G k W' ∧ Turn (fun j => j = sb) W W' := by
  obtain ⟨G', R', h1, h2, h3⟩ := h.ex
  have h7 := h.tn.size
  refine (hT.splice W sb G' R' i n A q c L B m d Z h1 hi hn hA hB hq).mono ?_
  rintro e W' ⟨h4, ⟨R2, h5⟩, h6⟩
  refine ⟨h4, ⟨⟨_, R2, hT.cells h5, fun i g => g.2, fun i hi g => ?_⟩, h.tn.trans (h6.mono fun _ _ e => .inl e), box_turn h.bk h6 hb⟩, h6⟩
  rcases g.1 with g | g
  · exact h3 i hi g
  · omega
end
end Go.Proofs.Ythiiemjbigcinaa
