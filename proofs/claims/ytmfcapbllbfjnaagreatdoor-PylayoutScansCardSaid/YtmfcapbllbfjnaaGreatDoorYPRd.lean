/- The program's reader in memory: a line, a place, what has been told. -/
import Derived.Test.YtmfcapbllbfjnaaGreatDoorYPNum
import Derived.Test.YtmfcapbllbfjnaaGreatDoorYScanA
import Derived.Deep.AppendLies
namespace Go.Proofs.YtmfcapbllbfjnaaGreatDoor
open Go.RowKit

abbrev RT : TypeId := 73
abbrev ET : TypeId := 46
def rdA (line : ByteArray) (p : Nat) (v : Value) (st : PSt) : Array Value := #[.string line, .int .i64 (p : Nat), v, .int .u8 (st.mark : Nat), .int .i64 st.depth, .bool st.j, .bool st.s, .bool st.c]
/-- No row of leaves. -/
def NoEv (o : Obj) : Prop := ∀ cs fr, o ≠ .cells cs ET fr
/-- The reader at the block b; O: blocks that stay as they are. -/
structure RdAt (w0 W : World) (O : Nat → Obj → Prop) (b : Nat) (line : ByteArray) (p : Nat) (v : Value) (es : List PEv) (st : PSt) : Prop where
  box : W.heap[b]? = some (.cells (rdA line p v st) RT)
  oth : ∀ g o, O g o → W.heap[g]? = some o ∧ g ≠ b ∧ NoEv o
  row : RowE W w0.heap.size v es
  lo : w0.heap.size ≤ b
  up : Up w0 W
variable {w0 W W' w2 : World} {O : Nat → Obj → Prop} {b p p' : Nat} {line : ByteArray} {v v' : Value} {es : List PEv} {st st' : PSt}
theorem RdAt.more (h : RdAt w0 W O b line p v es st) (hu : Up W W') : RdAt w0 W' O b line p v es st := by
  refine ⟨?_, fun g o k => ?_, ?_, h.lo, h.up.trans hu⟩
  · rw [Below.block hu b (Array.getElem?_eq_some_iff.1 h.box).1]; exact h.box
  · obtain ⟨h1, h2, h3⟩ := h.oth g o k
    exact ⟨by rw [Below.block hu g (Array.getElem?_eq_some_iff.1 h1).1]; exact h1, h2, h3⟩
  · have ho := h.row
    unfold RowE at ho ⊢
    refine ⟨ho.1, ?_⟩
    rcases ho.2 with hn | ⟨g, cap, cur, rfl, hb, hg, rest⟩
    · exact .inl hn
    · exact .inr ⟨g, cap, cur, rfl, hb, by rw [Below.block hu g (Array.getElem?_eq_some_iff.1 hg).1]; exact hg, rest⟩
theorem row_ev {B n : Nat} {xs : List Value} (ho : W.ownsRow B ET 4 v n xs) {g : Nat} (e : v.ownBlock = some g) : ∃ cs fr, W.heap[g]? = some (.cells cs ET fr) := by
  rcases ho.2 with ⟨rfl, _⟩ | ⟨g', cap, cur, rfl, hb, hg, rest⟩
  · cases e
  · obtain rfl : g' = g := by simpa [Value.ownBlock] using e
    exact ⟨_, _, hg⟩
theorem ev_ne_box {g : Nat} (h1 : ∃ cs fr, W.heap[g]? = some (.cells cs ET fr)) (h2 : W.heap[b]? = some (.cells (rdA line p v st) RT)) : g ≠ b := by
  rintro rfl
  obtain ⟨cs, fr, h1⟩ := h1
  rw [h2] at h1
  injection h1 with h1
  injection h1 with _ h1
  exact absurd h1 (by decide +kernel)
theorem RdAt.apart (h : RdAt w0 W O b line p v es st) {g : Nat} (e : v.ownBlock = some g) : g ≠ b ∧ ∀ o, ¬ O g o := by
  have hg := row_ev h.row e
  refine ⟨ev_ne_box hg h.box, fun o k => ?_⟩
  obtain ⟨h1, -, h3⟩ := h.oth g o k
  obtain ⟨cs, fr, hg⟩ := hg
  rw [h1] at hg
  exact h3 cs fr (by injection hg)
theorem RdAt.set (h : RdAt w0 W O b line p v es st) {k : Nat} {u : Value} (hk : (rdA line p v st).setIfInBounds k u = rdA line p' v st') : RdAt w0 (W.setCell ⟨b, k, none⟩ u) O b line p' v es st' := by
  have hg := setCell_far W b k u
  refine ⟨?_, fun g o k => ?_, ?_, h.lo, ?_⟩
  · have := heap_setCell_same W b k _ _ u h.box
    rw [hk] at this
    exact this
  · obtain ⟨h1, h2, h3⟩ := h.oth g o k
    exact ⟨by rw [hg g (fun e => h2 e.symm)]; exact h1, h2, h3⟩
  · have ho := h.row
    have ha := fun g e => (h.apart (g := g) e).1
    unfold RowE at ho ⊢
    refine ⟨ho.1, ?_⟩
    rcases ho.2 with hn | ⟨g, cap, cur, rfl, hb, hgg, rest⟩
    · exact .inl hn
    · exact .inr ⟨g, cap, cur, rfl, hb, by rw [hg g (fun e => ha g rfl e.symm)]; exact hgg, rest⟩
  · exact Below.setCell h.up (p := ⟨b, k, none⟩) h.lo u
theorem RdAt.cell (h : RdAt w0 W O b line p v es st) {k : Nat} {u : Value} (hk : (rdA line p v st)[k]? = some u) : W.cell? ⟨b, k, none⟩ = some u := cellOf h.box hk
theorem RdAt.fr (h : RdAt w0 W O b line p v es st) (k : Nat) : W.frozen? ⟨b, k, none⟩ = false := frozenOf h.box
/-- Behind an append, ahead of its store. -/
theorem RdAt.mid (h : RdAt w0 W O b line p v es st) (hu : Up W W') (hgrow : W'.grownBy w2 v.ownBlock) : w2.heap[b]? = some (.cells (rdA line p v st) RT) := by
  have hb := (Array.getElem?_eq_some_iff.1 h.box).1
  rw [hgrow.block b (Nat.lt_of_lt_of_le hb (Below.size hu)) (fun e => (h.apart e.symm).1 rfl), Below.block hu b hb]
  exact h.box
/-- A leaf that is told. -/
theorem RdAt.app {k a c : Nat} (h : RdAt w0 W O b line p v es st) (hu : Up W W') (hgrow : W'.grownBy w2 v.ownBlock)
    (hown : w2.ownsRow w0.heap.size ET 4 v' (es.length + 1) (evCells es ++ [.int .u8 3, .int .u8 (k : Nat), .int .i64 (a : Nat), .int .i64 (c : Nat)])) :
    RdAt w0 (w2.setCell ⟨b, 2, none⟩ v') O b line p v' (es ++ [⟨k, a, c⟩]) st := by
  have hbx := h.mid hu hgrow
  have hap : ∀ g, v'.ownBlock = some g → g ≠ b := fun g e => ev_ne_box (row_ev hown e) hbx
  have hup : Up w0 w2 := (h.up.trans hu).grown hgrow (Nat.le_trans (Below.size h.up) (Below.size hu)) (fun q hq => own_base h.row hq)
  refine ⟨heap_setCell_same w2 b 2 _ _ v' hbx, fun g o k => ?_, ?_, h.lo, Below.setCell hup (p := ⟨b, 2, none⟩) h.lo v'⟩
  · obtain ⟨h1, h2, h3⟩ := h.oth g o k
    refine ⟨?_, h2, h3⟩
    have hgl := (Array.getElem?_eq_some_iff.1 h1).1
    rw [setCell_far w2 b 2 v' g (fun e => h2 e.symm), hgrow.block g (Nat.lt_of_lt_of_le hgl (Below.size hu)) (fun e => (h.apart e.symm).2 o k), Below.block hu g hgl]
    exact h1
  · unfold RowE
    rw [List.length_append, evCells_snoc]
    refine ⟨hown.1, ?_⟩
    rcases hown.2 with hn | ⟨g, cap, cur, rfl, hb, hgg, rest⟩
    · exact .inl hn
    · exact .inr ⟨g, cap, cur, rfl, hb, by rw [setCell_far w2 b 2 _ g (fun e => hap g rfl e.symm)]; exact hgg, rest⟩
/-- What is known behind a leaf. -/
def lfS (st : PSt) (k : Nat) (q : List Nat) : PSt := ⟨st.mark, st.depth, st.j || (k == 19), st.s || (k != 18 && k != 19), if k = 18 ∨ k = 19 then st.c else k == 17 && q == [58] && st.depth == 0⟩
theorem aft_lf (st : PSt) (t : Tok) (l : List Nat) (h : t.join = (t.kind == 19)) : aft st t l = lfS ⟨t.mark, t.depth, st.j, st.s, st.c⟩ t.kind (l.take t.len) := by
  unfold aft lfS
  rw [h]
/-- A method that tells nothing: it returned, and the reader stands so. -/
def Done (w0 : World) (O : Nat → Obj → Prop) (b : Nat) (line : ByteArray) (p : Nat) (es : List PEv) (st : PSt) (e : Ending) (w' : World) : Prop := e = .returned (.tuple #[]) ∧ ∃ v, RdAt w0 w' O b line p v es st
/-- A method that gives up its turn, or not. -/
def Took (w0 : World) (O : Nat → Obj → Prop) (b : Nat) (line : ByteArray) (T : Bool) (p : Nat) (es : List PEv) (st : PSt) (e : Ending) (w' : World) : Prop := e = .returned (.bool T) ∧ ∃ v, RdAt w0 w' O b line p v es st
end Go.Proofs.YtmfcapbllbfjnaaGreatDoor
