/- A scan, leaf by leaf; what it tells, in memory. -/
import Derived.Test.YtmfcapbllbfjnaaGreatDoorYA
import Derived.Test.YtmfcapbllbfjnaaGreatDoorYRefC
import Derived.Test.YtmfcapbllbfjnaaGreatDoorYBeg
import Derived.Test.YtmfcapbllbfjnaaGreatDoorYOp
import Derived.Laws.Rows
namespace Go.Proofs.YtmfcapbllbfjnaaGreatDoor
open Go.RowKit

/-- A scan with as much fuel as there are bytes. -/
def scanC (p : Nat) (l : List Nat) (st : PSt) : List PEv × PSt := scanF l.length p l st
theorem scanC_nil (p : Nat) (st : PSt) : scanC p [] st = ([], st) := rfl
theorem scanF_none {f p : Nat} {l : List Nat} {st : PSt} (hl : l ≠ []) (h : tokL st.mark st.depth l = none) : scanF (f + 1) p l st = scanF f (p + 1) (l.drop 1) st := by
  rw [scanF, if_neg hl, h]
theorem scanF_some {f p : Nat} {l : List Nat} {st : PSt} {t : Tok} (hl : l ≠ []) (h : tokL st.mark st.depth l = some t) : scanF (f + 1) p l st = (⟨t.kind, p, p + t.len⟩ :: (scanF f (p + t.len) (l.drop t.len) (aft st t l)).1, (scanF f (p + t.len) (l.drop t.len) (aft st t l)).2) := by
  rw [scanF, if_neg hl, h]
theorem scanC_blank {p c : Nat} {r : List Nat} {st : PSt} (h : tokL st.mark st.depth (c :: r) = none) : scanC p (c :: r) st = scanC (p + 1) r st := by
  exact scanF_none (f := r.length) (by simp) h
theorem scanC_tok {p : Nat} {l : List Nat} {st : PSt} {t : Tok} (hs : StOk st) (h : tokL st.mark st.depth l = some t) :
    scanC p l st = (⟨t.kind, p, p + t.len⟩ :: (scanC (p + t.len) (l.drop t.len) (aft st t l)).1, (scanC (p + t.len) (l.drop t.len) (aft st t l)).2) := by
  have hk := tokL_ok h hs.mark hs.d0 hs.d1
  cases l with
  | nil => cases h
  | cons c r =>
    have e : scanF r.length (p + t.len) ((c :: r).drop t.len) (aft st t (c :: r)) = scanC (p + t.len) ((c :: r).drop t.len) (aft st t (c :: r)) :=
      scan_fuel _ _ _ _ _ (aft_ok hs h) (by rw [List.length_drop, List.length_cons]; have := hk.pos; omega) (Nat.le_refl _)
    have e2 := scanF_some (f := r.length) (p := p) (by simp) h
    rw [e] at e2
    exact e2
/-- The whole scan, from a place on. -/
theorem scanL_eq (t : List Nat) (i m : Nat) (d : Int) : scanL t i m d = scanC i (t.drop i) (st0 m d) :=
  scan_fuel _ _ _ _ _ (st0_ok m d) (by rw [List.length_drop]; omega) (Nat.le_refl _)
/-- Leaves as cells. -/
def evCells (es : List PEv) : List Value := es.flatMap fun e => [.int .u8 3, .int .u8 (e.kind : Nat), .int .i64 (e.a : Nat), .int .i64 (e.b : Nat)]
theorem evCells_snoc (es : List PEv) (e : PEv) : evCells (es ++ [e]) = evCells es ++ [.int .u8 3, .int .u8 (e.kind : Nat), .int .i64 (e.a : Nat), .int .i64 (e.b : Nat)] := by simp [evCells]
theorem infoEvent : (Tryz.prog.info? 46).map (fun i => (i.zero, i.size, i.bytes)) = some (some (.agg #[.int .u8 0, .int .u8 0, .int .i64 0, .int .i64 0]), 4, 24) := by kernel_rfl
/-- A row of leaves that is new since the block B. -/
def RowE (w : World) (B : Nat) (v : Value) (es : List PEv) : Prop := w.ownsRow B 46 4 v es.length (evCells es)
theorem erow_snoc {w W w2 : World} {v v' : Value} {es : List PEv} {k a b : Nat} {tmp : Obj} (hu : Up w W) (ho : RowE W w.heap.size v es)
    (hown : w2.ownsRow w.heap.size 46 4 v' (es.length + 1) (evCells es ++ [.int .u8 3, .int .u8 (k : Nat), .int .i64 (a : Nat), .int .i64 (b : Nat)])) (hgrow : (W.alloc tmp).grownBy w2 v.ownBlock) :
    RowE w2 w.heap.size v' (es ++ [⟨k, a, b⟩]) ∧ Up w w2 := by
  refine ⟨?_, (hu.trans (Up.alloc W tmp)).grown hgrow (by have := Below.size hu; rw [World.size_alloc]; omega) fun k hk => own_base ho hk⟩
  unfold RowE
  rw [List.length_append, evCells_snoc]
  exact hown
abbrev OT : TypeId := 49
def outA (v : Value) (st : PSt) : Array Value := #[v, .int .u8 (st.mark : Nat), .int .i64 st.depth, .bool st.j, .bool st.s, .bool st.c]
/-- What the document's scan has told so far, in memory. -/
structure OutAt (w0 W : World) (bo br : Nat) (v : Value) (es : List PEv) (st : PSt) : Prop where
  box : W.heap[bo]? = some (.cells (outA v st) OT)
  res : ∃ a b c d e f, W.heap[br]? = some (.cells #[a, b, c, d, e, f] OT)
  row : RowE W w0.heap.size v es
  lo : w0.heap.size ≤ bo ∧ w0.heap.size ≤ br ∧ bo ≠ br
  up : Up w0 W
theorem setCell_far (W : World) (b k : Nat) (u : Value) (g : Nat) (h : b ≠ g) : (W.setCell ⟨b, k, none⟩ u).heap[g]? = W.heap[g]? := by
  simp [World.setCell, Array.getElem?_modify, h]
theorem OutAt.more {w0 W W' : World} {bo br : Nat} {v : Value} {es : List PEv} {st : PSt} (h : OutAt w0 W bo br v es st) (hu : Up W W') : OutAt w0 W' bo br v es st := by
  obtain ⟨a, b, c, d, e, f, hr⟩ := h.res
  refine ⟨?_, ⟨a, b, c, d, e, f, ?_⟩, ?_, h.lo, h.up.trans hu⟩
  · rw [Below.block hu bo (Array.getElem?_eq_some_iff.1 h.box).1]; exact h.box
  · rw [Below.block hu br (Array.getElem?_eq_some_iff.1 hr).1]; exact hr
  · have ho := h.row
    unfold RowE at ho ⊢
    refine ⟨ho.1, ?_⟩
    rcases ho.2 with hn | ⟨g, cap, cur, rfl, hb, hg, rest⟩
    · exact .inl hn
    · exact .inr ⟨g, cap, cur, rfl, hb, by rw [Below.block hu g (Array.getElem?_eq_some_iff.1 hg).1]; exact hg, rest⟩
theorem OutAt.apart {w0 W : World} {bo br : Nat} {v : Value} {es : List PEv} {st : PSt} (h : OutAt w0 W bo br v es st) {g : Nat} (e : v.ownBlock = some g) : g ≠ bo ∧ g ≠ br := by
  have ho := h.row
  unfold RowE at ho
  rcases ho.2 with ⟨rfl, _⟩ | ⟨g', cap, cur, rfl, hb, hg, rest⟩
  · cases e
  · obtain rfl : g' = g := by simpa [Value.ownBlock] using e
    obtain ⟨a, b, c, d, e, f, hr⟩ := h.res
    constructor
    · rintro rfl
      rw [h.box] at hg
      injection hg with hg
      injection hg with _ hg
      exact absurd hg (by decide +kernel)
    · rintro rfl
      rw [hr] at hg
      injection hg with hg
      injection hg with _ hg
      exact absurd hg (by decide +kernel)
/-- A store into what is told. -/
theorem OutAt.set {w0 W : World} {bo br : Nat} {v : Value} {es : List PEv} {st st' : PSt} (h : OutAt w0 W bo br v es st) {k : Nat} {u : Value} (hk : (outA v st).setIfInBounds k u = outA v st') : OutAt w0 (W.setCell ⟨bo, k, none⟩ u) bo br v es st' := by
  obtain ⟨a, b, c, d, e, f, hr⟩ := h.res
  have hg := setCell_far W bo k u
  refine ⟨?_, ⟨a, b, c, d, e, f, ?_⟩, ?_, h.lo, ?_⟩
  · have := heap_setCell_same W bo k _ _ u h.box
    rw [hk] at this
    exact this
  · rw [hg br (fun e => h.lo.2.2 e)]; exact hr
  · have ho := h.row
    have ha := fun g e => (h.apart (g := g) e).1
    unfold RowE at ho ⊢
    refine ⟨ho.1, ?_⟩
    rcases ho.2 with hn | ⟨g, cap, cur, rfl, hb, hgg, rest⟩
    · exact .inl hn
    · exact .inr ⟨g, cap, cur, rfl, hb, by rw [hg g (fun e => ha g rfl e.symm)]; exact hgg, rest⟩
  · exact Below.setCell h.up (p := ⟨bo, k, none⟩) h.lo.1 u
theorem OutAt.cell {w0 W : World} {bo br : Nat} {v : Value} {es : List PEv} {st : PSt} (h : OutAt w0 W bo br v es st) {k : Nat} {u : Value} (hk : (outA v st)[k]? = some u) : W.cell? ⟨bo, k, none⟩ = some u := cellOf h.box hk
theorem OutAt.fr {w0 W : World} {bo br : Nat} {v : Value} {es : List PEv} {st : PSt} (h : OutAt w0 W bo br v es st) (k : Nat) : W.frozen? ⟨bo, k, none⟩ = false := frozenOf h.box
theorem OutAt.start (w : World) (x y z u t s' : Value) : OutAt w ((w.alloc (.cells #[x, y, z, u, t, s'] OT)).alloc (.cells (outA (.slice none 0 0) ⟨0, 0, false, false, false⟩) OT)) (w.heap.size + 1) w.heap.size (.slice none 0 0) [] ⟨0, 0, false, false, false⟩ := by
  refine ⟨?_, ⟨x, y, z, u, t, s', ?_⟩, World.ownsRow_nil _ _ _ _, ⟨by omega, Nat.le_refl _, by omega⟩, (Up.alloc _ _).trans (Up.alloc _ _)⟩
  · have := Go.heap_alloc_new (w.alloc (.cells #[x, y, z, u, t, s'] OT)) (.cells (outA (.slice none 0 0) ⟨0, 0, false, false, false⟩) OT)
    rwa [World.size_alloc] at this
  · rw [Below.block (Up.alloc (w.alloc (.cells #[x, y, z, u, t, s'] OT)) _) w.heap.size (by rw [World.size_alloc]; omega)]
    exact Go.heap_alloc_new _ _
theorem bl_cut (line : ByteArray) : bl (line.extract 0 (endL (bl line))) = (bl line).take (endL (bl line)) := by rw [bl_extract, List.drop_zero]
theorem endF_le : ∀ (l : List Nat) (b : Bool) (p : Nat), endF b p l ≤ p + l.length
  | [], _, p => by simp [endF]
  | c :: r, b, p => by
    have := endF_le r (c == 13) (p + 1)
    unfold endF
    simp only [List.length_cons]
    (repeat' split) <;> omega
theorem endL_le (l : List Nat) : endL l ≤ l.length := by have := endF_le l false 0; unfold endL; omega
theorem own_slice {w : World} {B n : Nat} {T : TypeId} {k : Nat} {v : Value} {xs : List Value} (h : w.ownsRow B T k v n xs) : ∃ A c, v = .slice A n c := by
  rcases h.2 with ⟨rfl, e⟩ | ⟨g, cap, cur, rfl, -⟩
  · exact ⟨none, 0, by rw [e]⟩
  · exact ⟨_, _, rfl⟩
/-- Behind an append, ahead of its store. -/
theorem OutAt.mid {w0 W w2 : World} {bo br : Nat} {v : Value} {es : List PEv} {st : PSt} (h : OutAt w0 W bo br v es st) {tmp : Obj} (hgrow : (W.alloc tmp).grownBy w2 v.ownBlock) : w2.heap[bo]? = some (.cells (outA v st) OT) := by
  have hb := (Array.getElem?_eq_some_iff.1 h.box).1
  rw [hgrow.block bo (by rw [World.size_alloc]; omega) (fun e => (h.apart e.symm).1 rfl), Below.block (Up.alloc W tmp) bo hb]
  exact h.box
/-- A leaf that is put. -/
theorem OutAt.app {w0 W w2 : World} {bo br : Nat} {v v' : Value} {es : List PEv} {st : PSt} {k a b : Nat} {tmp : Obj} (h : OutAt w0 W bo br v es st)
    (hown : w2.ownsRow w0.heap.size 46 4 v' (es.length + 1) (evCells es ++ [.int .u8 3, .int .u8 (k : Nat), .int .i64 (a : Nat), .int .i64 (b : Nat)])) (hgrow : (W.alloc tmp).grownBy w2 v.ownBlock) :
    OutAt w0 (w2.setCell ⟨bo, 0, none⟩ v') bo br v' (es ++ [⟨k, a, b⟩]) st := by
  obtain ⟨x1, x2, x3, x4, x5, x6, hr⟩ := h.res
  have hrb := (Array.getElem?_eq_some_iff.1 hr).1
  have hr2 : w2.heap[br]? = some (.cells #[x1, x2, x3, x4, x5, x6] OT) := by
    rw [hgrow.block br (by rw [World.size_alloc]; omega) (fun e => (h.apart e.symm).2 rfl), Below.block (Up.alloc W tmp) br hrb]
    exact hr
  have hbx := h.mid hgrow
  obtain ⟨R1, R2⟩ := erow_snoc h.up h.row hown hgrow
  have hap : ∀ g, v'.ownBlock = some g → g ≠ bo := fun g e => by
    rcases hown.2 with ⟨rfl, _⟩ | ⟨g', cap, cur, rfl, hb, hg, rest⟩
    · cases e
    · obtain rfl : g' = g := by simpa [Value.ownBlock] using e
      rintro rfl
      rw [hbx] at hg
      injection hg with hg
      injection hg with _ hg
      exact absurd hg (by decide +kernel)
  refine ⟨heap_setCell_same w2 bo 0 _ _ v' hbx, ⟨x1, x2, x3, x4, x5, x6, ?_⟩, ?_, h.lo, Below.setCell R2 (p := ⟨bo, 0, none⟩) h.lo.1 v'⟩
  · rw [setCell_far w2 bo 0 v' br h.lo.2.2]; exact hr2
  · unfold RowE at R1 ⊢
    refine ⟨R1.1, ?_⟩
    rcases R1.2 with hn | ⟨g, cap, cur, rfl, hb, hgg, rest⟩
    · exact .inl hn
    · exact .inr ⟨g, cap, cur, rfl, hb, by rw [setCell_far w2 bo 0 _ g (fun e => hap g rfl e.symm)]; exact hgg, rest⟩
end Go.Proofs.YtmfcapbllbfjnaaGreatDoor
