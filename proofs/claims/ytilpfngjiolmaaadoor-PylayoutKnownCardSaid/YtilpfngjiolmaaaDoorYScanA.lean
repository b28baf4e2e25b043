/- A scan, leaf by leaf; what it tells, in memory. -/
import Derived.Test.YtilpfngjiolmaaaDoorYCov
import Derived.Test.YtilpfngjiolmaaaDoorYRefC
import Derived.Test.YtilpfngjiolmaaaDoorYBeg
import Derived.Test.YtilpfngjiolmaaaDoorYOp
import Derived.Laws.Rows
namespace Go.Proofs.YtilpfngjiolmaaaDoor
open Go.RowKit

/-- A scan with as much fuel as there are bytes. -/
def scanC (p : Nat) (l : List Nat) (st : PSt) : List PEv × PSt := scanF l.length p l st
theorem scanC_nil (p : Nat) (st : PSt) : scanC p [] st = ([], st) := rfl
theorem scanF_none {f p : Nat} {l : List Nat} {st : PSt} (hl : l ≠ []) (h : tokL st.mark st.depth l = none) : scanF (f + 1) p l st = scanF f (p + 1) (l.drop 1) st := by
  rw [scanF, if_neg hl, h]
theorem scanF_some {f p : Nat} {l : List Nat} {st : PSt} {t : Tok} (hl : l ≠ []) (h : tokL st.mark st.depth l = some t) : scanF (f + 1) p l st = (⟨t.kind, p, p + t.len⟩ :: (scanF f (p + t.len) (l.drop t.len) (aft st t l)).1, (scanF f (p + t.len) (l.drop t.len) (aft st t l)).2) := by
  rw [scanF, if_neg hl, h]
theorem scanC_blank {p c : Nat} {r : List Nat} {st : PSt} (h : tokL st.mark st.depth (c :: r) = none) : scanC p (c :: r) st = scanC (p + 1) r st := by
  exact scanF_none (f := r.length) (by simp) h
theorem scanC_tok {p : Nat} {l : List Nat} {st : PSt} {t : Tok} (hs : StOk st) (h : tokL st.mark st.depth l = some t) :
    scanC p l st = (⟨t.kind, p, p + t.len⟩ :: (scanC (p + t.len) (l.drop t.len) (aft st t l)).1, (scanC (p + t.len) (l.drop t.len) (aft st t l)).2) := by
  have hk := tokL_ok h hs.mark hs.d0 hs.d1
  cases l with
  | nil => cases h
  | cons c r =>
    have e : scanF r.length (p + t.len) ((c :: r).drop t.len) (aft st t (c :: r)) = scanC (p + t.len) ((c :: r).drop t.len) (aft st t (c :: r)) :=
      scan_fuel _ _ _ _ _ (aft_ok hs h) (by rw [List.length_drop, List.length_cons]; have := hk.pos; omega) (Nat.le_refl _)
    have e2 := scanF_some (f := r.length) (p := p) (by simp) h
    rw [e] at e2
    exact e2
/-- The whole scan, from a place on. -/
theorem scanL_eq (t : List Nat) (i m : Nat) (d : Int) : scanL t i m d = scanC i (t.drop i) (st0 m d) :=
  scan_fuel _ _ _ _ _ (st0_ok m d) (by rw [List.length_drop]; omega) (Nat.le_refl _)
/-- Leaves as cells. -/
def evCells (es : List PEv) : List Value := es.flatMap fun e => [.int .u8 3, .int .u8 (e.kind : Nat), .int .i64 (e.a : Nat), .int .i64 (e.b : Nat)]
theorem evCells_snoc (es : List PEv) (e : PEv) : evCells (es ++ [e]) = evCells es ++ [.int .u8 3, .int .u8 (e.kind : Nat), .int .i64 (e.a : Nat), .int .i64 (e.b : Nat)] := by simp [evCells]
theorem infoEvent : (Tryd.prog.info? 37).map (fun i => (i.zero, i.size, i.bytes)) = some (some (.agg #[.int .u8 0, .int .u8 0, .int .i64 0, .int .i64 0]), 4, 24) := by kernel_rfl
/-- A row of leaves that is new since the block B. -/
def RowE (w : World) (B : Nat) (v : Value) (es : List PEv) : Prop := w.ownsRow B 37 4 v es.length (evCells es)
theorem erow_snoc {w W w2 : World} {v v' : Value} {es : List PEv} {k a b : Nat} {tmp : Obj} (hu : Up w W) (ho : RowE W w.heap.size v es)
    (hown : w2.ownsRow w.heap.size 37 4 v' (es.length + 1) (evCells es ++ [.int .u8 3, .int .u8 (k : Nat), .int .i64 (a : Nat), .int .i64 (b : Nat)])) (hgrow : (W.alloc tmp).grownBy w2 v.ownBlock) :
    RowE w2 w.heap.size v' (es ++ [⟨k, a, b⟩]) ∧ Up w w2 := by
  refine ⟨?_, (hu.trans (Up.alloc W tmp)).grown hgrow (by have := Below.size hu; rw [World.size_alloc]; omega) fun k hk => own_base ho hk⟩
  unfold RowE
  rw [List.length_append, evCells_snoc]
  exact hown
def outA (v : Value) (st : PSt) : Array Value := #[v, .int .u8 (st.mark : Nat), .int .i64 st.depth, .bool st.j, .bool st.s, .bool st.c]
theorem setCell_far (W : World) (b k : Nat) (u : Value) (g : Nat) (h : b ≠ g) : (W.setCell ⟨b, k, none⟩ u).heap[g]? = W.heap[g]? := by
  simp [World.setCell, Array.getElem?_modify, h]
theorem bl_cut (line : ByteArray) : bl (line.extract 0 (endL (bl line))) = (bl line).take (endL (bl line)) := by rw [bl_extract, List.drop_zero]
theorem endF_le : ∀ (l : List Nat) (b : Bool) (p : Nat), endF b p l ≤ p + l.length
  | [], _, p => by simp [endF]
  | c :: r, b, p => by
    have := endF_le r (c == 13) (p + 1)
    unfold endF
    simp only [List.length_cons]
    (repeat' split) <;> omega
theorem endL_le (l : List Nat) : endL l ≤ l.length := by have := endF_le l false 0; unfold endL; omega
theorem own_slice {w : World} {B n : Nat} {T : TypeId} {k : Nat} {v : Value} {xs : List Value} (h : w.ownsRow B T k v n xs) : ∃ A c, v = .slice A n c := by
  rcases h.2 with ⟨rfl, e⟩ | ⟨g, cap, cur, rfl, -⟩
  · exact ⟨none, 0, by rw [e]⟩
  · exact ⟨_, _, rfl⟩
end Go.Proofs.YtilpfngjiolmaaaDoor
