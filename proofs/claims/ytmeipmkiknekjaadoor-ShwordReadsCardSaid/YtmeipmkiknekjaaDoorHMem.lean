/- The program's reader of a shell's line in memory: the line, a place, a mark, the pieces so far; a word's text. -/
import Derived.Test.YtmeipmkiknekjaaDoorHMath
import Derived.OwnWalk
import Derived.Lib.UnsafeStr
import Derived.Laws.IdiomStrings
import Derived.Laws.Rows
import Derived.Deep.AppendLies
namespace Go.Proofs.YtmeipmkiknekjaaDoor
open Go.RowKit

abbrev RT : TypeId := 39
abbrev PT : TypeId := 34
abbrev TT : TypeId := 51
abbrev U8 : TypeId := 5
theorem infoByte : (Tryd.prog.info? U8).map (fun i => (i.zero, i.size, i.bytes)) = some (some (.int .u8 0), 1, 1) := by kernel_rfl
theorem infoPiece : (Tryd.prog.info? PT).map (fun i => (i.zero, i.size, i.bytes)) = some (some (.agg #[.int .u8 0, .int .i64 0, .int .i64 0, .string ⟨#[]⟩, .bool false, .bool false]), 6, 48) := by kernel_rfl
def u8s (l : List Nat) : List UInt8 := l.map Nat.toUInt8
def toB (l : List Nat) : ByteArray := ⟨(u8s l).toArray⟩
theorem toB_bl (s : ByteArray) : toB (bl s) = s := by
  unfold toB u8s bl
  have : (s.data.toList.map (·.toNat)).map Nat.toUInt8 = s.data.toList := by
    rw [List.map_map]
    conv => rhs; rw [← List.map_id s.data.toList]
    apply List.map_congr_left
    intro x _
    simp
  rw [this]
theorem u8_nat {c : Nat} (h : c < 256) : (Nat.toUInt8 c).toNat = c := by simp [Nat.toUInt8]; omega
theorem bl_toB {l : List Nat} (h : ∀ c ∈ l, c < 256) : bl (toB l) = l := by
  unfold toB u8s bl
  simp only [List.map_map]
  conv => rhs; rw [← List.map_id l]
  apply List.map_congr_left
  intro x hx
  exact u8_nat (h x hx)
theorem toB_len (l : List Nat) : (toB l).size = l.length := by
  have : (toB l).data.toList.length = l.length := by simp [toB, u8s]
  rw [Lib.size_eq, this]
/-- A word's bytes, as cells. -/
def nbC (l : List Nat) : List Value := Lib.byteCells (u8s l)
theorem nbC_len (l : List Nat) : (nbC l).length = l.length := by simp [nbC, u8s, Lib.byteCells]
theorem nbC_snoc (l : List Nat) {c : Nat} (h : c < 256) : nbC (l ++ [c]) = nbC l ++ [.int .u8 (c : Nat)] := by
  unfold nbC u8s Lib.byteCells
  simp only [List.map_append, List.map_cons, List.map_nil]
  rw [u8_nat h]
def pcV (x : Pc) : List Value := [.int .u8 (x.kind : Nat), .int .i64 (x.a : Nat), .int .i64 (x.b : Nat), .string (toB x.text), .bool x.raw, .bool x.whole]
/-- Pieces, as cells. -/
def pcC (l : List Pc) : List Value := l.flatMap pcV
theorem pcC_snoc (l : List Pc) (x : Pc) : pcC (l ++ [x]) = pcC l ++ pcV x := by simp [pcC]
theorem pcC_at : ∀ (l : List Pc) (i : Nat) (h : i < l.length) (k : Nat) (v : Value), (pcV l[i])[k]? = some v → (pcC l)[i * 6 + k]? = some v
  | x :: r, 0, h, k, v, hv => by
    have e : pcC (x :: r) = pcV x ++ pcC r := rfl
    rw [e, Nat.zero_mul, Nat.zero_add, List.getElem?_append_left (show k < (pcV x).length from (List.getElem?_eq_some_iff.1 hv).1)]
    exact hv
  | x :: r, i + 1, h, k, v, hv => by
    have e : pcC (x :: r) = pcV x ++ pcC r := rfl
    have hl : (pcV x).length = 6 := rfl
    rw [e, List.getElem?_append_right (by rw [hl]; omega), hl, show (i + 1) * 6 + k - 6 = i * 6 + k from by omega]
    exact pcC_at r i (by simpa using h) k v hv

/-! Rows and boxes that lie apart by their types. -/
theorem own_base {W : World} {N z m : Nat} {v : Value} {xs : List Value} {e : TypeId} {k : Nat} (hr : W.ownsRow N e z v m xs) (hk : v.ownBlock = some k) : N ≤ k := by
  rcases hr.2 with ⟨rfl, _⟩ | ⟨g, cap, cur, rfl, h1, _⟩
  · cases hk
  · obtain rfl : g = k := by simpa [Value.ownBlock] using hk
    exact h1
theorem own_slice {w : World} {B n : Nat} {T : TypeId} {k : Nat} {v : Value} {xs : List Value} (h : w.ownsRow B T k v n xs) : ∃ A c, v = .slice A n c := by
  rcases h.2 with ⟨rfl, e⟩ | ⟨g, cap, cur, rfl, -⟩
  · exact ⟨none, 0, by rw [e]⟩
  · exact ⟨_, _, rfl⟩
theorem row_blk {W : World} {B n k : Nat} {T : TypeId} {v : Value} {xs : List Value} (ho : W.ownsRow B T k v n xs) {g : Nat} (e : v.ownBlock = some g) : ∃ cs fr, W.heap[g]? = some (.cells cs T fr) := by
  rcases ho.2 with ⟨rfl, _⟩ | ⟨g', cap, cur, rfl, hb, hg, rest⟩
  · cases e
  · obtain rfl : g' = g := by simpa [Value.ownBlock] using e
    exact ⟨_, _, hg⟩
theorem blk_ne {W : World} {g h : Nat} {T T' : TypeId} (h1 : ∃ cs fr, W.heap[g]? = some (.cells cs T fr)) (h2 : ∃ cs fr, W.heap[h]? = some (.cells cs T' fr)) (hT : T ≠ T') : g ≠ h := by
  rintro rfl
  obtain ⟨cs, fr, h1⟩ := h1
  obtain ⟨cs', fr', h2⟩ := h2
  rw [h1] at h2
  injection h2 with h2
  injection h2 with _ h2
  exact hT h2
theorem row_keep {W W' : World} {B n k : Nat} {T : TypeId} {v : Value} {xs : List Value} (ho : W.ownsRow B T k v n xs) (hk : ∀ g, v.ownBlock = some g → W'.heap[g]? = W.heap[g]?) : W'.ownsRow B T k v n xs := by
  refine ⟨ho.1, ?_⟩
  rcases ho.2 with hn | ⟨g, cap, cur, rfl, hb, hg, rest⟩
  · exact .inl hn
  · exact .inr ⟨g, cap, cur, rfl, hb, by rw [hk g rfl]; exact hg, rest⟩
theorem row_up {W W' : World} {B n k : Nat} {T : TypeId} {v : Value} {xs : List Value} (ho : W.ownsRow B T k v n xs) (hu : Up W W') : W'.ownsRow B T k v n xs :=
  row_keep ho fun g e => by
    obtain ⟨cs, fr, h⟩ := row_blk ho e
    exact Below.block hu g (Array.getElem?_eq_some_iff.1 h).1
theorem box_up {W W' : World} {g : Nat} {o : Obj} (h : W.heap[g]? = some o) (hu : Up W W') : W'.heap[g]? = some o := by
  rw [Below.block hu g (Array.getElem?_eq_some_iff.1 h).1]; exact h
theorem setCell_far (W : World) (b k : Nat) (u : Value) (g : Nat) (h : b ≠ g) : (W.setCell ⟨b, k, none⟩ u).heap[g]? = W.heap[g]? := by
  simp [World.setCell, Array.getElem?_modify, h]
theorem ne_RP : RT ≠ PT := by decide +kernel
theorem ne_RT : RT ≠ TT := by decide +kernel
theorem ne_RU : RT ≠ U8 := by decide +kernel
theorem ne_PT : PT ≠ TT := by decide +kernel
theorem ne_PU : PT ≠ U8 := by decide +kernel
theorem ne_TU : TT ≠ U8 := by decide +kernel

/-- Behind calls that only read. -/
def DrN (w w' : World) : Prop := ∃ m, w' = w.drewN m
theorem DrN.refl (w : World) : DrN w w := ⟨0, rfl⟩
theorem DrN.drew {w w' : World} (h : DrN w w') : DrN w w'.drew := by obtain ⟨m, rfl⟩ := h; exact ⟨m + 1, rfl⟩
theorem DrN.trans {a b c : World} (h : DrN a b) (k : DrN b c) : DrN a c := by
  obtain ⟨m, rfl⟩ := h
  obtain ⟨j, rfl⟩ := k
  exact ⟨m + j, by rw [World.drewN_drewN]⟩
theorem DrN.up {w w' : World} (h : DrN w w') : Up w w' := by obtain ⟨m, rfl⟩ := h; exact Up.drewN w m
/-- A contract of a function that only reads, where a walk is quiet. -/
theorem quietD {f : FuncId} {args : Array Value} {w : World} {n : Nat} {v : Value} (h : Calls Tryd.prog f args (w.drewN n) fun e w' => e = .returned v ∧ DrN (w.drewN n) w') : Calls Tryd.prog f args (w.drewN n) fun e w'' => e = .returned v ∧ ∃ m, w'' = w.drewN m :=
  Calls.quiet_of h

/-! The reader. -/
def rdA (line : ByteArray) (n p mk : Nat) (v : Value) : Array Value := #[.string line, .int .i64 (n : Nat), .int .i64 (p : Nat), .int .u8 (mk : Nat), v]
structure RdH (w0 W : World) (b : Nat) (line : ByteArray) (n p mk : Nat) (v : Value) (ps : List Pc) : Prop where
  box : W.heap[b]? = some (.cells (rdA line n p mk v) RT)
  row : W.ownsRow w0.heap.size PT 6 v ps.length (pcC ps)
  lo : w0.heap.size ≤ b
  up : Up w0 W
section
variable {w0 W W' w2 : World} {b tb n p p' mk mk' : Nat} {line : ByteArray} {v v' tv tv' : Value} {ps : List Pc} {l : List Nat}
theorem RdH.more (h : RdH w0 W b line n p mk v ps) (hu : Up W W') : RdH w0 W' b line n p mk v ps :=
  ⟨box_up h.box hu, row_up h.row hu, h.lo, h.up.trans hu⟩
theorem RdH.cell (h : RdH w0 W b line n p mk v ps) {k : Nat} {u : Value} (hk : (rdA line n p mk v)[k]? = some u) : W.cell? ⟨b, k, none⟩ = some u := cellOf h.box hk
theorem RdH.fr (h : RdH w0 W b line n p mk v ps) (k : Nat) : W.frozen? ⟨b, k, none⟩ = false := frozenOf h.box
theorem RdH.set (h : RdH w0 W b line n p mk v ps) {k : Nat} {u : Value} (hk : (rdA line n p mk v).setIfInBounds k u = rdA line n p' mk' v) : RdH w0 (W.setCell ⟨b, k, none⟩ u) b line n p' mk' v ps := by
  refine ⟨?_, row_keep h.row fun g e => setCell_far W b k u g ?_, h.lo, Below.setCell h.up (p := ⟨b, k, none⟩) h.lo u⟩
  · have := heap_setCell_same W b k _ _ u h.box
    rw [hk] at this
    exact this
  · exact blk_ne ⟨_, _, h.box⟩ (row_blk h.row e) ne_RP
theorem RdH.mid (h : RdH w0 W b line n p mk v ps) (hu : Up W W') (hgrow : W'.grownBy w2 v.ownBlock) : w2.heap[b]? = some (.cells (rdA line n p mk v) RT) := by
  have hb := (Array.getElem?_eq_some_iff.1 h.box).1
  rw [hgrow.block b (Nat.lt_of_lt_of_le hb (Below.size hu)) (fun e => blk_ne ⟨_, _, h.box⟩ (row_blk h.row e.symm) ne_RP rfl), Below.block hu b hb]
  exact h.box
/-- A piece that is told. -/
theorem RdH.app {x : Pc} (h : RdH w0 W b line n p mk v ps) (hu : Up W W') (hgrow : W'.grownBy w2 v.ownBlock)
    (hown : w2.ownsRow w0.heap.size PT 6 v' (ps.length + 1) (pcC ps ++ pcV x)) :
    RdH w0 (w2.setCell ⟨b, 4, none⟩ v') b line n p mk v' (ps ++ [x]) := by
  have hbx := h.mid hu hgrow
  have hup : Up w0 w2 := (h.up.trans hu).grown hgrow (Nat.le_trans (Below.size h.up) (Below.size hu)) (fun q hq => own_base h.row hq)
  refine ⟨heap_setCell_same w2 b 4 _ _ v' hbx, ?_, h.lo, Below.setCell hup (p := ⟨b, 4, none⟩) h.lo v'⟩
  rw [List.length_append, pcC_snoc]
  exact row_keep hown fun g e => setCell_far w2 b 4 v' g (blk_ne ⟨_, _, hbx⟩ (row_blk hown e) ne_RP)

/-! The reader, and a word's text. -/
structure LtH (w0 W : World) (b tb : Nat) (line : ByteArray) (n p mk : Nat) (v : Value) (ps : List Pc) (tv : Value) (l : List Nat) : Prop where
  rd : RdH w0 W b line n p mk v ps
  tbox : W.heap[tb]? = some (.cells #[tv] TT)
  trow : W.ownsRow w0.heap.size U8 1 tv l.length (nbC l)
  tlo : w0.heap.size ≤ tb
theorem LtH.more (h : LtH w0 W b tb line n p mk v ps tv l) (hu : Up W W') : LtH w0 W' b tb line n p mk v ps tv l :=
  ⟨h.rd.more hu, box_up h.tbox hu, row_up h.trow hu, h.tlo⟩
theorem LtH.set (h : LtH w0 W b tb line n p mk v ps tv l) {k : Nat} {u : Value} (hk : (rdA line n p mk v).setIfInBounds k u = rdA line n p' mk' v) : LtH w0 (W.setCell ⟨b, k, none⟩ u) b tb line n p' mk' v ps tv l := by
  refine ⟨h.rd.set hk, ?_, row_keep h.trow fun g e => setCell_far W b k u g ?_, h.tlo⟩
  · rw [setCell_far W b k u tb (blk_ne ⟨_, _, h.rd.box⟩ ⟨_, _, h.tbox⟩ ne_RT)]
    exact h.tbox
  · exact blk_ne ⟨_, _, h.rd.box⟩ (row_blk h.trow e) ne_RU
theorem LtH.tcell (h : LtH w0 W b tb line n p mk v ps tv l) : W.cell? ⟨tb, 0, none⟩ = some tv := cellOf h.tbox rfl
theorem LtH.tfr (h : LtH w0 W b tb line n p mk v ps tv l) : W.frozen? ⟨tb, 0, none⟩ = false := frozenOf h.tbox
theorem LtH.tmid (h : LtH w0 W b tb line n p mk v ps tv l) (hu : Up W W') (hgrow : W'.grownBy w2 tv.ownBlock) : w2.heap[tb]? = some (.cells #[tv] TT) := by
  have hb := (Array.getElem?_eq_some_iff.1 h.tbox).1
  rw [hgrow.block tb (Nat.lt_of_lt_of_le hb (Below.size hu)) (fun e => blk_ne ⟨_, _, h.tbox⟩ (row_blk h.trow e.symm) ne_TU rfl), Below.block hu tb hb]
  exact h.tbox
/-- The text has grown. -/
theorem LtH.tapp {l' : List Nat} (h : LtH w0 W b tb line n p mk v ps tv l) (hu : Up W W') (hgrow : W'.grownBy w2 tv.ownBlock)
    (hown : w2.ownsRow w0.heap.size U8 1 tv' l'.length (nbC l')) : LtH w0 (w2.setCell ⟨tb, 0, none⟩ tv') b tb line n p mk v ps tv' l' := by
  have htb := h.tmid hu hgrow
  have hup : Up w0 w2 := (h.rd.up.trans hu).grown hgrow (Nat.le_trans (Below.size h.rd.up) (Below.size hu)) (fun q hq => own_base h.trow hq)
  have hb := (Array.getElem?_eq_some_iff.1 h.rd.box).1
  have hbx : w2.heap[b]? = some (.cells (rdA line n p mk v) RT) := by
    rw [hgrow.block b (Nat.lt_of_lt_of_le hb (Below.size hu)) (fun e => blk_ne ⟨_, _, h.rd.box⟩ (row_blk h.trow e.symm) ne_RU rfl), Below.block hu b hb]
    exact h.rd.box
  have hrow : w2.ownsRow w0.heap.size PT 6 v ps.length (pcC ps) := row_keep h.rd.row fun g e => by
    obtain ⟨cs, fr, hg⟩ := row_blk h.rd.row e
    have hlt := (Array.getElem?_eq_some_iff.1 hg).1
    rw [hgrow.block g (Nat.lt_of_lt_of_le hlt (Below.size hu)) (fun e2 => blk_ne ⟨_, _, hg⟩ (row_blk h.trow e2.symm) ne_PU rfl), Below.block hu g hlt]
  refine ⟨⟨?_, row_keep hrow fun g e => setCell_far w2 tb 0 tv' g ?_, h.rd.lo, Below.setCell hup (p := ⟨tb, 0, none⟩) h.tlo tv'⟩, heap_setCell_same w2 tb 0 _ _ tv' htb, row_keep hown fun g e => setCell_far w2 tb 0 tv' g ?_, h.tlo⟩
  · rw [setCell_far w2 tb 0 tv' b (blk_ne ⟨_, _, htb⟩ ⟨_, _, hbx⟩ ne_RT.symm)]
    exact hbx
  · exact blk_ne ⟨_, _, htb⟩ (row_blk hrow e) ne_PT.symm
  · exact blk_ne ⟨_, _, htb⟩ (row_blk hown e) ne_TU
end
end Go.Proofs.YtmeipmkiknekjaaDoor
