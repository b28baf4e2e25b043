/- The program's reader of logical lines, in memory. What the program's reader tells: leaves, what opens, what closes. The program's frames: the column that is open, a block that opens, one that closes. The program's layout of a line: which blocks open and close. The program's line's end, its indentation, what an empty line tells. A row of one's own, appended to another one: both may be nil. The program's reader behind the layout: what it reads, and how the logical line ends. -/
import Derived.Test.YtmfcapbllbfjnaaGreatDoorOA
import Derived.Test.YtmfcapbllbfjnaaGreatDoorYPScan
import Derived.Test.YtmfcapbllbfjnaaGreatDoorVProg
import Derived.Deep.AppendLies
import Derived.Deep.CutBlock
import Derived.Test.YtmfcapbllbfjnaaGreatDoorBase
import Derived.Deep.AppendSrc
import Derived.Deep.Upon
import Derived.Laws.AppendOwn
namespace Go.Proofs.YtmfcapbllbfjnaaGreatDoor
open Go.RowKit

abbrev LT : TypeId := 39
def levCells (es : List LEv) : List Value := es.flatMap fun e => [.int .u8 (e.op : Nat), .int .u8 (e.kind : Nat), .int .i64 (e.a : Nat), .int .i64 (e.b : Nat)]
theorem levCells_app (a b : List LEv) : levCells (a ++ b) = levCells a ++ levCells b := by simp [levCells]
theorem levCells_snoc (es : List LEv) (e : LEv) : levCells (es ++ [e]) = levCells es ++ [.int .u8 (e.op : Nat), .int .u8 (e.kind : Nat), .int .i64 (e.a : Nat), .int .i64 (e.b : Nat)] := by simp [levCells]
theorem levCells_lf (es : List PEv) : levCells (es.map lfE) = evCells es := by
  induction es with
  | nil => rfl
  | cons e r ih =>
    show _ :: _ :: _ :: _ :: levCells (r.map lfE) = _ :: _ :: _ :: _ :: evCells r
    rw [ih]
    rfl
theorem levCells_len (es : List LEv) : (levCells es).length = es.length * 4 := by
  induction es with
  | nil => rfl
  | cons e r ih =>
    show (levCells r).length + 1 + 1 + 1 + 1 = _
    rw [ih, List.length_cons]
    omega
/-- A row of events that is new since the block B. -/
def RowL (w : World) (B : Nat) (v : Value) (es : List LEv) : Prop := w.ownsRow B ET 4 v es.length (levCells es)
def rdC (V : SV) (line : ByteArray) (E p : Nat) (v : Value) : List Value := svL V ++ [.string line, .int .i64 (E : Nat), .int .i64 (p : Nat), v]
theorem rdC_fr (V : SV) (line : ByteArray) (E p : Nat) (v : Value) {j : Nat} (h : j < 64) : (rdC V line E p v)[j]? = some (frV V.u V.c j) := by
  unfold rdC
  rw [List.getElem?_append_left (by rw [svL_len]; omega), svL_fr V h]
theorem rdC_tl (V : SV) (line : ByteArray) (E p : Nat) (v : Value) (k : Nat) : (rdC V line E p v)[64 + k]? = (tlV V.d V.mo V.ma V.fl V.co V.S V.P V.Q V.wa ++ [.string line, .int .i64 (E : Nat), .int .i64 (p : Nat), v])[k]? := by
  unfold rdC svL
  rw [List.append_assoc, List.getElem?_append_right (by simp)]
  congr 1
  simp
theorem rdC_set (V : SV) (line : ByteArray) (E p : Nat) (v u : Value) (k : Nat) : (rdC V line E p v).set (64 + k) u = (List.range 64).map (frV V.u V.c) ++ (tlV V.d V.mo V.ma V.fl V.co V.S V.P V.Q V.wa ++ [.string line, .int .i64 (E : Nat), .int .i64 (p : Nat), v]).set k u := by
  unfold rdC svL
  rw [List.append_assoc, List.set_append_right _ _ (by simp)]
  congr 2
  simp
/-- The reader at the block b. -/
structure RdP (w0 W : World) (b : Nat) (V : SV) (line : ByteArray) (E p : Nat) (v : Value) (es : List LEv) : Prop where
  box : W.heap[b]? = some (.cells (rdC V line E p v).toArray LT)
  row : RowL W w0.heap.size v es
  lo : w0.heap.size ≤ b
  up : Up w0 W
variable {w0 W W' w2 : World} {b E p p' : Nat} {line : ByteArray} {v v' : Value} {es : List LEv} {V V' : SV}
theorem own_up {B n k : Nat} {T : TypeId} {xs : List Value} (ho : W.ownsRow B T k v n xs) (hu : Up W W') : W'.ownsRow B T k v n xs := by
  refine ⟨ho.1, ?_⟩
  rcases ho.2 with hn | ⟨g, cap, cur, rfl, hb, hg, rest⟩
  · exact .inl hn
  · exact .inr ⟨g, cap, cur, rfl, hb, by rw [Below.block hu g (Array.getElem?_eq_some_iff.1 hg).1]; exact hg, rest⟩
theorem own_set {B n k bx j : Nat} {T : TypeId} {xs : List Value} {u : Value} (ho : W.ownsRow B T k v n xs) (ha : ∀ g, v.ownBlock = some g → g ≠ bx) : (W.setCell ⟨bx, j, none⟩ u).ownsRow B T k v n xs := by
  refine ⟨ho.1, ?_⟩
  rcases ho.2 with hn | ⟨g, cap, cur, rfl, hb, hg, rest⟩
  · exact .inl hn
  · exact .inr ⟨g, cap, cur, rfl, hb, by rw [setCell_far W bx j u g (fun e => ha g rfl e.symm)]; exact hg, rest⟩
theorem RdP.more (h : RdP w0 W b V line E p v es) (hu : Up W W') : RdP w0 W' b V line E p v es := by
  refine ⟨?_, own_up h.row hu, h.lo, h.up.trans hu⟩
  rw [Below.block hu b (Array.getElem?_eq_some_iff.1 h.box).1]; exact h.box
theorem RdP.apart (h : RdP w0 W b V line E p v es) {g : Nat} (e : v.ownBlock = some g) : g ≠ b := by
  obtain ⟨cs, fr, hg⟩ := row_ev h.row e
  rintro rfl
  rw [h.box] at hg
  injection hg with hg
  injection hg with _ hg
  exact absurd hg (by decide +kernel)
theorem RdP.set (h : RdP w0 W b V line E p v es) {k : Nat} {u : Value} (hk : (rdC V line E p v).set k u = rdC V' line E p' v) : RdP w0 (W.setCell ⟨b, k, none⟩ u) b V' line E p' v es := by
  refine ⟨?_, own_set h.row (fun g e => h.apart e), h.lo, Below.setCell h.up (p := ⟨b, k, none⟩) h.lo u⟩
  have := heap_setCell_same W b k _ _ u h.box
  rw [this]
  congr 2
  rw [← hk]
  simp
theorem RdP.cell (h : RdP w0 W b V line E p v es) {k : Nat} {u : Value} (hk : (rdC V line E p v)[k]? = some u) : W.cell? ⟨b, k, none⟩ = some u := cellOf h.box (by simpa using hk)
theorem RdP.fr (h : RdP w0 W b V line E p v es) (k : Nat) : W.frozen? ⟨b, k, none⟩ = false := frozenOf h.box
theorem RdP.depth (h : RdP w0 W b V line E p v es) : W.cell? ⟨b, 64, none⟩ = some (.int .i64 V.d) := h.cell (rdC_tl V line E p v 0)
theorem RdP.mode (h : RdP w0 W b V line E p v es) : W.cell? ⟨b, 65, none⟩ = some (.int .u8 (V.mo : Nat)) := h.cell (rdC_tl V line E p v 1)
theorem RdP.mark (h : RdP w0 W b V line E p v es) : W.cell? ⟨b, 66, none⟩ = some (.int .u8 (V.ma : Nat)) := h.cell (rdC_tl V line E p v 2)
theorem RdP.flags (h : RdP w0 W b V line E p v es) : W.cell? ⟨b, 67, none⟩ = some (.int .u8 (V.fl : Nat)) := h.cell (rdC_tl V line E p v 3)
theorem RdP.count (h : RdP w0 W b V line E p v es) : W.cell? ⟨b, 68, none⟩ = some (.int .i64 V.co) := h.cell (rdC_tl V line E p v 4)
theorem RdP.ln (h : RdP w0 W b V line E p v es) : W.cell? ⟨b, 82, none⟩ = some (.string line) := h.cell (rdC_tl V line E p v 18)
theorem RdP.en (h : RdP w0 W b V line E p v es) : W.cell? ⟨b, 83, none⟩ = some (.int .i64 (E : Nat)) := h.cell (rdC_tl V line E p v 19)
theorem RdP.at_ (h : RdP w0 W b V line E p v es) : W.cell? ⟨b, 84, none⟩ = some (.int .i64 (p : Nat)) := h.cell (rdC_tl V line E p v 20)
theorem RdP.ev (h : RdP w0 W b V line E p v es) : W.cell? ⟨b, 85, none⟩ = some v := h.cell (rdC_tl V line E p v 21)
theorem RdP.setD (h : RdP w0 W b V line E p v es) (d : Int) : RdP w0 (W.setCell ⟨b, 64, none⟩ (.int .i64 d)) b { V with d := d } line E p v es := h.set (rdC_set V line E p v _ 0)
theorem RdP.setMo (h : RdP w0 W b V line E p v es) (n : Nat) : RdP w0 (W.setCell ⟨b, 65, none⟩ (.int .u8 (n : Nat))) b { V with mo := n } line E p v es := h.set (rdC_set V line E p v _ 1)
theorem RdP.setMa (h : RdP w0 W b V line E p v es) (n : Nat) : RdP w0 (W.setCell ⟨b, 66, none⟩ (.int .u8 (n : Nat))) b { V with ma := n } line E p v es := h.set (rdC_set V line E p v _ 2)
theorem RdP.setFl (h : RdP w0 W b V line E p v es) (n : Nat) : RdP w0 (W.setCell ⟨b, 67, none⟩ (.int .u8 (n : Nat))) b { V with fl := n } line E p v es := h.set (rdC_set V line E p v _ 3)
theorem RdP.setCo (h : RdP w0 W b V line E p v es) (d : Int) : RdP w0 (W.setCell ⟨b, 68, none⟩ (.int .i64 d)) b { V with co := d } line E p v es := h.set (rdC_set V line E p v _ 4)
theorem RdP.setAt (h : RdP w0 W b V line E p v es) (q : Nat) : RdP w0 (W.setCell ⟨b, 84, none⟩ (.int .i64 (q : Nat))) b V line E q v es := h.set (rdC_set V line E p v _ 20)
/-- Behind an append, ahead of its store. -/
theorem RdP.mid (h : RdP w0 W b V line E p v es) (hu : Up W W') (hgrow : W'.grownBy w2 v.ownBlock) : w2.heap[b]? = some (.cells (rdC V line E p v).toArray LT) := by
  have hb := (Array.getElem?_eq_some_iff.1 h.box).1
  rw [hgrow.block b (Nat.lt_of_lt_of_le hb (Below.size hu)) (fun e => h.apart e.symm rfl), Below.block hu b hb]
  exact h.box
/-- Events that are told. -/
theorem RdP.apps {fs : List LEv} (h : RdP w0 W b V line E p v es) (hu : Up W W') (hgrow : W'.grownBy w2 v.ownBlock)
    (hown : w2.ownsRow w0.heap.size ET 4 v' (es.length + fs.length) (levCells es ++ levCells fs)) : RdP w0 (w2.setCell ⟨b, 85, none⟩ v') b V line E p v' (es ++ fs) := by
  have hbx := h.mid hu hgrow
  have hap : ∀ g, v'.ownBlock = some g → g ≠ b := fun g e => by
    obtain ⟨cs, fr, hg⟩ := row_ev hown e
    rintro rfl
    rw [hbx] at hg
    injection hg with hg
    injection hg with _ hg
    exact absurd hg (by decide +kernel)
  have hup : Up w0 w2 := (h.up.trans hu).grown hgrow (Nat.le_trans (Below.size h.up) (Below.size hu)) (fun q hq => own_base h.row hq)
  refine ⟨?_, ?_, h.lo, Below.setCell hup (p := ⟨b, 85, none⟩) h.lo v'⟩
  · have := heap_setCell_same w2 b 85 _ _ v' hbx
    rw [this]
    congr 2
  · unfold RowL
    rw [List.length_append, levCells_app]
    exact own_set hown hap
theorem RdP.app {k a c o : Nat} (h : RdP w0 W b V line E p v es) (hu : Up W W') (hgrow : W'.grownBy w2 v.ownBlock)
    (hown : w2.ownsRow w0.heap.size ET 4 v' (es.length + 1) (levCells es ++ [.int .u8 (o : Nat), .int .u8 (k : Nat), .int .i64 (a : Nat), .int .i64 (c : Nat)])) :
    RdP w0 (w2.setCell ⟨b, 85, none⟩ v') b V line E p v' (es ++ [⟨o, k, a, c⟩]) := h.apps (fs := [⟨o, k, a, c⟩]) hu hgrow hown
/-- A method that returned, and how the reader stands. -/
def DoneP (w0 : World) (b : Nat) (V : SV) (line : ByteArray) (E p : Nat) (es : List LEv) (e : Ending) (w' : World) : Prop := e = .returned (.tuple #[]) ∧ ∃ v, RdP w0 w' b V line E p v es
/-- A method that answers a Bool. -/
def SaidP (w0 : World) (b : Nat) (T : Bool) (V : SV) (line : ByteArray) (E p : Nat) (es : List LEv) (e : Ending) (w' : World) : Prop := e = .returned (.bool T) ∧ ∃ v, RdP w0 w' b V line E p v es
end Go.Proofs.YtmfcapbllbfjnaaGreatDoor

namespace Go.Proofs.YtmfcapbllbfjnaaGreatDoor
open Go.RowKit

set_option maxRecDepth 100000 in
set_option maxHeartbeats 4000000 in
theorem ev_leaf (w0 W : World) (b E p : Nat) (V : SV) (line : ByteArray) (v : Value) (es : List LEv) (k a c : Nat) (hr : RdP w0 W b V line E p v es) (hl : es.length ≤ 1000000) :
    Calls Tryz.prog 24 #[.pointer (some ⟨b, 0, none⟩), .int .u8 (k : Nat), .int .i64 (a : Nat), .int .i64 (c : Nat)] W (DoneP w0 b V line E p (es ++ [⟨3, k, a, c⟩])) := by
  obtain ⟨A, c0, hv⟩ := own_slice hr.row
  obtain ⟨n, hn⟩ : ∃ n, es.length = n := ⟨_, rfl⟩
  rw [hn] at hv
  subst hv
  obtain ⟨i0, hi0, hz0, hz1, hz2⟩ := info_parts infoEvent
  have s1 := hr.ev
  have s2 := hr.fr 85
  have HOWN : W.ownsRow w0.heap.size ET 4 (.slice A n c0) n (levCells es) := by have h := hr.row; unfold RowL at h; rwa [hn] at h
  have hb0 := Below.size hr.up
  have b1 : n + 1 ≤ maxLen := by unfold maxLen; omega
  have b2 : (n + 1) * 24 ≤ 140737488355328 := by omega
  have HN := Lib.hid hn
  have HR := Lib.hid hr
  have hnews : ∀ u ∈ [Value.int .u8 3, .int .u8 (k : Nat), .int .i64 (a : Nat), .int .i64 (c : Nat)], u.oneCell' = true := by intro u hu; simp at hu; rcases hu with rfl | rfl | rfl | rfl <;> rfl
  have HB5 := Lib.hid (fun (w5 : World) (o : Obj) (hg : (W.alloc o).grownBy w5 (Value.slice A n c0).ownBlock) => hr.mid (Up.alloc W o) hg)
  have HAP := Lib.hid (fun (w5 : World) (v5 : Value) (o : Obj) (hg : (W.alloc o).grownBy w5 (Value.slice A n c0).ownBlock) (ho : w5.ownsRow w0.heap.size ET 4 v5 (es.length + 1) (levCells es ++ [.int .u8 ((3 : Nat) : Int), .int .u8 (k : Nat), .int .i64 (a : Nat), .int .i64 (c : Nat)])) => hr.app (k := k) (a := a) (c := c) (o := 3) (Up.alloc W o) hg ho)
  clear hr hl hn
  go_enter Tryz.func24, Tryz.ntmps24
  go_wp2_with (at_builtin; (refine wpList_append_lies _ rfl _ _ _ rfl w0.heap.size ET i0 (.agg #[.int .u8 0, .int .u8 0, .int .i64 0, .int .i64 0]) 4 24 Tryz.underlying30 hi0 hz0 hz1 hz2 rfl (by decide) _ n (levCells es) rfl (HOWN.alloc _) ⟨W.heap.size, 0, none⟩ 1 1 [Value.int .u8 3, .int .u8 (k : Nat), .int .i64 (a : Nat), .int .i64 (c : Nat)] rfl rfl (World.news_of_block (cs := #[Value.int .u8 3, .int .u8 (k : Nat), .int .i64 (a : Nat), .int .i64 (c : Nat)]) (t := ET) (fr := (0, 0)) (heap_alloc_new W _)) hnews (by omega) b1 b2 (by rw [World.size_alloc]; omega) (W.heap.size + 1) (by simp) ?_; intro g5 cap5 w5 hown5 hgrow hat5 hlt5; have hB5 := HB5.out _ _ hgrow; have z5 : w5.frozen? ⟨b, 85, none⟩ = false := frozenOf hB5; have c5 : w5.cell? ⟨b, 85, none⟩ = some (.slice A n c0) := cellOf hB5 rfl; have HF := Lib.hid (HAP.out _ _ _ hgrow (by rw [HN.out]; exact hown5)); clear hown5 hgrow hat5 hlt5 hB5))
  go_end0
  exact ⟨rfl, _, HF.out⟩
set_option maxRecDepth 100000 in
set_option maxHeartbeats 4000000 in
theorem ev_open (w0 W : World) (b E p : Nat) (V : SV) (line : ByteArray) (v : Value) (es : List LEv) (k a : Nat) (hr : RdP w0 W b V line E p v es) (hl : es.length ≤ 1000000) :
    Calls Tryz.prog 26 #[.pointer (some ⟨b, 0, none⟩), .int .u8 (k : Nat), .int .i64 (a : Nat)] W (DoneP w0 b V line E p (es ++ [⟨1, k, a, 0⟩])) := by
  obtain ⟨A, c0, hv⟩ := own_slice hr.row
  obtain ⟨n, hn⟩ : ∃ n, es.length = n := ⟨_, rfl⟩
  rw [hn] at hv
  subst hv
  obtain ⟨i0, hi0, hz0, hz1, hz2⟩ := info_parts infoEvent
  have s1 := hr.ev
  have s2 := hr.fr 85
  have HOWN : W.ownsRow w0.heap.size ET 4 (.slice A n c0) n (levCells es) := by have h := hr.row; unfold RowL at h; rwa [hn] at h
  have hb0 := Below.size hr.up
  have b1 : n + 1 ≤ maxLen := by unfold maxLen; omega
  have b2 : (n + 1) * 24 ≤ 140737488355328 := by omega
  have HN := Lib.hid hn
  have HR := Lib.hid hr
  have hnews : ∀ u ∈ [Value.int .u8 1, .int .u8 (k : Nat), .int .i64 (a : Nat), .int .i64 0], u.oneCell' = true := by intro u hu; simp at hu; rcases hu with rfl | rfl | rfl | rfl <;> rfl
  have HB5 := Lib.hid (fun (w5 : World) (o : Obj) (hg : (W.alloc o).grownBy w5 (Value.slice A n c0).ownBlock) => hr.mid (Up.alloc W o) hg)
  have HAP := Lib.hid (fun (w5 : World) (v5 : Value) (o : Obj) (hg : (W.alloc o).grownBy w5 (Value.slice A n c0).ownBlock) (ho : w5.ownsRow w0.heap.size ET 4 v5 (es.length + 1) (levCells es ++ [.int .u8 ((1 : Nat) : Int), .int .u8 (k : Nat), .int .i64 (a : Nat), .int .i64 ((0 : Nat) : Int)])) => hr.app (k := k) (a := a) (c := 0) (o := 1) (Up.alloc W o) hg ho)
  clear hr hl hn
  go_enter Tryz.func26, Tryz.ntmps26
  go_wp2_with (at_builtin; (refine wpList_append_lies _ rfl _ _ _ rfl w0.heap.size ET i0 (.agg #[.int .u8 0, .int .u8 0, .int .i64 0, .int .i64 0]) 4 24 Tryz.underlying30 hi0 hz0 hz1 hz2 rfl (by decide) _ n (levCells es) rfl (HOWN.alloc _) ⟨W.heap.size, 0, none⟩ 1 1 [Value.int .u8 1, .int .u8 (k : Nat), .int .i64 (a : Nat), .int .i64 0] rfl rfl (World.news_of_block (cs := #[Value.int .u8 1, .int .u8 (k : Nat), .int .i64 (a : Nat), .int .i64 0]) (t := ET) (fr := (0, 0)) (heap_alloc_new W _)) hnews (by omega) b1 b2 (by rw [World.size_alloc]; omega) (W.heap.size + 1) (by simp) ?_; intro g5 cap5 w5 hown5 hgrow hat5 hlt5; have hB5 := HB5.out _ _ hgrow; have z5 : w5.frozen? ⟨b, 85, none⟩ = false := frozenOf hB5; have c5 : w5.cell? ⟨b, 85, none⟩ = some (.slice A n c0) := cellOf hB5 rfl; have HF := Lib.hid (HAP.out _ _ _ hgrow (by rw [HN.out]; exact hown5)); clear hown5 hgrow hat5 hlt5 hB5))
  go_end0
  exact ⟨rfl, _, HF.out⟩
set_option maxRecDepth 100000 in
set_option maxHeartbeats 4000000 in
theorem ev_close (w0 W : World) (b E p : Nat) (V : SV) (line : ByteArray) (v : Value) (es : List LEv) (k a : Nat) (hr : RdP w0 W b V line E p v es) (hl : es.length ≤ 1000000) :
    Calls Tryz.prog 56 #[.pointer (some ⟨b, 0, none⟩), .int .u8 (k : Nat), .int .i64 (a : Nat)] W (DoneP w0 b V line E p (es ++ [⟨2, k, a, 0⟩])) := by
  obtain ⟨A, c0, hv⟩ := own_slice hr.row
  obtain ⟨n, hn⟩ : ∃ n, es.length = n := ⟨_, rfl⟩
  rw [hn] at hv
  subst hv
  obtain ⟨i0, hi0, hz0, hz1, hz2⟩ := info_parts infoEvent
  have s1 := hr.ev
  have s2 := hr.fr 85
  have HOWN : W.ownsRow w0.heap.size ET 4 (.slice A n c0) n (levCells es) := by have h := hr.row; unfold RowL at h; rwa [hn] at h
  have hb0 := Below.size hr.up
  have b1 : n + 1 ≤ maxLen := by unfold maxLen; omega
  have b2 : (n + 1) * 24 ≤ 140737488355328 := by omega
  have HN := Lib.hid hn
  have HR := Lib.hid hr
  have hnews : ∀ u ∈ [Value.int .u8 2, .int .u8 (k : Nat), .int .i64 (a : Nat), .int .i64 0], u.oneCell' = true := by intro u hu; simp at hu; rcases hu with rfl | rfl | rfl | rfl <;> rfl
  have HB5 := Lib.hid (fun (w5 : World) (o : Obj) (hg : (W.alloc o).grownBy w5 (Value.slice A n c0).ownBlock) => hr.mid (Up.alloc W o) hg)
  have HAP := Lib.hid (fun (w5 : World) (v5 : Value) (o : Obj) (hg : (W.alloc o).grownBy w5 (Value.slice A n c0).ownBlock) (ho : w5.ownsRow w0.heap.size ET 4 v5 (es.length + 1) (levCells es ++ [.int .u8 ((2 : Nat) : Int), .int .u8 (k : Nat), .int .i64 (a : Nat), .int .i64 ((0 : Nat) : Int)])) => hr.app (k := k) (a := a) (c := 0) (o := 2) (Up.alloc W o) hg ho)
  clear hr hl hn
  go_enter Tryz.func56, Tryz.ntmps56
  go_wp2_with (at_builtin; (refine wpList_append_lies _ rfl _ _ _ rfl w0.heap.size ET i0 (.agg #[.int .u8 0, .int .u8 0, .int .i64 0, .int .i64 0]) 4 24 Tryz.underlying30 hi0 hz0 hz1 hz2 rfl (by decide) _ n (levCells es) rfl (HOWN.alloc _) ⟨W.heap.size, 0, none⟩ 1 1 [Value.int .u8 2, .int .u8 (k : Nat), .int .i64 (a : Nat), .int .i64 0] rfl rfl (World.news_of_block (cs := #[Value.int .u8 2, .int .u8 (k : Nat), .int .i64 (a : Nat), .int .i64 0]) (t := ET) (fr := (0, 0)) (heap_alloc_new W _)) hnews (by omega) b1 b2 (by rw [World.size_alloc]; omega) (W.heap.size + 1) (by simp) ?_; intro g5 cap5 w5 hown5 hgrow hat5 hlt5; have hB5 := HB5.out _ _ hgrow; have z5 : w5.frozen? ⟨b, 85, none⟩ = false := frozenOf hB5; have c5 : w5.cell? ⟨b, 85, none⟩ = some (.slice A n c0) := cellOf hB5 rfl; have HF := Lib.hid (HAP.out _ _ _ hgrow (by rw [HN.out]; exact hown5)); clear hown5 hgrow hat5 hlt5 hB5))
  go_end0
  exact ⟨rfl, _, HF.out⟩
end Go.Proofs.YtmfcapbllbfjnaaGreatDoor

namespace Go.Proofs.YtmfcapbllbfjnaaGreatDoor
open Go.RowKit

set_option maxRecDepth 100000 in
set_option maxHeartbeats 4000000 in
theorem column_any (w0 W : World) (b E p : Nat) (s : LSt) (line : ByteArray) (v : Value) (es : List LEv) (hr : RdP w0 W b (svP s) line E p v es) (hl : s.cols.length ≤ 16) :
    Calls Tryz.prog 43 #[.pointer (some ⟨b, 0, none⟩)] W fun e w' => e = .returned (.int .i64 (opnC s.cols : Nat)) ∧ Up W w' := by
  have hd : W.cell? ⟨b, 64, none⟩ = some (.int .i64 (s.cols.length : Nat)) := hr.depth
  cases hn : s.cols.length with
  | zero =>
    have e : opnC s.cols = 0 := by rw [List.eq_nil_of_length_eq_zero hn]; rfl
    rw [e]
    rw [hn] at hd
    clear hn hl hr e
    go_enter Tryz.func43, Tryz.ntmps43
    go_wp2
    go_ret
    exact ⟨rfl, Up.refl _⟩
  | succ k =>
    have hk : k < s.cols.length := by omega
    have hf : W.cell? ⟨b, k * 4 + 3, none⟩ = some (.int .i64 ((opnC s.cols : Nat) : Int)) := by
      have h1 := hr.cell (rdC_fr (svP s) line E p v (j := k * 4 + 3) (by omega))
      unfold frV at h1
      rw [if_pos (by omega), show (k * 4 + 3) / 4 = k from by omega] at h1
      rw [h1]
      have e : opnC s.cols = s.cols.getD k 0 := by
        unfold opnC
        rw [List.getLast?_eq_getElem?, hn, List.getD_eq_getElem?_getD]
        rfl
      rw [e]
      rfl
    rw [hn] at hd
    generalize opnC s.cols = c at hf ⊢
    have p0 : (0 : Int) ≤ k := by omega
    have p1 : (k : Int) < 16 := by omega
    have e1 : IntKind.i64.wrap (((k + 1 : Nat) : Int) - 1) = (k : Nat) := (IntWalk.i64_in _ (by omega)).trans (by omega)
    have z : (((k + 1 : Nat) : Int) == 0) = false := beq_eq_false_iff_ne.2 (by omega)
    clear hn hl hr hk
    go_enter Tryz.func43, Tryz.ntmps43
    go_wp2
    go_quiet (fail)
    go_wp2
    go_ret
    exact ⟨rfl, Up.drewN _ _⟩
theorem rdC_setfr (V V' : SV) (line : ByteArray) (E p : Nat) (v u : Value) {j : Nat} (hj : j < 64) (h : ∀ i, i < 64 → frV V'.u V'.c i = if i = j then u else frV V.u V.c i) (ht : tlV V'.d V'.mo V'.ma V'.fl V'.co V'.S V'.P V'.Q V'.wa = tlV V.d V.mo V.ma V.fl V.co V.S V.P V.Q V.wa) : (rdC V line E p v).set j u = rdC V' line E p v := by
  unfold rdC svL
  rw [List.append_assoc, List.set_append_left _ _ (by simp; exact hj), ht, List.append_assoc]
  congr 1
  apply List.ext_getElem?
  intro i
  rw [List.getElem?_set]
  by_cases hi : i < 64
  · have h1 := h i hi
    by_cases e : j = i
    · subst e
      rw [if_pos rfl] at h1
      simp [hj, h1]
    · rw [if_neg (fun k => e k.symm)] at h1
      simp [e, hi, h1]
  · simp [hi]
    omega
theorem RdP.congr {w0 W : World} {b E p : Nat} {line : ByteArray} {v : Value} {es : List LEv} {V V' : SV} (h : RdP w0 W b V line E p v es) (e : svL V = svL V') : RdP w0 W b V' line E p v es := by
  refine ⟨?_, h.row, h.lo, h.up⟩
  rw [h.box]
  unfold rdC
  rw [e]
def setFr (V : SV) (i k : Nat) (c : Int) : SV := { V with u := fun j => if j / 4 = i then (if j % 4 = 0 then k else 0) else V.u j, c := fun q => if q = i then c else V.c q }
theorem RdP.frame {w0 W : World} {b E p : Nat} {line : ByteArray} {v : Value} {es : List LEv} {V : SV} (h : RdP w0 W b V line E p v es) {i : Nat} (hi : i < 16) (k : Nat) (c : Int) :
    RdP w0 ((((W.setCell ⟨b, i * 4, none⟩ (.int .u8 (k : Nat))).setCell ⟨b, i * 4 + 1, none⟩ (.int .u8 0)).setCell ⟨b, i * 4 + 2, none⟩ (.int .u8 0)).setCell ⟨b, i * 4 + 3, none⟩ (.int .i64 c)) b (setFr V i k c) line E p v es := by
  have h1 := h.set (k := i * 4) (u := .int .u8 (k : Nat)) (p' := p) (V' := { V with u := fun j => if j = i * 4 then k else V.u j }) (rdC_setfr _ _ _ _ _ _ _ (by omega) (fun j hj => by
    unfold frV
    by_cases e : j = i * 4
    · rw [if_pos e, if_neg (by omega)]; simp [e]
    · rw [if_neg e]; simp [e]) rfl)
  have h2 := h1.set (k := i * 4 + 1) (u := .int .u8 0) (p' := p) (V' := { V with u := fun j => if j = i * 4 + 1 then 0 else if j = i * 4 then k else V.u j }) (rdC_setfr _ _ _ _ _ _ _ (by omega) (fun j hj => by
    unfold frV
    by_cases e : j = i * 4 + 1
    · rw [if_pos e, if_neg (by omega)]; simp [e]
    · rw [if_neg e]; simp [e]) rfl)
  have h3 := h2.set (k := i * 4 + 2) (u := .int .u8 0) (p' := p) (V' := { V with u := fun j => if j = i * 4 + 2 then 0 else if j = i * 4 + 1 then 0 else if j = i * 4 then k else V.u j }) (rdC_setfr _ _ _ _ _ _ _ (by omega) (fun j hj => by
    unfold frV
    by_cases e : j = i * 4 + 2
    · rw [if_pos e, if_neg (by omega)]; simp [e]
    · rw [if_neg e]; simp [e]) rfl)
  refine h3.set (k := i * 4 + 3) (u := .int .i64 c) (p' := p) (rdC_setfr _ _ _ _ _ _ _ (by omega) (fun j hj => ?_) rfl)
  unfold frV setFr
  by_cases e : j = i * 4 + 3
  · rw [if_pos e, if_pos (by omega)]
    dsimp only
    rw [if_pos (by omega)]
  · rw [if_neg e]
    by_cases h4 : j % 4 = 3
    · rw [if_pos h4, if_pos h4]
      dsimp only
      rw [if_neg (by omega)]
    · rw [if_neg h4, if_neg h4]
      dsimp only
      congr 2
      by_cases hq : j / 4 = i
      · rw [if_pos hq]
        by_cases h0 : j % 4 = 0
        · rw [if_pos h0, if_neg (by omega), if_neg (by omega), if_pos (by omega)]
        · rw [if_neg h0]
          by_cases h2' : j = i * 4 + 2
          · rw [if_pos h2']
          · rw [if_neg h2', if_pos (by omega)]
      · rw [if_neg hq, if_neg (by omega), if_neg (by omega), if_neg (by omega)]
def pushS (s : LSt) (c : Nat) : LSt := { s with cols := s.cols ++ [c] }
set_option maxRecDepth 100000 in
set_option maxHeartbeats 4000000 in
theorem openBlock_any (w0 W : World) (b E p col : Nat) (s : LSt) (line : ByteArray) (v : Value) (es : List LEv) (hr : RdP w0 W b (svP s) line E p v es) (hl : es.length ≤ 1000000) (hc : s.cols.length < 16) :
    Calls Tryz.prog 44 #[.pointer (some ⟨b, 0, none⟩), .int .i64 (col : Nat)] W (DoneP w0 b (svP (pushS s col)) line E p (es ++ [evO 10 0])) := by
  have HO := Lib.hid (ev_open w0 W b E p (svP s) line v es 10 0 hr hl)
  obtain ⟨n, hn⟩ : ∃ n, s.cols.length = n := ⟨_, rfl⟩
  have HN := Lib.hid hn
  have p0 : (0 : Int) ≤ n := by omega
  have p1N : n < 16 := by omega
  have p1 : (n : Int) < 16 := by omega
  have e1 : IntKind.i64.wrap ((n : Int) + 1) = ((n + 1 : Nat) : Int) := (IntWalk.i64_in _ (by omega)).trans (by omega)
  rw [show ((10 : Nat) : Int) = 10 from rfl, show ((0 : Nat) : Int) = 0 from rfl] at HO
  clear hr hl hn hc
  go_enter Tryz.func44, Tryz.ntmps44
  go_upto_region 1 with (go_at_call 26; ((with_reducible refine (HO.out).mono ?_); rintro e w1 ⟨rfl, v1, hr⟩; have HR := Lib.hid hr; clear hr))
  have hd : w1.cell? ⟨b, 64, none⟩ = some (.int .i64 (n : Nat)) := by have := HR.out.depth; rw [← HN.out]; exact this
  have f0 := HR.out.fr (n * 4)
  have f1 := HR.out.fr (n * 4 + 1)
  have f2 := HR.out.fr (n * 4 + 2)
  have f3 := HR.out.fr (n * 4 + 3)
  have c0 := HR.out.cell (rdC_fr (svP s) line E p v1 (j := n * 4) (by omega))
  have c1 := HR.out.cell (rdC_fr (svP s) line E p v1 (j := n * 4 + 1) (by omega))
  have c2 := HR.out.cell (rdC_fr (svP s) line E p v1 (j := n * 4 + 2) (by omega))
  have c3 := HR.out.cell (rdC_fr (svP s) line E p v1 (j := n * 4 + 3) (by omega))
  go_region
  have hr5 := HR.out.frame p1N 10 (col : Int)
  rw [show ((10 : Nat) : Int) = 10 from rfl] at hr5
  obtain ⟨w5, hw5⟩ : ∃ w5, (((w1.setCell ⟨b, n * 4, none⟩ (.int .u8 10)).setCell ⟨b, n * 4 + 1, none⟩ (.int .u8 0)).setCell ⟨b, n * 4 + 2, none⟩ (.int .u8 0)).setCell ⟨b, n * 4 + 3, none⟩ (.int .i64 (col : Int)) = w5 := ⟨_, rfl⟩
  rw [hw5] at hr5 ⊢
  clear hw5 c0 c1 c2 c3 f0 f1 f2 f3 hd HR HO
  have hd : w5.cell? ⟨b, 64, none⟩ = some (.int .i64 (n : Nat)) := by have := hr5.depth; rw [← HN.out]; exact this
  have f0 := hr5.fr 64
  have HF := Lib.hid ((hr5.more (Up.drew _)).setD ((n + 1 : Nat) : Int))
  clear hr5
  go_wp2
  go_end0
  refine ⟨rfl, _, HF.out.congr ?_⟩
  refine svL_ext (fun j hj h4 => ?_) (fun i hi => ?_) ?_
  · show (if j / 4 = n then (if j % 4 = 0 then 10 else 0) else if j / 4 < s.cols.length ∧ j % 4 = 0 then 10 else 0) = if j / 4 < (s.cols ++ [col]).length ∧ j % 4 = 0 then 10 else 0
    have hn := HN.out
    rw [List.length_append, List.length_singleton, hn]
    by_cases h0 : j % 4 = 0
    · by_cases h1 : j / 4 = n
      · rw [if_pos h1, if_pos h0, if_pos ⟨by omega, h0⟩]
      · rw [if_neg h1]
        by_cases h2 : j / 4 < n
        · rw [if_pos ⟨h2, h0⟩, if_pos ⟨by omega, h0⟩]
        · rw [if_neg (by omega), if_neg (by omega)]
    · simp [h0]
  · show (if i = n then (col : Int) else ((s.cols.getD i 0 : Nat) : Int)) = (((s.cols ++ [col]).getD i 0 : Nat) : Int)
    have hn := HN.out
    simp only [List.getD_eq_getElem?_getD]
    by_cases h1 : i = n
    · rw [if_pos h1, h1, List.getElem?_append_right (by omega), hn]
      simp
    · rw [if_neg h1]
      by_cases h2 : i < n
      · rw [List.getElem?_append_left (by omega)]
      · rw [List.getElem?_eq_none (by omega), List.getElem?_eq_none (by rw [List.length_append, List.length_singleton]; omega)]
  · show tlV ((n + 1 : Nat) : Int) s.mode s.mark s.flags (s.count : Nat) _ _ _ 0 = tlV (((s.cols ++ [col]).length : Nat) : Int) s.mode s.mark s.flags (s.count : Nat) _ _ _ 0
    rw [List.length_append, List.length_singleton, HN.out]
    rfl
/-- The last frame gone. -/
def popS (s : LSt) : LSt := { s with cols := s.cols.take (s.cols.length - 1) }
set_option maxRecDepth 100000 in
set_option maxHeartbeats 4000000 in
theorem closeBlock_any (w0 W : World) (b E p : Nat) (s : LSt) (line : ByteArray) (v : Value) (es : List LEv) (hr : RdP w0 W b (svP s) line E p v es) (hl : es.length ≤ 1000000) (hc : s.cols.length ≤ 16) (hc0 : 0 < s.cols.length) :
    Calls Tryz.prog 45 #[.pointer (some ⟨b, 0, none⟩)] W (DoneP w0 b (svP (popS s)) line E p (es ++ [evC 0 0])) := by
  have HO := Lib.hid (ev_close w0 W b E p (svP s) line v es 0 0 hr hl)
  obtain ⟨n, hn⟩ : ∃ n, s.cols.length = n + 1 := ⟨s.cols.length - 1, by omega⟩
  have HN := Lib.hid hn
  have p0 : (0 : Int) ≤ n := by omega
  have p1N : n < 16 := by omega
  have p1 : (n : Int) < 16 := by omega
  have e1 : IntKind.i64.wrap (((n + 1 : Nat) : Int) - 1) = (n : Int) := (IntWalk.i64_in _ (by omega)).trans (by omega)
  rw [show ((0 : Nat) : Int) = 0 from rfl] at HO
  clear hr hl hn hc hc0
  go_enter Tryz.func45, Tryz.ntmps45
  go_upto_region 1 with (go_at_call 56; ((with_reducible refine (HO.out).mono ?_); rintro e w1 ⟨rfl, v1, hr⟩; have HR := Lib.hid hr; clear hr))
  have hd : w1.cell? ⟨b, 64, none⟩ = some (.int .i64 ((n + 1 : Nat) : Int)) := by have := HR.out.depth; rw [← HN.out]; exact this
  have fd := HR.out.fr 64
  have HR2 := Lib.hid (HR.out.setD (n : Int))
  go_upto_region 2 with fail
  generalize hw2 : World.setCell w1 _ _ = w2
  rw [hw2] at HR2
  clear hw2 hd fd
  have hd : w2.cell? ⟨b, 64, none⟩ = some (.int .i64 (n : Int)) := HR2.out.depth
  have f0 := HR2.out.fr (n * 4)
  have f1 := HR2.out.fr (n * 4 + 1)
  have f2 := HR2.out.fr (n * 4 + 2)
  have f3 := HR2.out.fr (n * 4 + 3)
  have c0 := HR2.out.cell (rdC_fr _ line E p v1 (j := n * 4) (by omega))
  have c1 := HR2.out.cell (rdC_fr _ line E p v1 (j := n * 4 + 1) (by omega))
  have c2 := HR2.out.cell (rdC_fr _ line E p v1 (j := n * 4 + 2) (by omega))
  have c3 := HR2.out.cell (rdC_fr _ line E p v1 (j := n * 4 + 3) (by omega))
  go_region
  have hr5 := Lib.hid (HR2.out.frame p1N 0 0)
  clear c0 c1 c2 c3 f0 f1 f2 f3 hd HR2 HR HO
  go_wp2
  go_end0
  refine ⟨rfl, _, (hr5.out.more (Up.drew _)).congr ?_⟩
  have hn := HN.out
  refine svL_ext (fun j hj h4 => ?_) (fun i hi => ?_) ?_
  · show (if j / 4 = n then (if j % 4 = 0 then 0 else 0) else if j / 4 < s.cols.length ∧ j % 4 = 0 then 10 else 0) = if j / 4 < (s.cols.take (s.cols.length - 1)).length ∧ j % 4 = 0 then 10 else 0
    rw [List.length_take, hn]
    by_cases h0 : j % 4 = 0
    · by_cases h1 : j / 4 = n
      · rw [if_pos h1, if_pos h0, if_neg (by omega)]
      · rw [if_neg h1]
        by_cases h2 : j / 4 < n
        · rw [if_pos ⟨by omega, h0⟩, if_pos ⟨by omega, h0⟩]
        · rw [if_neg (by omega), if_neg (by omega)]
    · simp [h0]
  · show (if i = n then (0 : Int) else ((s.cols.getD i 0 : Nat) : Int)) = (((s.cols.take (s.cols.length - 1)).getD i 0 : Nat) : Int)
    simp only [List.getD_eq_getElem?_getD]
    rw [hn, Nat.add_sub_cancel]
    by_cases h1 : i < n
    · rw [if_neg (by omega), List.getElem?_take_of_lt h1]
    · rw [List.getElem?_eq_none (l := s.cols.take n) (by rw [List.length_take]; omega)]
      by_cases h2 : i = n
      · rw [if_pos h2]; rfl
      · rw [if_neg h2, List.getElem?_eq_none (by omega)]
  · show tlV (n : Int) s.mode s.mark s.flags (s.count : Nat) _ _ _ 0 = tlV (((s.cols.take (s.cols.length - 1)).length : Nat) : Int) s.mode s.mark s.flags (s.count : Nat) _ _ _ 0
    rw [List.length_take, hn, show min (n + 1 - 1) (n + 1) = n from by omega]
    rfl
end Go.Proofs.YtmfcapbllbfjnaaGreatDoor

namespace Go.Proofs.YtmfcapbllbfjnaaGreatDoor
open Go.RowKit

def withC (s : LSt) (cols : List Nat) : LSt := { s with cols := cols }
theorem withC_self (s : LSt) : withC s s.cols = s := rfl
theorem pop_take {s : LSt} {k : Nat} (h : k ≤ s.cols.length) (h0 : 0 < k) : popS (withC s (s.cols.take k)) = withC s (s.cols.take (k - 1)) := by
  unfold popS withC
  dsimp only
  rw [List.length_take, Nat.min_eq_left h, List.take_take, Nat.min_eq_left (by omega)]
set_option maxRecDepth 100000 in
set_option maxHeartbeats 4000000 in
/-- A line whose column is above the one that is open. -/
theorem settle_up (w0 W : World) (b E p col : Nat) (s : LSt) (line : ByteArray) (v : Value) (es : List LEv) (hr : RdP w0 W b (svP s) line E p v es) (hl : es.length ≤ 1000000) (hs : LOk s) (hup : opnC s.cols < col) (hm : s.flags ≤ 1) :
    Calls Tryz.prog 25 #[.pointer (some ⟨b, 0, none⟩), .int .i64 (col : Nat)] W
      (SaidP w0 b (decide (s.flags = 1 ∧ s.cols.length < 16)) (svP (withC s (if s.flags = 1 ∧ s.cols.length < 16 then s.cols ++ [col] else s.cols))) line E p (es ++ if s.flags = 1 ∧ s.cols.length < 16 then [evO 10 0] else [])) := by
  have hlen := hs.len
  have HC := Lib.hid (fun W' (h : RdP w0 W' b (svP s) line E p v es) => column_any w0 W' b E p s line v es h hlen)
  have HB := Lib.hid (fun W' v' (h : RdP w0 W' b (svP s) line E p v' es) (hc : s.cols.length < 16) => openBlock_any w0 W' b E p col s line v' es h hl hc)
  have HR := Lib.hid hr
  have cf : W.cell? ⟨b, 67, none⟩ = some (.int .u8 (s.flags : Nat)) := hr.flags
  have hgt : ((opnC s.cols : Nat) : Int) < (col : Int) := by omega
  generalize opnC s.cols = oc at HC hgt hup
  obtain ⟨n, hn⟩ : ∃ n, s.cols.length = n := ⟨_, rfl⟩
  have HN := Lib.hid hn
  rw [hn] at hlen
  have hn0 : (0 : Int) ≤ n := by omega
  by_cases hf : s.flags = 1
  · by_cases hlt : n < 16
    · rw [hn, if_pos ⟨hf, hlt⟩, if_pos ⟨hf, hlt⟩, decide_eq_true (show s.flags = 1 ∧ n < 16 from ⟨hf, hlt⟩)]
      rw [hf, show ((1 : Nat) : Int) = 1 from rfl] at cf
      have g0 : ((n : Int) == 16) = false := beq_eq_false_iff_ne.2 (by omega)
      have HLT := Lib.hid hlt
      clear hr hl hs hup hm hn hf hlt hlen
      go_enter Tryz.func25, Tryz.ntmps25
      go_wp2_with (first
        | (go_at_call 43; ((with_reducible refine (HC.out _ HR.out).mono ?_); rintro e w1 ⟨rfl, hu⟩; have HR1 := Lib.hid (HR.out.more hu); have cd : w1.cell? ⟨b, 64, none⟩ = some (.int .i64 (n : Nat)) := (by have := HR1.out.depth; rw [← HN.out]; exact this); clear hu))
        | (go_at_call 44; ((with_reducible refine (HB.out _ _ HR1.out (by rw [HN.out]; exact HLT.out)).mono ?_); rintro e w2 ⟨rfl, v2, h2⟩; have HF := Lib.hid h2; clear h2)))
      go_ret
      exact ⟨rfl, _, HF.out⟩
    · have h16 : n = 16 := by omega
      rw [hn, if_neg (fun h => hlt h.2), if_neg (fun h => hlt h.2), decide_eq_false (show ¬ (s.flags = 1 ∧ n < 16) from fun h => hlt h.2), List.append_nil]
      rw [hf, show ((1 : Nat) : Int) = 1 from rfl] at cf
      subst h16
      clear hr hl hs hup hm hn hf hlt hlen
      go_enter Tryz.func25, Tryz.ntmps25
      go_wp2_with (first
        | (go_at_call 43; ((with_reducible refine (HC.out _ HR.out).mono ?_); rintro e w1 ⟨rfl, hu⟩; have HR1 := Lib.hid (HR.out.more hu); have cd : w1.cell? ⟨b, 64, none⟩ = some (.int .i64 16) := (by have := HR1.out.depth; have e := HN.out; change w1.cell? _ = some (.int .i64 ((s.cols.length : Nat) : Int)) at this; rw [e] at this; exact this); clear hu)))
      go_ret
      exact ⟨rfl, _, HR1.out⟩
  · have hf0 : s.flags = 0 := by omega
    rw [if_neg (fun h => hf h.1), if_neg (fun h => hf h.1), decide_eq_false (show ¬ (s.flags = 1 ∧ s.cols.length < 16) from fun h => hf h.1), List.append_nil]
    rw [hf0, show ((0 : Nat) : Int) = 0 from rfl] at cf
    clear hr hl hs hup hm hn hf hlen hf0
    go_enter Tryz.func25, Tryz.ntmps25
    go_wp2_with (first
      | (go_at_call 43; ((with_reducible refine (HC.out _ HR.out).mono ?_); rintro e w1 ⟨rfl, hu⟩; have HR1 := Lib.hid (HR.out.more hu); clear hu)))
    go_ret
    exact ⟨rfl, _, HR1.out⟩
set_option maxRecDepth 100000 in
set_option maxHeartbeats 4000000 in
/-- A line whose column is not above the one that is open. -/
theorem settle_down (w0 W : World) (b E p col : Nat) (s : LSt) (line : ByteArray) (v : Value) (es : List LEv) (hr : RdP w0 W b (svP s) line E p v es) (hl : es.length ≤ 999900) (hs : LOk s) (hup : ¬ opnC s.cols < col) :
    Calls Tryz.prog 25 #[.pointer (some ⟨b, 0, none⟩), .int .i64 (col : Nat)] W
      (SaidP w0 b (decide (¬ (s.flags = 1 ∨ opnC (keptC col s.cols) ≠ col))) (svP (withC s (keptC col s.cols))) line E p (es ++ List.replicate (s.cols.length - (keptC col s.cols).length) (evC 0 0))) := by
  have hlen := hs.len
  have HUPC := Lib.hid hs.up
  have HC := Lib.hid (fun W' v' k (h : RdP w0 W' b (svP (withC s (s.cols.take k))) line E p v' (es ++ List.replicate (s.cols.length - k) (evC 0 0))) => column_any w0 W' b E p (withC s (s.cols.take k)) line v' _ h (by show (s.cols.take k).length ≤ 16; rw [List.length_take]; omega))
  have HB := Lib.hid (fun W' v' k (h : RdP w0 W' b (svP (withC s (s.cols.take k))) line E p v' (es ++ List.replicate (s.cols.length - k) (evC 0 0))) (h0 : 0 < k) (hk : k ≤ s.cols.length) => closeBlock_any w0 W' b E p (withC s (s.cols.take k)) line v' _ h (by rw [List.length_append, List.length_replicate]; omega) (by show (s.cols.take k).length ≤ 16; rw [List.length_take]; omega) (by show 0 < (s.cols.take k).length; rw [List.length_take]; omega))
  have hr0 : RdP w0 W b (svP (withC s (s.cols.take s.cols.length))) line E p v (es ++ List.replicate (s.cols.length - s.cols.length) (evC 0 0)) := by
    rw [List.take_length, Nat.sub_self, List.replicate_zero, List.append_nil]
    exact hr
  have HR := Lib.hid hr0
  have cf : W.cell? ⟨b, 67, none⟩ = some (.int .u8 (s.flags : Nat)) := hr.flags
  obtain ⟨F, hF⟩ : ∃ F : Bool, ((s.flags : Int) == 1) = F := ⟨_, rfl⟩
  have HC0 := Lib.hid (column_any w0 W b E p s line v es hr hlen)
  generalize opnC s.cols = oc0 at HC0 hup
  have hgt : decide (oc0 < col) = false := decide_eq_false hup
  have HFF := Lib.hid hF
  have HLE := Lib.hid hlen
  clear hr hr0 hl hs hup hlen
  go_enter Tryz.func25, Tryz.ntmps25
  go_wp2_with (first
    | (go_at_call 43; ((with_reducible refine (HC0.out).mono ?_); rintro e w1 ⟨rfl, hu⟩; have HR1 := Lib.hid (HR.out.more hu); clear hu)))
  clear hgt hF cf HR HC0
  go_loopg [30] s.cols.length (fun k u wr => ∃ v', Hid (k ≤ s.cols.length ∧ (keptC col s.cols).length ≤ k) ∧ Hid (RdP w0 wr b (svP (withC s (s.cols.take k))) line E p v' (es ++ List.replicate (s.cols.length - k) (evC 0 0))))
  case atStart => exact ⟨_, Lib.hid ⟨Nat.le_refl _, kept_len _ _⟩, HR1⟩
  case round =>
    clear HR1
    obtain ⟨v', HK, HR⟩ := hrel
    obtain ⟨k, hgk⟩ : ∃ k, k = gk := ⟨_, rfl⟩
    subst hgk
    by_cases hlt : col < opnC (s.cols.take k)
    · obtain ⟨k1, k2⟩ := pop_on HUPC.out HK.out.1 HK.out.2 hlt
      have hi : ((col : Nat) : Int) < ((opnC (s.cols.take k) : Nat) : Int) := by omega
      have K1 := Lib.hid k1
      have K2 := Lib.hid k2
      generalize hoc : opnC (s.cols.take k) = oc at hi hlt
      have HOC := Lib.hid hoc
      clear k1 k2 hlt hoc
      go_wp2_with (first
        | (go_at_call 43; ((with_reducible refine (HC.out _ _ _ HR.out).mono ?_); rintro e w1 ⟨rfl, hu⟩; have HR1 := Lib.hid (HR.out.more hu); clear hu; have e0 : opnC (withC s (s.cols.take k)).cols = oc := HOC.out; rw [e0]; clear e0))
        | (go_at_call 45; ((with_reducible refine (HB.out _ _ _ HR1.out K1.out HK.out.1).mono ?_); rintro e w2 ⟨rfl, v2, h2⟩; have HF := Lib.hid h2; clear h2)))
      go_roundg (k - 1)
      case measure => have := K1.out; omega
      case rel =>
        have h := HF.out
        rw [pop_take HK.out.1 K1.out, List.append_assoc] at h
        have e : List.replicate (s.cols.length - k) (evC 0 0) ++ [evC 0 0] = List.replicate (s.cols.length - (k - 1)) (evC 0 0) := by
          have := K1.out
          have := HK.out.1
          rw [show s.cols.length - (k - 1) = (s.cols.length - k) + 1 from by omega, List.replicate_succ']
        rw [e] at h
        exact ⟨v2, Lib.hid ⟨by have := HK.out.1; omega, K2.out⟩, Lib.hid h⟩
    · have hk := pop_end HUPC.out HK.out.1 HK.out.2 hlt
      have hkt := kept_take col s.cols
      rw [← hk] at hkt
      have HKT := Lib.hid hkt
      have HKL := Lib.hid hk
      have hi : ¬ ((col : Nat) : Int) < ((opnC (s.cols.take k) : Nat) : Int) := by omega
      generalize hoc : opnC (s.cols.take k) = oc at hi hlt
      have HOC := Lib.hid hoc
      have hF := HFF.out
      have hres : ∀ B : Bool, (decide (¬ (s.flags = 1 ∨ opnC (keptC col s.cols) ≠ col)) = B) = (decide (¬ (s.flags = 1 ∨ oc ≠ col)) = B) := fun B => by rw [hkt, hoc]
      have HRES := Lib.hid hres
      clear hk hkt hlt hoc hres
      by_cases hfl : s.flags = 1
      · obtain rfl : true = F := by rw [← hF, hfl]; rfl
        clear hF
        go_wp2_with (first
          | (go_at_call 43; ((with_reducible refine (HC.out _ _ _ HR.out).mono ?_); rintro e w1 ⟨rfl, hu⟩; have HR1 := Lib.hid (HR.out.more hu); clear hu; have e0 : opnC (withC s (s.cols.take k)).cols = oc := HOC.out; rw [e0]; clear e0)))
        go_ret
        refine ⟨ret_bool ?_, v', ?_⟩
        · symm
          rw [HRES.out]
          simp [hfl]
        · rw [← HKL.out, HKT.out]
          exact HR1.out
      · obtain rfl : false = F := by rw [← hF]; symm; exact beq_eq_false_iff_ne.2 (by omega)
        clear hF
        obtain ⟨B, hB⟩ : ∃ B : Bool, ((oc : Int) == (col : Int)) = B := ⟨_, rfl⟩
        have HBB := Lib.hid hB
        go_wp2_with (first
          | (go_at_call 43; ((with_reducible refine (HC.out _ _ _ HR.out).mono ?_); rintro e w1 ⟨rfl, hu⟩; have HR1 := Lib.hid (HR.out.more hu); clear hu; have e0 : opnC (withC s (s.cols.take k)).cols = oc := HOC.out; rw [e0]; clear e0))
          | (go_at_call 43; ((with_reducible refine (HC.out _ _ _ HR1.out).mono ?_); rintro e w1 ⟨rfl, hu⟩; have HR1 := Lib.hid (HR1.out.more hu); clear hu; have e0 : opnC (withC s (s.cols.take k)).cols = oc := HOC.out; rw [e0]; clear e0)))
        go_ret
        refine ⟨ret_bool ?_, v', ?_⟩
        · symm
          rw [HRES.out, ← HBB.out, Bool.eq_iff_iff]
          simp only [decide_eq_true_eq, beq_iff_eq]
          omega
        · rw [← HKL.out, HKT.out]
          exact HR1.out
/-- May a line stand at its column; what opens and closes there. -/
def setT (s : LSt) (col : Nat) : Bool := if opnC s.cols < col then decide (s.flags = 1 ∧ s.cols.length < 16) else decide (¬ (s.flags = 1 ∨ opnC (keptC col s.cols) ≠ col))
def setE (s : LSt) (col : Nat) : List LEv := if opnC s.cols < col then (if s.flags = 1 ∧ s.cols.length < 16 then [evO 10 0] else []) else List.replicate (s.cols.length - (keptC col s.cols).length) (evC 0 0)
theorem lay_set (s : LSt) (ti col : Nat) : (layL s.cols s.flags ti col).1 = setE s col ++ if setT s col = true then [] else [evL 2 0 ti] := by
  unfold layL setE setT
  by_cases h : opnC s.cols < col
  · rw [if_pos h, if_pos h, if_pos h]
    by_cases h1 : s.flags = 1 ∧ s.cols.length < 16
    · rw [if_pos h1, if_pos h1, if_pos (decide_eq_true h1)]; rfl
    · rw [if_neg h1, if_neg h1, if_neg (by simpa using h1)]; rfl
  · rw [if_neg h, if_neg h, if_neg h]
    by_cases h1 : s.flags = 1 ∨ opnC (keptC col s.cols) ≠ col
    · rw [if_pos h1, if_neg (by rw [decide_eq_false (not_not_intro h1)]; decide)]
    · rw [if_neg h1, if_pos (decide_eq_true h1)]
theorem set_len (s : LSt) (col : Nat) (h : s.cols.length ≤ 16) : (setE s col).length ≤ 16 := by
  unfold setE
  (repeat' split) <;> simp
  omega
theorem settle_any (w0 W : World) (b E p col : Nat) (s : LSt) (line : ByteArray) (v : Value) (es : List LEv) (hr : RdP w0 W b (svP s) line E p v es) (hl : es.length ≤ 999900) (hs : LOk s) (hm : s.flags ≤ 1) :
    Calls Tryz.prog 25 #[.pointer (some ⟨b, 0, none⟩), .int .i64 (col : Nat)] W
      (SaidP w0 b (setT s col) (svP (withC s (layL s.cols s.flags p col).2)) line E p (es ++ setE s col)) := by
  by_cases h : opnC s.cols < col
  · have := settle_up w0 W b E p col s line v es hr (by omega) hs h hm
    unfold setT setE layL
    rw [if_pos h, if_pos h, if_pos h]
    have e : (if s.flags = 1 ∧ s.cols.length < 16 then ([evO 10 0], s.cols ++ [col]) else ([evL 2 0 p], s.cols)).2 = if s.flags = 1 ∧ s.cols.length < 16 then s.cols ++ [col] else s.cols := by split <;> rfl
    rw [e]
    exact this
  · have := settle_down w0 W b E p col s line v es hr hl hs h
    unfold setT setE layL
    rw [if_neg h, if_neg h, if_neg h]
    exact this
set_option maxRecDepth 100000 in
set_option maxHeartbeats 4000000 in
theorem lay_any (w0 W : World) (b E p col : Nat) (s : LSt) (line : ByteArray) (v : Value) (es : List LEv) (hr : RdP w0 W b (svP s) line E p v es) (hl : es.length ≤ 999800) (hs : LOk s) (hm : s.flags ≤ 1) :
    Calls Tryz.prog 13 #[.pointer (some ⟨b, 0, none⟩), .int .i64 (col : Nat)] W
      (DoneP w0 b (svP (withC s (layL s.cols s.flags p col).2)) line E p (es ++ ((layL s.cols s.flags p col).1 ++ [evO 11 p]))) := by
  have hz := set_len s col hs.len
  have HT := Lib.hid (settle_any w0 W b E p col s line v es hr (by omega) hs hm)
  have HE := Lib.hid (lay_set s p col)
  generalize hS : withC s (layL s.cols s.flags p col).2 = S at HT ⊢
  have HLF := Lib.hid (fun W' v' (h : RdP w0 W' b (svP S) line E p v' (es ++ setE s col)) => ev_leaf w0 W' b E p (svP S) line v' _ 2 0 p h (by rw [List.length_append]; omega))
  have HOP := Lib.hid (fun W' v' (h : RdP w0 W' b (svP S) line E p v' (es ++ setE s col)) => ev_open w0 W' b E p (svP S) line v' _ 11 p h (by rw [List.length_append]; omega))
  have HOP2 := Lib.hid (fun W' v' (h : RdP w0 W' b (svP S) line E p v' (es ++ setE s col ++ [⟨3, 2, 0, p⟩])) => ev_open w0 W' b E p (svP S) line v' _ 11 p h (by rw [List.length_append, List.length_append, List.length_singleton]; omega))
  rw [show ((2 : Nat) : Int) = 2 from rfl, show ((0 : Nat) : Int) = 0 from rfl] at HLF
  rw [show ((11 : Nat) : Int) = 11 from rfl] at HOP HOP2
  generalize setT s col = T at HT HE
  clear hr hl hs hm hz hS
  cases T with
  | true =>
    go_enter Tryz.func13, Tryz.ntmps13
    go_wp2_with (first
      | (go_at_call 25; ((with_reducible refine (HT.out).mono ?_); rintro e w1 ⟨rfl, v1, h1⟩; have HR1 := Lib.hid h1; have ca := h1.at_; clear h1))
      | (go_at_call 26; ((with_reducible refine (HOP.out _ _ HR1.out).mono ?_); rintro e w2 ⟨rfl, v2, h2⟩; have HR2 := Lib.hid h2; clear h2)))
    go_end0
    refine ⟨rfl, v2, ?_⟩
    have h := HR2.out
    rw [HE.out]
    simp only [if_true, List.append_nil]
    rw [← List.append_assoc]
    exact h
  | false =>
    go_enter Tryz.func13, Tryz.ntmps13
    go_wp2_with (first
      | (go_at_call 25; ((with_reducible refine (HT.out).mono ?_); rintro e w1 ⟨rfl, v1, h1⟩; have HR1 := Lib.hid h1; have ca := h1.at_; clear h1))
      | (go_at_call 24; ((with_reducible refine (HLF.out _ _ HR1.out).mono ?_); rintro e w3 ⟨rfl, v3, h3⟩; have HR3 := Lib.hid h3; have ca := h3.at_; clear h3))
      | (go_at_call 26; ((with_reducible refine (HOP2.out _ _ HR3.out).mono ?_); rintro e w2 ⟨rfl, v2, h2⟩; have HR2 := Lib.hid h2; clear h2)))
    go_end0
    refine ⟨rfl, v2, ?_⟩
    have h := HR2.out
    rw [HE.out]
    simp only [Bool.false_eq_true, if_false]
    rw [← List.append_assoc, ← List.append_assoc]
    exact h
end Go.Proofs.YtmfcapbllbfjnaaGreatDoor

namespace Go.Proofs.YtmfcapbllbfjnaaGreatDoor
open Go.RowKit

theorem bt_mem {s : ByteArray} {i : Nat} (h : i < s.size) : bt s i ∈ bl s := List.mem_of_getElem? (bl_at h)
theorem endE_miss {s : ByteArray} (h : 10 ∉ bl s) : endE s = endL (bl s) := by
  rw [endL_none h, bl_len]
  unfold endE
  rw [if_pos]
  by_cases h0 : s.size = 0
  · exact .inl h0
  · right
    intro e
    have := bt_mem (s := s) (i := s.size - 1) (by omega)
    rw [e] at this
    exact h this
theorem endE_hit {s : ByteArray} {i : Nat} (hi : i < s.size) (h : 10 ∉ (bl s).take i) (hb : bt s i = 10) : endE (s.extract 0 (i + 1)) = endL (bl s) := by
  have e1 : bl s = (bl s).take i ++ 10 :: (bl s).drop (i + 1) := by
    have h1 : i < (bl s).length := by rw [bl_len]; exact hi
    have h2 := bl_at hi
    rw [List.getElem?_eq_getElem h1, hb] at h2
    injection h2 with h2
    conv => lhs; rw [← List.take_append_drop i (bl s), List.drop_eq_getElem_cons h1, h2]
  have hl : ((bl s).take i).length = i := by rw [List.length_take, bl_len]; omega
  have e2 : endL (bl s) = if lastB false ((bl s).take i) = true then i - 1 else i := by
    have := endL_at (r := (bl s).drop (i + 1)) h
    rw [← e1, hl] at this
    exact this
  have hz : (s.extract 0 (i + 1)).size = i + 1 := by rw [ByteArray.size_extract]; omega
  have hb1 : bt (s.extract 0 (i + 1)) i = 10 := by rw [bt_ext_in (by omega) (by omega), Nat.zero_add]; exact hb
  rw [e2]
  unfold endE
  rw [hz, if_neg (by rw [show i + 1 - 1 = i from by omega, hb1]; omega)]
  cases i with
  | zero => rfl
  | succ j =>
    have hb2 : bt (s.extract 0 (j + 1 + 1)) (j + 1 + 1 - 2) = bt s j := by rw [show j + 1 + 1 - 2 = j from by omega, bt_ext_in (by omega) (by omega), Nat.zero_add]
    have e3 : (bl s).take (j + 1) = (bl s).take j ++ [bt s j] := by
      have h1 : j < (bl s).length := by rw [bl_len]; omega
      rw [List.take_succ_eq_append_getElem h1]
      congr 2
      have h2 := bl_at (s := s) (i := j) (by omega)
      rw [List.getElem?_eq_getElem h1] at h2
      injection h2
    rw [hb2, e3, lastB_snoc]
    by_cases h13 : bt s j = 13
    · rw [if_pos ⟨by omega, h13⟩, if_pos (by simpa using h13)]
      rfl
    · rw [if_neg (fun k => h13 k.2), if_neg (by simpa using h13)]
      rfl
set_option maxRecDepth 100000 in
set_option maxHeartbeats 4000000 in
theorem endOf_any (s : ByteArray) (w : World) (hs : (s.size : Int) ≤ 1000000) : Calls Tryz.prog 9 #[.string s] w fun e w' => e = .returned (.int .i64 (endL (bl s) : Nat)) ∧ Up w w' := by
  have HI := Lib.hid (fun W => Tryz.strings_IndexByte s 10 W)
  have HI' : Hid (∀ W, Calls Tryz.prog 21 #[.string s, .int .u8 10] W fun e w' => e = .returned (.int .i64 (Lib.indexByte s.data.toList 10)) ∧ w' = W) := Lib.hid (fun W => HI.out W)
  clear HI
  rcases ib_lf s.data.toList with ⟨h1, h2⟩ | ⟨i, h1, h2, h3, h4⟩
  · rw [h1] at HI'
    have HE := Lib.hid (fun W => pEnd_any W s (by omega))
    rw [endE_miss (show 10 ∉ bl s from h2)] at HE
    generalize endL (bl s) = E at HE ⊢
    clear hs h1 h2
    go_enter Tryz.func9, Tryz.ntmps9
    go_wp2_with (first
      | (go_at_call 21; ((with_reducible refine (HI'.out _).mono ?_); rintro e w1 ⟨rfl, rfl⟩))
      | (go_at_call 22; ((with_reducible refine (HE.out _).mono ?_); rintro e w2 ⟨rfl, hu⟩)))
    go_ret
    exact ⟨rfl, hu⟩
  · have hi : i < s.size := by rw [Lib.size_eq]; exact h2
    have hb : bt s i = 10 := by
      rw [bt_list s i hi]
      obtain ⟨h5, h6⟩ := List.getElem?_eq_some_iff.1 h4
      have : s.data.toList[i]'(by simpa using hi) = 10 := h6
      rw [this]
      rfl
    have ht : 10 ∉ (bl s).take i := by
      unfold bl
      rw [← List.map_take]
      exact h3
    rw [h1] at HI'
    have HE := Lib.hid (fun W => pEnd_any W (s.extract 0 (i + 1)) (by rw [ByteArray.size_extract]; omega))
    rw [endE_hit hi ht hb] at HE
    have e1 : IntKind.i64.wrap ((i : Int) + 1) = ((i + 1 : Nat) : Int) := (IntWalk.i64_in _ (by omega)).trans (by omega)
    have p0 : (0 : Int) ≤ (i : Int) := by omega
    have p1 : (0 : Int) ≤ ((i + 1 : Nat) : Int) := by omega
    have p2 : ((i + 1 : Nat) : Int) ≤ s.size := by omega
    have p3 : i + 1 ≤ s.size := by omega
    generalize endL (bl s) = E at HE ⊢
    clear hs h1 h2 h3 h4 hi hb ht
    go_enter Tryz.func9, Tryz.ntmps9
    go_wp2_with (first
      | (go_at_call 21; ((with_reducible refine (HI'.out _).mono ?_); rintro e w1 ⟨rfl, rfl⟩))
      | (go_at_call 22; ((with_reducible refine (HE.out _).mono ?_); rintro e w2 ⟨rfl, hu⟩)))
    go_ret
    exact ⟨rfl, hu⟩
set_option maxRecDepth 100000 in
set_option maxHeartbeats 4000000 in
theorem indent_any (w0 W : World) (b E p : Nat) (V : SV) (line : ByteArray) (v : Value) (es : List LEv) (hr : RdP w0 W b V line E p v es) (hs : (line.size : Int) ≤ 65536) :
    Calls Tryz.prog 10 #[.pointer (some ⟨b, 0, none⟩)] W fun e w' => e = .returned (.int .i64 ((indL (bl line) 0).2 : Nat)) ∧ RdP w0 w' b V line E (indL (bl line) 0).1 v es := by
  have HI := Lib.hid (fun W' => pIndent_any W' line 0 0 8 hs)
  rw [inE_ind line hs] at HI
  have HR := Lib.hid hr
  have cl := hr.ln
  generalize (indL (bl line) 0).1 = ti at HI ⊢
  generalize (indL (bl line) 0).2 = col at HI ⊢
  clear hr hs
  go_enter Tryz.func10, Tryz.ntmps10
  go_wp2_with (go_at_call 23; ((with_reducible refine (HI.out _).mono ?_); rintro e1 w1 ⟨rfl, hu⟩; have HR1 := Lib.hid (HR.out.more hu); have ca := HR1.out.at_; have fa := HR1.out.fr 84; clear hu))
  go_ret
  exact ⟨rfl, HR1.out.setAt ti⟩
set_option maxRecDepth 100000 in
set_option maxHeartbeats 4000000 in
theorem isEmpty_any (w0 W : World) (b E p : Nat) (V : SV) (line : ByteArray) (v : Value) (es : List LEv) (hr : RdP w0 W b V line E p v es) (hp : p ≤ E) (hE : E ≤ line.size) :
    Calls Tryz.prog 11 #[.pointer (some ⟨b, 0, none⟩)] W fun e w' => e = .returned (.bool (decide (p = E ∨ bt line p = 35))) ∧ RdP w0 w' b V line E p v es := by
  have HR := Lib.hid hr
  have cl := hr.ln
  have ca := hr.at_
  have ce := hr.en
  by_cases h : p = E
  · rw [decide_eq_true (Or.inl h : p = E ∨ bt line p = 35)]
    have t : ((p : Int) == (E : Int)) = true := beq_iff_eq.2 (by omega)
    clear hr hp hE h
    go_enter Tryz.func11, Tryz.ntmps11
    go_wp2
    go_quiet (fail)
    go_wp2
    go_ret
    exact ⟨rfl, HR.out.more (Up.drewN _ _)⟩
  · have t : ((p : Int) == (E : Int)) = false := beq_eq_false_iff_ne.2 (by omega)
    have p0 : (0 : Int) ≤ p := by omega
    have p1 : (p : Int) < line.size := by omega
    have hlt : p < line.size := by omega
    have hx : line[p].toNat = bt line p := bt_eq hlt
    have e : decide (p = E ∨ bt line p = 35) = ((bt line p : Int) == 35) := by
      rw [Bool.eq_iff_iff]; simp only [decide_eq_true_eq, beq_iff_eq]; omega
    rw [e]
    generalize bt line p = c at hx ⊢
    clear hr hp hE h e
    go_enter Tryz.func11, Tryz.ntmps11
    go_wp2
    go_quiet (fail)
    go_wp2
    go_ret
    exact ⟨rfl, HR.out.more (Up.drewN _ _)⟩
set_option maxRecDepth 100000 in
set_option maxHeartbeats 4000000 in
theorem comment_any (w0 W : World) (b E p : Nat) (V : SV) (line : ByteArray) (v : Value) (es : List LEv) (hr : RdP w0 W b V line E p v es) (hl : es.length ≤ 999900) (hp : p ≤ E) :
    Calls Tryz.prog 12 #[.pointer (some ⟨b, 0, none⟩)] W (DoneP w0 b V line E p (es ++ if p = E then [] else [evL 18 p E])) := by
  have HR := Lib.hid hr
  have ca := hr.at_
  have ce := hr.en
  by_cases h : p = E
  · rw [if_pos h, List.append_nil]
    subst h
    have t : decide (p < p) = false := decide_eq_false (by omega)
    clear hr hl hp
    go_enter Tryz.func12, Tryz.ntmps12
    go_wp2
    go_quiet (fail)
    go_wp2
    go_end0
    exact ⟨rfl, _, HR.out.more (Up.drewN _ _)⟩
  · rw [if_neg h]
    have HL := Lib.hid (fun W' (h : RdP w0 W' b V line E p v es) => ev_leaf w0 W' b E p V line v es 18 p E h (by omega))
    rw [show ((18 : Nat) : Int) = 18 from rfl] at HL
    have t : (p : Int) < (E : Int) := by omega
    have t' : decide (p < E) = true := decide_eq_true (by omega)
    clear hr hl hp h
    go_enter Tryz.func12, Tryz.ntmps12
    go_wp2
    go_quiet (fail)
    generalize hW1 : World.drewN W _ = W1
    have HR1 := Lib.hid (show RdP w0 W1 b V line E p v es by rw [← hW1]; exact HR.out.more (Up.drewN _ _))
    clear hW1 ca ce
    have ca := HR1.out.at_
    have ce := HR1.out.en
    go_wp2
    go_region_held3 (fun w' => w'.cell? ⟨b, 84, none⟩ = some (.int .i64 (p : Nat)) ∧ w'.cell? ⟨b, 83, none⟩ = some (.int .i64 (E : Nat)))
      (go_keep)
      ((go_at_call 24; ((with_reducible refine (HL.out _ (HR1.out.more (by first | with_reducible exact Up.refl _ | with_reducible exact Up.drew _))).mono ?_); rintro e w3 ⟨rfl, v3, h3⟩; have HR3 := Lib.hid h3; have ca := h3.at_; have ce := h3.en; clear h3)))
    all_goals
      go_wp2
      go_end0
      exact ⟨rfl, _, HR3.out⟩
end Go.Proofs.YtmfcapbllbfjnaaGreatDoor

namespace Go.Proofs.YtmfcapbllbfjnaaGreatDoor
open Go.RowKit

section
variable {P : Program} {w : World}
theorem run_append_row (t ty : TypeId) (base b2 : Nat) (e : TypeId) (i : TypeInfo) (z : Value) (size bytes : Nat) (ht : P.underlying t = some (.slice e)) (hi : P.info? e = some i) (hz : i.zero = some z)
    (hsize : i.size = size) (hby : i.bytes = bytes) (hzs : z.cells.size = size) (hsz : 0 < size) (v : Value) (n : Nat) (xs : List Value) (hown : w.ownsRow base e size v n xs)
    (v2 : Value) (m : Nat) (ys : List Value) (hsrc : w.ownsRow b2 e size v2 m ys) (h1 : ∀ u ∈ ys, u.oneCell' = true) (h63 : n + m ≤ maxLen) (hbytes : (n + m) * bytes ≤ 140737488355328) (hbase : base ≤ w.heap.size) :
    ∃ v' w', (Builtin.append_ #[t, t] ty #[v, v2]).run P w = .ok v' w' ∧ w'.ownsRow base e size v' (n + m) (xs ++ ys) ∧ w.grownBy w' v.ownBlock := by
  have hs := hsrc
  rcases hs.2 with ⟨rfl, rfl⟩ | ⟨g, cap, cur, rfl, -⟩
  · have hys : ys = [] := List.eq_nil_of_length_eq_zero (by simpa using hsrc.1)
    subst hys
    have ho := hown
    rw [List.append_nil, Nat.add_zero]
    rcases ho.2 with ⟨rfl, rfl⟩ | ⟨g, cap, cur, rfl, -, -, hle, -⟩
    · exact ⟨_, w, run_append_nothing w t t ty e i ht hi none 0 0 (Nat.le_refl _) _ (Src.ofNil w ht 0), hown, ⟨rfl, rfl, rfl, Nat.le_refl _, fun _ _ _ => rfl⟩⟩
    · exact ⟨_, w, run_append_nothing w t t ty e i ht hi _ n cap hle _ (Src.ofNil w ht 0), hown, ⟨rfl, rfl, rfl, Nat.le_refl _, fun _ _ _ => rfl⟩⟩
  · obtain ⟨v', w', hr, h2, h3, -⟩ := run_append_own_at (P := P) w base t ty e i z size bytes ht hi hz hsize hby hzs hsz v n xs hown ⟨g, 0, none⟩ m cap ys hsrc.1 (hsrc.cells (g := g) rfl) h1 h63 hbytes hbase
    exact ⟨v', w', hr, h2, h3⟩
theorem wp_append_row {o : Oper} {a : Act} {K : Act → World → Prop} {Q : Exit → Act → World → Prop} (s x : Operand) (t : TypeId)
    (ho : o.op = .call { callee := .builtin .append, args := #[s, x], argTypes := #[t, t] })
    (base b2 : Nat) (e : TypeId) (i : TypeInfo) (z : Value) (size bytes : Nat) (ht : P.underlying t = some (.slice e)) (hi : P.info? e = some i) (hz : i.zero = some z)
    (hsize : i.size = size) (hby : i.bytes = bytes) (hzs : z.cells.size = size) (hsz : 0 < size) (v : Value) (n : Nat) (xs : List Value) (hs : a.eval s = v) (hown : w.ownsRow base e size v n xs)
    (v2 : Value) (m : Nat) (ys : List Value) (hx : a.eval x = v2) (hsrc : w.ownsRow b2 e size v2 m ys) (h1 : ∀ u ∈ ys, u.oneCell' = true) (h63 : n + m ≤ maxLen) (hbytes : (n + m) * bytes ≤ 140737488355328) (hbase : base ≤ w.heap.size)
    (h : ∀ A cap w', w'.ownsRow base e size (.slice A (n + m) cap) (n + m) (xs ++ ys) → w.grownBy w' v.ownBlock → K (a.put o.dst (.slice A (n + m) cap)) w') : o.wp P a w K Q := by
  obtain ⟨v', w', hr, h2, h3⟩ := run_append_row (P := P) (w := w) t o.type base b2 e i z size bytes ht hi hz hsize hby hzs hsz v n xs hown v2 m ys hsrc h1 h63 hbytes hbase
  have hv : ∃ A cap, v' = .slice A (n + m) cap := by
    rcases h2.2 with ⟨rfl, hz0⟩ | ⟨g, cap, cur, rfl, -⟩
    · exact ⟨none, 0, by rw [hz0]⟩
    · exact ⟨_, _, rfl⟩
  obtain ⟨A, cap, rfl⟩ := hv
  unfold Oper.wp execOp
  simp only [ho, resolve, invoke, builtin, Sem.run_bind, Sem.run_pure, Result.andThen_ok, List.map_toArray, List.map_cons, List.map_nil, hs, hx, hr]
  exact h _ _ w' h2 h3
theorem step_append_row {ops : Array Oper} {o : Oper} {a : Act} {K : Act → World → Prop} {Q : Exit → Act → World → Prop} {E : Prop} (hgd : o.guard = none) (s x : Operand) (t : TypeId)
    (ho : o.op = .call { callee := .builtin .append, args := #[s, x], argTypes := #[t, t] })
    (base b2 : Nat) (e : TypeId) (i : TypeInfo) (z : Value) (size bytes : Nat) (ht : P.underlying t = some (.slice e)) (hi : P.info? e = some i) (hz : i.zero = some z)
    (hsize : i.size = size) (hby : i.bytes = bytes) (hzs : z.cells.size = size) (hsz : 0 < size) (v : Value) (n : Nat) (xs : List Value) (hs : a.eval s = v) (hown : w.ownsRow base e size v n xs)
    (v2 : Value) (m : Nat) (ys : List Value) (hx : a.eval x = v2) (hsrc : w.ownsRow b2 e size v2 m ys) (h1 : ∀ u ∈ ys, u.oneCell' = true) (h63 : n + m ≤ maxLen) (hbytes : (n + m) * bytes ≤ 140737488355328) (hbase : base ≤ w.heap.size)
    (h : ∀ A cap w', w'.ownsRow base e size (.slice A (n + m) cap) (n + m) (xs ++ ys) → w.grownBy w' v.ownBlock → K (a.put o.dst (.slice A (n + m) cap)) w') :
    if Region.wanted o (yielded ops a.tmps) = true then Oper.wp P o a w K Q else E := by
  have hw : Region.wanted o (yielded ops a.tmps) = true := by simp [Region.wanted, hgd]
  rw [if_pos hw]
  exact wp_append_row s x t ho base b2 e i z size bytes ht hi hz hsize hby hzs hsz v n xs hs hown v2 m ys hx hsrc h1 h63 hbytes hbase h
theorem wpList_append_row {ops : Array Oper} {rest : List Oper} {o : Oper} {a : Act} {Q : Exit → Act → World → Prop} (hgd : o.guard = none) (s x : Operand) (t : TypeId)
    (ho : o.op = .call { callee := .builtin .append, args := #[s, x], argTypes := #[t, t] })
    (base b2 : Nat) (e : TypeId) (i : TypeInfo) (z : Value) (size bytes : Nat) (ht : P.underlying t = some (.slice e)) (hi : P.info? e = some i) (hz : i.zero = some z)
    (hsize : i.size = size) (hby : i.bytes = bytes) (hzs : z.cells.size = size) (hsz : 0 < size) (v : Value) (n : Nat) (xs : List Value) (hs : a.eval s = v) (hown : w.ownsRow base e size v n xs)
    (v2 : Value) (m : Nat) (ys : List Value) (hx : a.eval x = v2) (hsrc : w.ownsRow b2 e size v2 m ys) (h1 : ∀ u ∈ ys, u.oneCell' = true) (h63 : n + m ≤ maxLen) (hbytes : (n + m) * bytes ≤ 140737488355328) (hbase : base ≤ w.heap.size)
    (h : ∀ A cap w', w'.ownsRow base e size (.slice A (n + m) cap) (n + m) (xs ++ ys) → w.grownBy w' v.ownBlock → wpList P ops Q rest (a.put o.dst (.slice A (n + m) cap)) w') : wpList P ops Q (o :: rest) a w :=
  wpList_plain hgd fun _ hK => wp_append_row s x t ho base b2 e i z size bytes ht hi hz hsize hby hzs hsz v n xs hs hown v2 m ys hx hsrc h1 h63 hbytes hbase fun A cap w' h2 h3 => hK _ _ (h A cap w' h2 h3)
end
end Go.Proofs.YtmfcapbllbfjnaaGreatDoor

namespace Go.Proofs.YtmfcapbllbfjnaaGreatDoor
open Go.RowKit

set_option maxRecDepth 100000 in
set_option maxHeartbeats 4000000 in
theorem goOn_any (w0 W : World) (b E p : Nat) (s : LSt) (line : ByteArray) (v : Value) (es : List LEv) (C : Bool) (hr : RdP w0 W b (svP s) line E p v es) :
    Calls Tryz.prog 28 #[.pointer (some ⟨b, 0, none⟩), .bool C] W (DoneP w0 b (svP ⟨s.cols, 1, s.mark, if C = true then 2 else 0, s.count⟩) line E p es) := by
  have c5 := hr.mode
  have f5 := hr.fr 65
  have c7 := hr.flags
  have f7 := hr.fr 67
  have h1 := (hr.setMo 1).setFl 0
  have HR := Lib.hid h1
  have HR2 := Lib.hid (h1.setFl 2)
  clear hr h1
  cases C with
  | true =>
    go_enter Tryz.func28, Tryz.ntmps28
    go_wp2
    go_end0
    exact ⟨rfl, _, HR2.out⟩
  | false =>
    go_enter Tryz.func28, Tryz.ntmps28
    go_wp2
    go_end0
    exact ⟨rfl, _, HR.out⟩
set_option maxRecDepth 100000 in
set_option maxHeartbeats 4000000 in
theorem finish_any (w0 W : World) (b E p : Nat) (s : LSt) (line : ByteArray) (v : Value) (es : List LEv) (C : Bool) (hr : RdP w0 W b (svP s) line E p v es) (hl : es.length ≤ 1000000) :
    Calls Tryz.prog 29 #[.pointer (some ⟨b, 0, none⟩), .bool C] W (DoneP w0 b (svP ⟨s.cols, 0, s.mark, if C = true then 1 else 0, s.count⟩) line E p (es ++ [evC (if C = true then 12 else 11) E])) := by
  have c5 := hr.mode
  have f5 := hr.fr 65
  have c7 := hr.flags
  have f7 := hr.fr 67
  have h1 : RdP w0 ((W.setCell ⟨b, 65, none⟩ (.int .u8 0)).setCell ⟨b, 67, none⟩ (.int .u8 0)) b _ line E p v es := (hr.setMo 0).setFl 0
  cases C with
  | true =>
    have h2 : RdP w0 (((W.setCell ⟨b, 65, none⟩ (.int .u8 0)).setCell ⟨b, 67, none⟩ (.int .u8 0)).setCell ⟨b, 67, none⟩ (.int .u8 1)) b _ line E p v es := h1.setFl 1
    have ce := h2.en
    have HC := Lib.hid (ev_close w0 _ b E p _ line v es 12 E h2 hl)
    rw [show ((12 : Nat) : Int) = 12 from rfl] at HC
    clear hr h1 h2 hl
    go_enter Tryz.func29, Tryz.ntmps29
    go_wp2_with (go_at_call 56; ((with_reducible refine (HC.out).mono ?_); rintro e w1 ⟨rfl, v1, h1⟩; have HF := Lib.hid h1; clear h1))
    go_end0
    exact ⟨rfl, _, HF.out⟩
  | false =>
    have ce := h1.en
    have HC := Lib.hid (ev_close w0 _ b E p _ line v es 11 E h1 hl)
    rw [show ((11 : Nat) : Int) = 11 from rfl] at HC
    clear hr h1 hl
    go_enter Tryz.func29, Tryz.ntmps29
    go_wp2_with (go_at_call 56; ((with_reducible refine (HC.out).mono ?_); rintro e w1 ⟨rfl, v1, h1⟩; have HF := Lib.hid h1; clear h1))
    go_end0
    exact ⟨rfl, _, HF.out⟩
abbrev PT : TypeId := 56
theorem own_low {W : World} {B B' n k : Nat} {T : TypeId} {v : Value} {xs : List Value} (ho : W.ownsRow B T k v n xs) (h : B' ≤ B) : W.ownsRow B' T k v n xs := by
  refine ⟨ho.1, ?_⟩
  rcases ho.2 with hn | ⟨g, cap, cur, rfl, hb, rest⟩
  · exact .inl hn
  · exact .inr ⟨g, cap, cur, rfl, Nat.le_trans h hb, rest⟩
theorem RdP.far {w0 W : World} {b E p g k : Nat} {V : SV} {line : ByteArray} {v u : Value} {es : List LEv} (h : RdP w0 W b V line E p v es) (hg : g ≠ b) (hv : v.ownBlock ≠ some g) (hw : w0.heap.size ≤ g) : RdP w0 (W.setCell ⟨g, k, none⟩ u) b V line E p v es := by
  refine ⟨?_, own_set h.row (fun q e hq => hv (by rw [e, hq])), h.lo, Below.setCell h.up (p := ⟨g, k, none⟩) hw u⟩
  rw [setCell_far W g k u b hg]
  exact h.box
theorem RdP.lt {w0 W : World} {b E p : Nat} {V : SV} {line : ByteArray} {v : Value} {es : List LEv} (h : RdP w0 W b V line E p v es) : b < W.heap.size := (Array.getElem?_eq_some_iff.1 h.box).1
theorem RdP.vlt {w0 W : World} {b E p g : Nat} {V : SV} {line : ByteArray} {v : Value} {es : List LEv} (h : RdP w0 W b V line E p v es) (e : v.ownBlock = some g) : g < W.heap.size := by
  obtain ⟨cs, fr, hg⟩ := row_ev h.row e
  exact (Array.getElem?_eq_some_iff.1 hg).1
/-- What a scan told, in a box of its own. -/
structure GotP (w0 W wx : World) (b : Nat) (V : SV) (line : ByteArray) (E p : Nat) (v : Value) (es : List LEv) (bx : Nat) (u : Value) (fs : List PEv) (st : PSt) : Prop where
  box : wx.heap[bx]? = some (.cells (outA u st) PT)
  row : RowE wx W.heap.size u fs
  rd : RdP w0 wx b V line E p v es
  lo : W.heap.size ≤ bx
theorem got_new {w0 W w1 : World} {b E p : Nat} {V : SV} {line : ByteArray} {v u : Value} {es : List LEv} {fs : List PEv} {st : PSt} (hr : RdP w0 W b V line E p v es) (hu : Up W w1) (hrow : RowE w1 W.heap.size u fs) :
    GotP w0 W (w1.alloc (.cells (outA u st) PT)) b V line E p v es w1.heap.size u fs st :=
  ⟨Go.heap_alloc_new _ _, own_up hrow (Up.alloc _ _), hr.more (hu.trans (Up.alloc _ _)), Below.size hu⟩
theorem got_old {w0 W w1 : World} {b E p : Nat} {V : SV} {line : ByteArray} {v u : Value} {es : List LEv} {fs : List PEv} {st : PSt} {z0 z1 z2 z3 z4 z5 : Value} (hr : RdP w0 W b V line E p v es) (hu : Up (W.alloc (.cells #[z0, z1, z2, z3, z4, z5] PT)) w1) (hrow : RowE w1 (W.heap.size + 1) u fs) :
    GotP w0 W ((((((w1.setCell ⟨W.heap.size, 0, none⟩ u).setCell ⟨W.heap.size, 1, none⟩ (.int .u8 (st.mark : Nat))).setCell ⟨W.heap.size, 2, none⟩ (.int .i64 st.depth)).setCell ⟨W.heap.size, 3, none⟩ (.bool st.j)).setCell ⟨W.heap.size, 4, none⟩ (.bool st.s)).setCell ⟨W.heap.size, 5, none⟩ (.bool st.c)) b V line E p v es W.heap.size u fs st := by
  have hb : w1.heap[W.heap.size]? = some (.cells #[z0, z1, z2, z3, z4, z5] PT) := by
    rw [Below.block hu _ (by rw [World.size_alloc]; omega)]
    exact Go.heap_alloc_new _ _
  have hne : ∀ q, u.ownBlock = some q → q ≠ W.heap.size := fun q e => by
    have := own_base hrow e
    omega
  have h1 : b ≠ W.heap.size := by have := hr.lt; omega
  have h2 : v.ownBlock ≠ some W.heap.size := fun e => by have := hr.vlt e; omega
  have h3 : w0.heap.size ≤ W.heap.size := Below.size hr.up
  have hr1 := hr.more ((Up.alloc W _).trans hu)
  refine ⟨?_, ?_, ?_, Nat.le_refl _⟩
  · have e1 := heap_setCell_same w1 W.heap.size 0 _ PT u hb
    have e2 := heap_setCell_same _ W.heap.size 1 _ PT (.int .u8 (st.mark : Nat)) e1
    have e3 := heap_setCell_same _ W.heap.size 2 _ PT (.int .i64 st.depth) e2
    have e4 := heap_setCell_same _ W.heap.size 3 _ PT (.bool st.j) e3
    have e5 := heap_setCell_same _ W.heap.size 4 _ PT (.bool st.s) e4
    exact heap_setCell_same _ W.heap.size 5 _ PT (.bool st.c) e5
  · exact own_low (own_set (own_set (own_set (own_set (own_set (own_set hrow hne) hne) hne) hne) hne) hne) (Nat.le_succ _)
  · exact (((((hr1.far h1.symm h2 h3).far h1.symm h2 h3).far h1.symm h2 h3).far h1.symm h2 h3).far h1.symm h2 h3).far h1.symm h2 h3
theorem ev_one : ∀ (es : List PEv), ∀ u ∈ evCells es, u.oneCell' = true
  | [], u, h => by cases h
  | e :: r, u, h => by
    have : u ∈ [Value.int .u8 3, .int .u8 (e.kind : Nat), .int .i64 (e.a : Nat), .int .i64 (e.b : Nat)] ++ evCells r := h
    rcases List.mem_append.1 this with h | h
    · simp at h
      rcases h with rfl | rfl | rfl | rfl <;> rfl
    · exact ev_one r u h
end Go.Proofs.YtmfcapbllbfjnaaGreatDoor
