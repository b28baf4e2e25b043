/- The document's state and its events, as memory holds them. Pieces of the code of the document's Scan; what it leaves. The document's Scan: the end of a logical line. The document's Scan: behind the leaves of a line. The document's Scan: behind the leaves of a line. The document's Scan: behind the leaves of a line. The document's Scan: behind the leaves of a line. -/
import Derived.Test.YtmfcapbllbfjnaaGreatDoorOB
import Derived.Test.YtmfcapbllbfjnaaGreatDoorOPScan
namespace Go.Proofs.YtmfcapbllbfjnaaGreatDoor
open Go.RowKit

theorem svL_sets (V : SV) (u : Value) (k : Nat) : (svL V).set (64 + k) u = (List.range 64).map (frV V.u V.c) ++ (tlV V.d V.mo V.ma V.fl V.co V.S V.P V.Q V.wa).set k u := by
  unfold svL
  rw [List.set_append_right _ _ (by simp)]
  congr 2
  simp
/-- The document's state at the block b, and the events told so far. -/
structure DcP (w0 W : World) (B r b : Nat) (V : SV) (v : Value) (es : List LEv) : Prop where
  box : W.heap[b]? = some (.cells (svA V) TS)
  row : RowL W B v es
  lo : w0.heap.size ≤ b
  up : Up w0 W
  base : w0.heap.size ≤ B
  res : W.heap[r]? = some (.cells z0 TS)
  lr : w0.heap.size ≤ r
  ne : r ≠ b
  lt : r < B
  top : B ≤ W.heap.size
variable {w0 W W' w2 : World} {B r b : Nat} {v v' : Value} {es : List LEv} {V V' : SV}
theorem DcP.more (h : DcP w0 W B r b V v es) (hu : Up W W') : DcP w0 W' B r b V v es := by
  refine ⟨?_, own_up h.row hu, h.lo, h.up.trans hu, h.base, ?_, h.lr, h.ne, h.lt, Nat.le_trans h.top (Below.size hu)⟩
  · rw [Below.block hu b (Array.getElem?_eq_some_iff.1 h.box).1]; exact h.box
  · rw [Below.block hu r (Array.getElem?_eq_some_iff.1 h.res).1]; exact h.res
theorem DcP.apart (h : DcP w0 W B r b V v es) {g : Nat} (e : v.ownBlock = some g) : g ≠ b := by
  obtain ⟨cs, fr, hg⟩ := row_ev h.row e
  rintro rfl
  rw [h.box] at hg
  injection hg with hg
  injection hg with _ hg
  exact absurd hg (by decide +kernel)
theorem DcP.set (h : DcP w0 W B r b V v es) {k : Nat} {u : Value} (hk : (svL V).set k u = svL V') : DcP w0 (W.setCell ⟨b, k, none⟩ u) B r b V' v es := by
  refine ⟨?_, own_set h.row (fun g e => h.apart e), h.lo, Below.setCell h.up (p := ⟨b, k, none⟩) h.lo u, h.base, by rw [setCell_far W b k u r (fun e => h.ne e.symm)]; exact h.res, h.lr, h.ne, h.lt, by simpa [World.setCell] using h.top⟩
  have := heap_setCell_same W b k _ _ u h.box
  rw [this]
  congr 2
  unfold svA
  rw [← hk]
  simp
theorem DcP.cell (h : DcP w0 W B r b V v es) {k : Nat} {u : Value} (hk : (svL V)[k]? = some u) : W.cell? ⟨b, k, none⟩ = some u := cellOf h.box (by unfold svA; simpa using hk)
theorem DcP.fr (h : DcP w0 W B r b V v es) (k : Nat) : W.frozen? ⟨b, k, none⟩ = false := frozenOf h.box
theorem DcP.depth (h : DcP w0 W B r b V v es) : W.cell? ⟨b, 64, none⟩ = some (.int .i64 V.d) := h.cell (svL_tl V 0)
theorem DcP.mode (h : DcP w0 W B r b V v es) : W.cell? ⟨b, 65, none⟩ = some (.int .u8 (V.mo : Nat)) := h.cell (svL_tl V 1)
theorem DcP.mark (h : DcP w0 W B r b V v es) : W.cell? ⟨b, 66, none⟩ = some (.int .u8 (V.ma : Nat)) := h.cell (svL_tl V 2)
theorem DcP.flags (h : DcP w0 W B r b V v es) : W.cell? ⟨b, 67, none⟩ = some (.int .u8 (V.fl : Nat)) := h.cell (svL_tl V 3)
theorem DcP.count (h : DcP w0 W B r b V v es) : W.cell? ⟨b, 68, none⟩ = some (.int .i64 V.co) := h.cell (svL_tl V 4)
theorem DcP.setD (h : DcP w0 W B r b V v es) (d : Int) : DcP w0 (W.setCell ⟨b, 64, none⟩ (.int .i64 d)) B r b { V with d := d } v es := h.set (svL_sets V _ 0)
theorem DcP.setMo (h : DcP w0 W B r b V v es) (n : Nat) : DcP w0 (W.setCell ⟨b, 65, none⟩ (.int .u8 (n : Nat))) B r b { V with mo := n } v es := h.set (svL_sets V _ 1)
theorem DcP.setMa (h : DcP w0 W B r b V v es) (n : Nat) : DcP w0 (W.setCell ⟨b, 66, none⟩ (.int .u8 (n : Nat))) B r b { V with ma := n } v es := h.set (svL_sets V _ 2)
theorem DcP.setFl (h : DcP w0 W B r b V v es) (n : Nat) : DcP w0 (W.setCell ⟨b, 67, none⟩ (.int .u8 (n : Nat))) B r b { V with fl := n } v es := h.set (svL_sets V _ 3)
theorem DcP.setCo (h : DcP w0 W B r b V v es) (d : Int) : DcP w0 (W.setCell ⟨b, 68, none⟩ (.int .i64 d)) B r b { V with co := d } v es := h.set (svL_sets V _ 4)
/-- Behind an append: the state stays. -/
theorem DcP.apps {fs : List LEv} (h : DcP w0 W B r b V v es) (hu : Up W W') (hgrow : W'.grownBy w2 v.ownBlock)
    (hown : w2.ownsRow B ET 4 v' (es.length + fs.length) (levCells es ++ levCells fs)) : DcP w0 w2 B r b V v' (es ++ fs) := by
  have hb := (Array.getElem?_eq_some_iff.1 h.box).1
  have hr := (Array.getElem?_eq_some_iff.1 h.res).1
  refine ⟨?_, ?_, h.lo, (h.up.trans hu).grown hgrow (Nat.le_trans (Below.size h.up) (Below.size hu)) (fun q hq => Nat.le_trans h.base (own_base h.row hq)), h.base, ?_, h.lr, h.ne, h.lt, Nat.le_trans (Nat.le_trans h.top (Below.size hu)) hgrow.size⟩
  · rw [hgrow.block b (Nat.lt_of_lt_of_le hb (Below.size hu)) (fun e => h.apart e.symm rfl), Below.block hu b hb]
    exact h.box
  · unfold RowL
    rw [List.length_append, levCells_app]
    exact hown
  · rw [hgrow.block r (Nat.lt_of_lt_of_le hr (Below.size hu)) (fun e => by have := own_base h.row e.symm; have := h.lt; omega), Below.block hu r hr]
    exact h.res
theorem DcP.app {k a c o : Nat} (h : DcP w0 W B r b V v es) (hu : Up W W') (hgrow : W'.grownBy w2 v.ownBlock)
    (hown : w2.ownsRow B ET 4 v' (es.length + 1) (levCells es ++ [.int .u8 (o : Nat), .int .u8 (k : Nat), .int .i64 (a : Nat), .int .i64 (c : Nat)])) :
    DcP w0 w2 B r b V v' (es ++ [⟨o, k, a, c⟩]) := h.apps (fs := [⟨o, k, a, c⟩]) hu hgrow hown
theorem svL_setfr (V V' : SV) (u : Value) {j : Nat} (hj : j < 64) (h : ∀ i, i < 64 → frV V'.u V'.c i = if i = j then u else frV V.u V.c i) (ht : tlV V'.d V'.mo V'.ma V'.fl V'.co V'.S V'.P V'.Q V'.wa = tlV V.d V.mo V.ma V.fl V.co V.S V.P V.Q V.wa) : (svL V).set j u = svL V' := by
  unfold svL
  rw [List.set_append_left _ _ (by simp; exact hj), ht]
  congr 1
  apply List.ext_getElem?
  intro i
  rw [List.getElem?_set]
  by_cases hi : i < 64
  · have h1 := h i hi
    by_cases e : j = i
    · subst e
      rw [if_pos rfl] at h1
      simp [hj, h1]
    · rw [if_neg (fun k => e k.symm)] at h1
      simp [e, hi, h1]
  · simp [hi]
    omega
theorem DcP.congr (h : DcP w0 W B r b V v es) (e : svL V = svL V') : DcP w0 W B r b V' v es := by
  refine ⟨?_, h.row, h.lo, h.up, h.base, h.res, h.lr, h.ne, h.lt, h.top⟩
  rw [h.box]
  unfold svA
  rw [e]
theorem DcP.frame (h : DcP w0 W B r b V v es) {i : Nat} (hi : i < 16) (k : Nat) (c : Int) :
    DcP w0 ((((W.setCell ⟨b, i * 4, none⟩ (.int .u8 (k : Nat))).setCell ⟨b, i * 4 + 1, none⟩ (.int .u8 0)).setCell ⟨b, i * 4 + 2, none⟩ (.int .u8 0)).setCell ⟨b, i * 4 + 3, none⟩ (.int .i64 c)) B r b (setFr V i k c) v es := by
  have h1 := h.set (k := i * 4) (u := .int .u8 (k : Nat)) (V' := { V with u := fun j => if j = i * 4 then k else V.u j }) (svL_setfr _ _ _ (by omega) (fun j hj => by
    unfold frV
    by_cases e : j = i * 4
    · rw [if_pos e, if_neg (by omega)]; simp [e]
    · rw [if_neg e]; simp [e]) rfl)
  have h2 := h1.set (k := i * 4 + 1) (u := .int .u8 0) (V' := { V with u := fun j => if j = i * 4 + 1 then 0 else if j = i * 4 then k else V.u j }) (svL_setfr _ _ _ (by omega) (fun j hj => by
    unfold frV
    by_cases e : j = i * 4 + 1
    · rw [if_pos e, if_neg (by omega)]; simp [e]
    · rw [if_neg e]; simp [e]) rfl)
  have h3 := h2.set (k := i * 4 + 2) (u := .int .u8 0) (V' := { V with u := fun j => if j = i * 4 + 2 then 0 else if j = i * 4 + 1 then 0 else if j = i * 4 then k else V.u j }) (svL_setfr _ _ _ (by omega) (fun j hj => by
    unfold frV
    by_cases e : j = i * 4 + 2
    · rw [if_pos e, if_neg (by omega)]; simp [e]
    · rw [if_neg e]; simp [e]) rfl)
  refine h3.set (k := i * 4 + 3) (u := .int .i64 c) (svL_setfr _ _ _ (by omega) (fun j hj => ?_) rfl)
  unfold frV setFr
  by_cases e : j = i * 4 + 3
  · rw [if_pos e, if_pos (by omega)]
    dsimp only
    rw [if_pos (by omega)]
  · rw [if_neg e]
    by_cases h4 : j % 4 = 3
    · rw [if_pos h4, if_pos h4]
      dsimp only
      rw [if_neg (by omega)]
    · rw [if_neg h4, if_neg h4]
      dsimp only
      congr 2
      by_cases hq : j / 4 = i
      · rw [if_pos hq]
        by_cases h0 : j % 4 = 0
        · rw [if_pos h0, if_neg (by omega), if_neg (by omega), if_pos (by omega)]
        · rw [if_neg h0]
          by_cases h2' : j = i * 4 + 2
          · rw [if_pos h2']
          · rw [if_neg h2', if_pos (by omega)]
      · rw [if_neg hq, if_neg (by omega), if_neg (by omega), if_neg (by omega)]
theorem push_svL {s : LSt} {col n : Nat} (hn : s.cols.length = n) : svL { setFr (svP s) n 10 (col : Int) with d := ((n + 1 : Nat) : Int) } = svL (svP (pushS s col)) := by
  have HN := Lib.hid hn
  refine svL_ext (fun j hj h4 => ?_) (fun i hi => ?_) ?_
  · show (if j / 4 = n then (if j % 4 = 0 then 10 else 0) else if j / 4 < s.cols.length ∧ j % 4 = 0 then 10 else 0) = if j / 4 < (s.cols ++ [col]).length ∧ j % 4 = 0 then 10 else 0
    have hn := HN.out
    rw [List.length_append, List.length_singleton, hn]
    by_cases h0 : j % 4 = 0
    · by_cases h1 : j / 4 = n
      · rw [if_pos h1, if_pos h0, if_pos ⟨by omega, h0⟩]
      · rw [if_neg h1]
        by_cases h2 : j / 4 < n
        · rw [if_pos ⟨h2, h0⟩, if_pos ⟨by omega, h0⟩]
        · rw [if_neg (by omega), if_neg (by omega)]
    · simp [h0]
  · show (if i = n then (col : Int) else ((s.cols.getD i 0 : Nat) : Int)) = (((s.cols ++ [col]).getD i 0 : Nat) : Int)
    have hn := HN.out
    simp only [List.getD_eq_getElem?_getD]
    by_cases h1 : i = n
    · rw [if_pos h1, h1, List.getElem?_append_right (by omega), hn]
      simp
    · rw [if_neg h1]
      by_cases h2 : i < n
      · rw [List.getElem?_append_left (by omega)]
      · rw [List.getElem?_eq_none (by omega), List.getElem?_eq_none (by rw [List.length_append, List.length_singleton]; omega)]
  · show tlV ((n + 1 : Nat) : Int) s.mode s.mark s.flags (s.count : Nat) _ _ _ 0 = tlV (((s.cols ++ [col]).length : Nat) : Int) s.mode s.mark s.flags (s.count : Nat) _ _ _ 0
    rw [List.length_append, List.length_singleton, HN.out]
    rfl
theorem pop_svL {s : LSt} {n : Nat} (hn : s.cols.length = n + 1) : svL (setFr { svP s with d := (n : Int) } n 0 0) = svL (svP (popS s)) := by
  refine svL_ext (fun j hj h4 => ?_) (fun i hi => ?_) ?_
  · show (if j / 4 = n then (if j % 4 = 0 then 0 else 0) else if j / 4 < s.cols.length ∧ j % 4 = 0 then 10 else 0) = if j / 4 < (s.cols.take (s.cols.length - 1)).length ∧ j % 4 = 0 then 10 else 0
    rw [List.length_take, hn]
    by_cases h0 : j % 4 = 0
    · by_cases h1 : j / 4 = n
      · rw [if_pos h1, if_pos h0, if_neg (by omega)]
      · rw [if_neg h1]
        by_cases h2 : j / 4 < n
        · rw [if_pos ⟨by omega, h0⟩, if_pos ⟨by omega, h0⟩]
        · rw [if_neg (by omega), if_neg (by omega)]
    · simp [h0]
  · show (if i = n then (0 : Int) else ((s.cols.getD i 0 : Nat) : Int)) = (((s.cols.take (s.cols.length - 1)).getD i 0 : Nat) : Int)
    simp only [List.getD_eq_getElem?_getD]
    rw [hn, Nat.add_sub_cancel]
    by_cases h1 : i < n
    · rw [if_neg (by omega), List.getElem?_take_of_lt h1]
    · rw [List.getElem?_eq_none (l := s.cols.take n) (by rw [List.length_take]; omega)]
      by_cases h2 : i = n
      · rw [if_pos h2]; rfl
      · rw [if_neg h2, List.getElem?_eq_none (by omega)]
  · show tlV (n : Int) s.mode s.mark s.flags (s.count : Nat) _ _ _ 0 = tlV (((s.cols.take (s.cols.length - 1)).length : Nat) : Int) s.mode s.mark s.flags (s.count : Nat) _ _ _ 0
    rw [List.length_take, hn, show min (n + 1 - 1) (n + 1) = n from by omega]
    rfl
theorem there_heap {w : World} {g : Nat} (h : w.heap[g]? = some (.cells z0 TS)) : w.there g 0 82 := fun j hj => by
  have hz : j < z0.toList.length := by
    have : z0.size = 82 := z0_is.size
    simpa [this] using hj
  obtain ⟨u, hu⟩ : ∃ u, z0[j]? = some u := ⟨_, Array.getElem?_eq_getElem (by simpa using hz)⟩
  rw [Nat.zero_add]
  exact ⟨by rw [cellOf h hu]; rfl, frozenOf h⟩
theorem dc_state {s : LSt} (h : DcP w0 W B r b (svP s) v es) (hs : LOk s) : ldV (.pointer (some ⟨b, 0, none⟩)) W = some (.agg (stA s)) := by
  refine ldV_of (stA_is hs) (fun j u hj => ?_)
  rw [Nat.zero_add]
  exact h.cell (by unfold stA svA at hj; simpa using hj)
/-- The result's cell, behind the store. -/
structure DFin (w0 W : World) (r : Nat) (S : LSt) (v : Value) (es : List LEv) : Prop where
  ld : ldV (.pointer (some ⟨r, 0, none⟩)) W = some (.agg (stA S))
  row : RowL W w0.heap.size v es
  up : Up w0 W
theorem dfin {S : LSt} (h : DcP w0 W B r b V v es) (hS : LOk S) : stV (.pointer (some ⟨r, 0, none⟩)) (.agg (stA S)) W = some (W.setCells r 0 (stA S).toList) ∧ DFin w0 (W.setCells r 0 (stA S).toList) r S v es := by
  have hx := stA_is hS
  have ht := there_heap h.res
  refine ⟨stV_of hx ht, set_ld hx ht, own_low (own_setCells h.row (fun g e => ?_)) h.base, set_upS h.up h.lr⟩
  have := own_base h.row e
  have := h.lt
  omega
end Go.Proofs.YtmfcapbllbfjnaaGreatDoor

namespace Go.Proofs.YtmfcapbllbfjnaaGreatDoor
open Go.RowKit

/-- The region of a number in a code. -/
def dReg (n : Nat) : Code → Option Code
  | .region k o m => if k = n then some (.region k o m) else none
  | .loop c => dReg n c
  | .seq a b => (dReg n a).or (dReg n b)
  | .block _ c => dReg n c
  | .scope c => dReg n c
  | .cond _ a b => (dReg n a).or (dReg n b)
  | _ => none
def isReg (n : Nat) : Code → Bool
  | .region k _ _ => k == n
  | _ => false
/-- What stands behind a region. -/
def dRest (n : Nat) : Code → Option Code
  | .seq a b => if isReg n a = true then some b else (dRest n a).or (dRest n b)
  | .loop c => dRest n c
  | .block _ c => dRest n c
  | .scope c => dRest n c
  | .cond _ a b => (dRest n a).or (dRest n b)
  | _ => none
noncomputable def dTail : Code := ((Tryz.f5.body.bind (dRest 31)).getD .skip)
noncomputable def dTail30 : Code := ((Tryz.f5.body.bind (dRest 30)).getD .skip)
noncomputable def dReg50 : Code := ((Tryz.f5.body.bind (dReg 50)).getD .skip)
theorem wp_only2 {P : Program} {s : Code} {K : Act → World → Prop} {Q' : Exit → Act → World → Prop} {a : Act} {w : World} (h : s.wp P (Exit.then K (fun _ _ _ => False)) a w) : s.wp P (Exit.then K Q') a w := by
  refine wp_mono h ?_
  intro e a' w' hq
  cases e with
  | normal => exact hq
  | exit id => exact hq.elim
  | goto l => exact hq.elim
  | ret => exact hq.elim
  | panic ch => exact hq.elim
  | outgrown => exact hq.elim
/-- What is left: events, and a state. -/
def Fin12 (w0 : World) (r : Nat) (es : List LEv) (S : LSt) (Q : Exit → Act → World → Prop) : Prop := ∀ (x : Act) (W' : World) (v' : Value), x.tmps[4]? = some v' → x.tmps[5]? = some (.pointer (some ⟨r, 0, none⟩)) → x.defers = [] → ldV (.pointer (some ⟨r, 0, none⟩)) W' = some (.agg (stA S)) → RowL W' w0.heap.size v' es → Up w0 W' → Q .ret x W'
abbrev OT12 : TypeId := 49
end Go.Proofs.YtmfcapbllbfjnaaGreatDoor

namespace Go.Proofs.YtmfcapbllbfjnaaGreatDoor
open Go.RowKit
variable {u0 u1 u2 u3 u4 u5 u6 u7 u8 u9 u10 u11 u12 u13 u14 u15 u16 u17 u18 u19 u20 u21 u22 u23 u24 u25 u26 u27 u28 u29 u30 u31 u32 u33 u34 u35 u36 u37 u38 u39 u40 u41 u42 u43 u44 u45 u46 u47 u48 u49 u50 u51 u52 u53 u54 u55 u56 u57 u58 u59 u60 u61 u62 u63 u64 u65 u66 u67 u68 u69 u70 u71 u72 u73 u74 u75 u76 u77 u78 u79 u80 u81 u82 u83 u84 u85 u86 u87 u88 u89 u90 u91 u92 u93 u94 u95 u96 u97 u98 u99 u100 u101 u102 u103 u104 u105 u106 u107 u108 u109 u110 u111 u112 u113 u114 u115 u116 u117 u118 u119 u120 u121 u122 u123 u124 u125 u126 u127 u128 u129 u130 u131 u132 u133 u134 u135 u136 u137 u138 u139 u140 u141 u142 u143 u144 u145 u146 u147 u148 u149 u150 u151 u152 u153 u154 u155 u156 u157 u158 u159 u160 u161 u162 u163 : Value}
attribute [local go_sem ↓] ldS_eq stS_eq elS_eq neS_eq zrS_eq bdS_eq
attribute [local go_sem] ldS_run stS_run elS_run neS_run zrS_run bdS_run0 bdS_run1 g0_rule ldV_drew ldV_drewN

set_option maxRecDepth 1000000 in
set_option maxHeartbeats 16000000 in
theorem piece12_50 (w0 W : World) (B r bs E kd : Nat) (S : LSt) (v : Value) (es : List LEv) (hl : es.length ≤ 1000000) (HD : DcP w0 W B r bs (svP S) v es) (hS : LOk S) (K : Act → World → Prop) (Q0 : Exit → Act → World → Prop)
    (hK : ∀ (d157 d158 d159 d160 d161 d162 d163 : Value) (v' : Value) (wx : World), DFin w0 wx r S v' (es ++ [evC kd E]) → K ⟨(u0::u1::u2::u3::v'::(Value.pointer (some ⟨r, 0, none⟩))::(Value.pointer (some ⟨bs, 0, none⟩))::v::(Value.int .i64 (E : Nat))::u9::u10::u11::u12::u13::u14::(Value.int .u8 (kd : Nat))::u16::u17::u18::u19::u20::u21::u22::u23::u24::u25::u26::u27::u28::u29::u30::u31::u32::u33::u34::u35::u36::u37::u38::u39::u40::u41::u42::u43::u44::u45::u46::u47::u48::u49::u50::u51::u52::u53::u54::u55::u56::u57::u58::u59::u60::u61::u62::u63::u64::u65::u66::u67::u68::u69::u70::u71::u72::u73::u74::u75::u76::u77::u78::u79::u80::u81::u82::u83::u84::u85::u86::u87::u88::u89::u90::u91::u92::u93::u94::u95::u96::u97::u98::u99::u100::u101::u102::u103::u104::u105::u106::u107::u108::u109::u110::u111::u112::u113::u114::u115::u116::u117::u118::u119::u120::u121::u122::u123::u124::u125::u126::u127::u128::u129::u130::u131::u132::u133::u134::u135::u136::u137::u138::u139::u140::u141::u142::u143::u144::u145::u146::u147::u148::u149::u150::u151::u152::u153::u154::u155::u156::d157::d158::d159::d160::d161::d162::d163::[]).toArray, []⟩ wx) :
    Code.wp Tryz.prog dReg50 (Exit.then K Q0) ⟨(u0::u1::u2::u3::u4::(Value.pointer (some ⟨r, 0, none⟩))::(Value.pointer (some ⟨bs, 0, none⟩))::v::(Value.int .i64 (E : Nat))::u9::u10::u11::u12::u13::u14::(Value.int .u8 (kd : Nat))::u16::u17::u18::u19::u20::u21::u22::u23::u24::u25::u26::u27::u28::u29::u30::u31::u32::u33::u34::u35::u36::u37::u38::u39::u40::u41::u42::u43::u44::u45::u46::u47::u48::u49::u50::u51::u52::u53::u54::u55::u56::u57::u58::u59::u60::u61::u62::u63::u64::u65::u66::u67::u68::u69::u70::u71::u72::u73::u74::u75::u76::u77::u78::u79::u80::u81::u82::u83::u84::u85::u86::u87::u88::u89::u90::u91::u92::u93::u94::u95::u96::u97::u98::u99::u100::u101::u102::u103::u104::u105::u106::u107::u108::u109::u110::u111::u112::u113::u114::u115::u116::u117::u118::u119::u120::u121::u122::u123::u124::u125::u126::u127::u128::u129::u130::u131::u132::u133::u134::u135::u136::u137::u138::u139::u140::u141::u142::u143::u144::u145::u146::u147::u148::u149::u150::u151::u152::u153::u154::u155::u156::u157::u158::u159::u160::u161::u162::u163::[]).toArray, []⟩ W := by
  conv => arg 2; whnf
  refine wp_only2 ?_
  obtain ⟨A, c0, hv⟩ := own_slice HD.row
  obtain ⟨n, hn⟩ : ∃ n, es.length = n := ⟨_, rfl⟩
  rw [hn] at hv
  subst hv
  obtain ⟨i0, hi0, hz0, hz1, hz2⟩ := info_parts infoEvent
  have HK := Lib.hid hK
  have hld := dc_state HD hS
  have hld1 := dc_state (HD.more (Up.alloc W (.cells #[.int .u8 2, .int .u8 (kd : Nat), .int .i64 (E : Nat), .int .i64 0] ET))) hS
  have hld2 := dc_state (HD.more ((Up.drew W).trans (Up.alloc W.drew (.cells #[.int .u8 2, .int .u8 (kd : Nat), .int .i64 (E : Nat), .int .i64 0] ET)))) hS
  have HOWN : W.ownsRow B ET 4 (.slice A n c0) n (levCells es) := by have h := HD.row; unfold RowL at h; rwa [hn] at h
  have hu := (Up.alloc W (.cells #[.int .u8 2, .int .u8 (kd : Nat), .int .i64 (E : Nat), .int .i64 0] ET)).trans (Up.drew _)
  have HAP := Lib.hid (fun (w5 : World) (v5 : Value) (hg : (W.alloc (.cells #[.int .u8 2, .int .u8 (kd : Nat), .int .i64 (E : Nat), .int .i64 0] ET)).drew.grownBy w5 (Value.slice A n c0).ownBlock) (ho : w5.ownsRow B ET 4 v5 (es.length + 1) (levCells es ++ [.int .u8 ((2 : Nat) : Int), .int .u8 (kd : Nat), .int .i64 (E : Nat), .int .i64 ((0 : Nat) : Int)])) => HD.app (k := kd) (a := E) (c := 0) (o := 2) hu hg ho)
  have hb0 : B ≤ (W.alloc (.cells #[.int .u8 2, .int .u8 (kd : Nat), .int .i64 (E : Nat), .int .i64 0] ET)).heap.size := Nat.le_trans HD.top (Below.size (Up.alloc W _))
  have b1 : n + 1 ≤ maxLen := by unfold maxLen; omega
  have b2 : (n + 1) * 24 ≤ 140737488355328 := by omega
  have HN := Lib.hid hn
  have hnews : ∀ u ∈ [Value.int .u8 2, .int .u8 (kd : Nat), .int .i64 (E : Nat), .int .i64 0], u.oneCell' = true := by intro u hu; simp at hu; rcases hu with rfl | rfl | rfl | rfl <;> rfl
  have HS := Lib.hid hS
  clear hK HD hu hl hn hS
  go_region_law (first
    | (refine step_append_lies _ (by rfl) _ _ _ (by rfl) B ET i0 (.agg #[.int .u8 0, .int .u8 0, .int .i64 0, .int .i64 0]) 4 24 Tryz.underlying30 hi0 hz0 hz1 hz2 rfl (by decide) _ n (levCells es) (by rfl) (HOWN.alloc _) ⟨W.heap.size, 0, none⟩ 1 1 [Value.int .u8 2, .int .u8 (kd : Nat), .int .i64 (E : Nat), .int .i64 0] (by rfl) rfl (World.news_of_block (cs := #[Value.int .u8 2, .int .u8 (kd : Nat), .int .i64 (E : Nat), .int .i64 0]) (t := ET) (fr := (0, 0)) (heap_alloc_new W _)) hnews (by omega) b1 b2 hb0 (W.heap.size + 1) (by simp) ?_; intro g5 cap5 w5 hown5 hgrow hat5 hlt5; have hdc := HAP.out _ _ hgrow (by rw [HN.out]; exact hown5); have hl5 := dc_state hdc HS.out; obtain ⟨hst5, hfin⟩ := dfin hdc HS.out; have HFIN := Lib.hid hfin; clear hfin hdc))
  all_goals
    go_wp2
    exact HK.out _ _ _ _ _ _ _ _ _ HFIN.out
end Go.Proofs.YtmfcapbllbfjnaaGreatDoor

namespace Go.Proofs.YtmfcapbllbfjnaaGreatDoor
open Go.RowKit
variable {u0 u1 u2 u3 u4 u5 u6 u7 u8 u9 u10 u11 u12 u13 u14 u15 u16 u17 u18 u19 u20 u21 u22 u23 u24 u25 u26 u27 u28 u29 u30 u31 u32 u33 u34 u35 u36 u37 u38 u39 u40 u41 u42 u43 u44 u45 u46 u47 u48 u49 u50 u51 u52 u53 u54 u55 u56 u57 u58 u59 u60 u61 u62 u63 u64 u65 u66 u67 u68 u69 u70 u71 u72 u73 u74 u75 u76 u77 u78 u79 u80 u81 u82 u83 u84 u85 u86 u87 u88 u89 u90 u91 u92 u93 u94 u95 u96 u97 u98 u99 u100 u101 u102 u103 u104 u105 u106 u107 u108 u109 u110 u111 u112 u113 u114 u115 u116 u117 u118 u119 u120 u121 u122 u123 u124 u125 u126 u127 u128 u129 u130 u131 u132 u133 u134 u135 u136 u137 u138 u139 u140 u141 u142 u143 u144 u145 u146 u147 u148 u149 u150 u151 u152 u153 u154 u155 u156 u157 u158 u159 u160 u161 u162 u163 : Value}
attribute [local go_sem ↓] ldS_eq stS_eq elS_eq neS_eq zrS_eq bdS_eq
attribute [local go_sem] ldS_run stS_run elS_run neS_run zrS_run bdS_run0 bdS_run1 g0_rule ldV_drew ldV_drewN

set_option maxRecDepth 1000000 in
set_option maxHeartbeats 16000000 in
theorem tail12_stj (w0 W : World) (B r bs bo E : Nat) (s : LSt) (v vo : Value) (es : List LEv) (mk : Nat) (dp : Int) (hd0 : 0 ≤ dp) (hl : es.length ≤ 1000000) (HD : Hid (DcP w0 W B r bs (svP s) v es)) (ho : W.heap[bo]? = some (.cells (outA vo ⟨mk, dp, true, true, true⟩) OT12)) (hS : LOk ⟨s.cols, 1, mk, 2, dp.toNat⟩) (Q : Exit → Act → World → Prop) (hQ : Fin12 w0 r es ⟨s.cols, 1, mk, 2, dp.toNat⟩ Q) :
    Code.wp Tryz.prog dTail Q ⟨(u0::u1::u2::u3::u4::(Value.pointer (some ⟨r, 0, none⟩))::(Value.pointer (some ⟨bs, 0, none⟩))::v::(Value.int .i64 (E : Nat))::u9::u10::u11::u12::(Value.pointer (some ⟨bo, 0, none⟩))::u14::u15::u16::u17::u18::u19::u20::u21::u22::u23::u24::u25::u26::u27::u28::u29::u30::u31::u32::u33::u34::u35::u36::u37::u38::u39::u40::u41::u42::u43::u44::u45::u46::u47::u48::u49::u50::u51::u52::u53::u54::u55::u56::u57::u58::u59::u60::u61::u62::u63::u64::u65::u66::u67::u68::u69::u70::u71::u72::u73::u74::u75::u76::u77::u78::u79::u80::u81::u82::u83::u84::u85::u86::u87::u88::u89::u90::u91::u92::u93::u94::u95::u96::u97::u98::u99::u100::u101::u102::u103::u104::u105::u106::u107::u108::u109::u110::u111::u112::u113::u114::u115::u116::u117::u118::u119::u120::u121::u122::u123::u124::u125::u126::u127::u128::u129::u130::u131::u132::u133::u134::u135::u136::u137::u138::u139::u140::u141::u142::u143::u144::u145::u146::u147::u148::u149::u150::u151::u152::u153::u154::u155::u156::u157::u158::u159::u160::u161::u162::u163::[]).toArray, []⟩ W := by
  conv => arg 2; whnf
  have HS := Lib.hid hS
  have HQ := Lib.hid hQ
  have HL := Lib.hid hl
  have hne : bo ≠ bs := by
    rintro rfl
    have h := HD.out.box
    rw [ho] at h
    injection h with h
    injection h with _ h
    exact absurd h (by decide +kernel)
  have hne2 : bs ≠ bo := fun e => hne e.symm
  have k1 : W.cell? ⟨bo, 1, none⟩ = some (.int .u8 (mk : Nat)) := cellOf (j := 1) ho rfl
  have k2 : W.cell? ⟨bo, 2, none⟩ = some (.int .i64 dp) := cellOf (j := 2) ho rfl
  have k3 : W.cell? ⟨bo, 3, none⟩ = some (.bool true) := cellOf (j := 3) ho rfl
  have k4 : W.cell? ⟨bo, 4, none⟩ = some (.bool true) := cellOf (j := 4) ho rfl
  have k5 : W.cell? ⟨bo, 5, none⟩ = some (.bool true) := cellOf (j := 5) ho rfl
  have cf := HD.out.flags
  change _ = some (Value.int .u8 ((s.flags : Nat) : Int)) at cf
  have f65 := HD.out.fr 65
  have f66 := HD.out.fr 66
  have f67 := HD.out.fr 67
  have f68 := HD.out.fr 68
  have c65 := HD.out.mode
  have c66 := HD.out.mark
  have c68 := HD.out.count
  have hch := (((((HD.out.setFl 0).setMo 1).setMa mk).setCo dp).setFl 2).congr (V' := svP ⟨s.cols, 1, mk, 2, dp.toNat⟩) (by rw [show dp = ((dp.toNat : Nat) : Int) from by omega]; rfl)
  (try rw [show ((0 : Nat) : Int) = 0 from rfl] at hch)
  (try rw [show ((1 : Nat) : Int) = 1 from rfl] at hch)
  (try rw [show ((2 : Nat) : Int) = 2 from rfl] at hch)
  have HCH := Lib.hid hch
  clear hch ho hS hQ hl hd0
  go_upto_region 42 with fail
  generalize hw5 : World.setCell _ _ _ = w5
  rw [hw5] at HCH
  have hld := dc_state HCH.out HS.out
  obtain ⟨hst2, hfin⟩ := dfin (HCH.out.more (Up.drew _)) HS.out
  have HFIN := Lib.hid hfin
  clear hfin hw5 k1 k2 k3 k4 k5 cf f65 f66 f67 f68 c65 c66 c68
  go_region
  all_goals
    go_wp2
    exact HQ.out _ _ v rfl rfl rfl HFIN.out.ld HFIN.out.row HFIN.out.up
set_option maxRecDepth 1000000 in
set_option maxHeartbeats 16000000 in
theorem tail12_stm (w0 W : World) (B r bs bo E : Nat) (s : LSt) (v vo : Value) (es : List LEv) (mk : Nat) (dp : Int) (hmk : mk ≠ 0) (hd0 : 0 ≤ dp) (hl : es.length ≤ 1000000) (HD : Hid (DcP w0 W B r bs (svP s) v es)) (ho : W.heap[bo]? = some (.cells (outA vo ⟨mk, dp, false, true, true⟩) OT12)) (hS : LOk ⟨s.cols, 1, mk, 2, dp.toNat⟩) (Q : Exit → Act → World → Prop) (hQ : Fin12 w0 r es ⟨s.cols, 1, mk, 2, dp.toNat⟩ Q) :
    Code.wp Tryz.prog dTail Q ⟨(u0::u1::u2::u3::u4::(Value.pointer (some ⟨r, 0, none⟩))::(Value.pointer (some ⟨bs, 0, none⟩))::v::(Value.int .i64 (E : Nat))::u9::u10::u11::u12::(Value.pointer (some ⟨bo, 0, none⟩))::u14::u15::u16::u17::u18::u19::u20::u21::u22::u23::u24::u25::u26::u27::u28::u29::u30::u31::u32::u33::u34::u35::u36::u37::u38::u39::u40::u41::u42::u43::u44::u45::u46::u47::u48::u49::u50::u51::u52::u53::u54::u55::u56::u57::u58::u59::u60::u61::u62::u63::u64::u65::u66::u67::u68::u69::u70::u71::u72::u73::u74::u75::u76::u77::u78::u79::u80::u81::u82::u83::u84::u85::u86::u87::u88::u89::u90::u91::u92::u93::u94::u95::u96::u97::u98::u99::u100::u101::u102::u103::u104::u105::u106::u107::u108::u109::u110::u111::u112::u113::u114::u115::u116::u117::u118::u119::u120::u121::u122::u123::u124::u125::u126::u127::u128::u129::u130::u131::u132::u133::u134::u135::u136::u137::u138::u139::u140::u141::u142::u143::u144::u145::u146::u147::u148::u149::u150::u151::u152::u153::u154::u155::u156::u157::u158::u159::u160::u161::u162::u163::[]).toArray, []⟩ W := by
  conv => arg 2; whnf
  have HS := Lib.hid hS
  have HQ := Lib.hid hQ
  have HL := Lib.hid hl
  have hne : bo ≠ bs := by
    rintro rfl
    have h := HD.out.box
    rw [ho] at h
    injection h with h
    injection h with _ h
    exact absurd h (by decide +kernel)
  have hne2 : bs ≠ bo := fun e => hne e.symm
  have k1 : W.cell? ⟨bo, 1, none⟩ = some (.int .u8 (mk : Nat)) := cellOf (j := 1) ho rfl
  have k2 : W.cell? ⟨bo, 2, none⟩ = some (.int .i64 dp) := cellOf (j := 2) ho rfl
  have k3 : W.cell? ⟨bo, 3, none⟩ = some (.bool false) := cellOf (j := 3) ho rfl
  have k4 : W.cell? ⟨bo, 4, none⟩ = some (.bool true) := cellOf (j := 4) ho rfl
  have k5 : W.cell? ⟨bo, 5, none⟩ = some (.bool true) := cellOf (j := 5) ho rfl
  have cf := HD.out.flags
  change _ = some (Value.int .u8 ((s.flags : Nat) : Int)) at cf
  have f65 := HD.out.fr 65
  have f66 := HD.out.fr 66
  have f67 := HD.out.fr 67
  have f68 := HD.out.fr 68
  have c65 := HD.out.mode
  have c66 := HD.out.mark
  have c68 := HD.out.count
  have gm : ((mk : Int) == 0) = false := beq_eq_false_iff_ne.2 (by omega)
  have gm' : ¬ (mk : Int) = 0 := by omega
  have gm2 : ((mk : Int) != 0) = true := bne_iff_ne.2 gm'
  have hch := (((((HD.out.setFl 0).setMo 1).setMa mk).setCo dp).setFl 2).congr (V' := svP ⟨s.cols, 1, mk, 2, dp.toNat⟩) (by rw [show dp = ((dp.toNat : Nat) : Int) from by omega]; rfl)
  (try rw [show ((0 : Nat) : Int) = 0 from rfl] at hch)
  (try rw [show ((1 : Nat) : Int) = 1 from rfl] at hch)
  (try rw [show ((2 : Nat) : Int) = 2 from rfl] at hch)
  have HCH := Lib.hid hch
  clear hch ho hS hQ hl hmk hd0
  go_upto_region 42 with fail
  generalize hw5 : World.setCell _ _ _ = w5
  rw [hw5] at HCH
  have hld := dc_state HCH.out HS.out
  obtain ⟨hst2, hfin⟩ := dfin (HCH.out.more (Up.drew _)) HS.out
  have HFIN := Lib.hid hfin
  clear hfin hw5 k1 k2 k3 k4 k5 cf f65 f66 f67 f68 c65 c66 c68
  go_region
  all_goals
    go_wp2
    exact HQ.out _ _ v rfl rfl rfl HFIN.out.ld HFIN.out.row HFIN.out.up
set_option maxRecDepth 1000000 in
set_option maxHeartbeats 16000000 in
theorem tail12_std (w0 W : World) (B r bs bo E : Nat) (s : LSt) (v vo : Value) (es : List LEv) (dp : Int) (hdp : 0 < dp) (hl : es.length ≤ 1000000) (HD : Hid (DcP w0 W B r bs (svP s) v es)) (ho : W.heap[bo]? = some (.cells (outA vo ⟨0, dp, false, true, true⟩) OT12)) (hS : LOk ⟨s.cols, 1, 0, 2, dp.toNat⟩) (Q : Exit → Act → World → Prop) (hQ : Fin12 w0 r es ⟨s.cols, 1, 0, 2, dp.toNat⟩ Q) :
    Code.wp Tryz.prog dTail Q ⟨(u0::u1::u2::u3::u4::(Value.pointer (some ⟨r, 0, none⟩))::(Value.pointer (some ⟨bs, 0, none⟩))::v::(Value.int .i64 (E : Nat))::u9::u10::u11::u12::(Value.pointer (some ⟨bo, 0, none⟩))::u14::u15::u16::u17::u18::u19::u20::u21::u22::u23::u24::u25::u26::u27::u28::u29::u30::u31::u32::u33::u34::u35::u36::u37::u38::u39::u40::u41::u42::u43::u44::u45::u46::u47::u48::u49::u50::u51::u52::u53::u54::u55::u56::u57::u58::u59::u60::u61::u62::u63::u64::u65::u66::u67::u68::u69::u70::u71::u72::u73::u74::u75::u76::u77::u78::u79::u80::u81::u82::u83::u84::u85::u86::u87::u88::u89::u90::u91::u92::u93::u94::u95::u96::u97::u98::u99::u100::u101::u102::u103::u104::u105::u106::u107::u108::u109::u110::u111::u112::u113::u114::u115::u116::u117::u118::u119::u120::u121::u122::u123::u124::u125::u126::u127::u128::u129::u130::u131::u132::u133::u134::u135::u136::u137::u138::u139::u140::u141::u142::u143::u144::u145::u146::u147::u148::u149::u150::u151::u152::u153::u154::u155::u156::u157::u158::u159::u160::u161::u162::u163::[]).toArray, []⟩ W := by
  conv => arg 2; whnf
  have HS := Lib.hid hS
  have HQ := Lib.hid hQ
  have HL := Lib.hid hl
  have hne : bo ≠ bs := by
    rintro rfl
    have h := HD.out.box
    rw [ho] at h
    injection h with h
    injection h with _ h
    exact absurd h (by decide +kernel)
  have hne2 : bs ≠ bo := fun e => hne e.symm
  have k1 : W.cell? ⟨bo, 1, none⟩ = some (.int .u8 0) := cellOf (j := 1) ho rfl
  have k2 : W.cell? ⟨bo, 2, none⟩ = some (.int .i64 dp) := cellOf (j := 2) ho rfl
  have k3 : W.cell? ⟨bo, 3, none⟩ = some (.bool false) := cellOf (j := 3) ho rfl
  have k4 : W.cell? ⟨bo, 4, none⟩ = some (.bool true) := cellOf (j := 4) ho rfl
  have k5 : W.cell? ⟨bo, 5, none⟩ = some (.bool true) := cellOf (j := 5) ho rfl
  have cf := HD.out.flags
  change _ = some (Value.int .u8 ((s.flags : Nat) : Int)) at cf
  have f65 := HD.out.fr 65
  have f66 := HD.out.fr 66
  have f67 := HD.out.fr 67
  have f68 := HD.out.fr 68
  have c65 := HD.out.mode
  have c66 := HD.out.mark
  have c68 := HD.out.count
  have gd : decide ((0 : Int) < dp) = true := decide_eq_true hdp
  have hch := (((((HD.out.setFl 0).setMo 1).setMa 0).setCo dp).setFl 2).congr (V' := svP ⟨s.cols, 1, 0, 2, dp.toNat⟩) (by rw [show dp = ((dp.toNat : Nat) : Int) from by omega]; rfl)
  (try rw [show ((0 : Nat) : Int) = 0 from rfl] at hch)
  (try rw [show ((1 : Nat) : Int) = 1 from rfl] at hch)
  (try rw [show ((2 : Nat) : Int) = 2 from rfl] at hch)
  have HCH := Lib.hid hch
  clear hch ho hS hQ hl hdp
  go_upto_region 42 with fail
  generalize hw5 : World.setCell _ _ _ = w5
  rw [hw5] at HCH
  have hld := dc_state HCH.out HS.out
  obtain ⟨hst2, hfin⟩ := dfin (HCH.out.more (Up.drew _)) HS.out
  have HFIN := Lib.hid hfin
  clear hfin hw5 k1 k2 k3 k4 k5 cf f65 f66 f67 f68 c65 c66 c68
  go_region
  all_goals
    go_wp2
    exact HQ.out _ _ v rfl rfl rfl HFIN.out.ld HFIN.out.row HFIN.out.up
set_option maxRecDepth 1000000 in
set_option maxHeartbeats 16000000 in
theorem tail12_stn (w0 W : World) (B r bs bo E : Nat) (s : LSt) (v vo : Value) (es : List LEv) (hl : es.length ≤ 1000000) (HD : Hid (DcP w0 W B r bs (svP s) v es)) (ho : W.heap[bo]? = some (.cells (outA vo ⟨0, 0, false, true, true⟩) OT12)) (hS : LOk ⟨s.cols, 0, 0, 1, 0⟩) (Q : Exit → Act → World → Prop) (hQ : Fin12 w0 r (es ++ [evC 12 E]) ⟨s.cols, 0, 0, 1, 0⟩ Q) :
    Code.wp Tryz.prog dTail Q ⟨(u0::u1::u2::u3::u4::(Value.pointer (some ⟨r, 0, none⟩))::(Value.pointer (some ⟨bs, 0, none⟩))::v::(Value.int .i64 (E : Nat))::u9::u10::u11::u12::(Value.pointer (some ⟨bo, 0, none⟩))::u14::u15::u16::u17::u18::u19::u20::u21::u22::u23::u24::u25::u26::u27::u28::u29::u30::u31::u32::u33::u34::u35::u36::u37::u38::u39::u40::u41::u42::u43::u44::u45::u46::u47::u48::u49::u50::u51::u52::u53::u54::u55::u56::u57::u58::u59::u60::u61::u62::u63::u64::u65::u66::u67::u68::u69::u70::u71::u72::u73::u74::u75::u76::u77::u78::u79::u80::u81::u82::u83::u84::u85::u86::u87::u88::u89::u90::u91::u92::u93::u94::u95::u96::u97::u98::u99::u100::u101::u102::u103::u104::u105::u106::u107::u108::u109::u110::u111::u112::u113::u114::u115::u116::u117::u118::u119::u120::u121::u122::u123::u124::u125::u126::u127::u128::u129::u130::u131::u132::u133::u134::u135::u136::u137::u138::u139::u140::u141::u142::u143::u144::u145::u146::u147::u148::u149::u150::u151::u152::u153::u154::u155::u156::u157::u158::u159::u160::u161::u162::u163::[]).toArray, []⟩ W := by
  conv => arg 2; whnf
  have HS := Lib.hid hS
  have HQ := Lib.hid hQ
  have HL := Lib.hid hl
  have hne : bo ≠ bs := by
    rintro rfl
    have h := HD.out.box
    rw [ho] at h
    injection h with h
    injection h with _ h
    exact absurd h (by decide +kernel)
  have hne2 : bs ≠ bo := fun e => hne e.symm
  have k1 : W.cell? ⟨bo, 1, none⟩ = some (.int .u8 0) := cellOf (j := 1) ho rfl
  have k2 : W.cell? ⟨bo, 2, none⟩ = some (.int .i64 0) := cellOf (j := 2) ho rfl
  have k3 : W.cell? ⟨bo, 3, none⟩ = some (.bool false) := cellOf (j := 3) ho rfl
  have k4 : W.cell? ⟨bo, 4, none⟩ = some (.bool true) := cellOf (j := 4) ho rfl
  have k5 : W.cell? ⟨bo, 5, none⟩ = some (.bool true) := cellOf (j := 5) ho rfl
  have cf := HD.out.flags
  change _ = some (Value.int .u8 ((s.flags : Nat) : Int)) at cf
  have f65 := HD.out.fr 65
  have f66 := HD.out.fr 66
  have f67 := HD.out.fr 67
  have f68 := HD.out.fr 68
  have c65 := HD.out.mode
  have c66 := HD.out.mark
  have c68 := HD.out.count
  have hch := (((((HD.out.setFl 0).setMo 0).setMa 0).setCo 0).setFl 1).congr (V' := svP ⟨s.cols, 0, 0, 1, 0⟩) (by rfl)
  (try rw [show ((0 : Nat) : Int) = 0 from rfl] at hch)
  (try rw [show ((1 : Nat) : Int) = 1 from rfl] at hch)
  (try rw [show ((2 : Nat) : Int) = 2 from rfl] at hch)
  have HCH := Lib.hid hch
  clear hch ho hS hQ hl
  go_upto_region 50 with fail
  generalize hw5 : World.setCell _ _ _ = w5
  rw [hw5] at HCH
  clear hw5 k1 k2 k3 k4 k5 cf f65 f66 f67 f68 c65 c66 c68
  refine piece12_50 w0 w5 B r bs E 12 _ v es HL.out HCH.out HS.out _ _  ?_
  intro _ _ _ _ _ _ _ v' w6 hfin
  have HFIN := Lib.hid hfin
  clear hfin
  go_wp2
  exact HQ.out _ _ v' rfl rfl rfl HFIN.out.ld HFIN.out.row HFIN.out.up
end Go.Proofs.YtmfcapbllbfjnaaGreatDoor

namespace Go.Proofs.YtmfcapbllbfjnaaGreatDoor
open Go.RowKit
variable {u0 u1 u2 u3 u4 u5 u6 u7 u8 u9 u10 u11 u12 u13 u14 u15 u16 u17 u18 u19 u20 u21 u22 u23 u24 u25 u26 u27 u28 u29 u30 u31 u32 u33 u34 u35 u36 u37 u38 u39 u40 u41 u42 u43 u44 u45 u46 u47 u48 u49 u50 u51 u52 u53 u54 u55 u56 u57 u58 u59 u60 u61 u62 u63 u64 u65 u66 u67 u68 u69 u70 u71 u72 u73 u74 u75 u76 u77 u78 u79 u80 u81 u82 u83 u84 u85 u86 u87 u88 u89 u90 u91 u92 u93 u94 u95 u96 u97 u98 u99 u100 u101 u102 u103 u104 u105 u106 u107 u108 u109 u110 u111 u112 u113 u114 u115 u116 u117 u118 u119 u120 u121 u122 u123 u124 u125 u126 u127 u128 u129 u130 u131 u132 u133 u134 u135 u136 u137 u138 u139 u140 u141 u142 u143 u144 u145 u146 u147 u148 u149 u150 u151 u152 u153 u154 u155 u156 u157 u158 u159 u160 u161 u162 u163 : Value}
attribute [local go_sem ↓] ldS_eq stS_eq elS_eq neS_eq zrS_eq bdS_eq
attribute [local go_sem] ldS_run stS_run elS_run neS_run zrS_run bdS_run0 bdS_run1 g0_rule ldV_drew ldV_drewN

set_option maxRecDepth 1000000 in
set_option maxHeartbeats 16000000 in
theorem tail12_sfj (w0 W : World) (B r bs bo E : Nat) (s : LSt) (v vo : Value) (es : List LEv) (mk : Nat) (dp : Int) (hd0 : 0 ≤ dp) (hl : es.length ≤ 1000000) (HD : Hid (DcP w0 W B r bs (svP s) v es)) (ho : W.heap[bo]? = some (.cells (outA vo ⟨mk, dp, true, true, false⟩) OT12)) (hS : LOk ⟨s.cols, 1, mk, 0, dp.toNat⟩) (Q : Exit → Act → World → Prop) (hQ : Fin12 w0 r es ⟨s.cols, 1, mk, 0, dp.toNat⟩ Q) :
    Code.wp Tryz.prog dTail Q ⟨(u0::u1::u2::u3::u4::(Value.pointer (some ⟨r, 0, none⟩))::(Value.pointer (some ⟨bs, 0, none⟩))::v::(Value.int .i64 (E : Nat))::u9::u10::u11::u12::(Value.pointer (some ⟨bo, 0, none⟩))::u14::u15::u16::u17::u18::u19::u20::u21::u22::u23::u24::u25::u26::u27::u28::u29::u30::u31::u32::u33::u34::u35::u36::u37::u38::u39::u40::u41::u42::u43::u44::u45::u46::u47::u48::u49::u50::u51::u52::u53::u54::u55::u56::u57::u58::u59::u60::u61::u62::u63::u64::u65::u66::u67::u68::u69::u70::u71::u72::u73::u74::u75::u76::u77::u78::u79::u80::u81::u82::u83::u84::u85::u86::u87::u88::u89::u90::u91::u92::u93::u94::u95::u96::u97::u98::u99::u100::u101::u102::u103::u104::u105::u106::u107::u108::u109::u110::u111::u112::u113::u114::u115::u116::u117::u118::u119::u120::u121::u122::u123::u124::u125::u126::u127::u128::u129::u130::u131::u132::u133::u134::u135::u136::u137::u138::u139::u140::u141::u142::u143::u144::u145::u146::u147::u148::u149::u150::u151::u152::u153::u154::u155::u156::u157::u158::u159::u160::u161::u162::u163::[]).toArray, []⟩ W := by
  conv => arg 2; whnf
  have HS := Lib.hid hS
  have HQ := Lib.hid hQ
  have HL := Lib.hid hl
  have hne : bo ≠ bs := by
    rintro rfl
    have h := HD.out.box
    rw [ho] at h
    injection h with h
    injection h with _ h
    exact absurd h (by decide +kernel)
  have hne2 : bs ≠ bo := fun e => hne e.symm
  have k1 : W.cell? ⟨bo, 1, none⟩ = some (.int .u8 (mk : Nat)) := cellOf (j := 1) ho rfl
  have k2 : W.cell? ⟨bo, 2, none⟩ = some (.int .i64 dp) := cellOf (j := 2) ho rfl
  have k3 : W.cell? ⟨bo, 3, none⟩ = some (.bool true) := cellOf (j := 3) ho rfl
  have k4 : W.cell? ⟨bo, 4, none⟩ = some (.bool true) := cellOf (j := 4) ho rfl
  have k5 : W.cell? ⟨bo, 5, none⟩ = some (.bool false) := cellOf (j := 5) ho rfl
  have cf := HD.out.flags
  change _ = some (Value.int .u8 ((s.flags : Nat) : Int)) at cf
  have f65 := HD.out.fr 65
  have f66 := HD.out.fr 66
  have f67 := HD.out.fr 67
  have f68 := HD.out.fr 68
  have c65 := HD.out.mode
  have c66 := HD.out.mark
  have c68 := HD.out.count
  have hch := ((((HD.out.setFl 0).setMo 1).setMa mk).setCo dp).congr (V' := svP ⟨s.cols, 1, mk, 0, dp.toNat⟩) (by rw [show dp = ((dp.toNat : Nat) : Int) from by omega]; rfl)
  (try rw [show ((0 : Nat) : Int) = 0 from rfl] at hch)
  (try rw [show ((1 : Nat) : Int) = 1 from rfl] at hch)
  (try rw [show ((2 : Nat) : Int) = 2 from rfl] at hch)
  have HCH := Lib.hid hch
  clear hch ho hS hQ hl hd0
  go_upto_region 42 with fail
  generalize hw5 : World.setCell _ _ _ = w5
  rw [hw5] at HCH
  have hld := dc_state HCH.out HS.out
  obtain ⟨hst2, hfin⟩ := dfin (HCH.out.more (Up.drew _)) HS.out
  have HFIN := Lib.hid hfin
  clear hfin hw5 k1 k2 k3 k4 k5 cf f65 f66 f67 f68 c65 c66 c68
  go_region
  all_goals
    go_wp2
    exact HQ.out _ _ v rfl rfl rfl HFIN.out.ld HFIN.out.row HFIN.out.up
set_option maxRecDepth 1000000 in
set_option maxHeartbeats 16000000 in
theorem tail12_sfm (w0 W : World) (B r bs bo E : Nat) (s : LSt) (v vo : Value) (es : List LEv) (mk : Nat) (dp : Int) (hmk : mk ≠ 0) (hd0 : 0 ≤ dp) (hl : es.length ≤ 1000000) (HD : Hid (DcP w0 W B r bs (svP s) v es)) (ho : W.heap[bo]? = some (.cells (outA vo ⟨mk, dp, false, true, false⟩) OT12)) (hS : LOk ⟨s.cols, 1, mk, 0, dp.toNat⟩) (Q : Exit → Act → World → Prop) (hQ : Fin12 w0 r es ⟨s.cols, 1, mk, 0, dp.toNat⟩ Q) :
    Code.wp Tryz.prog dTail Q ⟨(u0::u1::u2::u3::u4::(Value.pointer (some ⟨r, 0, none⟩))::(Value.pointer (some ⟨bs, 0, none⟩))::v::(Value.int .i64 (E : Nat))::u9::u10::u11::u12::(Value.pointer (some ⟨bo, 0, none⟩))::u14::u15::u16::u17::u18::u19::u20::u21::u22::u23::u24::u25::u26::u27::u28::u29::u30::u31::u32::u33::u34::u35::u36::u37::u38::u39::u40::u41::u42::u43::u44::u45::u46::u47::u48::u49::u50::u51::u52::u53::u54::u55::u56::u57::u58::u59::u60::u61::u62::u63::u64::u65::u66::u67::u68::u69::u70::u71::u72::u73::u74::u75::u76::u77::u78::u79::u80::u81::u82::u83::u84::u85::u86::u87::u88::u89::u90::u91::u92::u93::u94::u95::u96::u97::u98::u99::u100::u101::u102::u103::u104::u105::u106::u107::u108::u109::u110::u111::u112::u113::u114::u115::u116::u117::u118::u119::u120::u121::u122::u123::u124::u125::u126::u127::u128::u129::u130::u131::u132::u133::u134::u135::u136::u137::u138::u139::u140::u141::u142::u143::u144::u145::u146::u147::u148::u149::u150::u151::u152::u153::u154::u155::u156::u157::u158::u159::u160::u161::u162::u163::[]).toArray, []⟩ W := by
  conv => arg 2; whnf
  have HS := Lib.hid hS
  have HQ := Lib.hid hQ
  have HL := Lib.hid hl
  have hne : bo ≠ bs := by
    rintro rfl
    have h := HD.out.box
    rw [ho] at h
    injection h with h
    injection h with _ h
    exact absurd h (by decide +kernel)
  have hne2 : bs ≠ bo := fun e => hne e.symm
  have k1 : W.cell? ⟨bo, 1, none⟩ = some (.int .u8 (mk : Nat)) := cellOf (j := 1) ho rfl
  have k2 : W.cell? ⟨bo, 2, none⟩ = some (.int .i64 dp) := cellOf (j := 2) ho rfl
  have k3 : W.cell? ⟨bo, 3, none⟩ = some (.bool false) := cellOf (j := 3) ho rfl
  have k4 : W.cell? ⟨bo, 4, none⟩ = some (.bool true) := cellOf (j := 4) ho rfl
  have k5 : W.cell? ⟨bo, 5, none⟩ = some (.bool false) := cellOf (j := 5) ho rfl
  have cf := HD.out.flags
  change _ = some (Value.int .u8 ((s.flags : Nat) : Int)) at cf
  have f65 := HD.out.fr 65
  have f66 := HD.out.fr 66
  have f67 := HD.out.fr 67
  have f68 := HD.out.fr 68
  have c65 := HD.out.mode
  have c66 := HD.out.mark
  have c68 := HD.out.count
  have gm : ((mk : Int) == 0) = false := beq_eq_false_iff_ne.2 (by omega)
  have gm' : ¬ (mk : Int) = 0 := by omega
  have gm2 : ((mk : Int) != 0) = true := bne_iff_ne.2 gm'
  have hch := ((((HD.out.setFl 0).setMo 1).setMa mk).setCo dp).congr (V' := svP ⟨s.cols, 1, mk, 0, dp.toNat⟩) (by rw [show dp = ((dp.toNat : Nat) : Int) from by omega]; rfl)
  (try rw [show ((0 : Nat) : Int) = 0 from rfl] at hch)
  (try rw [show ((1 : Nat) : Int) = 1 from rfl] at hch)
  (try rw [show ((2 : Nat) : Int) = 2 from rfl] at hch)
  have HCH := Lib.hid hch
  clear hch ho hS hQ hl hmk hd0
  go_upto_region 42 with fail
  generalize hw5 : World.setCell _ _ _ = w5
  rw [hw5] at HCH
  have hld := dc_state HCH.out HS.out
  obtain ⟨hst2, hfin⟩ := dfin (HCH.out.more (Up.drew _)) HS.out
  have HFIN := Lib.hid hfin
  clear hfin hw5 k1 k2 k3 k4 k5 cf f65 f66 f67 f68 c65 c66 c68
  go_region
  all_goals
    go_wp2
    exact HQ.out _ _ v rfl rfl rfl HFIN.out.ld HFIN.out.row HFIN.out.up
set_option maxRecDepth 1000000 in
set_option maxHeartbeats 16000000 in
theorem tail12_sfd (w0 W : World) (B r bs bo E : Nat) (s : LSt) (v vo : Value) (es : List LEv) (dp : Int) (hdp : 0 < dp) (hl : es.length ≤ 1000000) (HD : Hid (DcP w0 W B r bs (svP s) v es)) (ho : W.heap[bo]? = some (.cells (outA vo ⟨0, dp, false, true, false⟩) OT12)) (hS : LOk ⟨s.cols, 1, 0, 0, dp.toNat⟩) (Q : Exit → Act → World → Prop) (hQ : Fin12 w0 r es ⟨s.cols, 1, 0, 0, dp.toNat⟩ Q) :
    Code.wp Tryz.prog dTail Q ⟨(u0::u1::u2::u3::u4::(Value.pointer (some ⟨r, 0, none⟩))::(Value.pointer (some ⟨bs, 0, none⟩))::v::(Value.int .i64 (E : Nat))::u9::u10::u11::u12::(Value.pointer (some ⟨bo, 0, none⟩))::u14::u15::u16::u17::u18::u19::u20::u21::u22::u23::u24::u25::u26::u27::u28::u29::u30::u31::u32::u33::u34::u35::u36::u37::u38::u39::u40::u41::u42::u43::u44::u45::u46::u47::u48::u49::u50::u51::u52::u53::u54::u55::u56::u57::u58::u59::u60::u61::u62::u63::u64::u65::u66::u67::u68::u69::u70::u71::u72::u73::u74::u75::u76::u77::u78::u79::u80::u81::u82::u83::u84::u85::u86::u87::u88::u89::u90::u91::u92::u93::u94::u95::u96::u97::u98::u99::u100::u101::u102::u103::u104::u105::u106::u107::u108::u109::u110::u111::u112::u113::u114::u115::u116::u117::u118::u119::u120::u121::u122::u123::u124::u125::u126::u127::u128::u129::u130::u131::u132::u133::u134::u135::u136::u137::u138::u139::u140::u141::u142::u143::u144::u145::u146::u147::u148::u149::u150::u151::u152::u153::u154::u155::u156::u157::u158::u159::u160::u161::u162::u163::[]).toArray, []⟩ W := by
  conv => arg 2; whnf
  have HS := Lib.hid hS
  have HQ := Lib.hid hQ
  have HL := Lib.hid hl
  have hne : bo ≠ bs := by
    rintro rfl
    have h := HD.out.box
    rw [ho] at h
    injection h with h
    injection h with _ h
    exact absurd h (by decide +kernel)
  have hne2 : bs ≠ bo := fun e => hne e.symm
  have k1 : W.cell? ⟨bo, 1, none⟩ = some (.int .u8 0) := cellOf (j := 1) ho rfl
  have k2 : W.cell? ⟨bo, 2, none⟩ = some (.int .i64 dp) := cellOf (j := 2) ho rfl
  have k3 : W.cell? ⟨bo, 3, none⟩ = some (.bool false) := cellOf (j := 3) ho rfl
  have k4 : W.cell? ⟨bo, 4, none⟩ = some (.bool true) := cellOf (j := 4) ho rfl
  have k5 : W.cell? ⟨bo, 5, none⟩ = some (.bool false) := cellOf (j := 5) ho rfl
  have cf := HD.out.flags
  change _ = some (Value.int .u8 ((s.flags : Nat) : Int)) at cf
  have f65 := HD.out.fr 65
  have f66 := HD.out.fr 66
  have f67 := HD.out.fr 67
  have f68 := HD.out.fr 68
  have c65 := HD.out.mode
  have c66 := HD.out.mark
  have c68 := HD.out.count
  have gd : decide ((0 : Int) < dp) = true := decide_eq_true hdp
  have hch := ((((HD.out.setFl 0).setMo 1).setMa 0).setCo dp).congr (V' := svP ⟨s.cols, 1, 0, 0, dp.toNat⟩) (by rw [show dp = ((dp.toNat : Nat) : Int) from by omega]; rfl)
  (try rw [show ((0 : Nat) : Int) = 0 from rfl] at hch)
  (try rw [show ((1 : Nat) : Int) = 1 from rfl] at hch)
  (try rw [show ((2 : Nat) : Int) = 2 from rfl] at hch)
  have HCH := Lib.hid hch
  clear hch ho hS hQ hl hdp
  go_upto_region 42 with fail
  generalize hw5 : World.setCell _ _ _ = w5
  rw [hw5] at HCH
  have hld := dc_state HCH.out HS.out
  obtain ⟨hst2, hfin⟩ := dfin (HCH.out.more (Up.drew _)) HS.out
  have HFIN := Lib.hid hfin
  clear hfin hw5 k1 k2 k3 k4 k5 cf f65 f66 f67 f68 c65 c66 c68
  go_region
  all_goals
    go_wp2
    exact HQ.out _ _ v rfl rfl rfl HFIN.out.ld HFIN.out.row HFIN.out.up
set_option maxRecDepth 1000000 in
set_option maxHeartbeats 16000000 in
theorem tail12_sfn (w0 W : World) (B r bs bo E : Nat) (s : LSt) (v vo : Value) (es : List LEv) (hl : es.length ≤ 1000000) (HD : Hid (DcP w0 W B r bs (svP s) v es)) (ho : W.heap[bo]? = some (.cells (outA vo ⟨0, 0, false, true, false⟩) OT12)) (hS : LOk ⟨s.cols, 0, 0, 0, 0⟩) (Q : Exit → Act → World → Prop) (hQ : Fin12 w0 r (es ++ [evC 11 E]) ⟨s.cols, 0, 0, 0, 0⟩ Q) :
    Code.wp Tryz.prog dTail Q ⟨(u0::u1::u2::u3::u4::(Value.pointer (some ⟨r, 0, none⟩))::(Value.pointer (some ⟨bs, 0, none⟩))::v::(Value.int .i64 (E : Nat))::u9::u10::u11::u12::(Value.pointer (some ⟨bo, 0, none⟩))::u14::u15::u16::u17::u18::u19::u20::u21::u22::u23::u24::u25::u26::u27::u28::u29::u30::u31::u32::u33::u34::u35::u36::u37::u38::u39::u40::u41::u42::u43::u44::u45::u46::u47::u48::u49::u50::u51::u52::u53::u54::u55::u56::u57::u58::u59::u60::u61::u62::u63::u64::u65::u66::u67::u68::u69::u70::u71::u72::u73::u74::u75::u76::u77::u78::u79::u80::u81::u82::u83::u84::u85::u86::u87::u88::u89::u90::u91::u92::u93::u94::u95::u96::u97::u98::u99::u100::u101::u102::u103::u104::u105::u106::u107::u108::u109::u110::u111::u112::u113::u114::u115::u116::u117::u118::u119::u120::u121::u122::u123::u124::u125::u126::u127::u128::u129::u130::u131::u132::u133::u134::u135::u136::u137::u138::u139::u140::u141::u142::u143::u144::u145::u146::u147::u148::u149::u150::u151::u152::u153::u154::u155::u156::u157::u158::u159::u160::u161::u162::u163::[]).toArray, []⟩ W := by
  conv => arg 2; whnf
  have HS := Lib.hid hS
  have HQ := Lib.hid hQ
  have HL := Lib.hid hl
  have hne : bo ≠ bs := by
    rintro rfl
    have h := HD.out.box
    rw [ho] at h
    injection h with h
    injection h with _ h
    exact absurd h (by decide +kernel)
  have hne2 : bs ≠ bo := fun e => hne e.symm
  have k1 : W.cell? ⟨bo, 1, none⟩ = some (.int .u8 0) := cellOf (j := 1) ho rfl
  have k2 : W.cell? ⟨bo, 2, none⟩ = some (.int .i64 0) := cellOf (j := 2) ho rfl
  have k3 : W.cell? ⟨bo, 3, none⟩ = some (.bool false) := cellOf (j := 3) ho rfl
  have k4 : W.cell? ⟨bo, 4, none⟩ = some (.bool true) := cellOf (j := 4) ho rfl
  have k5 : W.cell? ⟨bo, 5, none⟩ = some (.bool false) := cellOf (j := 5) ho rfl
  have cf := HD.out.flags
  change _ = some (Value.int .u8 ((s.flags : Nat) : Int)) at cf
  have f65 := HD.out.fr 65
  have f66 := HD.out.fr 66
  have f67 := HD.out.fr 67
  have f68 := HD.out.fr 68
  have c65 := HD.out.mode
  have c66 := HD.out.mark
  have c68 := HD.out.count
  have hch := ((((HD.out.setFl 0).setMo 0).setMa 0).setCo 0).congr (V' := svP ⟨s.cols, 0, 0, 0, 0⟩) (by rfl)
  (try rw [show ((0 : Nat) : Int) = 0 from rfl] at hch)
  (try rw [show ((1 : Nat) : Int) = 1 from rfl] at hch)
  (try rw [show ((2 : Nat) : Int) = 2 from rfl] at hch)
  have HCH := Lib.hid hch
  clear hch ho hS hQ hl
  go_upto_region 50 with fail
  generalize hw5 : World.setCell _ _ _ = w5
  rw [hw5] at HCH
  clear hw5 k1 k2 k3 k4 k5 cf f65 f66 f67 f68 c65 c66 c68
  refine piece12_50 w0 w5 B r bs E 11 _ v es HL.out HCH.out HS.out _ _  ?_
  intro _ _ _ _ _ _ _ v' w6 hfin
  have HFIN := Lib.hid hfin
  clear hfin
  go_wp2
  exact HQ.out _ _ v' rfl rfl rfl HFIN.out.ld HFIN.out.row HFIN.out.up
end Go.Proofs.YtmfcapbllbfjnaaGreatDoor

namespace Go.Proofs.YtmfcapbllbfjnaaGreatDoor
open Go.RowKit
variable {u0 u1 u2 u3 u4 u5 u6 u7 u8 u9 u10 u11 u12 u13 u14 u15 u16 u17 u18 u19 u20 u21 u22 u23 u24 u25 u26 u27 u28 u29 u30 u31 u32 u33 u34 u35 u36 u37 u38 u39 u40 u41 u42 u43 u44 u45 u46 u47 u48 u49 u50 u51 u52 u53 u54 u55 u56 u57 u58 u59 u60 u61 u62 u63 u64 u65 u66 u67 u68 u69 u70 u71 u72 u73 u74 u75 u76 u77 u78 u79 u80 u81 u82 u83 u84 u85 u86 u87 u88 u89 u90 u91 u92 u93 u94 u95 u96 u97 u98 u99 u100 u101 u102 u103 u104 u105 u106 u107 u108 u109 u110 u111 u112 u113 u114 u115 u116 u117 u118 u119 u120 u121 u122 u123 u124 u125 u126 u127 u128 u129 u130 u131 u132 u133 u134 u135 u136 u137 u138 u139 u140 u141 u142 u143 u144 u145 u146 u147 u148 u149 u150 u151 u152 u153 u154 u155 u156 u157 u158 u159 u160 u161 u162 u163 : Value}
attribute [local go_sem ↓] ldS_eq stS_eq elS_eq neS_eq zrS_eq bdS_eq
attribute [local go_sem] ldS_run stS_run elS_run neS_run zrS_run bdS_run0 bdS_run1 g0_rule ldV_drew ldV_drewN

set_option maxRecDepth 1000000 in
set_option maxHeartbeats 16000000 in
theorem tail12_ftj (w0 W : World) (B r bs bo E : Nat) (s : LSt) (v vo : Value) (es : List LEv) (mk : Nat) (dp : Int) (oc : Bool) (hfl : s.flags = 2) (hd0 : 0 ≤ dp) (hl : es.length ≤ 1000000) (HD : Hid (DcP w0 W B r bs (svP s) v es)) (ho : W.heap[bo]? = some (.cells (outA vo ⟨mk, dp, true, false, oc⟩) OT12)) (hS : LOk ⟨s.cols, 1, mk, 2, dp.toNat⟩) (Q : Exit → Act → World → Prop) (hQ : Fin12 w0 r es ⟨s.cols, 1, mk, 2, dp.toNat⟩ Q) :
    Code.wp Tryz.prog dTail Q ⟨(u0::u1::u2::u3::u4::(Value.pointer (some ⟨r, 0, none⟩))::(Value.pointer (some ⟨bs, 0, none⟩))::v::(Value.int .i64 (E : Nat))::u9::u10::u11::u12::(Value.pointer (some ⟨bo, 0, none⟩))::u14::u15::u16::u17::u18::u19::u20::u21::u22::u23::u24::u25::u26::u27::u28::u29::u30::u31::u32::u33::u34::u35::u36::u37::u38::u39::u40::u41::u42::u43::u44::u45::u46::u47::u48::u49::u50::u51::u52::u53::u54::u55::u56::u57::u58::u59::u60::u61::u62::u63::u64::u65::u66::u67::u68::u69::u70::u71::u72::u73::u74::u75::u76::u77::u78::u79::u80::u81::u82::u83::u84::u85::u86::u87::u88::u89::u90::u91::u92::u93::u94::u95::u96::u97::u98::u99::u100::u101::u102::u103::u104::u105::u106::u107::u108::u109::u110::u111::u112::u113::u114::u115::u116::u117::u118::u119::u120::u121::u122::u123::u124::u125::u126::u127::u128::u129::u130::u131::u132::u133::u134::u135::u136::u137::u138::u139::u140::u141::u142::u143::u144::u145::u146::u147::u148::u149::u150::u151::u152::u153::u154::u155::u156::u157::u158::u159::u160::u161::u162::u163::[]).toArray, []⟩ W := by
  conv => arg 2; whnf
  have HS := Lib.hid hS
  have HQ := Lib.hid hQ
  have HL := Lib.hid hl
  have hne : bo ≠ bs := by
    rintro rfl
    have h := HD.out.box
    rw [ho] at h
    injection h with h
    injection h with _ h
    exact absurd h (by decide +kernel)
  have hne2 : bs ≠ bo := fun e => hne e.symm
  have k1 : W.cell? ⟨bo, 1, none⟩ = some (.int .u8 (mk : Nat)) := cellOf (j := 1) ho rfl
  have k2 : W.cell? ⟨bo, 2, none⟩ = some (.int .i64 dp) := cellOf (j := 2) ho rfl
  have k3 : W.cell? ⟨bo, 3, none⟩ = some (.bool true) := cellOf (j := 3) ho rfl
  have k4 : W.cell? ⟨bo, 4, none⟩ = some (.bool false) := cellOf (j := 4) ho rfl
  have k5 : W.cell? ⟨bo, 5, none⟩ = some (.bool oc) := cellOf (j := 5) ho rfl
  have cf := HD.out.flags
  change _ = some (Value.int .u8 ((s.flags : Nat) : Int)) at cf
  have f65 := HD.out.fr 65
  have f66 := HD.out.fr 66
  have f67 := HD.out.fr 67
  have f68 := HD.out.fr 68
  have c65 := HD.out.mode
  have c66 := HD.out.mark
  have c68 := HD.out.count
  rw [hfl, show ((2 : Nat) : Int) = 2 from rfl] at cf
  have hch := (((((HD.out.setFl 0).setMo 1).setMa mk).setCo dp).setFl 2).congr (V' := svP ⟨s.cols, 1, mk, 2, dp.toNat⟩) (by rw [show dp = ((dp.toNat : Nat) : Int) from by omega]; rfl)
  (try rw [show ((0 : Nat) : Int) = 0 from rfl] at hch)
  (try rw [show ((1 : Nat) : Int) = 1 from rfl] at hch)
  (try rw [show ((2 : Nat) : Int) = 2 from rfl] at hch)
  have HCH := Lib.hid hch
  clear hch ho hS hQ hl hfl hd0
  go_upto_region 42 with fail
  generalize hw5 : World.setCell _ _ _ = w5
  rw [hw5] at HCH
  have hld := dc_state HCH.out HS.out
  obtain ⟨hst2, hfin⟩ := dfin (HCH.out.more (Up.drew _)) HS.out
  have HFIN := Lib.hid hfin
  clear hfin hw5 k1 k2 k3 k4 k5 cf f65 f66 f67 f68 c65 c66 c68
  go_region
  all_goals
    go_wp2
    exact HQ.out _ _ v rfl rfl rfl HFIN.out.ld HFIN.out.row HFIN.out.up
set_option maxRecDepth 1000000 in
set_option maxHeartbeats 16000000 in
theorem tail12_ftm (w0 W : World) (B r bs bo E : Nat) (s : LSt) (v vo : Value) (es : List LEv) (mk : Nat) (dp : Int) (oc : Bool) (hfl : s.flags = 2) (hmk : mk ≠ 0) (hd0 : 0 ≤ dp) (hl : es.length ≤ 1000000) (HD : Hid (DcP w0 W B r bs (svP s) v es)) (ho : W.heap[bo]? = some (.cells (outA vo ⟨mk, dp, false, false, oc⟩) OT12)) (hS : LOk ⟨s.cols, 1, mk, 2, dp.toNat⟩) (Q : Exit → Act → World → Prop) (hQ : Fin12 w0 r es ⟨s.cols, 1, mk, 2, dp.toNat⟩ Q) :
    Code.wp Tryz.prog dTail Q ⟨(u0::u1::u2::u3::u4::(Value.pointer (some ⟨r, 0, none⟩))::(Value.pointer (some ⟨bs, 0, none⟩))::v::(Value.int .i64 (E : Nat))::u9::u10::u11::u12::(Value.pointer (some ⟨bo, 0, none⟩))::u14::u15::u16::u17::u18::u19::u20::u21::u22::u23::u24::u25::u26::u27::u28::u29::u30::u31::u32::u33::u34::u35::u36::u37::u38::u39::u40::u41::u42::u43::u44::u45::u46::u47::u48::u49::u50::u51::u52::u53::u54::u55::u56::u57::u58::u59::u60::u61::u62::u63::u64::u65::u66::u67::u68::u69::u70::u71::u72::u73::u74::u75::u76::u77::u78::u79::u80::u81::u82::u83::u84::u85::u86::u87::u88::u89::u90::u91::u92::u93::u94::u95::u96::u97::u98::u99::u100::u101::u102::u103::u104::u105::u106::u107::u108::u109::u110::u111::u112::u113::u114::u115::u116::u117::u118::u119::u120::u121::u122::u123::u124::u125::u126::u127::u128::u129::u130::u131::u132::u133::u134::u135::u136::u137::u138::u139::u140::u141::u142::u143::u144::u145::u146::u147::u148::u149::u150::u151::u152::u153::u154::u155::u156::u157::u158::u159::u160::u161::u162::u163::[]).toArray, []⟩ W := by
  conv => arg 2; whnf
  have HS := Lib.hid hS
  have HQ := Lib.hid hQ
  have HL := Lib.hid hl
  have hne : bo ≠ bs := by
    rintro rfl
    have h := HD.out.box
    rw [ho] at h
    injection h with h
    injection h with _ h
    exact absurd h (by decide +kernel)
  have hne2 : bs ≠ bo := fun e => hne e.symm
  have k1 : W.cell? ⟨bo, 1, none⟩ = some (.int .u8 (mk : Nat)) := cellOf (j := 1) ho rfl
  have k2 : W.cell? ⟨bo, 2, none⟩ = some (.int .i64 dp) := cellOf (j := 2) ho rfl
  have k3 : W.cell? ⟨bo, 3, none⟩ = some (.bool false) := cellOf (j := 3) ho rfl
  have k4 : W.cell? ⟨bo, 4, none⟩ = some (.bool false) := cellOf (j := 4) ho rfl
  have k5 : W.cell? ⟨bo, 5, none⟩ = some (.bool oc) := cellOf (j := 5) ho rfl
  have cf := HD.out.flags
  change _ = some (Value.int .u8 ((s.flags : Nat) : Int)) at cf
  have f65 := HD.out.fr 65
  have f66 := HD.out.fr 66
  have f67 := HD.out.fr 67
  have f68 := HD.out.fr 68
  have c65 := HD.out.mode
  have c66 := HD.out.mark
  have c68 := HD.out.count
  rw [hfl, show ((2 : Nat) : Int) = 2 from rfl] at cf
  have gm : ((mk : Int) == 0) = false := beq_eq_false_iff_ne.2 (by omega)
  have gm' : ¬ (mk : Int) = 0 := by omega
  have gm2 : ((mk : Int) != 0) = true := bne_iff_ne.2 gm'
  have hch := (((((HD.out.setFl 0).setMo 1).setMa mk).setCo dp).setFl 2).congr (V' := svP ⟨s.cols, 1, mk, 2, dp.toNat⟩) (by rw [show dp = ((dp.toNat : Nat) : Int) from by omega]; rfl)
  (try rw [show ((0 : Nat) : Int) = 0 from rfl] at hch)
  (try rw [show ((1 : Nat) : Int) = 1 from rfl] at hch)
  (try rw [show ((2 : Nat) : Int) = 2 from rfl] at hch)
  have HCH := Lib.hid hch
  clear hch ho hS hQ hl hfl hmk hd0
  go_upto_region 42 with fail
  generalize hw5 : World.setCell _ _ _ = w5
  rw [hw5] at HCH
  have hld := dc_state HCH.out HS.out
  obtain ⟨hst2, hfin⟩ := dfin (HCH.out.more (Up.drew _)) HS.out
  have HFIN := Lib.hid hfin
  clear hfin hw5 k1 k2 k3 k4 k5 cf f65 f66 f67 f68 c65 c66 c68
  go_region
  all_goals
    go_wp2
    exact HQ.out _ _ v rfl rfl rfl HFIN.out.ld HFIN.out.row HFIN.out.up
set_option maxRecDepth 1000000 in
set_option maxHeartbeats 16000000 in
theorem tail12_ftd (w0 W : World) (B r bs bo E : Nat) (s : LSt) (v vo : Value) (es : List LEv) (dp : Int) (oc : Bool) (hfl : s.flags = 2) (hdp : 0 < dp) (hl : es.length ≤ 1000000) (HD : Hid (DcP w0 W B r bs (svP s) v es)) (ho : W.heap[bo]? = some (.cells (outA vo ⟨0, dp, false, false, oc⟩) OT12)) (hS : LOk ⟨s.cols, 1, 0, 2, dp.toNat⟩) (Q : Exit → Act → World → Prop) (hQ : Fin12 w0 r es ⟨s.cols, 1, 0, 2, dp.toNat⟩ Q) :
    Code.wp Tryz.prog dTail Q ⟨(u0::u1::u2::u3::u4::(Value.pointer (some ⟨r, 0, none⟩))::(Value.pointer (some ⟨bs, 0, none⟩))::v::(Value.int .i64 (E : Nat))::u9::u10::u11::u12::(Value.pointer (some ⟨bo, 0, none⟩))::u14::u15::u16::u17::u18::u19::u20::u21::u22::u23::u24::u25::u26::u27::u28::u29::u30::u31::u32::u33::u34::u35::u36::u37::u38::u39::u40::u41::u42::u43::u44::u45::u46::u47::u48::u49::u50::u51::u52::u53::u54::u55::u56::u57::u58::u59::u60::u61::u62::u63::u64::u65::u66::u67::u68::u69::u70::u71::u72::u73::u74::u75::u76::u77::u78::u79::u80::u81::u82::u83::u84::u85::u86::u87::u88::u89::u90::u91::u92::u93::u94::u95::u96::u97::u98::u99::u100::u101::u102::u103::u104::u105::u106::u107::u108::u109::u110::u111::u112::u113::u114::u115::u116::u117::u118::u119::u120::u121::u122::u123::u124::u125::u126::u127::u128::u129::u130::u131::u132::u133::u134::u135::u136::u137::u138::u139::u140::u141::u142::u143::u144::u145::u146::u147::u148::u149::u150::u151::u152::u153::u154::u155::u156::u157::u158::u159::u160::u161::u162::u163::[]).toArray, []⟩ W := by
  conv => arg 2; whnf
  have HS := Lib.hid hS
  have HQ := Lib.hid hQ
  have HL := Lib.hid hl
  have hne : bo ≠ bs := by
    rintro rfl
    have h := HD.out.box
    rw [ho] at h
    injection h with h
    injection h with _ h
    exact absurd h (by decide +kernel)
  have hne2 : bs ≠ bo := fun e => hne e.symm
  have k1 : W.cell? ⟨bo, 1, none⟩ = some (.int .u8 0) := cellOf (j := 1) ho rfl
  have k2 : W.cell? ⟨bo, 2, none⟩ = some (.int .i64 dp) := cellOf (j := 2) ho rfl
  have k3 : W.cell? ⟨bo, 3, none⟩ = some (.bool false) := cellOf (j := 3) ho rfl
  have k4 : W.cell? ⟨bo, 4, none⟩ = some (.bool false) := cellOf (j := 4) ho rfl
  have k5 : W.cell? ⟨bo, 5, none⟩ = some (.bool oc) := cellOf (j := 5) ho rfl
  have cf := HD.out.flags
  change _ = some (Value.int .u8 ((s.flags : Nat) : Int)) at cf
  have f65 := HD.out.fr 65
  have f66 := HD.out.fr 66
  have f67 := HD.out.fr 67
  have f68 := HD.out.fr 68
  have c65 := HD.out.mode
  have c66 := HD.out.mark
  have c68 := HD.out.count
  rw [hfl, show ((2 : Nat) : Int) = 2 from rfl] at cf
  have gd : decide ((0 : Int) < dp) = true := decide_eq_true hdp
  have hch := (((((HD.out.setFl 0).setMo 1).setMa 0).setCo dp).setFl 2).congr (V' := svP ⟨s.cols, 1, 0, 2, dp.toNat⟩) (by rw [show dp = ((dp.toNat : Nat) : Int) from by omega]; rfl)
  (try rw [show ((0 : Nat) : Int) = 0 from rfl] at hch)
  (try rw [show ((1 : Nat) : Int) = 1 from rfl] at hch)
  (try rw [show ((2 : Nat) : Int) = 2 from rfl] at hch)
  have HCH := Lib.hid hch
  clear hch ho hS hQ hl hfl hdp
  go_upto_region 42 with fail
  generalize hw5 : World.setCell _ _ _ = w5
  rw [hw5] at HCH
  have hld := dc_state HCH.out HS.out
  obtain ⟨hst2, hfin⟩ := dfin (HCH.out.more (Up.drew _)) HS.out
  have HFIN := Lib.hid hfin
  clear hfin hw5 k1 k2 k3 k4 k5 cf f65 f66 f67 f68 c65 c66 c68
  go_region
  all_goals
    go_wp2
    exact HQ.out _ _ v rfl rfl rfl HFIN.out.ld HFIN.out.row HFIN.out.up
set_option maxRecDepth 1000000 in
set_option maxHeartbeats 16000000 in
theorem tail12_ftn (w0 W : World) (B r bs bo E : Nat) (s : LSt) (v vo : Value) (es : List LEv) (oc : Bool) (hfl : s.flags = 2) (hl : es.length ≤ 1000000) (HD : Hid (DcP w0 W B r bs (svP s) v es)) (ho : W.heap[bo]? = some (.cells (outA vo ⟨0, 0, false, false, oc⟩) OT12)) (hS : LOk ⟨s.cols, 0, 0, 1, 0⟩) (Q : Exit → Act → World → Prop) (hQ : Fin12 w0 r (es ++ [evC 12 E]) ⟨s.cols, 0, 0, 1, 0⟩ Q) :
    Code.wp Tryz.prog dTail Q ⟨(u0::u1::u2::u3::u4::(Value.pointer (some ⟨r, 0, none⟩))::(Value.pointer (some ⟨bs, 0, none⟩))::v::(Value.int .i64 (E : Nat))::u9::u10::u11::u12::(Value.pointer (some ⟨bo, 0, none⟩))::u14::u15::u16::u17::u18::u19::u20::u21::u22::u23::u24::u25::u26::u27::u28::u29::u30::u31::u32::u33::u34::u35::u36::u37::u38::u39::u40::u41::u42::u43::u44::u45::u46::u47::u48::u49::u50::u51::u52::u53::u54::u55::u56::u57::u58::u59::u60::u61::u62::u63::u64::u65::u66::u67::u68::u69::u70::u71::u72::u73::u74::u75::u76::u77::u78::u79::u80::u81::u82::u83::u84::u85::u86::u87::u88::u89::u90::u91::u92::u93::u94::u95::u96::u97::u98::u99::u100::u101::u102::u103::u104::u105::u106::u107::u108::u109::u110::u111::u112::u113::u114::u115::u116::u117::u118::u119::u120::u121::u122::u123::u124::u125::u126::u127::u128::u129::u130::u131::u132::u133::u134::u135::u136::u137::u138::u139::u140::u141::u142::u143::u144::u145::u146::u147::u148::u149::u150::u151::u152::u153::u154::u155::u156::u157::u158::u159::u160::u161::u162::u163::[]).toArray, []⟩ W := by
  conv => arg 2; whnf
  have HS := Lib.hid hS
  have HQ := Lib.hid hQ
  have HL := Lib.hid hl
  have hne : bo ≠ bs := by
    rintro rfl
    have h := HD.out.box
    rw [ho] at h
    injection h with h
    injection h with _ h
    exact absurd h (by decide +kernel)
  have hne2 : bs ≠ bo := fun e => hne e.symm
  have k1 : W.cell? ⟨bo, 1, none⟩ = some (.int .u8 0) := cellOf (j := 1) ho rfl
  have k2 : W.cell? ⟨bo, 2, none⟩ = some (.int .i64 0) := cellOf (j := 2) ho rfl
  have k3 : W.cell? ⟨bo, 3, none⟩ = some (.bool false) := cellOf (j := 3) ho rfl
  have k4 : W.cell? ⟨bo, 4, none⟩ = some (.bool false) := cellOf (j := 4) ho rfl
  have k5 : W.cell? ⟨bo, 5, none⟩ = some (.bool oc) := cellOf (j := 5) ho rfl
  have cf := HD.out.flags
  change _ = some (Value.int .u8 ((s.flags : Nat) : Int)) at cf
  have f65 := HD.out.fr 65
  have f66 := HD.out.fr 66
  have f67 := HD.out.fr 67
  have f68 := HD.out.fr 68
  have c65 := HD.out.mode
  have c66 := HD.out.mark
  have c68 := HD.out.count
  rw [hfl, show ((2 : Nat) : Int) = 2 from rfl] at cf
  have hch := (((((HD.out.setFl 0).setMo 0).setMa 0).setCo 0).setFl 1).congr (V' := svP ⟨s.cols, 0, 0, 1, 0⟩) (by rfl)
  (try rw [show ((0 : Nat) : Int) = 0 from rfl] at hch)
  (try rw [show ((1 : Nat) : Int) = 1 from rfl] at hch)
  (try rw [show ((2 : Nat) : Int) = 2 from rfl] at hch)
  have HCH := Lib.hid hch
  clear hch ho hS hQ hl hfl
  go_upto_region 50 with fail
  generalize hw5 : World.setCell _ _ _ = w5
  rw [hw5] at HCH
  clear hw5 k1 k2 k3 k4 k5 cf f65 f66 f67 f68 c65 c66 c68
  refine piece12_50 w0 w5 B r bs E 12 _ v es HL.out HCH.out HS.out _ _  ?_
  intro _ _ _ _ _ _ _ v' w6 hfin
  have HFIN := Lib.hid hfin
  clear hfin
  go_wp2
  exact HQ.out _ _ v' rfl rfl rfl HFIN.out.ld HFIN.out.row HFIN.out.up
end Go.Proofs.YtmfcapbllbfjnaaGreatDoor

namespace Go.Proofs.YtmfcapbllbfjnaaGreatDoor
open Go.RowKit
variable {u0 u1 u2 u3 u4 u5 u6 u7 u8 u9 u10 u11 u12 u13 u14 u15 u16 u17 u18 u19 u20 u21 u22 u23 u24 u25 u26 u27 u28 u29 u30 u31 u32 u33 u34 u35 u36 u37 u38 u39 u40 u41 u42 u43 u44 u45 u46 u47 u48 u49 u50 u51 u52 u53 u54 u55 u56 u57 u58 u59 u60 u61 u62 u63 u64 u65 u66 u67 u68 u69 u70 u71 u72 u73 u74 u75 u76 u77 u78 u79 u80 u81 u82 u83 u84 u85 u86 u87 u88 u89 u90 u91 u92 u93 u94 u95 u96 u97 u98 u99 u100 u101 u102 u103 u104 u105 u106 u107 u108 u109 u110 u111 u112 u113 u114 u115 u116 u117 u118 u119 u120 u121 u122 u123 u124 u125 u126 u127 u128 u129 u130 u131 u132 u133 u134 u135 u136 u137 u138 u139 u140 u141 u142 u143 u144 u145 u146 u147 u148 u149 u150 u151 u152 u153 u154 u155 u156 u157 u158 u159 u160 u161 u162 u163 : Value}
attribute [local go_sem ↓] ldS_eq stS_eq elS_eq neS_eq zrS_eq bdS_eq
attribute [local go_sem] ldS_run stS_run elS_run neS_run zrS_run bdS_run0 bdS_run1 g0_rule ldV_drew ldV_drewN

set_option maxRecDepth 1000000 in
set_option maxHeartbeats 16000000 in
theorem tail12_ffj (w0 W : World) (B r bs bo E : Nat) (s : LSt) (v vo : Value) (es : List LEv) (mk : Nat) (dp : Int) (oc : Bool) (hfl : s.flags ≠ 2) (hd0 : 0 ≤ dp) (hl : es.length ≤ 1000000) (HD : Hid (DcP w0 W B r bs (svP s) v es)) (ho : W.heap[bo]? = some (.cells (outA vo ⟨mk, dp, true, false, oc⟩) OT12)) (hS : LOk ⟨s.cols, 1, mk, 0, dp.toNat⟩) (Q : Exit → Act → World → Prop) (hQ : Fin12 w0 r es ⟨s.cols, 1, mk, 0, dp.toNat⟩ Q) :
    Code.wp Tryz.prog dTail Q ⟨(u0::u1::u2::u3::u4::(Value.pointer (some ⟨r, 0, none⟩))::(Value.pointer (some ⟨bs, 0, none⟩))::v::(Value.int .i64 (E : Nat))::u9::u10::u11::u12::(Value.pointer (some ⟨bo, 0, none⟩))::u14::u15::u16::u17::u18::u19::u20::u21::u22::u23::u24::u25::u26::u27::u28::u29::u30::u31::u32::u33::u34::u35::u36::u37::u38::u39::u40::u41::u42::u43::u44::u45::u46::u47::u48::u49::u50::u51::u52::u53::u54::u55::u56::u57::u58::u59::u60::u61::u62::u63::u64::u65::u66::u67::u68::u69::u70::u71::u72::u73::u74::u75::u76::u77::u78::u79::u80::u81::u82::u83::u84::u85::u86::u87::u88::u89::u90::u91::u92::u93::u94::u95::u96::u97::u98::u99::u100::u101::u102::u103::u104::u105::u106::u107::u108::u109::u110::u111::u112::u113::u114::u115::u116::u117::u118::u119::u120::u121::u122::u123::u124::u125::u126::u127::u128::u129::u130::u131::u132::u133::u134::u135::u136::u137::u138::u139::u140::u141::u142::u143::u144::u145::u146::u147::u148::u149::u150::u151::u152::u153::u154::u155::u156::u157::u158::u159::u160::u161::u162::u163::[]).toArray, []⟩ W := by
  conv => arg 2; whnf
  have HS := Lib.hid hS
  have HQ := Lib.hid hQ
  have HL := Lib.hid hl
  have hne : bo ≠ bs := by
    rintro rfl
    have h := HD.out.box
    rw [ho] at h
    injection h with h
    injection h with _ h
    exact absurd h (by decide +kernel)
  have hne2 : bs ≠ bo := fun e => hne e.symm
  have k1 : W.cell? ⟨bo, 1, none⟩ = some (.int .u8 (mk : Nat)) := cellOf (j := 1) ho rfl
  have k2 : W.cell? ⟨bo, 2, none⟩ = some (.int .i64 dp) := cellOf (j := 2) ho rfl
  have k3 : W.cell? ⟨bo, 3, none⟩ = some (.bool true) := cellOf (j := 3) ho rfl
  have k4 : W.cell? ⟨bo, 4, none⟩ = some (.bool false) := cellOf (j := 4) ho rfl
  have k5 : W.cell? ⟨bo, 5, none⟩ = some (.bool oc) := cellOf (j := 5) ho rfl
  have cf := HD.out.flags
  change _ = some (Value.int .u8 ((s.flags : Nat) : Int)) at cf
  have f65 := HD.out.fr 65
  have f66 := HD.out.fr 66
  have f67 := HD.out.fr 67
  have f68 := HD.out.fr 68
  have c65 := HD.out.mode
  have c66 := HD.out.mark
  have c68 := HD.out.count
  have g2 : ((s.flags : Int) == 2) = false := beq_eq_false_iff_ne.2 (by omega)
  have g2' : ¬ (s.flags : Int) = 2 := by omega
  have hch := ((((HD.out.setFl 0).setMo 1).setMa mk).setCo dp).congr (V' := svP ⟨s.cols, 1, mk, 0, dp.toNat⟩) (by rw [show dp = ((dp.toNat : Nat) : Int) from by omega]; rfl)
  (try rw [show ((0 : Nat) : Int) = 0 from rfl] at hch)
  (try rw [show ((1 : Nat) : Int) = 1 from rfl] at hch)
  (try rw [show ((2 : Nat) : Int) = 2 from rfl] at hch)
  have HCH := Lib.hid hch
  clear hch ho hS hQ hl hfl hd0
  go_upto_region 42 with fail
  generalize hw5 : World.setCell _ _ _ = w5
  rw [hw5] at HCH
  have hld := dc_state HCH.out HS.out
  obtain ⟨hst2, hfin⟩ := dfin (HCH.out.more (Up.drew _)) HS.out
  have HFIN := Lib.hid hfin
  clear hfin hw5 k1 k2 k3 k4 k5 cf f65 f66 f67 f68 c65 c66 c68
  go_region
  all_goals
    go_wp2
    exact HQ.out _ _ v rfl rfl rfl HFIN.out.ld HFIN.out.row HFIN.out.up
set_option maxRecDepth 1000000 in
set_option maxHeartbeats 16000000 in
theorem tail12_ffm (w0 W : World) (B r bs bo E : Nat) (s : LSt) (v vo : Value) (es : List LEv) (mk : Nat) (dp : Int) (oc : Bool) (hfl : s.flags ≠ 2) (hmk : mk ≠ 0) (hd0 : 0 ≤ dp) (hl : es.length ≤ 1000000) (HD : Hid (DcP w0 W B r bs (svP s) v es)) (ho : W.heap[bo]? = some (.cells (outA vo ⟨mk, dp, false, false, oc⟩) OT12)) (hS : LOk ⟨s.cols, 1, mk, 0, dp.toNat⟩) (Q : Exit → Act → World → Prop) (hQ : Fin12 w0 r es ⟨s.cols, 1, mk, 0, dp.toNat⟩ Q) :
    Code.wp Tryz.prog dTail Q ⟨(u0::u1::u2::u3::u4::(Value.pointer (some ⟨r, 0, none⟩))::(Value.pointer (some ⟨bs, 0, none⟩))::v::(Value.int .i64 (E : Nat))::u9::u10::u11::u12::(Value.pointer (some ⟨bo, 0, none⟩))::u14::u15::u16::u17::u18::u19::u20::u21::u22::u23::u24::u25::u26::u27::u28::u29::u30::u31::u32::u33::u34::u35::u36::u37::u38::u39::u40::u41::u42::u43::u44::u45::u46::u47::u48::u49::u50::u51::u52::u53::u54::u55::u56::u57::u58::u59::u60::u61::u62::u63::u64::u65::u66::u67::u68::u69::u70::u71::u72::u73::u74::u75::u76::u77::u78::u79::u80::u81::u82::u83::u84::u85::u86::u87::u88::u89::u90::u91::u92::u93::u94::u95::u96::u97::u98::u99::u100::u101::u102::u103::u104::u105::u106::u107::u108::u109::u110::u111::u112::u113::u114::u115::u116::u117::u118::u119::u120::u121::u122::u123::u124::u125::u126::u127::u128::u129::u130::u131::u132::u133::u134::u135::u136::u137::u138::u139::u140::u141::u142::u143::u144::u145::u146::u147::u148::u149::u150::u151::u152::u153::u154::u155::u156::u157::u158::u159::u160::u161::u162::u163::[]).toArray, []⟩ W := by
  conv => arg 2; whnf
  have HS := Lib.hid hS
  have HQ := Lib.hid hQ
  have HL := Lib.hid hl
  have hne : bo ≠ bs := by
    rintro rfl
    have h := HD.out.box
    rw [ho] at h
    injection h with h
    injection h with _ h
    exact absurd h (by decide +kernel)
  have hne2 : bs ≠ bo := fun e => hne e.symm
  have k1 : W.cell? ⟨bo, 1, none⟩ = some (.int .u8 (mk : Nat)) := cellOf (j := 1) ho rfl
  have k2 : W.cell? ⟨bo, 2, none⟩ = some (.int .i64 dp) := cellOf (j := 2) ho rfl
  have k3 : W.cell? ⟨bo, 3, none⟩ = some (.bool false) := cellOf (j := 3) ho rfl
  have k4 : W.cell? ⟨bo, 4, none⟩ = some (.bool false) := cellOf (j := 4) ho rfl
  have k5 : W.cell? ⟨bo, 5, none⟩ = some (.bool oc) := cellOf (j := 5) ho rfl
  have cf := HD.out.flags
  change _ = some (Value.int .u8 ((s.flags : Nat) : Int)) at cf
  have f65 := HD.out.fr 65
  have f66 := HD.out.fr 66
  have f67 := HD.out.fr 67
  have f68 := HD.out.fr 68
  have c65 := HD.out.mode
  have c66 := HD.out.mark
  have c68 := HD.out.count
  have g2 : ((s.flags : Int) == 2) = false := beq_eq_false_iff_ne.2 (by omega)
  have g2' : ¬ (s.flags : Int) = 2 := by omega
  have gm : ((mk : Int) == 0) = false := beq_eq_false_iff_ne.2 (by omega)
  have gm' : ¬ (mk : Int) = 0 := by omega
  have gm2 : ((mk : Int) != 0) = true := bne_iff_ne.2 gm'
  have hch := ((((HD.out.setFl 0).setMo 1).setMa mk).setCo dp).congr (V' := svP ⟨s.cols, 1, mk, 0, dp.toNat⟩) (by rw [show dp = ((dp.toNat : Nat) : Int) from by omega]; rfl)
  (try rw [show ((0 : Nat) : Int) = 0 from rfl] at hch)
  (try rw [show ((1 : Nat) : Int) = 1 from rfl] at hch)
  (try rw [show ((2 : Nat) : Int) = 2 from rfl] at hch)
  have HCH := Lib.hid hch
  clear hch ho hS hQ hl hfl hmk hd0
  go_upto_region 42 with fail
  generalize hw5 : World.setCell _ _ _ = w5
  rw [hw5] at HCH
  have hld := dc_state HCH.out HS.out
  obtain ⟨hst2, hfin⟩ := dfin (HCH.out.more (Up.drew _)) HS.out
  have HFIN := Lib.hid hfin
  clear hfin hw5 k1 k2 k3 k4 k5 cf f65 f66 f67 f68 c65 c66 c68
  go_region
  all_goals
    go_wp2
    exact HQ.out _ _ v rfl rfl rfl HFIN.out.ld HFIN.out.row HFIN.out.up
set_option maxRecDepth 1000000 in
set_option maxHeartbeats 16000000 in
theorem tail12_ffd (w0 W : World) (B r bs bo E : Nat) (s : LSt) (v vo : Value) (es : List LEv) (dp : Int) (oc : Bool) (hfl : s.flags ≠ 2) (hdp : 0 < dp) (hl : es.length ≤ 1000000) (HD : Hid (DcP w0 W B r bs (svP s) v es)) (ho : W.heap[bo]? = some (.cells (outA vo ⟨0, dp, false, false, oc⟩) OT12)) (hS : LOk ⟨s.cols, 1, 0, 0, dp.toNat⟩) (Q : Exit → Act → World → Prop) (hQ : Fin12 w0 r es ⟨s.cols, 1, 0, 0, dp.toNat⟩ Q) :
    Code.wp Tryz.prog dTail Q ⟨(u0::u1::u2::u3::u4::(Value.pointer (some ⟨r, 0, none⟩))::(Value.pointer (some ⟨bs, 0, none⟩))::v::(Value.int .i64 (E : Nat))::u9::u10::u11::u12::(Value.pointer (some ⟨bo, 0, none⟩))::u14::u15::u16::u17::u18::u19::u20::u21::u22::u23::u24::u25::u26::u27::u28::u29::u30::u31::u32::u33::u34::u35::u36::u37::u38::u39::u40::u41::u42::u43::u44::u45::u46::u47::u48::u49::u50::u51::u52::u53::u54::u55::u56::u57::u58::u59::u60::u61::u62::u63::u64::u65::u66::u67::u68::u69::u70::u71::u72::u73::u74::u75::u76::u77::u78::u79::u80::u81::u82::u83::u84::u85::u86::u87::u88::u89::u90::u91::u92::u93::u94::u95::u96::u97::u98::u99::u100::u101::u102::u103::u104::u105::u106::u107::u108::u109::u110::u111::u112::u113::u114::u115::u116::u117::u118::u119::u120::u121::u122::u123::u124::u125::u126::u127::u128::u129::u130::u131::u132::u133::u134::u135::u136::u137::u138::u139::u140::u141::u142::u143::u144::u145::u146::u147::u148::u149::u150::u151::u152::u153::u154::u155::u156::u157::u158::u159::u160::u161::u162::u163::[]).toArray, []⟩ W := by
  conv => arg 2; whnf
  have HS := Lib.hid hS
  have HQ := Lib.hid hQ
  have HL := Lib.hid hl
  have hne : bo ≠ bs := by
    rintro rfl
    have h := HD.out.box
    rw [ho] at h
    injection h with h
    injection h with _ h
    exact absurd h (by decide +kernel)
  have hne2 : bs ≠ bo := fun e => hne e.symm
  have k1 : W.cell? ⟨bo, 1, none⟩ = some (.int .u8 0) := cellOf (j := 1) ho rfl
  have k2 : W.cell? ⟨bo, 2, none⟩ = some (.int .i64 dp) := cellOf (j := 2) ho rfl
  have k3 : W.cell? ⟨bo, 3, none⟩ = some (.bool false) := cellOf (j := 3) ho rfl
  have k4 : W.cell? ⟨bo, 4, none⟩ = some (.bool false) := cellOf (j := 4) ho rfl
  have k5 : W.cell? ⟨bo, 5, none⟩ = some (.bool oc) := cellOf (j := 5) ho rfl
  have cf := HD.out.flags
  change _ = some (Value.int .u8 ((s.flags : Nat) : Int)) at cf
  have f65 := HD.out.fr 65
  have f66 := HD.out.fr 66
  have f67 := HD.out.fr 67
  have f68 := HD.out.fr 68
  have c65 := HD.out.mode
  have c66 := HD.out.mark
  have c68 := HD.out.count
  have g2 : ((s.flags : Int) == 2) = false := beq_eq_false_iff_ne.2 (by omega)
  have g2' : ¬ (s.flags : Int) = 2 := by omega
  have gd : decide ((0 : Int) < dp) = true := decide_eq_true hdp
  have hch := ((((HD.out.setFl 0).setMo 1).setMa 0).setCo dp).congr (V' := svP ⟨s.cols, 1, 0, 0, dp.toNat⟩) (by rw [show dp = ((dp.toNat : Nat) : Int) from by omega]; rfl)
  (try rw [show ((0 : Nat) : Int) = 0 from rfl] at hch)
  (try rw [show ((1 : Nat) : Int) = 1 from rfl] at hch)
  (try rw [show ((2 : Nat) : Int) = 2 from rfl] at hch)
  have HCH := Lib.hid hch
  clear hch ho hS hQ hl hfl hdp
  go_upto_region 42 with fail
  generalize hw5 : World.setCell _ _ _ = w5
  rw [hw5] at HCH
  have hld := dc_state HCH.out HS.out
  obtain ⟨hst2, hfin⟩ := dfin (HCH.out.more (Up.drew _)) HS.out
  have HFIN := Lib.hid hfin
  clear hfin hw5 k1 k2 k3 k4 k5 cf f65 f66 f67 f68 c65 c66 c68
  go_region
  all_goals
    go_wp2
    exact HQ.out _ _ v rfl rfl rfl HFIN.out.ld HFIN.out.row HFIN.out.up
set_option maxRecDepth 1000000 in
set_option maxHeartbeats 16000000 in
theorem tail12_ffn (w0 W : World) (B r bs bo E : Nat) (s : LSt) (v vo : Value) (es : List LEv) (oc : Bool) (hfl : s.flags ≠ 2) (hl : es.length ≤ 1000000) (HD : Hid (DcP w0 W B r bs (svP s) v es)) (ho : W.heap[bo]? = some (.cells (outA vo ⟨0, 0, false, false, oc⟩) OT12)) (hS : LOk ⟨s.cols, 0, 0, 0, 0⟩) (Q : Exit → Act → World → Prop) (hQ : Fin12 w0 r (es ++ [evC 11 E]) ⟨s.cols, 0, 0, 0, 0⟩ Q) :
    Code.wp Tryz.prog dTail Q ⟨(u0::u1::u2::u3::u4::(Value.pointer (some ⟨r, 0, none⟩))::(Value.pointer (some ⟨bs, 0, none⟩))::v::(Value.int .i64 (E : Nat))::u9::u10::u11::u12::(Value.pointer (some ⟨bo, 0, none⟩))::u14::u15::u16::u17::u18::u19::u20::u21::u22::u23::u24::u25::u26::u27::u28::u29::u30::u31::u32::u33::u34::u35::u36::u37::u38::u39::u40::u41::u42::u43::u44::u45::u46::u47::u48::u49::u50::u51::u52::u53::u54::u55::u56::u57::u58::u59::u60::u61::u62::u63::u64::u65::u66::u67::u68::u69::u70::u71::u72::u73::u74::u75::u76::u77::u78::u79::u80::u81::u82::u83::u84::u85::u86::u87::u88::u89::u90::u91::u92::u93::u94::u95::u96::u97::u98::u99::u100::u101::u102::u103::u104::u105::u106::u107::u108::u109::u110::u111::u112::u113::u114::u115::u116::u117::u118::u119::u120::u121::u122::u123::u124::u125::u126::u127::u128::u129::u130::u131::u132::u133::u134::u135::u136::u137::u138::u139::u140::u141::u142::u143::u144::u145::u146::u147::u148::u149::u150::u151::u152::u153::u154::u155::u156::u157::u158::u159::u160::u161::u162::u163::[]).toArray, []⟩ W := by
  conv => arg 2; whnf
  have HS := Lib.hid hS
  have HQ := Lib.hid hQ
  have HL := Lib.hid hl
  have hne : bo ≠ bs := by
    rintro rfl
    have h := HD.out.box
    rw [ho] at h
    injection h with h
    injection h with _ h
    exact absurd h (by decide +kernel)
  have hne2 : bs ≠ bo := fun e => hne e.symm
  have k1 : W.cell? ⟨bo, 1, none⟩ = some (.int .u8 0) := cellOf (j := 1) ho rfl
  have k2 : W.cell? ⟨bo, 2, none⟩ = some (.int .i64 0) := cellOf (j := 2) ho rfl
  have k3 : W.cell? ⟨bo, 3, none⟩ = some (.bool false) := cellOf (j := 3) ho rfl
  have k4 : W.cell? ⟨bo, 4, none⟩ = some (.bool false) := cellOf (j := 4) ho rfl
  have k5 : W.cell? ⟨bo, 5, none⟩ = some (.bool oc) := cellOf (j := 5) ho rfl
  have cf := HD.out.flags
  change _ = some (Value.int .u8 ((s.flags : Nat) : Int)) at cf
  have f65 := HD.out.fr 65
  have f66 := HD.out.fr 66
  have f67 := HD.out.fr 67
  have f68 := HD.out.fr 68
  have c65 := HD.out.mode
  have c66 := HD.out.mark
  have c68 := HD.out.count
  have g2 : ((s.flags : Int) == 2) = false := beq_eq_false_iff_ne.2 (by omega)
  have g2' : ¬ (s.flags : Int) = 2 := by omega
  have hch := ((((HD.out.setFl 0).setMo 0).setMa 0).setCo 0).congr (V' := svP ⟨s.cols, 0, 0, 0, 0⟩) (by rfl)
  (try rw [show ((0 : Nat) : Int) = 0 from rfl] at hch)
  (try rw [show ((1 : Nat) : Int) = 1 from rfl] at hch)
  (try rw [show ((2 : Nat) : Int) = 2 from rfl] at hch)
  have HCH := Lib.hid hch
  clear hch ho hS hQ hl hfl
  go_upto_region 50 with fail
  generalize hw5 : World.setCell _ _ _ = w5
  rw [hw5] at HCH
  clear hw5 k1 k2 k3 k4 k5 cf f65 f66 f67 f68 c65 c66 c68
  refine piece12_50 w0 w5 B r bs E 11 _ v es HL.out HCH.out HS.out _ _  ?_
  intro _ _ _ _ _ _ _ v' w6 hfin
  have HFIN := Lib.hid hfin
  clear hfin
  go_wp2
  exact HQ.out _ _ v' rfl rfl rfl HFIN.out.ld HFIN.out.row HFIN.out.up
end Go.Proofs.YtmfcapbllbfjnaaGreatDoor
