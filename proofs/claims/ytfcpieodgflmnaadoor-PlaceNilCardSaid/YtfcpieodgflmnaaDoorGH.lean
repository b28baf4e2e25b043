/- The program's write: what a tree has between two places, put behind what a builder holds. The program's write, at every tree. The rope's own calls: what they tell of the text that it has. The rope's Slice and Text. Ropes made: of a text, and of a rope and an edit. The rope's Line. What a rope tells, whatever is asked: one contract for each call, with answers that are functions of the text and of what is asked. Lines, in plain words: where they begin and end, and what is in them. Places, in plain words: lines and columns, characters. -/
import Derived.Test.YtfcpieodgflmnaaDoorGG
import Derived.Test.YtfcpieodgflmnaaDoorShelf
import Derived.WalkLawsBesides
import Derived.Test.YtfcpieodgflmnaaDoorGA
namespace Go.Proofs.YtfcpieodgflmnaaDoor
open Go.RowKit

/-- The bytes of s from f on, and ahead of t. -/
def sl (s : ByteArray) (f t : Int) : ByteArray := s.extract (max f 0).toNat (min t s.size).toNat
theorem extract_append_any {x y : ByteArray} {a c : Nat} (hc : c ≤ x.size + y.size) : (x ++ y).extract a c = x.extract a (min c x.size) ++ y.extract (a - x.size) (c - x.size) := by
  have z2 : (x ++ y).size = x.size + y.size := ByteArray.size_append
  refine ext_bt (by simp only [ByteArray.size_append, ByteArray.size_extract]; omega) fun k hk => ?_
  rw [ByteArray.size_extract, z2] at hk
  have z1 : (x.extract a (min c x.size)).size = min c x.size - a := by rw [ByteArray.size_extract]; omega
  rw [bt_ext_in (by omega) (by omega)]
  by_cases hl : k < min c x.size - a
  · rw [bt_append_left (by omega), bt_append_left (by omega), bt_ext_in (by omega) (by omega)]
  · have e2 := bt_append_right (a := x.extract a (min c x.size)) (b := y.extract (a - x.size) (c - x.size)) (i := k - (min c x.size - a)) (by rw [ByteArray.size_extract]; omega)
    rw [z1, show min c x.size - a + (k - (min c x.size - a)) = k from by omega] at e2
    have e1 := bt_append_right (a := x) (b := y) (i := a + k - x.size) (by omega)
    rw [show x.size + (a + k - x.size) = a + k from by omega] at e1
    rw [e1, e2, bt_ext_in (by omega) (by omega)]
    congr 1
    omega
theorem sl_append (x y : ByteArray) (f t : Int) : sl (x ++ y) f t = sl x f t ++ sl y (f - x.size) (t - x.size) := by
  unfold sl
  rw [extract_append_any (by rw [ByteArray.size_append]; omega)]
  rw [ByteArray.size_append]
  congr 1
  · congr 1; omega
  · congr 1 <;> omega
theorem sl_none {s : ByteArray} {f t : Int} (h : (s.size : Int) ≤ f ∨ t ≤ 0) : sl s f t = ⟨#[]⟩ := by
  unfold sl
  refine ext_bt (by rw [ByteArray.size_extract]; show _ = 0; omega) fun k hk => ?_
  rw [ByteArray.size_extract] at hk
  omega
theorem sl_size (s : ByteArray) (f t : Int) : (sl s f t).size ≤ s.size := by unfold sl; rw [ByteArray.size_extract]; omega
theorem strCells_add (x y : ByteArray) : Lib.strCells (x ++ y) = Lib.strCells x ++ Lib.strCells y := by
  rw [Lib.strCells_eq, Lib.strCells_eq, Lib.strCells_eq, ByteArray.data_append, Array.toList_append, Lib.byteCells_append]

/-- A builder of the call's own that holds the text x. -/
def IsB (B bb : Nat) (x : ByteArray) (w : World) : Prop := Lib.IsBuilder 77 5 B bb (Lib.strCells x) w
def WrPost (B bb : Nat) (x : ByteArray) (w : World) (e : Ending) (w' : World) : Prop := e = .returned (.tuple #[]) ∧ IsB B bb x w' ∧ Below B w w'

theorem write_str {B bb : Nat} {x s : ByteArray} {w : World} (h : IsB B bb x w) (hB : B ≤ w.heap.size) (hs : x.size + s.size ≤ 1048576) :
    Calls Tryd.prog 62 #[.pointer (some ⟨bb, 0, none⟩), .string s] w fun e w' => e = .returned (.tuple #[.int .i64 s.size, .nilIface]) ∧ (IsB B bb (x ++ s) w' ∧ Below B w w') := by
  refine (Tryd.Builder_WriteString B bb (Lib.strCells x) s w h (by rw [Lib.strCells_length]; omega) hB).mono ?_
  rintro e w' ⟨rfl, h1, h2⟩
  exact ⟨rfl, by unfold IsB; rw [strCells_add]; exact .inr h1, h2⟩

theorem cell_below {B : Nat} {W w1 : World} {b o : Nat} {v : Value} (hb : Below B W w1) (hl : b < B) (h : W.cell? ⟨b, o, none⟩ = some v) : w1.cell? ⟨b, o, none⟩ = some v := (Below.cell hb (p := ⟨b, o, none⟩) hl).trans h

theorem keepB2 {B : Nat} {W w1 : World} {b1 o1 b2 o2 : Nat} {v1 v2 : Value} (hu : Below B W w1) (h1 : b1 < B) (h2 : b2 < B) (h : W.cell? ⟨b1, o1, none⟩ = some v1 ∧ W.cell? ⟨b2, o2, none⟩ = some v2) : w1.cell? ⟨b1, o1, none⟩ = some v1 ∧ w1.cell? ⟨b2, o2, none⟩ = some v2 :=
  ⟨cell_below hu h1 h.1, cell_below hu h2 h.2⟩
theorem keepB3 {B : Nat} {W w1 : World} {b1 o1 b2 o2 b3 o3 : Nat} {v1 v2 v3 : Value} (hu : Below B W w1) (h1 : b1 < B) (h2 : b2 < B) (h3 : b3 < B) (h : W.cell? ⟨b1, o1, none⟩ = some v1 ∧ W.cell? ⟨b2, o2, none⟩ = some v2 ∧ W.cell? ⟨b3, o3, none⟩ = some v3) : w1.cell? ⟨b1, o1, none⟩ = some v1 ∧ w1.cell? ⟨b2, o2, none⟩ = some v2 ∧ w1.cell? ⟨b3, o3, none⟩ = some v3 :=
  ⟨cell_below hu h1 h.1, cell_below hu h2 h.2.1, cell_below hu h3 h.2.2⟩
set_option maxRecDepth 100000 in
set_option maxHeartbeats 400000 in
theorem write_nil (v : Value) (f t : Int) (w : World) : Calls Tryd.prog 42 #[.pointer none, v, .int .i64 f, .int .i64 t] w fun e w' => e = .returned (.tuple #[]) ∧ w = w' := by
  go_enter Tryd.func42, Tryd.ntmps42
  go_wp2
  refine bodyPost_ret (results_none rfl _ _ _) rfl ?_
  exact ⟨rfl, rfl⟩
set_option maxRecDepth 100000 in
set_option maxHeartbeats 400000 in
theorem write_past (b n : Nat) (v : Value) (f t : Int) (w : World) (c0 : w.cell? ⟨b, 0, none⟩ = some (.int .i64 (n : Nat))) (h : (n : Int) ≤ f) : Calls Tryd.prog 42 #[.pointer (some ⟨b, 0, none⟩), v, .int .i64 f, .int .i64 t] w fun e w' => e = .returned (.tuple #[]) ∧ w = w' := by
  go_enter Tryd.func42, Tryd.ntmps42
  go_wp2
  refine bodyPost_ret (results_none rfl _ _ _) rfl ?_
  exact ⟨rfl, rfl⟩
set_option maxRecDepth 100000 in
set_option maxHeartbeats 400000 in
theorem write_low (b n : Nat) (v : Value) (f t : Int) (w : World) (c0 : w.cell? ⟨b, 0, none⟩ = some (.int .i64 (n : Nat))) (h : f < n) (ht : t ≤ 0) : Calls Tryd.prog 42 #[.pointer (some ⟨b, 0, none⟩), v, .int .i64 f, .int .i64 t] w fun e w' => e = .returned (.tuple #[]) ∧ w = w' := by
  have f1 : decide ((n : Int) ≤ f) = false := by simp; omega
  go_enter Tryd.func42, Tryd.ntmps42
  go_wp2
  refine bodyPost_ret (results_none rfl _ _ _) rfl ?_
  exact ⟨rfl, rfl⟩

set_option maxRecDepth 100000 in
set_option maxHeartbeats 1000000 in
theorem write_leaf (B b bb a c : Nat) (x s : ByteArray) (f t : Int) (w : World) (hb : b < B) (hB : B ≤ w.heap.size) (c0 : w.cell? ⟨b, 0, none⟩ = some (.int .i64 (s.size : Nat))) (c6 : w.cell? ⟨b, 6, none⟩ = some (.pointer none)) (c8 : w.cell? ⟨b, 8, none⟩ = some (.string s))
    (h1 : f < s.size) (h2 : 0 < t) (ha : max f 0 = (a : Int)) (hc : min t (s.size : Int) = (c : Int)) (hac : (a : Int) ≤ c) (hcs : (c : Int) ≤ s.size) (hs : (s.size : Int) ≤ 1048576) (hx : x.size + s.size ≤ 1048576) (hbl : IsB B bb x w) :
    Calls Tryd.prog 42 #[.pointer (some ⟨b, 0, none⟩), .pointer (some ⟨bb, 0, none⟩), .int .i64 f, .int .i64 t] w (WrPost B bb (x ++ s.extract a c) w) := by
  have f1 : decide ((s.size : Int) ≤ f) = false := by simp; omega
  have f2 : decide (t ≤ 0) = false := by simp; omega
  have a0 : (0 : Int) ≤ a := by omega
  have hbd : IsB B bb x w.drew := hbl
  have HW := Lib.hid (write_str (s := s.extract a c) hbd hB (by rw [ByteArray.size_extract]; omega))
  have HB := Lib.hid hb
  clear hbd hbl hB hx hb
  go_enter Tryd.func42, Tryd.ntmps42
  go_wp2_with (go_at_call 51; refine (isLeaf_yes _ w c6).mono ?_; rintro e w' ⟨rfl, rfl⟩)
  go_region_held3 (fun w' => w'.cell? ⟨b, 0, none⟩ = some (.int .i64 (s.size : Nat)) ∧ w'.cell? ⟨b, 8, none⟩ = some (.string s))
    (first | assumption | with_reducible exact keepB2 hu1 HB.out HB.out (by assumption) | exact ⟨c0, c8⟩)
    (first | (go_at_call 62; ((with_reducible refine HW.out.mono ?_); rintro e w1 ⟨rfl, hi1, hu1⟩)))
  all_goals
    have HI := Lib.hid hi1
    have HU := Lib.hid ((Below.refl B w).drew.trans hu1)
    clear hi1 hu1
    go_wp2
    refine bodyPost_ret (results_none rfl _ _ _) rfl ?_
    exact ⟨rfl, HI.out, HU.out⟩

set_option maxRecDepth 100000 in
set_option maxHeartbeats 1000000 in
theorem write_node (B b bb bl br n m : Nat) (x y z : ByteArray) (f t : Int) (w : World) (hb : b < B) (hbl' : bl < B) (c0 : w.cell? ⟨b, 0, none⟩ = some (.int .i64 (n : Nat))) (c6 : w.cell? ⟨b, 6, none⟩ = some (.pointer (some ⟨bl, 0, none⟩))) (c7 : w.cell? ⟨b, 7, none⟩ = some (.pointer (some ⟨br, 0, none⟩))) (l0 : w.cell? ⟨bl, 0, none⟩ = some (.int .i64 (m : Nat)))
    (h1 : f < n) (h2 : 0 < t) (hf : (-1048576 : Int) ≤ f) (hf2 : f ≤ 1048576) (ht : t ≤ 1048576) (hm : (m : Int) ≤ 1048576) (hbl : IsB B bb x w)
    (PL : ∀ W, Below B w W → IsB B bb x W → Calls Tryd.prog 42 #[.pointer (some ⟨bl, 0, none⟩), .pointer (some ⟨bb, 0, none⟩), .int .i64 f, .int .i64 t] W (WrPost B bb (x ++ y) W))
    (PR : ∀ W, Below B w W → IsB B bb (x ++ y) W → Calls Tryd.prog 42 #[.pointer (some ⟨br, 0, none⟩), .pointer (some ⟨bb, 0, none⟩), .int .i64 (f - m), .int .i64 (t - m)] W (WrPost B bb (x ++ y ++ z) W)) :
    Calls Tryd.prog 42 #[.pointer (some ⟨b, 0, none⟩), .pointer (some ⟨bb, 0, none⟩), .int .i64 f, .int .i64 t] w (WrPost B bb (x ++ y ++ z) w) := by
  have f1 : decide ((n : Int) ≤ f) = false := by simp; omega
  have f2 : decide (t ≤ 0) = false := by simp; omega
  have e1 : IntKind.i64.wrap (f - m) = f - m := IntWalk.i64_in _ (by omega)
  have e2 : IntKind.i64.wrap (t - m) = t - m := IntWalk.i64_in _ (by omega)
  have HL := Lib.hid (PL w (Below.refl B w) hbl)
  have HR := Lib.hid PR
  have HB := Lib.hid hb
  have HB2 := Lib.hid hbl'
  clear PL PR hbl hb hbl' hf hf2 ht hm
  go_enter Tryd.func42, Tryd.ntmps42
  go_wp2_with (first | (go_at_call 51; ((with_reducible refine (isLeaf_no _ _ w c6).mono ?_); rintro e w' ⟨rfl, rfl⟩)) | (go_at_call 42; ((with_reducible refine HL.out.mono ?_); rintro e w1 ⟨rfl, hi1, hu1⟩; have d6 := cell_below hu1 HB.out c6; have d7 := cell_below hu1 HB.out c7; have dl := cell_below hu1 HB2.out l0; have HI1 := Lib.hid hi1; have HU1 := Lib.hid hu1; clear hi1 hu1)))
  clear c0 c6 c7 l0 f1 f2
  have HR1 := Lib.hid (fun W (hd : Below B w1 W) (hi : IsB B bb (x ++ y) W) => HR.out W (HU1.out.trans hd) hi)
  go_region_held3 (fun w' => w'.cell? ⟨b, 6, none⟩ = some (.pointer (some ⟨bl, 0, none⟩)) ∧ w'.cell? ⟨b, 7, none⟩ = some (.pointer (some ⟨br, 0, none⟩)) ∧ w'.cell? ⟨bl, 0, none⟩ = some (.int .i64 (m : Nat)))
    (first | assumption | with_reducible exact keepB3 hu2 HB.out HB.out HB2.out (by assumption) | exact ⟨d6, d7, dl⟩)
    (first | (go_at_call 42; ((with_reducible refine (HR1.out _ ?_ ?_).mono ?_); (exact (Below.refl B w1).drew); (exact HI1.out); rintro e w2 ⟨rfl, hi2, hu2⟩)))
  all_goals
    have HI := Lib.hid hi2
    have HU := Lib.hid (HU1.out.trans ((Below.refl B w1).drew.trans hu2))
    clear hi2 hu2
    go_wp2
    go_end0
    exact ⟨rfl, HI.out, HU.out⟩
end Go.Proofs.YtfcpieodgflmnaaDoor

namespace Go.Proofs.YtfcpieodgflmnaaDoor
open Go.RowKit

theorem write_any : ∀ (t : T) (B b bb : Nat) (x : ByteArray) (f u : Int) (w : World), NodeIn B w t b → B ≤ w.heap.size → IsB B bb x w → f ≤ u → -(1048576 - (t.text.size : Int)) ≤ f → f ≤ 1048576 → u ≤ 1048576 → x.size + t.text.size ≤ 1048576 →
    Calls Tryd.prog 42 #[.pointer (some ⟨b, 0, none⟩), .pointer (some ⟨bb, 0, none⟩), .int .i64 f, .int .i64 u] w (WrPost B bb (x ++ sl t.text f u) w) := by
  intro t
  induction t with
  | leaf s =>
    intro B b bb x f u w hn hB hi hfu hf hf2 hu hx
    have hx' : x.size + s.size ≤ 1048576 := hx
    have c0 : w.cell? ⟨b, 0, none⟩ = some (.int .i64 (s.size : Nat)) := cellOf hn.2 rfl
    show Calls _ _ _ _ (WrPost B bb (x ++ sl s f u) w)
    by_cases h1 : (s.size : Int) ≤ f
    · rw [sl_none (.inl h1), append_empty']
      refine (write_past b s.size _ f u w c0 h1).mono ?_
      rintro e w' ⟨rfl, rfl⟩
      exact ⟨rfl, hi, Below.refl _ _⟩
    by_cases h2 : u ≤ 0
    · rw [sl_none (.inr h2), append_empty']
      refine (write_low b s.size _ f u w c0 (by omega) h2).mono ?_
      rintro e w' ⟨rfl, rfl⟩
      exact ⟨rfl, hi, Below.refl _ _⟩
    · exact write_leaf B b bb (max f 0).toNat (min u s.size).toNat x s f u w hn.1 hB c0 (cellOf hn.2 rfl) (cellOf hn.2 rfl) (by omega) (by omega) (by omega) (by omega) (by omega) (by omega) (by omega) hx' hi
  | node l r ihl ihr =>
    intro B b bb x f u w hn hB hi hfu hf hf2 hu hx
    have hz : (T.node l r).text.size = l.text.size + r.text.size := ByteArray.size_append
    obtain ⟨h0, bl, br, hc, nl', nr⟩ := hn
    have c0 : w.cell? ⟨b, 0, none⟩ = some (.int .i64 ((T.node l r).text.size : Nat)) := cellOf hc rfl
    have l0 : w.cell? ⟨bl, 0, none⟩ = some (.int .i64 (l.text.size : Nat)) := by
      obtain ⟨p, q, c⟩ := node_cell nl'
      exact cellOf c rfl
    by_cases h1 : ((T.node l r).text.size : Int) ≤ f
    · rw [sl_none (.inl h1), append_empty']
      refine (write_past b _ _ f u w c0 h1).mono ?_
      rintro e w' ⟨rfl, rfl⟩
      exact ⟨rfl, hi, Below.refl _ _⟩
    by_cases h2 : u ≤ 0
    · rw [sl_none (.inr h2), append_empty']
      refine (write_low b _ _ f u w c0 (by omega) h2).mono ?_
      rintro e w' ⟨rfl, rfl⟩
      exact ⟨rfl, hi, Below.refl _ _⟩
    · have e : x ++ sl (T.node l r).text f u = x ++ sl l.text f u ++ sl r.text (f - l.text.size) (u - l.text.size) := by
        rw [ByteArray.append_assoc]
        congr 1
        exact sl_append _ _ _ _
      rw [e]
      have zl := sl_size l.text f u
      refine write_node B b bb bl br _ l.text.size x _ _ f u w h0 nl'.lt c0 (cellOf hc rfl) (cellOf hc rfl) l0 (by omega) (by omega) (by omega) (by omega) hu (by omega) hi ?_ ?_
      · intro W hd hi'
        exact ihl B bl bb x f u W (NodeIn.keep hd (Nat.le_refl _) nl') (Nat.le_trans hB hd.size) hi' hfu (by omega) hf2 hu (by omega)
      · intro W hd hi'
        exact ihr B br bb _ (f - l.text.size) (u - l.text.size) W (NodeIn.keep hd (Nat.le_refl _) nr) (Nat.le_trans hB hd.size) hi' (by omega) (by omega) (by omega) (by omega) (by rw [ByteArray.size_append]; omega)
end Go.Proofs.YtfcpieodgflmnaaDoor

namespace Go.Proofs.YtfcpieodgflmnaaDoor
open Go.RowKit

/-- A rope of the text s lies at block rb. -/
def RopeIs (w : World) (rb : Nat) (s : ByteArray) : Prop := ∃ v o, w.heap[rb]? = some (.cells #[v] 47) ∧ Ptr w v o ∧ OkO o ∧ otext o = s ∧ (s.size : Int) ≤ 1048576
theorem RopeIs.up {w w' : World} {rb : Nat} {s : ByteArray} (h : RopeIs w rb s) (hu : Up w w') : RopeIs w' rb s := by
  obtain ⟨v, o, h1, h2, h3, h4, h5⟩ := h
  exact ⟨v, o, (Below.block hu rb (Array.getElem?_eq_some_iff.1 h1).1).trans h1, h2.up hu, h3, h4, h5⟩
theorem RopeIs.size {w : World} {rb : Nat} {s : ByteArray} (h : RopeIs w rb s) : (s.size : Int) ≤ 1048576 := by obtain ⟨_, _, _, _, _, _, h5⟩ := h; exact h5
theorem cv_empty : cv ⟨#[]⟩ = .agg #[.int .i64 0, .int .i64 0, .int .i64 0, .string ⟨#[]⟩, .string ⟨#[]⟩] := by
  have h1 : nl ⟨#[]⟩ = 0 := rfl
  have h2 : countS ⟨#[]⟩ = 0 := by unfold countS; rw [stepsFrom_nil (Nat.not_lt_zero _)]; rfl
  have h3 : hd ⟨#[]⟩ = ⟨#[]⟩ := by unfold hd; exact extract_none _ (by decide)
  have h4 : tl ⟨#[]⟩ = ⟨#[]⟩ := by unfold tl; exact extract_none _ (by decide)
  unfold cv
  rw [h1, h2, h3, h4]
  rfl

set_option maxRecDepth 100000 in
set_option maxHeartbeats 1000000 in
theorem counted_none (w : World) :
    Calls Tryd.prog 50 #[.pointer none] w fun e w' => e = .returned (.agg #[.int .i64 0, .int .i64 0, .int .i64 0, .string ⟨#[]⟩, .string ⟨#[]⟩]) ∧ Up w w' := by
  go_enter Tryd.func50, Tryd.ntmps50
  go_wp2
  exact bodyPost_ret (v := .agg #[.int .i64 0, .int .i64 0, .int .i64 0, .string ⟨#[]⟩, .string ⟨#[]⟩]) (by simp [results, Tryd.results50, go_sem]) rfl ⟨rfl, (Up.alloc _ _).trans (Up.refl _)⟩
set_option maxRecDepth 100000 in
set_option maxHeartbeats 1000000 in
theorem counted_nil (w : World) (rb : Nat) (h0 : w.cell? ⟨rb, 0, none⟩ = some (.pointer none)) (l0 : rb < w.heap.size) :
    Calls Tryd.prog 50 #[.pointer (some ⟨rb, 0, none⟩)] w fun e w' => e = .returned (.agg #[.int .i64 0, .int .i64 0, .int .i64 0, .string ⟨#[]⟩, .string ⟨#[]⟩]) ∧ Up w w' := by
  go_enter Tryd.func50, Tryd.ntmps50
  go_wp2
  exact bodyPost_ret (v := .agg #[.int .i64 0, .int .i64 0, .int .i64 0, .string ⟨#[]⟩, .string ⟨#[]⟩]) (by simp [results, Tryd.results50, go_sem]) rfl ⟨rfl, (Up.alloc _ _).trans (Up.refl _)⟩
set_option maxRecDepth 100000 in
set_option maxHeartbeats 1000000 in
theorem counted_some (w : World) (b : Nat) (bytes ends steps : Int) (h t : ByteArray) (rb : Nat) (h0 : w.cell? ⟨rb, 0, none⟩ = some (.pointer (some ⟨b, 0, none⟩)))
   (c0 : w.cell? ⟨b, 0, none⟩ = some (.int .i64 bytes)) (c1 : w.cell? ⟨b, 1, none⟩ = some (.int .i64 ends)) (c2 : w.cell? ⟨b, 2, none⟩ = some (.int .i64 steps)) (c3 : w.cell? ⟨b, 3, none⟩ = some (.string h)) (c4 : w.cell? ⟨b, 4, none⟩ = some (.string t)) (l0 : rb < w.heap.size) (l1 : b < w.heap.size) :
    Calls Tryd.prog 50 #[.pointer (some ⟨rb, 0, none⟩)] w fun e w' => e = .returned (.agg #[.int .i64 bytes, .int .i64 ends, .int .i64 steps, .string h, .string t]) ∧ Up w w' := by
  go_enter Tryd.func50, Tryd.ntmps50
  go_wp2
  exact bodyPost_ret (v := .agg #[.int .i64 bytes, .int .i64 ends, .int .i64 steps, .string h, .string t]) (by simp [results, Tryd.results50, go_sem]) rfl ⟨rfl, (Up.alloc _ _).trans (Up.refl _)⟩
theorem counted_any {w : World} {rb : Nat} {s : ByteArray} (hr : RopeIs w rb s) :
    Calls Tryd.prog 50 #[.pointer (some ⟨rb, 0, none⟩)] w fun e w' => e = .returned (cv s) ∧ Up w w' := by
  obtain ⟨v, o, h1, h2, h3, h4, h5⟩ := hr
  have l0 := (Array.getElem?_eq_some_iff.1 h1).1
  cases o with
  | none =>
    obtain rfl : v = .pointer none := h2
    obtain rfl : (⟨#[]⟩ : ByteArray) = s := h4
    rw [cv_empty]
    exact counted_nil w rb (cellOf h1 rfl) l0
  | some t =>
    obtain ⟨b, rfl, n⟩ := h2
    obtain rfl : t.text = s := h4
    obtain ⟨l, r, c⟩ := node_cell n
    exact counted_some w b _ _ _ _ _ rb (cellOf h1 rfl) (cellOf c rfl) (cellOf c rfl) (cellOf c rfl) (cellOf c rfl) (cellOf c rfl) l0 n.lt

/-- What is told of one number out of what is counted. -/
theorem cv_hid (s : ByteArray) : ∃ n e k h t, cv s = .agg #[.int .i64 n, .int .i64 e, .int .i64 k, .string h, .string t] ∧ n = (s.size : Int) ∧ e = (nl s : Int) ∧ k = (countS s : Int) := ⟨_, _, _, _, _, rfl, rfl, rfl, rfl⟩

set_option maxRecDepth 100000 in
set_option maxHeartbeats 400000 in
theorem len_of {v : Value} {n e k : Int} {h t : ByteArray} (w : World) (hc : Calls Tryd.prog 50 #[v] w fun e' w' => e' = .returned (.agg #[.int .i64 n, .int .i64 e, .int .i64 k, .string h, .string t]) ∧ Up w w') :
    Calls Tryd.prog 32 #[v] w fun e' w' => e' = .returned (.int .i64 n) ∧ Up w w' := by
  have H := Lib.hid hc
  clear hc
  have hfd : ∀ w : World, (Instr.field 89 (.agg #[.int .i64 n, .int .i64 e, .int .i64 k, .string h, .string t]) 0).run Tryd.prog w = .ok (.int .i64 n) w := fun _ => by kernel_rfl
  go_enter Tryd.func32, Tryd.ntmps32
  go_wp2_with (go_at_call 50; refine H.out.mono ?_; rintro e' w' ⟨rfl, hu⟩)
  go_ret
  exact ⟨rfl, hu⟩
set_option maxRecDepth 100000 in
set_option maxHeartbeats 400000 in
theorem lines_of {rb : Nat} {n e k : Int} {h t : ByteArray} (w : World) (he : 0 ≤ e) (he2 : e ≤ 1048576) (hc : Calls Tryd.prog 50 #[.pointer (some ⟨rb, 0, none⟩)] w fun e' w' => e' = .returned (.agg #[.int .i64 n, .int .i64 e, .int .i64 k, .string h, .string t]) ∧ Up w w') :
    Calls Tryd.prog 40 #[.pointer (some ⟨rb, 0, none⟩)] w fun e' w' => e' = .returned (.int .i64 (e + 1)) ∧ Up w w' := by
  have H := Lib.hid hc
  clear hc
  have hfd : ∀ w : World, (Instr.field 89 (.agg #[.int .i64 n, .int .i64 e, .int .i64 k, .string h, .string t]) 1).run Tryd.prog w = .ok (.int .i64 e) w := fun _ => by kernel_rfl
  go_enter Tryd.func40, Tryd.ntmps40
  go_wp2_with (go_at_call 50; refine H.out.mono ?_; rintro e' w' ⟨rfl, hu⟩)
  go_ret
  exact ⟨rfl, hu⟩
set_option maxRecDepth 100000 in
set_option maxHeartbeats 400000 in
theorem lines_none (w : World) : Calls Tryd.prog 40 #[.pointer none] w fun e' w' => e' = .returned (.int .i64 0) ∧ w = w' := by
  go_enter Tryd.func40, Tryd.ntmps40
  go_wp2
  go_ret
  exact ⟨rfl, rfl⟩

theorem rope_len_any {w : World} {rb : Nat} {s : ByteArray} (hr : RopeIs w rb s) : Calls Tryd.prog 32 #[.pointer (some ⟨rb, 0, none⟩)] w fun e w' => e = .returned (.int .i64 (s.size : Nat)) ∧ Up w w' := len_of w (counted_any hr)
theorem rope_lines_any {w : World} {rb : Nat} {s : ByteArray} (hr : RopeIs w rb s) : Calls Tryd.prog 40 #[.pointer (some ⟨rb, 0, none⟩)] w fun e w' => e = .returned (.int .i64 ((nl s : Int) + 1)) ∧ Up w w' :=
  lines_of w (by omega) (by have := nl_le s; have := hr.size; omega) (counted_any hr)

/-! ### Depth -/
/-! ### Byte, Find -/
set_option maxRecDepth 100000 in
set_option maxHeartbeats 400000 in
theorem find_none (i : Int) (w : World) : Calls Tryd.prog 38 #[.pointer none, .int .i64 i] w fun e' w' => e' = .returned (.tuple #[.int .i64 0, .int .i64 8]) ∧ w = w' := by
  go_enter Tryd.func38, Tryd.ntmps38
  go_wp2
  go_ret2
  exact ⟨rfl, rfl⟩
set_option maxRecDepth 100000 in
set_option maxHeartbeats 400000 in
theorem find_out {w : World} {rb : Nat} {s : ByteArray} (hr : RopeIs w rb s) (i : Int) (hi : ¬ (0 ≤ i ∧ i ≤ s.size)) : Calls Tryd.prog 38 #[.pointer (some ⟨rb, 0, none⟩), .int .i64 i] w fun e' w' => e' = .returned (.tuple #[.int .i64 0, .int .i64 5]) ∧ Up w w' := by
  have HL := Lib.hid (Go.Proofs.YtfcpieodgflmnaaDoor.rope_len_any hr)
  clear hr
  by_cases h0 : 0 ≤ i
  · have h1 : (s.size : Int) < i := by omega
    have f0 : decide (i < 0) = false := decide_eq_false (by omega)
    clear hi
    go_enter Tryd.func38, Tryd.ntmps38
    go_wp2_with (go_at_call 32; refine HL.out.mono ?_; rintro e' w' ⟨rfl, hu⟩)
    go_ret2
    exact ⟨rfl, hu⟩
  · have h1 : i < 0 := by omega
    clear hi h0
    go_enter Tryd.func38, Tryd.ntmps38
    go_wp2
    go_ret2
    exact ⟨rfl, Up.refl _⟩
set_option maxRecDepth 100000 in
set_option maxHeartbeats 400000 in
theorem find_in {w : World} {rb : Nat} {s : ByteArray} (hr : RopeIs w rb s) (i : Nat) (hi : i ≤ s.size) : Calls Tryd.prog 38 #[.pointer (some ⟨rb, 0, none⟩), .int .i64 (i : Nat)] w fun e' w' => e' = .returned (.tuple #[.int .i64 (na s i : Nat), .int .i64 0]) ∧ Up w w' := by
  have HL := Lib.hid (Go.Proofs.YtfcpieodgflmnaaDoor.rope_len_any hr)
  obtain ⟨v, o, h1, h2, h3, h4, h5⟩ := hr
  have HA : Hid (∀ W, Up w W → Calls Tryd.prog 58 #[v, .int .i64 (i : Nat)] W fun e w' => e = .returned (.int .i64 (na s i : Nat)) ∧ W = w') := by
    refine Lib.hid fun W hu => ?_
    cases o with
    | none =>
      obtain rfl : v = .pointer none := h2
      obtain rfl : (⟨#[]⟩ : ByteArray) = s := h4
      have : i = 0 := Nat.le_zero.1 hi
      subst this
      rw [na_zero]
      exact endsAhead_nil _ W
    | some t =>
      obtain ⟨b, rfl, n⟩ := h2
      obtain rfl : t.text = s := h4
      exact endsAhead_any t b i W (n.up hu) hi h5
  have c0 : w.cell? ⟨rb, 0, none⟩ = some v := cellOf h1 rfl
  have f0 : decide ((i : Int) < 0) = false := by simp
  have hi2 : (i : Int) ≤ s.size := by omega
  clear h1 h2 h3 h5 hi h4
  go_enter Tryd.func38, Tryd.ntmps38
  go_wp2_with (first | (go_at_call 32; ((with_reducible refine HL.out.mono ?_); rintro e' w1 ⟨rfl, hu⟩; have c0' := cell_up hu c0)) | (go_at_call 58; ((with_reducible refine (HA.out _ hu).mono ?_); rintro e' w2 ⟨rfl, rfl⟩)))
  go_ret2
  exact ⟨rfl, hu⟩
end Go.Proofs.YtfcpieodgflmnaaDoor

namespace Go.Proofs.YtfcpieodgflmnaaDoor
open Go.RowKit

set_option maxRecDepth 100000 in
set_option maxHeartbeats 400000 in
theorem slice_none (f u : Int) (w : World) : Calls Tryd.prog 26 #[.pointer none, .int .i64 f, .int .i64 u] w fun e' w' => e' = .returned (.tuple #[.string ⟨#[]⟩, .int .i64 8]) ∧ w = w' := by
  go_enter Tryd.func26, Tryd.ntmps26
  go_wp2
  go_ret2
  exact ⟨rfl, rfl⟩
set_option maxRecDepth 100000 in
set_option maxHeartbeats 400000 in
theorem slice_out {w : World} {rb : Nat} {s : ByteArray} (hr : RopeIs w rb s) (f u : Int) (hi : ¬ (0 ≤ f ∧ f ≤ u ∧ u ≤ s.size)) : Calls Tryd.prog 26 #[.pointer (some ⟨rb, 0, none⟩), .int .i64 f, .int .i64 u] w fun e' w' => e' = .returned (.tuple #[.string ⟨#[]⟩, .int .i64 5]) ∧ Up w w' := by
  have HL := Lib.hid (Go.Proofs.YtfcpieodgflmnaaDoor.rope_len_any hr)
  clear hr
  by_cases h0 : f < 0
  · clear hi
    go_enter Tryd.func26, Tryd.ntmps26
    go_wp2
    go_ret2
    exact ⟨rfl, Up.refl _⟩
  · have f0 : decide (f < 0) = false := decide_eq_false h0
    by_cases h1 : (s.size : Int) < u
    · clear hi
      go_enter Tryd.func26, Tryd.ntmps26
      go_wp2_with (go_at_call 32; refine HL.out.mono ?_; rintro e' w' ⟨rfl, hu⟩)
      go_ret2
      exact ⟨rfl, hu⟩
    · have f1 : decide ((s.size : Int) < u) = false := decide_eq_false h1
      have h2 : u < f := by omega
      clear hi h0 h1
      go_enter Tryd.func26, Tryd.ntmps26
      go_wp2_with (go_at_call 32; refine HL.out.mono ?_; rintro e' w' ⟨rfl, hu⟩)
      go_ret2
      exact ⟨rfl, hu⟩

theorem string_of {B bb : Nat} {x : ByteArray} {w : World} (h : IsB B bb x w) (hB : B ≤ w.heap.size) :
    Calls Tryd.prog 43 #[.pointer (some ⟨bb, 0, none⟩)] w fun e w' => e = .returned (.string x) ∧ Below B w w' := by
  have := Tryd.Builder_String_any B bb x.data.toList w h hB
  exact this
theorem grow_fresh (w : World) (n : Nat) (hn : n ≤ 1048576) :
    Calls Tryd.prog 41 #[.pointer (some ⟨w.heap.size, 0, none⟩), .int .i64 n] (w.alloc (.cells #[.pointer none, .slice none 0 0] 77)) fun e w' => e = .returned (.tuple #[]) ∧ IsB w.heap.size w.heap.size ⟨#[]⟩ w' ∧ Below w.heap.size w w' := by
  refine (Tryd.Builder_Grow_fresh w.heap.size w.heap.size n _ (Nat.le_refl _) (Go.heap_alloc_new _ _) (Below.size (Up.alloc _ _)) (by omega)).mono ?_
  rintro e w' ⟨rfl, h1, h2⟩
  exact ⟨rfl, .inr h1, Below.trans (Up.alloc w _) h2⟩

set_option maxRecDepth 100000 in
set_option maxHeartbeats 1000000 in
theorem slice_walk {rb f u n m : Nat} {v : Value} {x : ByteArray} (w : World) (hL : Calls Tryd.prog 32 #[.pointer (some ⟨rb, 0, none⟩)] w fun e w' => e = .returned (.int .i64 (n : Nat)) ∧ Up w w')
    (c0 : w.cell? ⟨rb, 0, none⟩ = some v) (l0 : rb < w.heap.size) (hfu : f ≤ u) (hun : u ≤ n) (hn : n ≤ 1048576) (hm : m = u - f)
    (hW : ∀ w1 W bb, Up w w1 → Below w1.heap.size w1 W → IsB w1.heap.size bb ⟨#[]⟩ W → Calls Tryd.prog 42 #[v, .pointer (some ⟨bb, 0, none⟩), .int .i64 (f : Nat), .int .i64 (u : Nat)] W (WrPost w1.heap.size bb x W)) :
    Calls Tryd.prog 26 #[.pointer (some ⟨rb, 0, none⟩), .int .i64 (f : Nat), .int .i64 (u : Nat)] w fun e' w' => e' = .returned (.tuple #[.string x, .int .i64 0]) ∧ Up w w' := by
  have HL := Lib.hid hL
  have HW := Lib.hid hW
  have f0 : decide ((f : Int) < 0) = false := decide_eq_false (by omega)
  have f1 : decide (n < u) = false := decide_eq_false (by omega)
  have f2 : decide (u < f) = false := decide_eq_false (by omega)
  have f3 : IntKind.i64.wrap ((u : Int) - f) = (m : Nat) := (IntWalk.i64_in _ (by omega)).trans (by omega)
  have HM := Lib.hid (show m ≤ 1048576 by omega)
  clear hL hW hfu hun hn hm
  go_enter Tryd.func26, Tryd.ntmps26
  go_wp2_with (first | (go_at_call 32; ((with_reducible refine HL.out.mono ?_); rintro e' w1 ⟨rfl, hu1⟩; have c1 := cell_up hu1 c0; have l1 := Nat.lt_of_lt_of_le l0 hu1.size; clear c0)) | (go_at_call 41; ((with_reducible refine (grow_fresh _ m HM.out).mono ?_); rintro e' w2 ⟨rfl, hb2, hu2⟩; have HB2 := Lib.hid hb2; clear hb2; have c2 := cell_up hu2 c1)) | (go_at_call 42; ((with_reducible refine (HW.out _ _ _ hu1 hu2 HB2.out).mono ?_); rintro e' w3 ⟨rfl, hb3, hu3⟩; have HB3 := Lib.hid hb3; clear hb3)) | (go_at_call 43; ((with_reducible refine (string_of HB3.out (Nat.le_trans hu2.size hu3.size)).mono ?_); rintro e' w4 ⟨rfl, hu4⟩)))
  go_ret2
  exact ⟨rfl, hu1.trans (Below.trans hu2 (Below.trans hu3 hu4))⟩

theorem slice_in {w : World} {rb : Nat} {s : ByteArray} (hr : RopeIs w rb s) (f u : Nat) (hfu : f ≤ u) (hus : u ≤ s.size) : Calls Tryd.prog 26 #[.pointer (some ⟨rb, 0, none⟩), .int .i64 (f : Nat), .int .i64 (u : Nat)] w fun e' w' => e' = .returned (.tuple #[.string (s.extract f u), .int .i64 0]) ∧ Up w w' := by
  have hL := rope_len_any hr
  obtain ⟨v, o, h1, h2, h3, h4, h5⟩ := hr
  refine slice_walk w hL (cellOf h1 rfl) (Array.getElem?_eq_some_iff.1 h1).1 hfu hus (by omega) rfl ?_
  intro w1 W bb hu1 hB hi
  cases o with
  | none =>
    obtain rfl : v = .pointer none := h2
    obtain rfl : (⟨#[]⟩ : ByteArray) = s := h4
    refine (write_nil _ _ _ W).mono ?_
    rintro e w' ⟨rfl, rfl⟩
    have e : (⟨#[]⟩ : ByteArray).extract f u = ⟨#[]⟩ := by
      have hz : u ≤ 0 := hus
      obtain rfl : u = 0 := by omega
      obtain rfl : f = 0 := by omega
      exact extract_none _ (Nat.le_refl 0)
    exact ⟨rfl, by rw [e]; exact hi, Below.refl _ _⟩
  | some t =>
    obtain ⟨b, rfl, n⟩ := h2
    obtain rfl : t.text = s := h4
    have hs : sl t.text f u = t.text.extract f u := by
      unfold sl
      congr 1 <;> omega
    have := write_any t w1.heap.size b bb ⟨#[]⟩ f u W (NodeIn.keep hB (Nat.le_refl _) (n.up hu1)) hB.size hi (by omega) (by omega) (by omega) (by omega) (by have : (⟨#[]⟩ : ByteArray).size = 0 := rfl; omega)
    rw [empty_append', hs] at this
    exact this

set_option maxRecDepth 100000 in
set_option maxHeartbeats 400000 in
theorem text_of {v : Value} {n : Int} {s : ByteArray} {r : Int} (w : World) (hL : Calls Tryd.prog 32 #[v] w fun e w' => e = .returned (.int .i64 n) ∧ Up w w')
    (hS : ∀ W, Up w W → Calls Tryd.prog 26 #[v, .int .i64 0, .int .i64 n] W fun e' w' => e' = .returned (.tuple #[.string s, .int .i64 r]) ∧ Up W w') :
    Calls Tryd.prog 18 #[v] w fun e' w' => e' = .returned (.string s) ∧ Up w w' := by
  have HL := Lib.hid hL
  have HS := Lib.hid hS
  clear hL hS
  go_enter Tryd.func18, Tryd.ntmps18
  go_wp2_with (first | (go_at_call 32; ((with_reducible refine HL.out.mono ?_); rintro e' w1 ⟨rfl, hu1⟩)) | (go_at_call 26; ((with_reducible refine (HS.out _ hu1).mono ?_); rintro e' w2 ⟨rfl, hu2⟩)))
  go_ret
  exact ⟨rfl, hu1.trans hu2⟩
theorem text_any {w : World} {rb : Nat} {s : ByteArray} (hr : RopeIs w rb s) : Calls Tryd.prog 18 #[.pointer (some ⟨rb, 0, none⟩)] w fun e' w' => e' = .returned (.string s) ∧ Up w w' :=
  text_of (r := 0) w (rope_len_any hr) fun W hu => by
    have := slice_in (hr.up hu) 0 s.size (Nat.zero_le _) (Nat.le_refl _)
    rw [extract_all _ (Nat.le_refl _)] at this
    exact this
theorem text_none (w : World) : Calls Tryd.prog 18 #[.pointer none] w fun e' w' => e' = .returned (.string ⟨#[]⟩) ∧ Up w w' :=
  text_of (n := 0) (r := 8) w (len_of w (counted_none w)) fun W _ => (slice_none 0 0 W).mono fun _ _ h => ⟨h.1, h.2 ▸ Up.refl _⟩
end Go.Proofs.YtfcpieodgflmnaaDoor

namespace Go.Proofs.YtfcpieodgflmnaaDoor
open Go.RowKit

/-- What a call says that makes a rope of the text s. -/
def RopePost (s : ByteArray) (w : World) (e : Ending) (w' : World) : Prop := ∃ rb, e = .returned (.pointer (some ⟨rb, 0, none⟩)) ∧ RopeIs w' rb s ∧ Up w w'
theorem rope_new {w : World} {v : Value} {o : Option T} {s : ByteArray} (hp : Ptr w v o) (hk : OkO o) (ht : otext o = s) (hs : (s.size : Int) ≤ 1048576) : RopeIs (w.alloc (.cells #[v] 47)) w.heap.size s :=
  ⟨v, o, Go.heap_alloc_new _ _, hp.up (Up.alloc _ _), hk, ht, hs⟩
theorem Ptr.ptr {w : World} {v : Value} {o : Option T} (h : Ptr w v o) : ∃ q, v = .pointer q := by
  cases o with
  | none => exact ⟨none, h⟩
  | some t => obtain ⟨b, e, _⟩ := h; exact ⟨_, e⟩
theorem grow_o (s : ByteArray) (hs : (s.size : Int) ≤ 1048576) (w : World) (hT : Tabs w) : Calls Tryd.prog 19 #[.string s] w (PtrPost s w) := by
  refine (grow_any s hs w hT).mono ?_
  rintro e w' ⟨h0, h1⟩
  by_cases hz : s.size = 0
  · obtain ⟨rfl, hu⟩ := h0 hz
    refine ⟨_, none, rfl, rfl, trivial, ?_, hu⟩
    exact (ext_bt hz.symm fun k hk => absurd hk (Nat.not_lt_zero _))
  · obtain ⟨t, hg, b, rfl, hn, hu⟩ := h1 (by omega)
    exact ⟨_, some t, rfl, ⟨b, rfl, hn⟩, hg.1, hg.2.1, hu⟩

set_option maxRecDepth 100000 in
set_option maxHeartbeats 400000 in
theorem of_long (s : ByteArray) (hs : 1048576 < (s.size : Int)) (w : World) : Calls Tryd.prog 8 #[.string s] w fun e w' => e = .returned (.pointer none) ∧ w = w' := by
  go_enter Tryd.func8, Tryd.ntmps8
  go_wp2
  go_ret
  exact ⟨rfl, rfl⟩
set_option maxRecDepth 100000 in
set_option maxHeartbeats 400000 in
theorem of_any (s : ByteArray) (hs : (s.size : Int) ≤ 1048576) (w : World) (hT : Tabs w) : Calls Tryd.prog 8 #[.string s] w (RopePost s w) := by
  have HG := Lib.hid (grow_o s hs w hT)
  have HS := Lib.hid hs
  have f0 : decide (1048576 < (s.size : Int)) = false := decide_eq_false (by omega)
  clear hs hT
  go_enter Tryd.func8, Tryd.ntmps8
  go_wp2_with (go_at_call 19; ((with_reducible refine HG.out.mono ?_); rintro e w1 ⟨v, o, rfl, p1, k1, x1, hu1⟩; have HX := Lib.hid x1; clear x1; obtain ⟨q, rfl⟩ := p1.ptr))
  go_ret
  exact ⟨_, rfl, rope_new p1 k1 HX.out HS.out, hu1.trans (Up.alloc _ _)⟩

/-! ### Splice -/
set_option maxRecDepth 100000 in
set_option maxHeartbeats 400000 in
theorem splice_none (p d : Int) (i : ByteArray) (w : World) : Calls Tryd.prog 17 #[.pointer none, .agg #[.int .i64 p, .int .i64 d, .string i]] w fun e w' => e = .returned (.tuple #[.pointer none, .int .i64 8]) ∧ Up w w' := by
  go_enter Tryd.func17, Tryd.ntmps17
  go_wp2
  go_ret2
  exact ⟨rfl, Up.alloc _ _⟩

theorem edit_cells (w : World) (p d : Int) (i : ByteArray) : (w.alloc (.cells #[.int .i64 p, .int .i64 d, .string i] 38)).cell? ⟨w.heap.size, 0, none⟩ = some (.int .i64 p) ∧ (w.alloc (.cells #[.int .i64 p, .int .i64 d, .string i] 38)).cell? ⟨w.heap.size, 1, none⟩ = some (.int .i64 d) ∧ (w.alloc (.cells #[.int .i64 p, .int .i64 d, .string i] 38)).cell? ⟨w.heap.size, 2, none⟩ = some (.string i) :=
  ⟨cellOf (Go.heap_alloc_new _ _) rfl, cellOf (Go.heap_alloc_new _ _) rfl, cellOf (Go.heap_alloc_new _ _) rfl⟩

set_option maxRecDepth 100000 in
set_option maxHeartbeats 1000000 in
theorem splice_out {w : World} {rb : Nat} {s : ByteArray} (hr : RopeIs w rb s) (p d : Int) (i : ByteArray) (h : ¬ (0 ≤ p ∧ 0 ≤ d ∧ p + d ≤ s.size)) : Calls Tryd.prog 17 #[.pointer (some ⟨rb, 0, none⟩), .agg #[.int .i64 p, .int .i64 d, .string i]] w fun e w' => e = .returned (.tuple #[.pointer none, .int .i64 5]) ∧ Up w w' := by
  have hz := hr.size
  have HL := Lib.hid (Go.Proofs.YtfcpieodgflmnaaDoor.rope_len_any (hr.up (Up.alloc w (.cells #[.int .i64 p, .int .i64 d, .string i] 38))))
  obtain ⟨b0, b1, b2⟩ := edit_cells w p d i
  have HE := Lib.hid (Up.alloc w (.cells #[.int .i64 p, .int .i64 d, .string i] 38))
  clear hr
  by_cases h0 : p < 0
  · clear h hz
    go_enter Tryd.func17, Tryd.ntmps17
    go_wp2_with (go_at_call 32; ((with_reducible refine HL.out.mono ?_); rintro e' w1 ⟨rfl, hu1⟩; have c0 := cell_up hu1 b0))
    go_ret2
    exact ⟨rfl, HE.out.trans hu1⟩
  have f0 : decide (p < 0) = false := decide_eq_false h0
  by_cases h1 : d < 0
  · clear h hz
    go_enter Tryd.func17, Tryd.ntmps17
    go_wp2_with (go_at_call 32; ((with_reducible refine HL.out.mono ?_); rintro e' w1 ⟨rfl, hu1⟩; have c0 := cell_up hu1 b0; have c1 := cell_up hu1 b1))
    go_ret2
    exact ⟨rfl, HE.out.trans hu1⟩
  have f1 : decide (d < 0) = false := decide_eq_false h1
  by_cases h2 : (s.size : Int) < p
  · clear h hz h0 h1
    go_enter Tryd.func17, Tryd.ntmps17
    go_wp2_with (go_at_call 32; ((with_reducible refine HL.out.mono ?_); rintro e' w1 ⟨rfl, hu1⟩; have c0 := cell_up hu1 b0; have c1 := cell_up hu1 b1))
    go_ret2
    exact ⟨rfl, HE.out.trans hu1⟩
  have f2 : decide ((s.size : Int) < p) = false := decide_eq_false h2
  have h3 : (s.size : Int) - p < d := by omega
  have e1 : IntKind.i64.wrap ((s.size : Int) - p) = (s.size : Int) - p := IntWalk.i64_in _ (by omega)
  clear h hz h0 h1 h2
  go_enter Tryd.func17, Tryd.ntmps17
  go_wp2_with (go_at_call 32; ((with_reducible refine HL.out.mono ?_); rintro e' w1 ⟨rfl, hu1⟩; have c0 := cell_up hu1 b0; have c1 := cell_up hu1 b1))
  go_ret2
  exact ⟨rfl, HE.out.trans hu1⟩

set_option maxRecDepth 100000 in
set_option maxHeartbeats 1000000 in
theorem splice_long {w : World} {rb : Nat} {s : ByteArray} (hr : RopeIs w rb s) (p d : Nat) (i : ByteArray) (h : p + d ≤ s.size) (hl : (1048576 : Int) < (s.size : Int) - d + i.size) : Calls Tryd.prog 17 #[.pointer (some ⟨rb, 0, none⟩), .agg #[.int .i64 (p : Nat), .int .i64 (d : Nat), .string i]] w fun e w' => e = .returned (.tuple #[.pointer none, .int .i64 2]) ∧ Up w w' := by
  have hz := hr.size
  have HL := Lib.hid (Go.Proofs.YtfcpieodgflmnaaDoor.rope_len_any (hr.up (Up.alloc w (.cells #[.int .i64 (p : Nat), .int .i64 (d : Nat), .string i] 38))))
  obtain ⟨b0, b1, b2⟩ := edit_cells w (p : Nat) (d : Nat) i
  have HE := Lib.hid (Up.alloc w (.cells #[.int .i64 (p : Nat), .int .i64 (d : Nat), .string i] 38))
  clear hr
  have f0 : decide ((p : Int) < 0) = false := decide_eq_false (by omega)
  have f1 : decide ((d : Int) < 0) = false := decide_eq_false (by omega)
  have f2 : decide (s.size < p) = false := decide_eq_false (by omega)
  have e1 : IntKind.i64.wrap ((s.size : Int) - (p : Nat)) = ((s.size - p : Nat) : Int) := (IntWalk.i64_in _ (by omega)).trans (by omega)
  have f3 : decide (s.size - p < d) = false := decide_eq_false (by omega)
  have e2 : IntKind.i64.wrap ((s.size : Int) - (d : Nat)) = ((s.size - d : Nat) : Int) := (IntWalk.i64_in _ (by omega)).trans (by omega)
  obtain ⟨q, hq⟩ : ∃ q : Nat, (1048576 : Int) - ((s.size - d : Nat) : Int) = (q : Nat) := ⟨(1048576 - ((s.size - d : Nat) : Int)).toNat, by omega⟩
  have e3 : IntKind.i64.wrap ((1048576 : Int) - ((s.size - d : Nat) : Int)) = (q : Nat) := (IntWalk.i64_in _ (by omega)).trans hq
  have h4 : q < i.size := by omega
  clear h hz hl hq
  go_enter Tryd.func17, Tryd.ntmps17
  go_wp2_with (go_at_call 32; ((with_reducible refine HL.out.mono ?_); rintro e' w1 ⟨rfl, hu1⟩; have c0 := cell_up hu1 b0; have c1 := cell_up hu1 b1; have c2 := cell_up hu1 b2))
  go_ret2
  exact ⟨rfl, HE.out.trans hu1⟩

set_option maxRecDepth 100000 in
set_option maxHeartbeats 2000000 in
theorem splice_walk {rb n p d : Nat} {v : Value} {i s1 s2 s3 s4 : ByteArray} (w : World) (hT : Tabs w)
    (hL : ∀ W, Up w W → Calls Tryd.prog 32 #[.pointer (some ⟨rb, 0, none⟩)] W fun e w' => e = .returned (.int .i64 (n : Nat)) ∧ Up W w')
    (c0 : w.cell? ⟨rb, 0, none⟩ = some v) (h : p + d ≤ n) (hn : (n : Int) ≤ 1048576) (hl : (n : Int) - d + i.size ≤ 1048576)
    (z1 : (s1.size : Int) + i.size + s4.size ≤ 1048576) (z2 : (s2.size : Int) ≤ 1048576)
    (hC : ∀ W, Up w W → Tabs W → Calls Tryd.prog 33 #[v, .int .i64 (p : Nat)] W (CutPost s1 s2 W))
    (hs3 : s2.extract 0 d = s3) (hs4 : s2.extract d s2.size = s4) :
    Calls Tryd.prog 17 #[.pointer (some ⟨rb, 0, none⟩), .agg #[.int .i64 (p : Nat), .int .i64 (d : Nat), .string i]] w fun e w' => ∃ rb', e = .returned (.tuple #[.pointer (some ⟨rb', 0, none⟩), .int .i64 0]) ∧ RopeIs w' rb' (s1 ++ i ++ s4) ∧ Up w w' := by
  have HE := Lib.hid (Up.alloc w (.cells #[.int .i64 (p : Nat), .int .i64 (d : Nat), .string i] 38))
  have HL := Lib.hid (hL _ HE.out)
  have HC := Lib.hid hC
  have HD := Lib.hid (fun (W : World) (v : Value) (o : Option T) (hp : Ptr W v o) (hk : OkO o) (ht : Tabs W) (e : otext o = s2) => show Calls Tryd.prog 33 #[v, .int .i64 (d : Nat)] W (CutPost s3 s4 W) by
    have := cut_o (d : Int) hp hk (by rw [e]; exact z2) ht
    rw [e, Int.toNat_natCast, hs3, hs4] at this
    exact this)
  have HG := Lib.hid (fun (W : World) (ht : Tabs W) => grow_o i (by omega) W ht)
  have HJ := Lib.hid (fun (W : World) (v1 v2 : Value) (o1 o2 : Option T) (p1 : Ptr W v1 o1) (p2 : Ptr W v2 o2) (k1 : OkO o1) (k2 : OkO o2) (ht : Tabs W) (e1 : otext o1 = s1) (e2 : otext o2 = i) => show Calls Tryd.prog 34 #[v1, v2] W (PtrPost (s1 ++ i) W) by
    have := join_o p1 p2 k1 k2 (by rw [e1, e2]; omega) ht
    rw [e1, e2] at this
    exact this)
  have HK := Lib.hid (fun (W : World) (v1 v2 : Value) (o1 o2 : Option T) (p1 : Ptr W v1 o1) (p2 : Ptr W v2 o2) (k1 : OkO o1) (k2 : OkO o2) (ht : Tabs W) (e1 : otext o1 = s1 ++ i) (e2 : otext o2 = s4) => show Calls Tryd.prog 34 #[v1, v2] W (PtrPost (s1 ++ i ++ s4) W) by
    have := join_o p1 p2 k1 k2 (by rw [e1, e2, ByteArray.size_append]; omega) ht
    rw [e1, e2] at this
    exact this)
  have HZ := Lib.hid (show ((s1 ++ i ++ s4).size : Int) ≤ 1048576 by rw [ByteArray.size_append, ByteArray.size_append]; omega)
  obtain ⟨b0, b1, b2⟩ := edit_cells w (p : Nat) (d : Nat) i
  have c0 := cell_up HE.out c0
  have HT := Lib.hid (hT.up HE.out)
  have f0 : decide ((p : Int) < 0) = false := decide_eq_false (by omega)
  have f1 : decide ((d : Int) < 0) = false := decide_eq_false (by omega)
  have f2 : decide (n < p) = false := decide_eq_false (by omega)
  have e1 : IntKind.i64.wrap ((n : Int) - (p : Nat)) = ((n - p : Nat) : Int) := (IntWalk.i64_in _ (by omega)).trans (by omega)
  have f3 : decide (n - p < d) = false := decide_eq_false (by omega)
  have e2 : IntKind.i64.wrap ((n : Int) - (d : Nat)) = ((n - d : Nat) : Int) := (IntWalk.i64_in _ (by omega)).trans (by omega)
  obtain ⟨q, hq⟩ : ∃ q : Nat, (1048576 : Int) - ((n - d : Nat) : Int) = (q : Nat) := ⟨(1048576 - ((n - d : Nat) : Int)).toNat, by omega⟩
  have e3 : IntKind.i64.wrap ((1048576 : Int) - ((n - d : Nat) : Int)) = (q : Nat) := (IntWalk.i64_in _ (by omega)).trans hq
  have f4 : decide (q < i.size) = false := decide_eq_false (by omega)
  clear h hl hq hn z1 z2 hL hC hs3 hs4 hT
  go_enter Tryd.func17, Tryd.ntmps17
  go_wp2_with (go_at_call 32; ((with_reducible refine HL.out.mono ?_); rintro e' w1 ⟨rfl, hu1⟩; have d0 := cell_up hu1 b0; have d1 := cell_up hu1 b1; have d2 := cell_up hu1 b2; have d3 := cell_up hu1 c0; have HT1 := Lib.hid (HT.out.up hu1); have HU1 := Lib.hid (HE.out.trans hu1)))
  obtain ⟨N, hN⟩ : ∃ N, w.heap.size = N := ⟨_, rfl⟩
  rw [hN] at d0 d1 d2
  simp only [hN]
  have hS : Up w w1 ∧ Tabs w1 ∧ w1.cell? ⟨rb, 0, none⟩ = some v ∧ w1.cell? ⟨N, 0, none⟩ = some (.int .i64 (p : Nat)) ∧ w1.cell? ⟨N, 1, none⟩ = some (.int .i64 (d : Nat)) ∧ w1.cell? ⟨N, 2, none⟩ = some (.string i) := ⟨HU1.out, HT1.out, d3, d0, d1, d2⟩
  clear c0 b0 b1 b2 d0 d1 d2 d3 HT HT1 HU1 HL HE hu1 f0 f1 f2 f3 f4 e1 e2 e3
  go_region_held3 (fun w' => Up w w' ∧ Tabs w' ∧ w'.cell? ⟨rb, 0, none⟩ = some v ∧ w'.cell? ⟨N, 0, none⟩ = some (.int .i64 (p : Nat)) ∧ w'.cell? ⟨N, 1, none⟩ = some (.int .i64 (d : Nat)) ∧ w'.cell? ⟨N, 2, none⟩ = some (.string i))
    (first | assumption | with_reducible exact keep4 hu2 (by assumption) | with_reducible exact keep4 (Up.drew _) (by assumption))
    (first | (go_at_call 33; ((with_reducible refine (HC.out _ ?_ ?_).mono ?_); (exact (by assumption : _ ∧ Tabs _ ∧ _).1); (exact (by assumption : _ ∧ Tabs _ ∧ _).2.1); rintro e w2 ⟨v1, o1, v2, o2, rfl, p1, p2, k1, k2, x1, x2, hu2⟩; have HX1 := Lib.hid x1; have HX2 := Lib.hid x2; clear x1 x2)))
  have hH : Up w w2 ∧ Tabs w2 ∧ w2.cell? ⟨rb, 0, none⟩ = some v ∧ w2.cell? ⟨N, 0, none⟩ = some (.int .i64 (p : Nat)) ∧ w2.cell? ⟨N, 1, none⟩ = some (.int .i64 (d : Nat)) ∧ w2.cell? ⟨N, 2, none⟩ = some (.string i) := by assumption
  obtain ⟨hw2, t2, -, -, m1, m2⟩ := hH
  clear hS
  go_wp2_with (first
    | (go_at_call 33; ((with_reducible refine (HD.out _ _ _ p2 k2 t2 HX2.out).mono ?_); rintro e w3 ⟨v3, o3, v4, o4, rfl, p3, p4, k3, k4, x3, x4, hu3⟩; have HX4 := Lib.hid x4; clear x3 x4; have m3 := cell_up hu3 m2; have t3 := t2.up hu3))
    | (go_at_call 19; ((with_reducible refine (HG.out _ t3).mono ?_); rintro e w5 ⟨v5, o5, rfl, p5, k5, x5, hu5⟩; have HX5 := Lib.hid x5; clear x5; have t5 := t3.up hu5; have q1 := p1.up (hu3.trans hu5)))
    | (go_at_call 34; ((with_reducible refine (HK.out _ _ _ _ _ p6 q4 k6 k4 t6 HX6.out HX4.out).mono ?_); rintro e w7 ⟨v7, o7, rfl, p7, k7, x7, hu7⟩; have HX7 := Lib.hid x7; clear x7; obtain ⟨q, rfl⟩ := p7.ptr))
    | (go_at_call 34; ((with_reducible refine (HJ.out _ _ _ _ _ q1 p5 k1 k5 t5 HX1.out HX5.out).mono ?_); rintro e w6 ⟨v6, o6, rfl, p6, k6, x6, hu6⟩; have HX6 := Lib.hid x6; clear x6; have t6 := t5.up hu6; have q4 := p4.up (hu5.trans hu6))))
  go_ret2
  exact ⟨_, rfl, rope_new p7 k7 HX7.out HZ.out, hw2.trans (hu3.trans (hu5.trans (hu6.trans (hu7.trans (Up.alloc _ _)))))⟩

theorem extract_extract_end (s : ByteArray) (p d : Nat) (h : p + d ≤ s.size) : (s.extract p s.size).extract d (s.extract p s.size).size = s.extract (p + d) s.size := by
  have z : (s.extract p s.size).size = s.size - p := by rw [ByteArray.size_extract]; omega
  rw [z]
  refine ext_bt (by simp only [ByteArray.size_extract]; omega) fun k hk => ?_
  simp only [ByteArray.size_extract] at hk
  rw [bt_ext_in (by omega) (by omega), bt_ext_in (by omega) (Nat.le_refl _), bt_ext_in (by omega) (Nat.le_refl _), Nat.add_assoc]
/-- The text that an edit makes. -/
def edited (s : ByteArray) (p d : Nat) (i : ByteArray) : ByteArray := s.extract 0 p ++ i ++ s.extract (p + d) s.size
theorem edited_size {s i : ByteArray} {p d : Nat} (h : p + d ≤ s.size) : (edited s p d i).size = s.size - d + i.size := by
  unfold edited
  simp only [ByteArray.size_append, ByteArray.size_extract]
  omega
theorem splice_in {w : World} {rb : Nat} {s : ByteArray} (hr : RopeIs w rb s) (hT : Tabs w) (p d : Nat) (i : ByteArray) (h : p + d ≤ s.size) (hl : (s.size : Int) - d + i.size ≤ 1048576) :
    Calls Tryd.prog 17 #[.pointer (some ⟨rb, 0, none⟩), .agg #[.int .i64 (p : Nat), .int .i64 (d : Nat), .string i]] w fun e w' => ∃ rb', e = .returned (.tuple #[.pointer (some ⟨rb', 0, none⟩), .int .i64 0]) ∧ RopeIs w' rb' (edited s p d i) ∧ Up w w' := by
  have hr' := hr
  obtain ⟨v, o, h1, h2, h3, h4, h5⟩ := hr
  refine splice_walk (v := v) (s1 := s.extract 0 p) (s2 := s.extract p s.size) w hT (fun W hu => rope_len_any (hr'.up hu)) (cellOf h1 rfl) h h5 hl ?_ ?_ ?_ rfl (extract_extract_end s p d h)
  · simp only [ByteArray.size_extract]; omega
  · simp only [ByteArray.size_extract]; omega
  · intro W hu ht
    have := cut_o (p : Int) (h2.up hu) h3 (by rw [h4]; exact h5) ht
    rw [h4, Int.toNat_natCast] at this
    exact this
end Go.Proofs.YtfcpieodgflmnaaDoor

namespace Go.Proofs.YtfcpieodgflmnaaDoor
open Go.RowKit

theorem set2 (w : World) (g : Nat) (x0 x1 y0 y1 : Value) (h0 : w.cell? ⟨g, 0, none⟩ = some y0) (h1 : w.cell? ⟨g, 1, none⟩ = some y1) :
    ((w.setCell ⟨g, 0, none⟩ x0).setCell ⟨g, 1, none⟩ x1).cell? ⟨g, 0, none⟩ = some x0 ∧ ((w.setCell ⟨g, 0, none⟩ x0).setCell ⟨g, 1, none⟩ x1).cell? ⟨g, 1, none⟩ = some x1 := by
  have o : ∀ (W : World) (i j : Nat) (v : Value), i ≠ j → (W.setCell ⟨g, i, none⟩ v).cell? ⟨g, j, none⟩ = W.cell? ⟨g, j, none⟩ := fun W i j v h => World.cell?_setCell_other W ⟨g, i, none⟩ ⟨g, j, none⟩ v (fun e => h (by injection e))
  have s : ∀ (W : World) (i : Nat) (v u : Value), W.cell? ⟨g, i, none⟩ = some u → (W.setCell ⟨g, i, none⟩ v).cell? ⟨g, i, none⟩ = some v := fun W i v u h => World.cell?_setCell_same' W _ v (by rw [h]; rfl)
  exact ⟨by rw [o _ _ _ _ (by decide)]; exact s _ _ _ _ h0, s _ _ _ y1 (by rw [o _ _ _ _ (by decide)]; exact h1)⟩
/-- The cell of what comes back. -/
theorem line_cells (w : World) : (w.alloc (.cells #[.int .i64 0, .int .i64 0] 50)).cell? ⟨w.heap.size, 0, none⟩ = some (.int .i64 0) ∧ (w.alloc (.cells #[.int .i64 0, .int .i64 0] 50)).cell? ⟨w.heap.size, 1, none⟩ = some (.int .i64 0) :=
  ⟨cellOf (Go.heap_alloc_new _ _) rfl, cellOf (Go.heap_alloc_new _ _) rfl⟩
theorem line_fz (w : World) : (w.alloc (.cells #[.int .i64 0, .int .i64 0] 50)).frozen? ⟨w.heap.size, 0, none⟩ = false ∧ (w.alloc (.cells #[.int .i64 0, .int .i64 0] 50)).frozen? ⟨w.heap.size, 1, none⟩ = false :=
  ⟨frozenOf (Go.heap_alloc_new _ _), frozenOf (Go.heap_alloc_new _ _)⟩
theorem Up.set2 {w W : World} (h : Up w W) (g i j : Nat) (x y : Value) (hg : w.heap.size ≤ g) : Up w ((W.setCell ⟨g, i, none⟩ x).setCell ⟨g, j, none⟩ y) :=
  (Below.setCell h (p := ⟨g, i, none⟩) hg x).setCell (p := ⟨g, j, none⟩) hg y
set_option maxRecDepth 100000 in
set_option maxHeartbeats 1000000 in
theorem line_none (k : Int) (w : World) : Calls Tryd.prog 39 #[.pointer none, .int .i64 k] w fun e w' => e = .returned (.tuple #[.agg #[.int .i64 0, .int .i64 0], .int .i64 8]) ∧ Up w w' := by
  obtain ⟨b0, b1⟩ := line_cells w
  go_enter Tryd.func39, Tryd.ntmps39
  go_wp2
  refine bodyPost_ret (v := .tuple #[.agg #[.int .i64 0, .int .i64 0], .int .i64 8]) (by simp [results, Tryd.results39, go_sem]) rfl ⟨rfl, Up.alloc w _⟩
set_option maxRecDepth 100000 in
set_option maxHeartbeats 1000000 in
theorem line_low {rb n : Nat} (k : Int) (hk : k < 0) (w : World) (hn : (n : Int) ≤ 1048576) (hL : ∀ W, Up w W → Calls Tryd.prog 40 #[.pointer (some ⟨rb, 0, none⟩)] W fun e w' => e = .returned (.int .i64 ((n : Int) + 1)) ∧ Up W w') :
    Calls Tryd.prog 39 #[.pointer (some ⟨rb, 0, none⟩), .int .i64 k] w fun e w' => e = .returned (.tuple #[.agg #[.int .i64 0, .int .i64 0], .int .i64 5]) ∧ Up w w' := by
  have HE := Lib.hid (Up.alloc w (.cells #[.int .i64 0, .int .i64 0] 50))
  have HL := Lib.hid (hL _ HE.out)
  have e1 : wrap64 (n : Int) = (n : Nat) := IntWalk.wrap64_in _ (by omega)
  clear hL hn
  go_enter Tryd.func39, Tryd.ntmps39
  go_wp2_with (go_at_call 40; ((with_reducible refine HL.out.mono ?_); rintro e' w1 ⟨rfl, hu1⟩; have c0 := cell_up hu1 (line_cells w).1; have c1 := cell_up hu1 (line_cells w).2; have z0 := frozen_up hu1 (line_cells w).1 (line_fz w).1; have z1 := frozen_up hu1 (line_cells w).2 (line_fz w).2; have hf := set2 w1 w.heap.size (.int .i64 0) (.int .i64 0) _ _ c0 c1))
  refine bodyPost_ret (v := .tuple #[.agg #[.int .i64 0, .int .i64 0], .int .i64 5]) (by simp [results, Tryd.results39, go_sem, hf]) rfl ⟨rfl, (HE.out.trans hu1).set2 _ _ _ _ _ (Nat.le_refl _)⟩
set_option maxRecDepth 100000 in
set_option maxHeartbeats 1000000 in
theorem line_past {rb n k : Nat} (hk : n < k) (w : World) (hn : (n : Int) ≤ 1048576) (hL : ∀ W, Up w W → Calls Tryd.prog 40 #[.pointer (some ⟨rb, 0, none⟩)] W fun e w' => e = .returned (.int .i64 ((n : Int) + 1)) ∧ Up W w') :
    Calls Tryd.prog 39 #[.pointer (some ⟨rb, 0, none⟩), .int .i64 (k : Nat)] w fun e w' => e = .returned (.tuple #[.agg #[.int .i64 0, .int .i64 0], .int .i64 5]) ∧ Up w w' := by
  have HE := Lib.hid (Up.alloc w (.cells #[.int .i64 0, .int .i64 0] 50))
  have HL := Lib.hid (hL _ HE.out)
  have e1 : wrap64 (n : Int) = (n : Nat) := IntWalk.wrap64_in _ (by omega)
  have f0 : decide ((k : Int) < 0) = false := decide_eq_false (by omega)
  clear hL hn
  go_enter Tryd.func39, Tryd.ntmps39
  go_wp2_with (go_at_call 40; ((with_reducible refine HL.out.mono ?_); rintro e' w1 ⟨rfl, hu1⟩; have c0 := cell_up hu1 (line_cells w).1; have c1 := cell_up hu1 (line_cells w).2; have z0 := frozen_up hu1 (line_cells w).1 (line_fz w).1; have z1 := frozen_up hu1 (line_cells w).2 (line_fz w).2; have hf := set2 w1 w.heap.size (.int .i64 0) (.int .i64 0) _ _ c0 c1))
  refine bodyPost_ret (v := .tuple #[.agg #[.int .i64 0, .int .i64 0], .int .i64 5]) (by simp [results, Tryd.results39, go_sem, hf]) rfl ⟨rfl, (HE.out.trans hu1).set2 _ _ _ _ _ (Nat.le_refl _)⟩
set_option maxRecDepth 100000 in
set_option maxHeartbeats 2000000 in
theorem line_last {rb n z a : Nat} {v : Value} (w : World) (hn : (n : Int) ≤ 1048576) (c0 : w.cell? ⟨rb, 0, none⟩ = some v)
    (hL : ∀ W, Up w W → Calls Tryd.prog 40 #[.pointer (some ⟨rb, 0, none⟩)] W fun e w' => e = .returned (.int .i64 ((n : Int) + 1)) ∧ Up W w')
    (hZ : ∀ W, Up w W → Calls Tryd.prog 32 #[.pointer (some ⟨rb, 0, none⟩)] W fun e w' => e = .returned (.int .i64 (z : Nat)) ∧ Up W w')
    (hB : ∀ W, Up w W → Calls Tryd.prog 59 #[v, .int .i64 (n : Nat)] W fun e w' => e = .returned (.int .i64 (a : Nat)) ∧ W = w') :
    Calls Tryd.prog 39 #[.pointer (some ⟨rb, 0, none⟩), .int .i64 (n : Nat)] w fun e w' => e = .returned (.tuple #[.agg #[.int .i64 (a : Nat), .int .i64 (z : Nat)], .int .i64 0]) ∧ Up w w' := by
  have HE := Lib.hid (Up.alloc w (.cells #[.int .i64 0, .int .i64 0] 50))
  have HL := Lib.hid (hL _ HE.out)
  have HZ := Lib.hid hZ
  have HB := Lib.hid hB
  have c0 := cell_up HE.out c0
  have e1 : wrap64 (n : Int) = (n : Nat) := IntWalk.wrap64_in _ (by omega)
  have f0 : decide ((n : Int) < 0) = false := decide_eq_false (by omega)
  have f1 : decide (n < n) = false := decide_eq_false (by omega)
  clear hL hn hZ hB
  go_enter Tryd.func39, Tryd.ntmps39
  go_wp2_with (first
    | (go_at_call 40; ((with_reducible refine HL.out.mono ?_); rintro e' w1 ⟨rfl, hu1⟩; have r0 := cell_up hu1 (line_cells w).1; have r1 := cell_up hu1 (line_cells w).2; have z0 := frozen_up hu1 (line_cells w).1 (line_fz w).1; have z1 := frozen_up hu1 (line_cells w).2 (line_fz w).2; have c1 := cell_up hu1 c0; have HU1 := Lib.hid (HE.out.trans hu1)))
    | (go_at_call 59; ((with_reducible refine (HB.out _ HU1.out).mono ?_); rintro e' w2 ⟨rfl, rfl⟩))
    | (go_at_call 32; ((with_reducible refine (HZ.out _ HU1.out).mono ?_); rintro e' w3 ⟨rfl, hu3⟩; have u3 := hu3.trans (Up.alloc w3 (.cells #[.int .i64 (a : Nat), .int .i64 (z : Nat)] 50)); have r2 := cell_up u3 r0; have r3 := cell_up u3 r1; have z2 := frozen_up u3 r0 z0; have z3 := frozen_up u3 r1 z1)))
  have hf := set2 (w3.alloc (.cells #[.int .i64 (a : Nat), .int .i64 (z : Nat)] 50)) w.heap.size (.int .i64 (a : Nat)) (.int .i64 (z : Nat)) _ _ r2 r3
  refine bodyPost_ret (v := .tuple #[.agg #[.int .i64 (a : Nat), .int .i64 (z : Nat)], .int .i64 0]) (by simp [results, Tryd.results39, go_sem, hf]) rfl ⟨rfl, (HU1.out.trans u3).set2 _ _ _ _ _ (Nat.le_refl _)⟩
set_option maxRecDepth 100000 in
set_option maxHeartbeats 2000000 in
theorem line_mid {rb n k z a c : Nat} {v : Value} (w : World) (hk : k < n) (hn : (n : Int) ≤ 1048576) (c0 : w.cell? ⟨rb, 0, none⟩ = some v)
    (hL : ∀ W, Up w W → Calls Tryd.prog 40 #[.pointer (some ⟨rb, 0, none⟩)] W fun e w' => e = .returned (.int .i64 ((n : Int) + 1)) ∧ Up W w')
    (hZ : ∀ W, Up w W → Calls Tryd.prog 32 #[.pointer (some ⟨rb, 0, none⟩)] W fun e w' => e = .returned (.int .i64 (z : Nat)) ∧ Up W w')
    (hB : ∀ W, Up w W → Calls Tryd.prog 59 #[v, .int .i64 (k : Nat)] W fun e w' => e = .returned (.int .i64 (a : Nat)) ∧ W = w')
    (hC : ∀ W, Up w W → Calls Tryd.prog 59 #[v, .int .i64 ((k : Int) + 1)] W fun e w' => e = .returned (.int .i64 (c : Nat)) ∧ W = w') :
    Calls Tryd.prog 39 #[.pointer (some ⟨rb, 0, none⟩), .int .i64 (k : Nat)] w fun e w' => e = .returned (.tuple #[.agg #[.int .i64 (a : Nat), .int .i64 (c : Nat)], .int .i64 0]) ∧ Up w w' := by
  have HE := Lib.hid (Up.alloc w (.cells #[.int .i64 0, .int .i64 0] 50))
  have HL := Lib.hid (hL _ HE.out)
  have HZ := Lib.hid hZ
  have HB := Lib.hid hB
  have HC := Lib.hid hC
  have c0 := cell_up HE.out c0
  have e1 : wrap64 (n : Int) = (n : Nat) := IntWalk.wrap64_in _ (by omega)
  have e2 : IntKind.i64.wrap ((k : Int) + 1) = (k : Int) + 1 := IntWalk.i64_in _ (by omega)
  have f0 : decide ((k : Int) < 0) = false := decide_eq_false (by omega)
  have f1 : decide (n < k) = false := decide_eq_false (by omega)
  clear hL hn hZ hB hC
  go_enter Tryd.func39, Tryd.ntmps39
  go_wp2_with (first
    | (go_at_call 40; ((with_reducible refine HL.out.mono ?_); rintro e' w1 ⟨rfl, hu1⟩; have r0 := cell_up hu1 (line_cells w).1; have r1 := cell_up hu1 (line_cells w).2; have z0 := frozen_up hu1 (line_cells w).1 (line_fz w).1; have z1 := frozen_up hu1 (line_cells w).2 (line_fz w).2; have c1 := cell_up hu1 c0; have HU1 := Lib.hid (HE.out.trans hu1)))
    | (go_at_call 59; ((with_reducible refine (HB.out _ HU1.out).mono ?_); rintro e' w2 ⟨rfl, rfl⟩))
    | (go_at_call 32; ((with_reducible refine (HZ.out _ HU1.out).mono ?_); rintro e' w3 ⟨rfl, hu3⟩; have u3 := hu3.trans (Up.alloc w3 (.cells #[.int .i64 (a : Nat), .int .i64 (z : Nat)] 50)); have c2 := cell_up u3 c1; have HU3 := Lib.hid (HU1.out.trans u3); have u4 := hu3.trans (Up.alloc w3 (.cells #[.int .i64 (a : Nat), .int .i64 (c : Nat)] 50)); have r4 := cell_up u4 r0; have r5 := cell_up u4 r1; have z4 := frozen_up u4 r0 z0; have z5 := frozen_up u4 r1 z1))
    | (go_at_call 59; ((with_reducible refine (HC.out _ HU3.out).mono ?_); rintro e' w4 ⟨rfl, rfl⟩)))
  have hf := set2 (w3.alloc (.cells #[.int .i64 (a : Nat), .int .i64 (c : Nat)] 50)) w.heap.size (.int .i64 (a : Nat)) (.int .i64 (c : Nat)) _ _ r4 r5
  refine bodyPost_ret (v := .tuple #[.agg #[.int .i64 (a : Nat), .int .i64 (c : Nat)], .int .i64 0]) (by simp [results, Tryd.results39, go_sem, hf]) rfl ⟨rfl, (HU1.out.trans u4).set2 _ _ _ _ _ (Nat.le_refl _)⟩

/-- Where line k ends. -/
def lineEnd (s : ByteArray) (k : Nat) : Nat := if k < nl s then bh s (k + 1) else s.size
theorem behind_ptr {w : World} {v : Value} {o : Option T} {s : ByteArray} (h2 : Ptr w v o) (h4 : otext o = s) (h5 : (s.size : Int) ≤ 1048576) (k : Nat) (hk : k ≤ nl s) (W : World) (hu : Up w W) :
    Calls Tryd.prog 59 #[v, .int .i64 (k : Nat)] W fun e w' => e = .returned (.int .i64 (bh s k : Nat)) ∧ W = w' := by
  by_cases h0 : k = 0
  · subst h0
    rw [bh_zero]
    exact behind_zero v W
  · cases o with
    | none =>
      obtain rfl : (⟨#[]⟩ : ByteArray) = s := h4
      exact absurd (Nat.le_trans hk (nl_le _)) (by show ¬ k ≤ 0; omega)
    | some t =>
      obtain ⟨b, rfl, n⟩ := h2
      obtain rfl : t.text = s := h4
      exact behind_any t b k W (n.up hu) (by omega) hk h5
theorem line_in {w : World} {rb : Nat} {s : ByteArray} (hr : RopeIs w rb s) (k : Nat) (hk : k ≤ nl s) :
    Calls Tryd.prog 39 #[.pointer (some ⟨rb, 0, none⟩), .int .i64 (k : Nat)] w fun e w' => e = .returned (.tuple #[.agg #[.int .i64 (bh s k : Nat), .int .i64 (lineEnd s k : Nat)], .int .i64 0]) ∧ Up w w' := by
  have hr' := hr
  obtain ⟨v, o, h1, h2, h3, h4, h5⟩ := hr
  have hn := nl_le s
  unfold lineEnd
  by_cases h : k < nl s
  · rw [if_pos h]
    refine line_mid (n := nl s) (z := s.size) w h (by omega) (cellOf h1 rfl) (fun W hu => rope_lines_any (hr'.up hu)) (fun W hu => rope_len_any (hr'.up hu)) (fun W hu => behind_ptr h2 h4 h5 k hk W hu) fun W hu => ?_
    have := behind_ptr h2 h4 h5 (k + 1) h W hu
    exact this
  · obtain rfl : k = nl s := by omega
    rw [if_neg h]
    exact line_last w (by omega) (cellOf h1 rfl) (fun W hu => rope_lines_any (hr'.up hu)) (fun W hu => rope_len_any (hr'.up hu)) fun W hu => behind_ptr h2 h4 h5 _ hk W hu
theorem line_out {w : World} {rb : Nat} {s : ByteArray} (hr : RopeIs w rb s) (k : Int) (hk : ¬ (0 ≤ k ∧ k ≤ nl s)) :
    Calls Tryd.prog 39 #[.pointer (some ⟨rb, 0, none⟩), .int .i64 k] w fun e w' => e = .returned (.tuple #[.agg #[.int .i64 0, .int .i64 0], .int .i64 5]) ∧ Up w w' := by
  have hn := nl_le s
  have hz := hr.size
  by_cases h0 : k < 0
  · exact line_low k h0 w (n := nl s) (by omega) fun W hu => rope_lines_any (hr.up hu)
  · obtain ⟨k, rfl⟩ := Int.eq_ofNat_of_zero_le (show 0 ≤ k by omega)
    exact line_past (by omega) w (n := nl s) (by omega) fun W hu => rope_lines_any (hr.up hu)
end Go.Proofs.YtfcpieodgflmnaaDoor

namespace Go.Proofs.YtfcpieodgflmnaaDoor
open Go.RowKit

def slV (s : ByteArray) (f u : Int) : ByteArray := if 0 ≤ f ∧ f ≤ u ∧ u ≤ s.size then s.extract f.toNat u.toNat else ⟨#[]⟩
def slE (s : ByteArray) (f u : Int) : Int := if 0 ≤ f ∧ f ≤ u ∧ u ≤ s.size then 0 else 5
theorem sliceT {w : World} {rb : Nat} {s : ByteArray} (hr : RopeIs w rb s) (f u : Int) : Calls Tryd.prog 26 #[.pointer (some ⟨rb, 0, none⟩), .int .i64 f, .int .i64 u] w fun e w' => e = .returned (.tuple #[.string (slV s f u), .int .i64 (slE s f u)]) ∧ Up w w' := by
  unfold slV slE
  by_cases h : 0 ≤ f ∧ f ≤ u ∧ u ≤ s.size
  · obtain ⟨k, rfl⟩ := Int.eq_ofNat_of_zero_le h.1
    obtain ⟨j, rfl⟩ := Int.eq_ofNat_of_zero_le (show 0 ≤ u by omega)
    rw [if_pos h, if_pos h, Int.toNat_natCast, Int.toNat_natCast]
    exact slice_in hr k j (by omega) (by omega)
  · rw [if_neg h, if_neg h]
    exact slice_out hr f u h
def lnF (s : ByteArray) (k : Int) : Int := if 0 ≤ k ∧ k ≤ nl s then (bh s k.toNat : Nat) else 0
def lnT (s : ByteArray) (k : Int) : Int := if 0 ≤ k ∧ k ≤ nl s then (lineEnd s k.toNat : Nat) else 0
def lnE (s : ByteArray) (k : Int) : Int := if 0 ≤ k ∧ k ≤ nl s then 0 else 5
theorem lineT {w : World} {rb : Nat} {s : ByteArray} (hr : RopeIs w rb s) (k : Int) : Calls Tryd.prog 39 #[.pointer (some ⟨rb, 0, none⟩), .int .i64 k] w fun e w' => e = .returned (.tuple #[.agg #[.int .i64 (lnF s k), .int .i64 (lnT s k)], .int .i64 (lnE s k)]) ∧ Up w w' := by
  unfold lnF lnT lnE
  by_cases h : 0 ≤ k ∧ k ≤ nl s
  · obtain ⟨j, rfl⟩ := Int.eq_ofNat_of_zero_le h.1
    rw [if_pos h, if_pos h, if_pos h, Int.toNat_natCast]
    exact line_in hr j (by omega)
  · rw [if_neg h, if_neg h, if_neg h]
    exact line_out hr k h
def fdV (s : ByteArray) (i : Int) : Int := if 0 ≤ i ∧ i ≤ s.size then (na s i.toNat : Nat) else 0
def fdE (s : ByteArray) (i : Int) : Int := if 0 ≤ i ∧ i ≤ s.size then 0 else 5
theorem findT {w : World} {rb : Nat} {s : ByteArray} (hr : RopeIs w rb s) (i : Int) : Calls Tryd.prog 38 #[.pointer (some ⟨rb, 0, none⟩), .int .i64 i] w fun e w' => e = .returned (.tuple #[.int .i64 (fdV s i), .int .i64 (fdE s i)]) ∧ Up w w' := by
  unfold fdV fdE
  by_cases h : 0 ≤ i ∧ i ≤ s.size
  · obtain ⟨k, rfl⟩ := Int.eq_ofNat_of_zero_le h.1
    rw [if_pos h, if_pos h, Int.toNat_natCast]
    exact find_in hr k (by omega)
  · rw [if_neg h, if_neg h]
    exact find_out hr i h

/-- What an edit comes to: the code of it, and the text where it may be. -/
def spE (s : ByteArray) (p d : Int) (i : ByteArray) : Int := if 0 ≤ p ∧ 0 ≤ d ∧ p + d ≤ s.size then (if (s.size : Int) - d + i.size ≤ 1048576 then 0 else 2) else 5
def spT (s : ByteArray) (p d : Int) (i : ByteArray) : ByteArray := edited s p.toNat d.toNat i
theorem spE_cases (s : ByteArray) (p d : Int) (i : ByteArray) : spE s p d i = 0 ∨ spE s p d i = 2 ∨ spE s p d i = 5 := by
  unfold spE; split
  · split
    · exact .inl rfl
    · exact .inr (.inl rfl)
  · exact .inr (.inr rfl)
theorem spliceT_ok {w : World} {rb : Nat} {s : ByteArray} (hr : RopeIs w rb s) (hT : Tabs w) (p d : Int) (i : ByteArray) (h : spE s p d i = 0) : Calls Tryd.prog 17 #[.pointer (some ⟨rb, 0, none⟩), .agg #[.int .i64 p, .int .i64 d, .string i]] w fun e w' => ∃ rb', e = .returned (.tuple #[.pointer (some ⟨rb', 0, none⟩), .int .i64 0]) ∧ RopeIs w' rb' (spT s p d i) ∧ Up w w' := by
  unfold spE at h
  split at h
  · rename_i h1
    split at h
    · obtain ⟨k, rfl⟩ := Int.eq_ofNat_of_zero_le h1.1
      obtain ⟨j, rfl⟩ := Int.eq_ofNat_of_zero_le h1.2.1
      unfold spT
      rw [Int.toNat_natCast, Int.toNat_natCast]
      exact splice_in hr hT k j i (by omega) (by assumption)
    · cases h
  · cases h
theorem spliceT_no {w : World} {rb : Nat} {s : ByteArray} (hr : RopeIs w rb s) (p d : Int) (i : ByteArray) (h : spE s p d i ≠ 0) : Calls Tryd.prog 17 #[.pointer (some ⟨rb, 0, none⟩), .agg #[.int .i64 p, .int .i64 d, .string i]] w fun e w' => e = .returned (.tuple #[.pointer none, .int .i64 (spE s p d i)]) ∧ Up w w' := by
  unfold spE at h ⊢
  by_cases h1 : 0 ≤ p ∧ 0 ≤ d ∧ p + d ≤ s.size
  · rw [if_pos h1] at h ⊢
    by_cases h2 : (s.size : Int) - d + i.size ≤ 1048576
    · rw [if_pos h2] at h; exact absurd rfl h
    · rw [if_neg h2]
      obtain ⟨k, rfl⟩ := Int.eq_ofNat_of_zero_le h1.1
      obtain ⟨j, rfl⟩ := Int.eq_ofNat_of_zero_le h1.2.1
      exact splice_long hr k j i (by omega) (by omega)
  · rw [if_neg h1]
    exact splice_out hr p d i h1

structure St1 (w : World) (rb : Nat) (t : ByteArray) (W : World) : Prop where
  r : RopeIs W rb t
  u : Up w W
  t : Tabs W
theorem St1.up {w : World} {rb : Nat} {t : ByteArray} {W W' : World} (h : St1 w rb t W) (hu : Up W W') : St1 w rb t W' := ⟨h.r.up hu, h.u.trans hu, h.t.up hu⟩
structure St2 (w : World) (rb qb : Nat) (t : ByteArray) (W : World) : Prop where
  r : RopeIs W rb t
  q : RopeIs W qb t
  u : Up w W
  t : Tabs W
theorem St2.up {w : World} {rb qb : Nat} {t : ByteArray} {W W' : World} (h : St2 w rb qb t W) (hu : Up W W') : St2 w rb qb t W' := ⟨h.r.up hu, h.q.up hu, h.u.trans hu, h.t.up hu⟩
theorem St2.mk' {w : World} {rb qb : Nat} {t : ByteArray} {W : World} (h : St1 w rb t W) (hq : RopeIs W qb t) : St2 w rb qb t W := ⟨h.r, hq, h.u, h.t⟩
/-- A line that has been told, in its block. -/
structure Rg (W : World) (b : Nat) (x y : Int) : Prop where
  a : W.cell? ⟨b, 0, none⟩ = some (.int .i64 x)
  z : W.cell? ⟨b, 1, none⟩ = some (.int .i64 y)
  l : b < W.heap.size
theorem Rg.up {W W' : World} {b : Nat} {x y : Int} (h : Rg W b x y) (hu : Up W W') : Rg W' b x y := ⟨cell_up hu h.a, cell_up hu h.z, Nat.lt_of_lt_of_le h.l (Below.size hu)⟩
theorem rg_cells (W : World) (x y : Int) : Rg (W.alloc (.cells #[.int .i64 x, .int .i64 y] 50)) W.heap.size x y :=
  ⟨cellOf (Go.heap_alloc_new _ _) rfl, cellOf (Go.heap_alloc_new _ _) rfl, by show W.heap.size < (W.heap.push _).size; simp⟩
end Go.Proofs.YtfcpieodgflmnaaDoor

namespace Go.Proofs.YtfcpieodgflmnaaDoor
open Go.RowKit

theorem na_take (s : ByteArray) (i : Nat) : na s i = (s.data.toList.take i).count 10 := by
  unfold na nl
  rw [ByteArray.data_extract]
  simp
theorem na_succ {s : ByteArray} {i : Nat} (h : i < s.size) : na s (i + 1) = na s i + (if s[i] = 10 then 1 else 0) := by
  rw [na_take, na_take, List.take_add_one, List.count_append]
  have hl : i < s.data.toList.length := by simp; exact h
  rw [List.getElem?_eq_getElem hl]
  congr 1
  show List.count 10 [s.data.toList[i]] = _
  rw [List.count_singleton]
  by_cases hx : s[i] = 10
  · rw [if_pos hx, if_pos]
    rw [show s.data.toList[i] = s[i] from rfl, hx]
    rfl
  · rw [if_neg hx, if_neg]
    rw [show s.data.toList[i] = s[i] from rfl]
    simpa using hx
theorem na_le_size (s : ByteArray) (i : Nat) : na s i ≤ s.size := by
  rw [na_take]
  refine Nat.le_trans (List.count_le_length) ?_
  rw [List.length_take]
  simp
  omega

theorem bh_behind {s : ByteArray} {i : Nat} (h : i < s.size) (hx : s[i] = 10) : bh s (na s i + 1) = i + 1 := by
  have hl : i < s.data.toList.length := by simp; exact h
  have e : s.data.toList = s.data.toList.take i ++ s.data.toList.drop i := (List.take_append_drop i _).symm
  unfold bh
  rw [na_take]
  conv => lhs; rw [e]
  rw [List.take_append_drop, bhL_split s i h]
  rw [if_pos hx]
where
  bhL_split (s : ByteArray) (i : Nat) (h : i < s.size) : bhL s.data.toList ((s.data.toList.take i).count 10 + 1) = i + (if s[i] = 10 then 1 else bhL (s.data.toList.drop i) 1) := by
    have hl : i < s.data.toList.length := by simp; exact h
    have e : s.data.toList = s.data.toList.take i ++ s.data.toList.drop i := (List.take_append_drop i _).symm
    have k := bhL_append_right (s.data.toList.take i) (s.data.toList.drop i) ((s.data.toList.take i).count 10 + 1) (by omega)
    rw [List.take_append_drop, List.length_take, Nat.min_eq_left (by omega), show (s.data.toList.take i).count 10 + 1 - (s.data.toList.take i).count 10 = 1 from by omega] at k
    rw [k]
    congr 1
    by_cases hx : s[i] = 10
    · rw [if_pos hx, bh_drop s i 1 (by omega) h, if_pos hx]
      show 1 + bhL _ 0 = 1
      rw [bhL_zero]
    · rw [if_neg hx]

theorem bhL_lf : ∀ (l : List UInt8) (k : Nat), k < l.count 10 → ∃ j, bhL l (k + 1) = j + 1 ∧ l[j]? = some 10 ∧ (l.take j).count 10 = k
  | [], k, h => by simp at h
  | x :: l, k, h => by
    by_cases hx : x = 10
    · subst hx
      rw [List.count_cons_self] at h
      cases k with
      | zero => exact ⟨0, by simp only [bhL, if_pos], rfl, rfl⟩
      | succ k =>
        obtain ⟨j, h1, h2, h3⟩ := bhL_lf l k (by omega)
        refine ⟨j + 1, ?_, h2, ?_⟩
        · simp only [bhL, if_pos]; rw [h1]; omega
        · rw [List.take_succ_cons, List.count_cons_self, h3]
    · rw [List.count_cons_of_ne hx] at h
      obtain ⟨j, h1, h2, h3⟩ := bhL_lf l k h
      refine ⟨j + 1, ?_, h2, ?_⟩
      · simp only [bhL]; rw [if_neg hx, h1]; omega
      · rw [List.take_succ_cons, List.count_cons_of_ne hx, h3]
theorem nl_count (s : ByteArray) : nl s = s.data.toList.count 10 := rfl
/-- The LF that ends line k. -/
theorem bh_lf {s : ByteArray} {k : Nat} (h : k < nl s) : ∃ (j : Nat) (hj : j < s.size), bh s (k + 1) = j + 1 ∧ s[j] = 10 ∧ na s j = k := by
  obtain ⟨j, h1, h2, h3⟩ := bhL_lf s.data.toList k h
  have hj : j < s.data.toList.length := (List.getElem?_eq_some_iff.1 h2).1
  have hj' : j < s.size := by simpa using hj
  refine ⟨j, hj', h1, ?_, by rw [na_take]; exact h3⟩
  have := (List.getElem?_eq_some_iff.1 h2).2
  exact this
theorem na_mono {s : ByteArray} : ∀ {b a : Nat}, a ≤ b → b ≤ s.size → na s a ≤ na s b := by
  intro b
  induction b with
  | zero => intro a h _; obtain rfl : a = 0 := by omega
            exact Nat.le_refl _
  | succ b ih =>
    intro a h hb
    by_cases e : a = b + 1
    · subst e; exact Nat.le_refl _
    · have := ih (show a ≤ b by omega) (by omega)
      have := na_succ (s := s) (i := b) (by omega)
      omega
theorem na_bh {s : ByteArray} {k : Nat} (h : k ≤ nl s) : na s (bh s k) = k := by
  cases k with
  | zero => rw [bh_zero, na_zero]
  | succ k =>
    obtain ⟨j, hj, h1, h2, h3⟩ := bh_lf (show k < nl s by omega)
    rw [h1, na_succ hj, if_pos h2, h3]
theorem lineEnd_le (s : ByteArray) (k : Nat) : lineEnd s k ≤ s.size := by
  unfold lineEnd; split
  · exact bh_le _ _
  · exact Nat.le_refl _
theorem bh_lt {s : ByteArray} {k : Nat} (h : k < nl s) : bh s k < bh s (k + 1) := by
  obtain ⟨j, hj, h1, h2, h3⟩ := bh_lf h
  rw [h1]
  cases k with
  | zero => rw [bh_zero]; omega
  | succ k =>
    obtain ⟨i, hi, g1, g2, g3⟩ := bh_lf (show k < nl s by omega)
    rw [g1]
    by_cases hij : j ≤ i
    · have := na_mono (s := s) hij (by omega); omega
    · omega
theorem bh_lineEnd (s : ByteArray) (k : Nat) : bh s k ≤ lineEnd s k := by
  unfold lineEnd; split
  · rename_i h; exact Nat.le_of_lt (bh_lt h)
  · exact bh_le _ _
theorem na_line {s : ByteArray} {k i : Nat} (hk : k ≤ nl s) (h1 : bh s k ≤ i) (h2 : i < lineEnd s k) : na s i = k := by
  have hz := lineEnd_le s k
  have g1 := na_mono (s := s) h1 (by omega)
  rw [na_bh hk] at g1
  by_cases h : k < nl s
  · obtain ⟨j, hj, e1, e2, e3⟩ := bh_lf h
    unfold lineEnd at h2
    rw [if_pos h, e1] at h2
    have := na_mono (s := s) (show i ≤ j by omega) (by omega)
    omega
  · have := na_mono (s := s) (show i ≤ s.size by omega) (Nat.le_refl _)
    rw [na_all] at this
    omega
theorem lf_line {s : ByteArray} {k i : Nat} (hk : k ≤ nl s) (h1 : bh s k ≤ i) (h2 : i < lineEnd s k) (hi : i < s.size) : s[i] = 10 ↔ (i + 1 = lineEnd s k ∧ k < nl s) := by
  have hn := na_line hk h1 h2
  constructor
  · intro hx
    have hb := bh_behind hi hx
    rw [hn] at hb
    have hs := na_succ hi
    rw [if_pos hx, hn] at hs
    have hm := na_mono (s := s) (show i + 1 ≤ s.size by omega) (Nat.le_refl _)
    rw [na_all] at hm
    have hlt : k < nl s := by omega
    refine ⟨?_, hlt⟩
    unfold lineEnd
    rw [if_pos hlt, hb]
  · rintro ⟨e, hlt⟩
    obtain ⟨j, hj, e1, e2, e3⟩ := bh_lf hlt
    unfold lineEnd at e
    rw [if_pos hlt, e1] at e
    obtain rfl : i = j := by omega
    exact e2
/-- Where line k begins, and what is behind the last one. -/
def lnAt (s : ByteArray) (k : Nat) : Nat := if k ≤ nl s then bh s k else s.size
theorem lnAt_zero (s : ByteArray) : lnAt s 0 = 0 := by unfold lnAt; rw [if_pos (Nat.zero_le _), bh_zero]
theorem lnAt_in {s : ByteArray} {k : Nat} (h : k ≤ nl s) : lnAt s k = bh s k := by unfold lnAt; rw [if_pos h]
theorem lnAt_succ {s : ByteArray} {k : Nat} (h : k ≤ nl s) : lnAt s (k + 1) = lineEnd s k := by
  unfold lnAt lineEnd
  by_cases h1 : k < nl s
  · rw [if_pos h1, if_pos (by omega)]
  · rw [if_neg h1, if_neg (by omega)]
theorem lnAt_all (s : ByteArray) : lnAt s (nl s + 1) = s.size := by unfold lnAt; rw [if_neg (by omega)]
end Go.Proofs.YtfcpieodgflmnaaDoor

namespace Go.Proofs.YtfcpieodgflmnaaDoor

theorem na_le_nl {s : ByteArray} {i : Nat} (h : i ≤ s.size) : na s i ≤ nl s := by
  have := na_mono h (Nat.le_refl _)
  rw [na_all] at this
  exact this
/-- A place's line begins ahead of it. -/
theorem bh_na_le {s : ByteArray} {i : Nat} (h : i ≤ s.size) : bh s (na s i) ≤ i := by
  cases hk : na s i with
  | zero => rw [bh_zero]; omega
  | succ k =>
    have hl := na_le_nl h
    obtain ⟨j, hj, h1, h2, h3⟩ := bh_lf (show k < nl s by omega)
    rw [h1]
    by_cases hij : i ≤ j
    · have := na_mono (s := s) hij (by omega); omega
    · omega
/-- Where a line ends without its LF. -/
def be (s : ByteArray) (k : Nat) : Nat := if k < nl s then bh s (k + 1) - 1 else s.size
theorem be_le (s : ByteArray) (k : Nat) : be s k ≤ s.size := by
  unfold be; split
  · have := bh_le s (k + 1); omega
  · exact Nat.le_refl _
theorem bh_be (s : ByteArray) (k : Nat) : bh s k ≤ be s k := by
  unfold be; split
  · rename_i h; have := bh_lt h; omega
  · exact bh_le _ _
/-- What is at a line's last byte tells where it ends without its LF. -/
theorem be_test {s : ByteArray} {k : Nat} (hk : k ≤ nl s) : (bh s k < lineEnd s k ∧ bt s (lineEnd s k - 1) = 10 ∧ be s k = lineEnd s k - 1) ∨ (be s k = lineEnd s k ∧ (bh s k < lineEnd s k → bt s (lineEnd s k - 1) ≠ 10)) := by
  by_cases h : k < nl s
  · left
    obtain ⟨j, hj, h1, h2, h3⟩ := bh_lf h
    have hb := bh_lt h
    have he : lineEnd s k = bh s (k + 1) := by unfold lineEnd; rw [if_pos h]
    refine ⟨by omega, ?_, by unfold be; rw [if_pos h, he]⟩
    rw [he, h1, show j + 1 - 1 = j from by omega, ← bt_eq hj, h2]
    rfl
  · right
    have he : lineEnd s k = s.size := by unfold lineEnd; rw [if_neg h]
    refine ⟨by unfold be; rw [if_neg h, he], fun hlt hb => ?_⟩
    rw [he] at hlt hb
    have hi : s.size - 1 < s.size := by omega
    have := (lf_line (s := s) (i := s.size - 1) hk (by omega) (by omega) hi).1 (by rw [← bt_eq hi] at hb; apply UInt8.toNat.inj; show s[s.size - 1].toNat = 10; omega)
    exact h this.2
theorem na_be {s : ByteArray} {k p : Nat} (hk : k ≤ nl s) (h1 : bh s k ≤ p) (h2 : p ≤ be s k) : na s p = k := by
  by_cases h : k < nl s
  · refine na_line hk h1 ?_
    have := bh_lt h
    unfold be at h2
    unfold lineEnd
    rw [if_pos h] at h2 ⊢
    omega
  · unfold be at h2
    rw [if_neg h] at h2
    by_cases e : p = s.size
    · rw [e, na_all]; omega
    · refine na_line hk h1 ?_
      unfold lineEnd
      rw [if_neg h]
      omega
theorem le_be {s : ByteArray} {i : Nat} (h : i ≤ s.size) : i ≤ be s (na s i) := by
  unfold be
  by_cases hk : na s i < nl s
  · rw [if_pos hk]
    obtain ⟨j, hj, h1, h2, h3⟩ := bh_lf hk
    rw [h1]
    by_cases hij : i ≤ j
    · omega
    · have g1 := na_mono (s := s) (show j + 1 ≤ i by omega) h
      rw [na_succ hj, if_pos h2, h3] at g1
      omega
  · rw [if_neg hk]; exact h

/-- How many steps begin ahead of a place. -/
noncomputable def chN (t : ByteArray) : Nat → Nat
  | 0 => 0
  | m + 1 => chN t m + (if pos t (chN t m) = m then 1 else 0)
theorem pos_lt_succ {t : ByteArray} {n : Nat} (h : pos t n < t.size) : pos t n < pos t (n + 1) := by
  rw [pos, if_pos h]; have := stepLen_pos t (pos t n); omega
theorem pos_add_one {t : ByteArray} {n : Nat} (h : pos t n < t.size) : pos t (n + 1) = pos t n + stepLen t (pos t n) := by rw [pos, if_pos h]
/-- Just the steps that begin ahead of m are counted: the next one does not, all before do. -/
theorem chN_spec (t : ByteArray) : ∀ m, m ≤ t.size → m ≤ pos t (chN t m) ∧ ∀ j, j < chN t m → pos t j < m
  | 0, _ => ⟨Nat.zero_le _, fun j h => absurd h (Nat.not_lt_zero _)⟩
  | m + 1, h => by
    obtain ⟨h1, h2⟩ := chN_spec t m (by omega)
    by_cases e : pos t (chN t m) = m
    · rw [show chN t (m + 1) = chN t m + 1 from by rw [chN, if_pos e]]
      have := pos_lt_succ (t := t) (n := chN t m) (by omega)
      refine ⟨by omega, fun j hj => ?_⟩
      by_cases ej : j = chN t m
      · rw [ej]; omega
      · have := h2 j (by omega); omega
    · rw [show chN t (m + 1) = chN t m from by rw [chN, if_neg e]; rfl]
      exact ⟨by omega, fun j hj => by have := h2 j hj; omega⟩
theorem chN_eq {t : ByteArray} {m n : Nat} (hm : m ≤ t.size) (h1 : m ≤ pos t n) (h2 : ∀ j, j < n → pos t j < m) : chN t m = n := by
  obtain ⟨g1, g2⟩ := chN_spec t m hm
  by_cases e : chN t m < n
  · have := h2 _ e; omega
  · by_cases e2 : n < chN t m
    · have := g2 _ e2; omega
    · omega
theorem chN_le {t : ByteArray} {m : Nat} (hm : m ≤ t.size) : chN t m ≤ m := by
  induction m with
  | zero => exact Nat.le_refl _
  | succ m ih => have := ih (by omega); unfold chN; split <;> omega
/-- n steps are behind one just if there are so many. -/
theorem pos_steps (t : ByteArray) : ∀ n, n ≤ countS t → stepsFrom t (pos t n) = (stepsFrom t 0).drop n
  | 0, _ => rfl
  | n + 1, h => by
    have ih := pos_steps t n (by omega)
    have hlen : (stepsFrom t (pos t n)).length = countS t - n := by rw [ih, List.length_drop]; rfl
    have hlt : pos t n < t.size := by
      by_cases e : pos t n < t.size
      · exact e
      · rw [stepsFrom_nil e] at hlen
        simp at hlen
        omega
    rw [stepsFrom_cons hlt] at ih
    have : (stepsFrom t 0).drop (n + 1) = ((stepsFrom t 0).drop n).drop 1 := by rw [List.drop_drop]
    rw [this, ← ih, pos_add_one hlt]
    rfl
theorem pos_lt {t : ByteArray} {n : Nat} (h : n < countS t) : pos t n < t.size := by
  by_cases e : pos t n < t.size
  · exact e
  · have := pos_steps t n (by omega)
    rw [stepsFrom_nil e] at this
    have hl := congrArg List.length this
    rw [List.length_drop] at hl
    have : (stepsFrom t 0).length = countS t := rfl
    simp at hl
    omega
theorem pos_count (t : ByteArray) : pos t (countS t) = t.size := by
  have h := pos_steps t (countS t) (Nat.le_refl _)
  have hl := congrArg List.length h
  rw [List.length_drop] at hl
  have hc : (stepsFrom t 0).length = countS t := rfl
  by_cases e : pos t (countS t) < t.size
  · rw [stepsFrom_cons e] at hl
    simp at hl
    omega
  · have := pos_le t (countS t); omega
theorem pos_ge {t : ByteArray} {n : Nat} (h : countS t ≤ n) : pos t n = t.size := by
  have h1 := pos_mono t _ _ h
  rw [pos_count] at h1
  have := pos_le t n
  omega
theorem pos_lt_iff {t : ByteArray} {n : Nat} : pos t n < t.size ↔ n < countS t :=
  ⟨fun h => by by_cases e : n < countS t; exact e; rw [pos_ge (by omega)] at h; omega, pos_lt⟩
end Go.Proofs.YtfcpieodgflmnaaDoor
