/- The program's write: what a tree has between two places, put behind what a builder holds. -/
import Derived.Test.YtcbmigkdmmmahaaDoorCutAny
import Derived.Test.YtcbmigkdmmmahaaDoorShelf
import Derived.WalkLawsBesides
namespace Go.Proofs.YtcbmigkdmmmahaaDoor
open Go.RowKit

/-- The bytes of s from f on, and ahead of t. -/
def sl (s : ByteArray) (f t : Int) : ByteArray := s.extract (max f 0).toNat (min t s.size).toNat
theorem extract_append_any {x y : ByteArray} {a c : Nat} (hc : c ≤ x.size + y.size) : (x ++ y).extract a c = x.extract a (min c x.size) ++ y.extract (a - x.size) (c - x.size) := by
  have z2 : (x ++ y).size = x.size + y.size := ByteArray.size_append
  refine ext_bt (by simp only [ByteArray.size_append, ByteArray.size_extract]; omega) fun k hk => ?_
  rw [ByteArray.size_extract, z2] at hk
  have z1 : (x.extract a (min c x.size)).size = min c x.size - a := by rw [ByteArray.size_extract]; omega
  rw [bt_ext_in (by omega) (by omega)]
  by_cases hl : k < min c x.size - a
  · rw [bt_append_left (by omega), bt_append_left (by omega), bt_ext_in (by omega) (by omega)]
  · have e2 := bt_append_right (a := x.extract a (min c x.size)) (b := y.extract (a - x.size) (c - x.size)) (i := k - (min c x.size - a)) (by rw [ByteArray.size_extract]; omega)
    rw [z1, show min c x.size - a + (k - (min c x.size - a)) = k from by omega] at e2
    have e1 := bt_append_right (a := x) (b := y) (i := a + k - x.size) (by omega)
    rw [show x.size + (a + k - x.size) = a + k from by omega] at e1
    rw [e1, e2, bt_ext_in (by omega) (by omega)]
    congr 1
    omega
theorem sl_append (x y : ByteArray) (f t : Int) : sl (x ++ y) f t = sl x f t ++ sl y (f - x.size) (t - x.size) := by
  unfold sl
  rw [extract_append_any (by rw [ByteArray.size_append]; omega)]
  rw [ByteArray.size_append]
  congr 1
  · congr 1; omega
  · congr 1 <;> omega
theorem sl_none {s : ByteArray} {f t : Int} (h : (s.size : Int) ≤ f ∨ t ≤ 0) : sl s f t = ⟨#[]⟩ := by
  unfold sl
  refine ext_bt (by rw [ByteArray.size_extract]; show _ = 0; omega) fun k hk => ?_
  rw [ByteArray.size_extract] at hk
  omega
theorem sl_size (s : ByteArray) (f t : Int) : (sl s f t).size ≤ s.size := by unfold sl; rw [ByteArray.size_extract]; omega
theorem strCells_add (x y : ByteArray) : Lib.strCells (x ++ y) = Lib.strCells x ++ Lib.strCells y := by
  rw [Lib.strCells_eq, Lib.strCells_eq, Lib.strCells_eq, ByteArray.data_append, Array.toList_append, Lib.byteCells_append]

/-- A builder of the call's own that holds the text x. -/
def IsB (B bb : Nat) (x : ByteArray) (w : World) : Prop := Lib.IsBuilder 72 5 B bb (Lib.strCells x) w
def WrPost (B bb : Nat) (x : ByteArray) (w : World) (e : Ending) (w' : World) : Prop := e = .returned (.tuple #[]) ∧ IsB B bb x w' ∧ Below B w w'

theorem write_str {B bb : Nat} {x s : ByteArray} {w : World} (h : IsB B bb x w) (hB : B ≤ w.heap.size) (hs : x.size + s.size ≤ 1048576) :
    Calls Tryd.prog 49 #[.pointer (some ⟨bb, 0, none⟩), .string s] w fun e w' => e = .returned (.tuple #[.int .i64 s.size, .nilIface]) ∧ (IsB B bb (x ++ s) w' ∧ Below B w w') := by
  refine (Tryd.Builder_WriteString B bb (Lib.strCells x) s w h (by rw [Lib.strCells_length]; omega) hB).mono ?_
  rintro e w' ⟨rfl, h1, h2⟩
  exact ⟨rfl, by unfold IsB; rw [strCells_add]; exact .inr h1, h2⟩

theorem cell_below {B : Nat} {W w1 : World} {b o : Nat} {v : Value} (hb : Below B W w1) (hl : b < B) (h : W.cell? ⟨b, o, none⟩ = some v) : w1.cell? ⟨b, o, none⟩ = some v := (Below.cell hb (p := ⟨b, o, none⟩) hl).trans h

theorem keepB2 {B : Nat} {W w1 : World} {b1 o1 b2 o2 : Nat} {v1 v2 : Value} (hu : Below B W w1) (h1 : b1 < B) (h2 : b2 < B) (h : W.cell? ⟨b1, o1, none⟩ = some v1 ∧ W.cell? ⟨b2, o2, none⟩ = some v2) : w1.cell? ⟨b1, o1, none⟩ = some v1 ∧ w1.cell? ⟨b2, o2, none⟩ = some v2 :=
  ⟨cell_below hu h1 h.1, cell_below hu h2 h.2⟩
theorem keepB3 {B : Nat} {W w1 : World} {b1 o1 b2 o2 b3 o3 : Nat} {v1 v2 v3 : Value} (hu : Below B W w1) (h1 : b1 < B) (h2 : b2 < B) (h3 : b3 < B) (h : W.cell? ⟨b1, o1, none⟩ = some v1 ∧ W.cell? ⟨b2, o2, none⟩ = some v2 ∧ W.cell? ⟨b3, o3, none⟩ = some v3) : w1.cell? ⟨b1, o1, none⟩ = some v1 ∧ w1.cell? ⟨b2, o2, none⟩ = some v2 ∧ w1.cell? ⟨b3, o3, none⟩ = some v3 :=
  ⟨cell_below hu h1 h.1, cell_below hu h2 h.2.1, cell_below hu h3 h.2.2⟩
set_option maxRecDepth 100000 in
set_option maxHeartbeats 400000 in
theorem write_nil (v : Value) (f t : Int) (w : World) : Calls Tryd.prog 35 #[.pointer none, v, .int .i64 f, .int .i64 t] w fun e w' => e = .returned (.tuple #[]) ∧ w = w' := by
  go_enter Tryd.func35, Tryd.ntmps35
  go_wp2
  refine bodyPost_ret (results_none rfl _ _ _) rfl ?_
  exact ⟨rfl, rfl⟩
set_option maxRecDepth 100000 in
set_option maxHeartbeats 400000 in
theorem write_past (b n : Nat) (v : Value) (f t : Int) (w : World) (c0 : w.cell? ⟨b, 0, none⟩ = some (.int .i64 (n : Nat))) (h : (n : Int) ≤ f) : Calls Tryd.prog 35 #[.pointer (some ⟨b, 0, none⟩), v, .int .i64 f, .int .i64 t] w fun e w' => e = .returned (.tuple #[]) ∧ w = w' := by
  go_enter Tryd.func35, Tryd.ntmps35
  go_wp2
  refine bodyPost_ret (results_none rfl _ _ _) rfl ?_
  exact ⟨rfl, rfl⟩
set_option maxRecDepth 100000 in
set_option maxHeartbeats 400000 in
theorem write_low (b n : Nat) (v : Value) (f t : Int) (w : World) (c0 : w.cell? ⟨b, 0, none⟩ = some (.int .i64 (n : Nat))) (h : f < n) (ht : t ≤ 0) : Calls Tryd.prog 35 #[.pointer (some ⟨b, 0, none⟩), v, .int .i64 f, .int .i64 t] w fun e w' => e = .returned (.tuple #[]) ∧ w = w' := by
  have f1 : decide ((n : Int) ≤ f) = false := by simp; omega
  go_enter Tryd.func35, Tryd.ntmps35
  go_wp2
  refine bodyPost_ret (results_none rfl _ _ _) rfl ?_
  exact ⟨rfl, rfl⟩

set_option maxRecDepth 100000 in
set_option maxHeartbeats 1000000 in
theorem write_leaf (B b bb a c : Nat) (x s : ByteArray) (f t : Int) (w : World) (hb : b < B) (hB : B ≤ w.heap.size) (c0 : w.cell? ⟨b, 0, none⟩ = some (.int .i64 (s.size : Nat))) (c6 : w.cell? ⟨b, 6, none⟩ = some (.pointer none)) (c8 : w.cell? ⟨b, 8, none⟩ = some (.string s))
    (h1 : f < s.size) (h2 : 0 < t) (ha : max f 0 = (a : Int)) (hc : min t (s.size : Int) = (c : Int)) (hac : (a : Int) ≤ c) (hcs : (c : Int) ≤ s.size) (hs : (s.size : Int) ≤ 1048576) (hx : x.size + s.size ≤ 1048576) (hbl : IsB B bb x w) :
    Calls Tryd.prog 35 #[.pointer (some ⟨b, 0, none⟩), .pointer (some ⟨bb, 0, none⟩), .int .i64 f, .int .i64 t] w (WrPost B bb (x ++ s.extract a c) w) := by
  have f1 : decide ((s.size : Int) ≤ f) = false := by simp; omega
  have f2 : decide (t ≤ 0) = false := by simp; omega
  have a0 : (0 : Int) ≤ a := by omega
  have hbd : IsB B bb x w.drew := hbl
  have HW := Lib.hid (write_str (s := s.extract a c) hbd hB (by rw [ByteArray.size_extract]; omega))
  have HB := Lib.hid hb
  clear hbd hbl hB hx hb
  go_enter Tryd.func35, Tryd.ntmps35
  go_wp2_with (go_at_call 43; refine (isLeaf_yes _ w c6).mono ?_; rintro e w' ⟨rfl, rfl⟩)
  go_region_held3 (fun w' => w'.cell? ⟨b, 0, none⟩ = some (.int .i64 (s.size : Nat)) ∧ w'.cell? ⟨b, 8, none⟩ = some (.string s))
    (first | assumption | with_reducible exact keepB2 hu1 HB.out HB.out (by assumption) | exact ⟨c0, c8⟩)
    (first | (go_at_call 49; ((with_reducible refine HW.out.mono ?_); rintro e w1 ⟨rfl, hi1, hu1⟩)))
  all_goals
    have HI := Lib.hid hi1
    have HU := Lib.hid ((Below.refl B w).drew.trans hu1)
    clear hi1 hu1
    go_wp2
    refine bodyPost_ret (results_none rfl _ _ _) rfl ?_
    exact ⟨rfl, HI.out, HU.out⟩

set_option maxRecDepth 100000 in
set_option maxHeartbeats 1000000 in
theorem write_node (B b bb bl br n m : Nat) (x y z : ByteArray) (f t : Int) (w : World) (hb : b < B) (hbl' : bl < B) (c0 : w.cell? ⟨b, 0, none⟩ = some (.int .i64 (n : Nat))) (c6 : w.cell? ⟨b, 6, none⟩ = some (.pointer (some ⟨bl, 0, none⟩))) (c7 : w.cell? ⟨b, 7, none⟩ = some (.pointer (some ⟨br, 0, none⟩))) (l0 : w.cell? ⟨bl, 0, none⟩ = some (.int .i64 (m : Nat)))
    (h1 : f < n) (h2 : 0 < t) (hf : (-1048576 : Int) ≤ f) (hf2 : f ≤ 1048576) (ht : t ≤ 1048576) (hm : (m : Int) ≤ 1048576) (hbl : IsB B bb x w)
    (PL : ∀ W, Below B w W → IsB B bb x W → Calls Tryd.prog 35 #[.pointer (some ⟨bl, 0, none⟩), .pointer (some ⟨bb, 0, none⟩), .int .i64 f, .int .i64 t] W (WrPost B bb (x ++ y) W))
    (PR : ∀ W, Below B w W → IsB B bb (x ++ y) W → Calls Tryd.prog 35 #[.pointer (some ⟨br, 0, none⟩), .pointer (some ⟨bb, 0, none⟩), .int .i64 (f - m), .int .i64 (t - m)] W (WrPost B bb (x ++ y ++ z) W)) :
    Calls Tryd.prog 35 #[.pointer (some ⟨b, 0, none⟩), .pointer (some ⟨bb, 0, none⟩), .int .i64 f, .int .i64 t] w (WrPost B bb (x ++ y ++ z) w) := by
  have f1 : decide ((n : Int) ≤ f) = false := by simp; omega
  have f2 : decide (t ≤ 0) = false := by simp; omega
  have e1 : IntKind.i64.wrap (f - m) = f - m := IntWalk.i64_in _ (by omega)
  have e2 : IntKind.i64.wrap (t - m) = t - m := IntWalk.i64_in _ (by omega)
  have HL := Lib.hid (PL w (Below.refl B w) hbl)
  have HR := Lib.hid PR
  have HB := Lib.hid hb
  have HB2 := Lib.hid hbl'
  clear PL PR hbl hb hbl' hf hf2 ht hm
  go_enter Tryd.func35, Tryd.ntmps35
  go_wp2_with (first | (go_at_call 43; ((with_reducible refine (isLeaf_no _ _ w c6).mono ?_); rintro e w' ⟨rfl, rfl⟩)) | (go_at_call 35; ((with_reducible refine HL.out.mono ?_); rintro e w1 ⟨rfl, hi1, hu1⟩; have d6 := cell_below hu1 HB.out c6; have d7 := cell_below hu1 HB.out c7; have dl := cell_below hu1 HB2.out l0; have HI1 := Lib.hid hi1; have HU1 := Lib.hid hu1; clear hi1 hu1)))
  clear c0 c6 c7 l0 f1 f2
  have HR1 := Lib.hid (fun W (hd : Below B w1 W) (hi : IsB B bb (x ++ y) W) => HR.out W (HU1.out.trans hd) hi)
  go_region_held3 (fun w' => w'.cell? ⟨b, 6, none⟩ = some (.pointer (some ⟨bl, 0, none⟩)) ∧ w'.cell? ⟨b, 7, none⟩ = some (.pointer (some ⟨br, 0, none⟩)) ∧ w'.cell? ⟨bl, 0, none⟩ = some (.int .i64 (m : Nat)))
    (first | assumption | with_reducible exact keepB3 hu2 HB.out HB.out HB2.out (by assumption) | exact ⟨d6, d7, dl⟩)
    (first | (go_at_call 35; ((with_reducible refine (HR1.out _ ?_ ?_).mono ?_); (exact (Below.refl B w1).drew); (exact HI1.out); rintro e w2 ⟨rfl, hi2, hu2⟩)))
  all_goals
    have HI := Lib.hid hi2
    have HU := Lib.hid (HU1.out.trans ((Below.refl B w1).drew.trans hu2))
    clear hi2 hu2
    go_wp2
    go_end0
    exact ⟨rfl, HI.out, HU.out⟩
end Go.Proofs.YtcbmigkdmmmahaaDoor
