/- What stands below every layer: bytes of a text, pieces of it, worlds that leave old memory alone, cells of new blocks. Nothing of the program stands here. -/
import Derived.Below
import Derived.Test.YtopdbilkpkgccaaDoorRows
import Derived.WalkKit
import Derived.LaidMore
import Derived.WalkSmall
import Derived.WalkSpells
import Derived.WalkLawsBesides
import Derived.Deep.QuietTactic
import Derived.Deep.LoopGhost
import Derived.Deep.DeepCutAuto
import Derived.Deep.RegionHeld3
import Derived.BigQuiet
import Derived.IntWalk
import Derived.Lib.Hide
import Derived.Handy
import Derived.Laws.BytesArg
namespace Go.Proofs.YtopdbilkpkgccaaDoor
open Go.RowKit

/-- The byte at a place; 0 where there is none. -/
def bt (s : ByteArray) (i : Nat) : Nat := if h : i < s.size then s[i].toNat else 0
theorem bt_eq {s : ByteArray} {i : Nat} (h : i < s.size) : s[i].toNat = bt s i := by simp [bt, h]
theorem bt_lt (s : ByteArray) (i : Nat) : bt s i < 256 := by
  unfold bt; split
  · exact UInt8.toNat_lt _
  · omega
theorem ret_bool {a b : Bool} (h : a = b) : Ending.returned (.bool a) = .returned (.bool b) := by rw [h]
theorem ret_int {k : IntKind} {a b : Int} (h : a = b) : Ending.returned (.int k a) = .returned (.int k b) := by rw [h]
/-- The tables and the heap's old blocks behind a call. -/
def Up (w w' : World) : Prop := Below w.heap.size w w'
theorem Up.refl (w : World) : Up w w := Below.refl _ _
theorem Up.trans {a b c : World} (h : Up a b) (k : Up b c) : Up a c := Below.trans h (Below.mono k (Below.size h))
theorem Up.drewN (w : World) (n : Nat) : Up w (w.drewN n) := below_drewN (Below.refl _ _) n
theorem Up.drew (w : World) : Up w w.drew := Below.drew (Below.refl _ _)
theorem Up.alloc (w : World) (o : Obj) : Up w (w.alloc o) := (Below.refl _ _).alloc (Nat.le_refl _) o
theorem Up.grownBy {w w' : World} (h : Up w w') : w.grownBy w' none := ⟨Below.os h, Below.tape h, Below.output h, Below.size h, fun k hk _ => Below.block h k hk⟩
theorem bytes_ext {a b : ByteArray} (h : a.toList = b.toList) : a = b := by
  rw [ByteArray.toList_eq, ByteArray.toList_eq] at h
  exact ByteArray.ext (Array.toList_inj.mp h)
theorem bt_list (s : ByteArray) (i : Nat) (h : i < s.size) : bt s i = (s.data.toList[i]'(by simpa using h)).toNat := by
  rw [← bt_eq h]; rfl
theorem bt_extract {s : ByteArray} {a n i : Nat} (h : a + n ≤ s.size) (hi : i < n) : bt (s.extract a (a + n)) i = bt s (a + i) := by
  have h1 : i < (s.extract a (a + n)).size := by rw [ByteArray.size_extract]; omega
  rw [← bt_eq h1, ← bt_eq (show a + i < s.size by omega)]
  simp [ByteArray.getElem_extract]
theorem ext_bt {s t : ByteArray} (hs : s.size = t.size) (h : ∀ i, i < s.size → bt s i = bt t i) : s = t := by
  apply ByteArray.ext
  apply Array.ext (by simpa using hs)
  intro i h1 h2
  have h1' : i < s.size := h1
  have h2' : i < t.size := h2
  have e := h i h1'
  rw [← bt_eq h1', ← bt_eq h2'] at e
  exact UInt8.toNat_inj.1 e
theorem bt_append_left {a b : ByteArray} {i : Nat} (h : i < a.size) : bt (a ++ b) i = bt a i := by
  have h1 : i < (a ++ b).size := by rw [ByteArray.size_append]; omega
  rw [← bt_eq h1, ← bt_eq h, ByteArray.getElem_append_left h]
theorem bt_append_right {a b : ByteArray} {i : Nat} (h : i < b.size) : bt (a ++ b) (a.size + i) = bt b i := by
  have h1 : a.size + i < (a ++ b).size := by rw [ByteArray.size_append]; omega
  rw [← bt_eq h1, ← bt_eq h, ByteArray.getElem_append_right (by omega)]
  simp
theorem bt_ext_in {s : ByteArray} {a c i : Nat} (h1 : a + i < c) (h2 : c ≤ s.size) : bt (s.extract a c) i = bt s (a + i) := by
  have := bt_extract (s := s) (a := a) (n := c - a) (i := i) (by omega) (by omega)
  rw [show a + (c - a) = c from by omega] at this
  exact this
theorem cut_at {s : ByteArray} {k : Nat} (h : k ≤ s.size) : ∃ a b, s = a ++ b ∧ a.size = k := by
  refine ⟨s.extract 0 k, s.extract k s.size, ?_, by rw [ByteArray.size_extract]; omega⟩
  refine ext_bt (by rw [ByteArray.size_append, ByteArray.size_extract, ByteArray.size_extract]; omega) fun i hi => ?_
  by_cases h1 : i < k
  · rw [bt_append_left (by rw [ByteArray.size_extract]; omega)]
    have := bt_extract (s := s) (a := 0) (n := k) (i := i) (by omega) h1
    rw [Nat.zero_add, Nat.zero_add] at this
    exact this.symm
  · have hs : (s.extract 0 k).size = k := by rw [ByteArray.size_extract]; omega
    have h2 := bt_append_right (a := s.extract 0 k) (b := s.extract k s.size) (i := i - k) (by rw [ByteArray.size_extract]; omega)
    rw [hs, show k + (i - k) = i from by omega] at h2
    rw [h2]
    have h3 := bt_extract (s := s) (a := k) (n := s.size - k) (i := i - k) (by omega) (by omega)
    rw [show k + (s.size - k) = s.size from by omega, show k + (i - k) = i from by omega] at h3
    exact h3.symm
theorem extract_zero_append {a b : ByteArray} {n : Nat} (h : n ≤ a.size) : (a ++ b).extract 0 n = a.extract 0 n := by
  refine ext_bt (by rw [ByteArray.size_extract, ByteArray.size_extract, ByteArray.size_append]; omega) fun i hi => ?_
  rw [ByteArray.size_extract, ByteArray.size_append] at hi
  have h1 := bt_extract (s := a ++ b) (a := 0) (n := n) (i := i) (by rw [ByteArray.size_append]; omega) (by omega)
  have h2 := bt_extract (s := a) (a := 0) (n := n) (i := i) (by omega) (by omega)
  rw [Nat.zero_add, Nat.zero_add] at h1 h2
  rw [h1, h2, bt_append_left (by omega)]
theorem extract_all_left {a b : ByteArray} : (a ++ b).extract 0 a.size = a := by
  rw [extract_zero_append (Nat.le_refl _)]
  simp
theorem extract_right {a b : ByteArray} {m n : Nat} (h1 : a.size ≤ m) (h : n ≤ a.size + b.size) : (a ++ b).extract m n = b.extract (m - a.size) (n - a.size) := by
  by_cases hmn : m ≤ n
  · refine ext_bt (by rw [ByteArray.size_extract, ByteArray.size_extract, ByteArray.size_append]; omega) fun i hi => ?_
    rw [ByteArray.size_extract, ByteArray.size_append] at hi
    have e1 := bt_extract (s := a ++ b) (a := m) (n := n - m) (i := i) (by rw [ByteArray.size_append]; omega) (by omega)
    have e2 := bt_extract (s := b) (a := m - a.size) (n := n - m) (i := i) (by omega) (by omega)
    rw [show m + (n - m) = n from by omega] at e1
    rw [show m - a.size + (n - m) = n - a.size from by omega] at e2
    rw [e1, e2, show m + i = a.size + (m - a.size + i) from by omega, bt_append_right (by omega)]
  · refine ext_bt (by rw [ByteArray.size_extract, ByteArray.size_extract, ByteArray.size_append]; omega) fun i hi => ?_
    rw [ByteArray.size_extract, ByteArray.size_append] at hi
    omega
theorem cellOf {w : World} {b j : Nat} {cs : Array Value} {T : TypeId} {fr : Nat × Nat} {v : Value} (h : w.heap[b]? = some (.cells cs T fr)) (hj : cs[j]? = some v) : w.cell? ⟨b, j, none⟩ = some v := by
  simp [World.cell?, h, hj]
theorem frozenOf {w : World} {b j : Nat} {cs : Array Value} {T : TypeId} (h : w.heap[b]? = some (.cells cs T)) : w.frozen? ⟨b, j, none⟩ = false := by
  simp [World.frozen?, h]
theorem cell_up {W w1 : World} {b o : Nat} {v : Value} (hu : Up W w1) (h : W.cell? ⟨b, o, none⟩ = some v) : w1.cell? ⟨b, o, none⟩ = some v := by
  have hb : b < W.heap.size := by
    by_cases hlt : b < W.heap.size
    · exact hlt
    · have : W.heap[b]? = none := by simp; omega
      simp [World.cell?, this] at h
  exact (Below.cell hu (p := ⟨b, o, none⟩) hb).trans h
theorem frozen_up {W w1 : World} {b o : Nat} {v : Value} (hu : Up W w1) (h : W.cell? ⟨b, o, none⟩ = some v) {f : Bool} (hf : W.frozen? ⟨b, o, none⟩ = f) : w1.frozen? ⟨b, o, none⟩ = f := by
  have hb : b < W.heap.size := by
    by_cases hlt : b < W.heap.size
    · exact hlt
    · have : W.heap[b]? = none := by simp; omega
      simp [World.cell?, this] at h
  exact (Below.frozen hu (p := ⟨b, o, none⟩) hb).trans hf
theorem size_take {u : ByteArray} {k : Nat} (hk : k ≤ u.size) : (u.extract 0 k).size = k := by rw [ByteArray.size_extract]; omega
theorem take_all (u : ByteArray) : u.extract 0 u.size = u := by
  apply ByteArray.ext
  rw [ByteArray.data_extract]
  exact Array.extract_size
/-- A piece of a piece. -/
theorem extract_of_extract {t : ByteArray} {f u k : Nat} (h : f + k ≤ u) : (t.extract f u).extract 0 k = t.extract f (f + k) := by
  apply ByteArray.ext
  rw [ByteArray.data_extract, ByteArray.data_extract, ByteArray.data_extract, Array.extract_extract]
  congr 1 <;> omega
theorem ret_ib {k : IntKind} {a a' : Int} {b b' : Bool} (h : a = a') (g : b = b') : Ending.returned (.tuple #[.int k a, .bool b]) = .returned (.tuple #[.int k a', .bool b']) := by rw [h, g]
theorem ret_ii {k l : IntKind} {a a' b b' : Int} (h : a = a') (g : b = b') : Ending.returned (.tuple #[.int k a, .int l b]) = .returned (.tuple #[.int k a', .int l b']) := by rw [h, g]
theorem ret_iii {k l m : IntKind} {a a' b b' c c' : Int} (h : a = a') (g : b = b') (f : c = c') : Ending.returned (.tuple #[.int k a, .int l b, .int m c]) = .returned (.tuple #[.int k a', .int l b', .int m c']) := by rw [h, g, f]
theorem set_one (w : World) (g : Nat) (x1 y0 y1 : Value) (h0 : w.cell? ⟨g, 0, none⟩ = some y0) (h1 : w.cell? ⟨g, 1, none⟩ = some y1) :
    (w.setCell ⟨g, 1, none⟩ x1).cell? ⟨g, 0, none⟩ = some y0 ∧ (w.setCell ⟨g, 1, none⟩ x1).cell? ⟨g, 1, none⟩ = some x1 :=
  ⟨(World.cell?_setCell_other w ⟨g, 1, none⟩ ⟨g, 0, none⟩ x1 (fun e => by injection e with _ e2; exact absurd e2 (by decide))).trans h0, World.cell?_setCell_same' w _ x1 (by rw [h1]; rfl)⟩
theorem set_up {w W : World} {g : Nat} (h : Up w W) (hg : w.heap.size ≤ g) (v : Value) : Up w (W.setCell ⟨g, 1, none⟩ v) := Below.setCell h (p := ⟨g, 1, none⟩) hg v
theorem box_cell (w : World) (v : Value) (t : TypeId) : (w.alloc (.cells #[v] t)).cell? ⟨w.heap.size, 0, none⟩ = some v := cellOf (Go.heap_alloc_new _ _) rfl
theorem box_two (w : World) (u v : Value) (s t : TypeId) : ((w.alloc (.cells #[u] s)).alloc (.cells #[v] t)).cell? ⟨w.heap.size, 0, none⟩ = some u ∧ ((w.alloc (.cells #[u] s)).alloc (.cells #[v] t)).cell? ⟨w.heap.size + 1, 0, none⟩ = some v ∧ Up w ((w.alloc (.cells #[u] s)).alloc (.cells #[v] t)) := by
  refine ⟨?_, ?_, (Up.alloc w _).trans (Up.alloc _ _)⟩
  · exact cell_up (Up.alloc (w.alloc (.cells #[u] s)) _) (box_cell w u s)
  · have := box_cell (w.alloc (.cells #[u] s)) v t
    rw [World.size_alloc] at this
    exact this
theorem up_same {W : World} {e : Ending} {v : Value} {w' : World} (h : e = .returned v ∧ W = w') : e = .returned v ∧ Up W w' := by obtain ⟨rfl, rfl⟩ := h; exact ⟨rfl, Up.refl _⟩
theorem set2 (w : World) (g : Nat) (x0 x1 y0 y1 : Value) (h0 : w.cell? ⟨g, 0, none⟩ = some y0) (h1 : w.cell? ⟨g, 1, none⟩ = some y1) :
    ((w.setCell ⟨g, 0, none⟩ x0).setCell ⟨g, 1, none⟩ x1).cell? ⟨g, 0, none⟩ = some x0 ∧ ((w.setCell ⟨g, 0, none⟩ x0).setCell ⟨g, 1, none⟩ x1).cell? ⟨g, 1, none⟩ = some x1 := by
  have o : ∀ (W : World) (i j : Nat) (v : Value), i ≠ j → (W.setCell ⟨g, i, none⟩ v).cell? ⟨g, j, none⟩ = W.cell? ⟨g, j, none⟩ := fun W i j v h => World.cell?_setCell_other W ⟨g, i, none⟩ ⟨g, j, none⟩ v (fun e => h (by injection e))
  have s : ∀ (W : World) (i : Nat) (v u : Value), W.cell? ⟨g, i, none⟩ = some u → (W.setCell ⟨g, i, none⟩ v).cell? ⟨g, i, none⟩ = some v := fun W i v u h => World.cell?_setCell_same' W _ v (by rw [h]; rfl)
  exact ⟨by rw [o _ _ _ _ (by decide)]; exact s _ _ _ _ h0, s _ _ _ y1 (by rw [o _ _ _ _ (by decide)]; exact h1)⟩
theorem Up.set2 {w W : World} (h : Up w W) (g i j : Nat) (x y : Value) (hg : w.heap.size ≤ g) : Up w ((W.setCell ⟨g, i, none⟩ x).setCell ⟨g, j, none⟩ y) :=
  (Below.setCell h (p := ⟨g, i, none⟩) hg x).setCell (p := ⟨g, j, none⟩) hg y
end Go.Proofs.YtopdbilkpkgccaaDoor
