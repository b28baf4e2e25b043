/- The program's join: a text of all parts, one behind the other. -/
import Derived.Test.YtkdnhdjmlinglaaEMove
import Derived.Test.YtkdnhdjmlinglaaShelf
namespace Go.Proofs.Ytkdnhdjmlinglaa
open Go.RowKit

theorem Up.size {w w' : World} (h : Up w w') : w.heap.size ≤ w'.heap.size := Below.size h
/-- A builder of the call's own that holds the text x. -/
def IsB (B bb : Nat) (x : ByteArray) (w : World) : Prop := Lib.IsBuilder 46 5 B bb (Lib.strCells x) w
theorem strCells_add (x y : ByteArray) : Lib.strCells (x ++ y) = Lib.strCells x ++ Lib.strCells y := by
  rw [Lib.strCells_eq, Lib.strCells_eq, Lib.strCells_eq, ByteArray.data_append, Array.toList_append, Lib.byteCells_append]
theorem string_of {B bb : Nat} {x : ByteArray} {w : World} (h : IsB B bb x w) (hB : B ≤ w.heap.size) :
    Calls Try.prog 25 #[.pointer (some ⟨bb, 0, none⟩)] w fun e w' => e = .returned (.string x) ∧ Below B w w' := by
  have := Try.Builder_String_any B bb x.data.toList w h hB
  exact this
theorem grow_fresh (w : World) (n : Nat) (hn : n ≤ 140737488355328) :
    Calls Try.prog 23 #[.pointer (some ⟨w.heap.size, 0, none⟩), .int .i64 n] (w.alloc (.cells #[.pointer none, .slice none 0 0] 46)) fun e w' => e = .returned (.tuple #[]) ∧ IsB w.heap.size w.heap.size ⟨#[]⟩ w' ∧ Below w.heap.size w w' := by
  refine (Try.Builder_Grow_fresh w.heap.size w.heap.size n _ (Nat.le_refl _) (Go.heap_alloc_new _ _) (Below.size (Up.alloc _ _)) (by omega)).mono ?_
  rintro e w' ⟨rfl, h1, h2⟩
  exact ⟨rfl, .inr h1, Below.trans (Up.alloc w _) h2⟩
theorem write_str {B bb : Nat} {x s : ByteArray} {w : World} (h : IsB B bb x w) (hB : B ≤ w.heap.size) (hs : x.size + s.size ≤ 140737488355328) :
    Calls Try.prog 24 #[.pointer (some ⟨bb, 0, none⟩), .string s] w fun e w' => e = .returned (.tuple #[.int .i64 s.size, .nilIface]) ∧ (IsB B bb (x ++ s) w' ∧ Below B w w') := by
  refine (Try.Builder_WriteString B bb (Lib.strCells x) s w h (by rw [Lib.strCells_length]; omega) hB).mono ?_
  rintro e w' ⟨rfl, h1, h2⟩
  exact ⟨rfl, by unfold IsB; rw [strCells_add]; exact .inr h1, h2⟩
/-- How many bytes the first k parts have, and their text. -/
def sz (xs : Nat → ByteArray) : Nat → Nat
  | 0 => 0
  | k + 1 => sz xs k + (xs k).size
def ct (xs : Nat → ByteArray) : Nat → ByteArray
  | 0 => ⟨#[]⟩
  | k + 1 => ct xs k ++ xs k
theorem ct_size (xs : Nat → ByteArray) : ∀ k, (ct xs k).size = sz xs k
  | 0 => rfl
  | k + 1 => by
    show (ct xs k ++ xs k).size = _
    rw [ByteArray.size_append, ct_size xs k]
    rfl
theorem sz_mono (xs : Nat → ByteArray) {i n : Nat} (h : i ≤ n) : sz xs i ≤ sz xs n := by
  induction n with
  | zero => obtain rfl : i = 0 := by omega
            exact Nat.le_refl _
  | succ n ih =>
    by_cases e : i = n + 1
    · subst e
      exact Nat.le_refl _
    · exact Nat.le_trans (ih (by omega)) (Nat.le_add_right _ _)
set_option maxRecDepth 100000 in
set_option maxHeartbeats 1000000 in
theorem join_any (xs : Nat → ByteArray) (n pb cap : Nat) (w : World) (hp : ∀ j, j < n → w.cell? ⟨pb, j, none⟩ = some (.string (xs j))) (hn : n ≤ 1000) (hz : sz xs n ≤ 140737488355328) :
    Calls Try.prog 20 #[.slice (some ⟨pb, 0, none⟩) n cap] w fun e w' => e = .returned (.string (ct xs n)) ∧ Up w w' := by
  have HP := Lib.hid hp
  have HZ := Lib.hid hz
  clear hp hz
  go_enter Try.func20, Try.ntmps20
  go_wp2
  go_loopg [3, 11] n (fun g nv iv wr => w = wr ∧ ∃ i : Nat, g = n - i ∧ nv = .int .i64 (sz xs i : Nat) ∧ iv = .int .i64 (i : Nat) ∧ i ≤ n)
  case atStart => exact ⟨rfl, 0, rfl, rfl, rfl, Nat.zero_le _⟩
  case round =>
    obtain ⟨rfl, i, hg, rfl, rfl, hi⟩ := hrel
    have HG := Lib.hid hg
    clear hg
    by_cases hlt : i < n
    · have hc := HP.out i hlt
      have hii : (i : Int) < n := by omega
      have hm := sz_mono xs (show i + 1 ≤ n from hlt)
      have hs : (sz xs i : Int) + (xs i).size ≤ 140737488355328 := by have := HZ.out; have e : sz xs (i + 1) = sz xs i + (xs i).size := rfl; omega
      have hw : IntKind.i64.wrap ((sz xs i : Int) + ((xs i).size : Int)) = (sz xs (i + 1) : Nat) := (IntWalk.i64_in _ (by omega)).trans (by show _ = ((sz xs i + (xs i).size : Nat) : Int); omega)
      clear hm hs
      go_wp2
      go_roundg (n - (i + 1))
      case measure => rw [HG.out]; omega
      case rel => exact ⟨rfl, i + 1, rfl, rfl, by go_num, by omega⟩
    · obtain rfl : i = n := by omega
      have f2 : decide (i < i) = false := decide_eq_false (by omega)
      have HB := Lib.hid HZ.out
      clear hlt hi
      go_wp2_with (first
        | (go_at_call 23; ((with_reducible refine (grow_fresh _ _ HB.out).mono ?_); rintro e w2 ⟨rfl, hb2, hu2⟩; have HB2 := Lib.hid hb2; have HU2 := Lib.hid (show Up w w2 from hu2); clear hb2 hu2)))
      go_loopg [24] i (fun g iv wr => ∃ j : Nat, g = i - j ∧ iv = .int .i64 (j : Nat) ∧ j ≤ i ∧ Hid (IsB w.heap.size w.heap.size (ct xs j) wr) ∧ Hid (Up w wr))
      case atStart => exact ⟨0, rfl, rfl, Nat.zero_le _, HB2, HU2⟩
      case round =>
        obtain ⟨j, hg, rfl, hj, HS, HU⟩ := hrel
        have HG2 := Lib.hid hg
        clear hg
        by_cases hlt : j < i
        · have hc := cell_up HU.out (HP.out j hlt)
          have hjj : (j : Int) < i := by omega
          have HQ := Lib.hid (show (ct xs j).size + (xs j).size ≤ 140737488355328 by
            have := sz_mono xs (show j + 1 ≤ i from hlt)
            have e : sz xs (j + 1) = sz xs j + (xs j).size := rfl
            have := HZ.out
            rw [ct_size]
            omega)
          go_wp2_with (go_at_call 24; ((with_reducible refine (write_str HS.out HU.out.size HQ.out).mono ?_); rintro e w3 ⟨rfl, hs3, hu3⟩; have HS3 := Lib.hid (show IsB w.heap.size w.heap.size (ct xs (j + 1)) w3 from hs3); have HU3 := Lib.hid (show Up w w3 from Below.trans HU.out hu3); clear hs3 hu3))
          go_roundg (i - (j + 1))
          case measure => rw [HG2.out]; omega
          case rel => exact ⟨j + 1, rfl, by go_num, by omega, HS3, HU3⟩
        · obtain rfl : j = i := by omega
          have f3 : decide (j < j) = false := decide_eq_false (by omega)
          clear hlt hj
          go_wp2_with (go_at_call 25; ((with_reducible refine (string_of HS.out HU.out.size).mono ?_); rintro e w4 ⟨rfl, hu4⟩; have HU4 := Lib.hid (show Up w w4 from Below.trans HU.out hu4); clear hu4))
          go_ret
          exact ⟨rfl, HU4.out⟩
end Go.Proofs.Ytkdnhdjmlinglaa
