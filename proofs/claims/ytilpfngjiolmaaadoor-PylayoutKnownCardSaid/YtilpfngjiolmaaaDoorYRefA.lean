/- The document's Letter, Digit, at, quotes, End, close. -/
import Derived.Test.YtilpfngjiolmaaaDoorYMath
namespace Go.Proofs.YtilpfngjiolmaaaDoor
open Go.RowKit

theorem pre_iff {w l : List Nat} : w.isPrefixOf l = decide (l.take w.length = w) := by
  rw [Bool.eq_iff_iff, List.isPrefixOf_iff_prefix, decide_eq_true_eq, List.prefix_iff_eq_take]
  exact eq_comm
theorem pre_long {w l : List Nat} (h : l.length < w.length) : w.isPrefixOf l = false := by
  rw [Bool.eq_false_iff]
  intro k
  have := (List.isPrefixOf_iff_prefix.1 k).length_le
  omega
theorem pre_bytes (s t : ByteArray) (p : Nat) : (bl t).isPrefixOf ((bl s).drop p) = decide (s.extract p (p + t.size) = t) := by
  rw [pre_iff, bl_len]
  apply decide_eq_decide.2
  have e : bl (s.extract p (p + t.size)) = ((bl s).drop p).take t.size := by
    rw [bl_extract, List.drop_take, Nat.add_sub_cancel_left]
  rw [← e]
  exact ⟨fun k => bl_inj k, fun k => by rw [k]⟩
theorem beq_bytes (a b : ByteArray) : (a.toList == b.toList) = decide (a = b) := by
  rw [Bool.eq_iff_iff, beq_iff_eq, decide_eq_true_eq]
  exact ⟨bytes_ext, fun h => by rw [h]⟩
/-- The quotes of a mark, as a text. -/
def quoB (m : Nat) : ByteArray := if m = 1 then ⟨#[39, 39, 39]⟩ else if m = 2 then ⟨#[34, 34, 34]⟩ else if m = 3 then ⟨#[39]⟩ else ⟨#[34]⟩
theorem quoB_bl (m : Nat) : bl (quoB m) = quo m := by unfold quoB quo; (repeat' split) <;> rfl
theorem quoB_len (m : Nat) : (quoB m).size = (quo m).length := by rw [← quoB_bl, bl_len]
theorem quoB_le (m : Nat) : (quoB m).size ≤ 3 := by rw [quoB_len]; exact (quo_len m).2
theorem endF_step {s : ByteArray} {p : Nat} {b : Bool} (h : p < s.size) : endF b p ((bl s).drop p) = if bt s p = 10 then (if b then p - 1 else p) else endF (bt s p == 13) (p + 1) ((bl s).drop (p + 1)) := by
  rw [bl_drop h]
  rfl
theorem endF_last {s : ByteArray} {p : Nat} {b : Bool} (h : s.size ≤ p) : endF b p ((bl s).drop p) = p := by
  rw [bl_end h]
  rfl
/-- A byte 13 stands right ahead. -/
def p13 (s : ByteArray) (p : Nat) : Bool := decide (0 < p) && (bt s (p - 1) == 13)
theorem p13_zero (s : ByteArray) : p13 s 0 = false := rfl
theorem p13_succ (s : ByteArray) (p : Nat) : p13 s (p + 1) = (bt s p == 13) := by unfold p13; simp
end Go.Proofs.YtilpfngjiolmaaaDoor
