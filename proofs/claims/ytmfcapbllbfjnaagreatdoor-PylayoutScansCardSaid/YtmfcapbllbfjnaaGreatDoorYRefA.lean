/- The document's Letter, Digit, at, quotes, End, close. -/
import Derived.Test.YtmfcapbllbfjnaaGreatDoorYA
namespace Go.Proofs.YtmfcapbllbfjnaaGreatDoor
open Go.RowKit

set_option maxRecDepth 100000 in
set_option maxHeartbeats 2000000 in
theorem letter_any (c : Nat) (w : World) : Calls Tryz.prog 34 #[.int .u8 (c : Nat)] w fun e w' => e = .returned (.bool (letN c)) ∧ w = w' := by
  obtain ⟨x, hx⟩ : ∃ x : Int, (c : Int) = x := ⟨_, rfl⟩
  rw [hx]
  obtain ⟨B, hB⟩ : ∃ B, letN c = B := ⟨_, rfl⟩
  rw [hB]
  unfold letN at hB
  by_cases k0 : x < 65
  · skip
    obtain rfl : false = B := by rw [← hB]; exact (decide_eq_false (by omega)).symm
    have t0 : decide ((97 : Int) ≤ x) = false := decide_eq_false (by omega)
    have t1 : x ≤ (122 : Int) := by omega
    have t2 : decide ((65 : Int) ≤ x) = false := decide_eq_false (by omega)
    have t3 : x ≤ (90 : Int) := by omega
    have t4 : (x == (95 : Int)) = false := by exact beq_eq_false_iff_ne.2 (by omega)
    have t5 : decide ((128 : Int) ≤ x) = false := decide_eq_false (by omega)
    clear hB hx k0
    go_enter Tryz.func34, Tryz.ntmps34
    go_wp2
    go_ret
    exact ⟨rfl, rfl⟩
  by_cases k1 : x ≤ 90
  · skip
    obtain rfl : true = B := by rw [← hB]; exact (decide_eq_true (by omega)).symm
    have t0 : decide ((97 : Int) ≤ x) = false := decide_eq_false (by omega)
    have t1 : x ≤ (122 : Int) := by omega
    have t2 : (65 : Int) ≤ x := by omega
    have t3 : x ≤ (90 : Int) := by omega
    have t4 : (x == (95 : Int)) = false := by exact beq_eq_false_iff_ne.2 (by omega)
    have t5 : decide ((128 : Int) ≤ x) = false := decide_eq_false (by omega)
    clear hB hx k0 k1
    go_enter Tryz.func34, Tryz.ntmps34
    go_wp2
    go_ret
    exact ⟨rfl, rfl⟩
  by_cases k2 : x < 95
  · skip
    obtain rfl : false = B := by rw [← hB]; exact (decide_eq_false (by omega)).symm
    have t0 : decide ((97 : Int) ≤ x) = false := decide_eq_false (by omega)
    have t1 : x ≤ (122 : Int) := by omega
    have t2 : (65 : Int) ≤ x := by omega
    have t3 : decide (x ≤ (90 : Int)) = false := decide_eq_false (by omega)
    have t4 : (x == (95 : Int)) = false := by exact beq_eq_false_iff_ne.2 (by omega)
    have t5 : decide ((128 : Int) ≤ x) = false := decide_eq_false (by omega)
    clear hB hx k0 k1 k2
    go_enter Tryz.func34, Tryz.ntmps34
    go_wp2
    go_ret
    exact ⟨rfl, rfl⟩
  by_cases k3 : x ≤ 95
  · skip
    obtain rfl : true = B := by rw [← hB]; exact (decide_eq_true (by omega)).symm
    have t0 : decide ((97 : Int) ≤ x) = false := decide_eq_false (by omega)
    have t1 : x ≤ (122 : Int) := by omega
    have t2 : (65 : Int) ≤ x := by omega
    have t3 : decide (x ≤ (90 : Int)) = false := decide_eq_false (by omega)
    have t4 : (x == (95 : Int)) = true := by exact beq_iff_eq.2 (by omega)
    have t5 : decide ((128 : Int) ≤ x) = false := decide_eq_false (by omega)
    clear hB hx k0 k1 k2 k3
    go_enter Tryz.func34, Tryz.ntmps34
    go_wp2
    go_ret
    exact ⟨rfl, rfl⟩
  by_cases k4 : x < 97
  · skip
    obtain rfl : false = B := by rw [← hB]; exact (decide_eq_false (by omega)).symm
    have t0 : decide ((97 : Int) ≤ x) = false := decide_eq_false (by omega)
    have t1 : x ≤ (122 : Int) := by omega
    have t2 : (65 : Int) ≤ x := by omega
    have t3 : decide (x ≤ (90 : Int)) = false := decide_eq_false (by omega)
    have t4 : (x == (95 : Int)) = false := by exact beq_eq_false_iff_ne.2 (by omega)
    have t5 : decide ((128 : Int) ≤ x) = false := decide_eq_false (by omega)
    clear hB hx k0 k1 k2 k3 k4
    go_enter Tryz.func34, Tryz.ntmps34
    go_wp2
    go_ret
    exact ⟨rfl, rfl⟩
  by_cases k5 : x ≤ 122
  · skip
    obtain rfl : true = B := by rw [← hB]; exact (decide_eq_true (by omega)).symm
    have t0 : (97 : Int) ≤ x := by omega
    have t1 : x ≤ (122 : Int) := by omega
    have t2 : (65 : Int) ≤ x := by omega
    have t3 : decide (x ≤ (90 : Int)) = false := decide_eq_false (by omega)
    have t4 : (x == (95 : Int)) = false := by exact beq_eq_false_iff_ne.2 (by omega)
    have t5 : decide ((128 : Int) ≤ x) = false := decide_eq_false (by omega)
    clear hB hx k0 k1 k2 k3 k4 k5
    go_enter Tryz.func34, Tryz.ntmps34
    go_wp2
    go_ret
    exact ⟨rfl, rfl⟩
  by_cases k6 : x < 128
  · skip
    obtain rfl : false = B := by rw [← hB]; exact (decide_eq_false (by omega)).symm
    have t0 : (97 : Int) ≤ x := by omega
    have t1 : decide (x ≤ (122 : Int)) = false := decide_eq_false (by omega)
    have t2 : (65 : Int) ≤ x := by omega
    have t3 : decide (x ≤ (90 : Int)) = false := decide_eq_false (by omega)
    have t4 : (x == (95 : Int)) = false := by exact beq_eq_false_iff_ne.2 (by omega)
    have t5 : decide ((128 : Int) ≤ x) = false := decide_eq_false (by omega)
    clear hB hx k0 k1 k2 k3 k4 k5 k6
    go_enter Tryz.func34, Tryz.ntmps34
    go_wp2
    go_ret
    exact ⟨rfl, rfl⟩
  · skip
    obtain rfl : true = B := by rw [← hB]; exact (decide_eq_true (by omega)).symm
    have t0 : (97 : Int) ≤ x := by omega
    have t1 : decide (x ≤ (122 : Int)) = false := decide_eq_false (by omega)
    have t2 : (65 : Int) ≤ x := by omega
    have t3 : decide (x ≤ (90 : Int)) = false := decide_eq_false (by omega)
    have t4 : (x == (95 : Int)) = false := by exact beq_eq_false_iff_ne.2 (by omega)
    have t5 : (128 : Int) ≤ x := by omega
    clear hB hx k0 k1 k2 k3 k4 k5 k6
    go_enter Tryz.func34, Tryz.ntmps34
    go_wp2
    go_ret
    exact ⟨rfl, rfl⟩
set_option maxRecDepth 100000 in
set_option maxHeartbeats 2000000 in
theorem digit_any (c : Nat) (w : World) : Calls Tryz.prog 35 #[.int .u8 (c : Nat)] w fun e w' => e = .returned (.bool (digN c)) ∧ w = w' := by
  obtain ⟨x, hx⟩ : ∃ x : Int, (c : Int) = x := ⟨_, rfl⟩
  rw [hx]
  obtain ⟨B, hB⟩ : ∃ B, digN c = B := ⟨_, rfl⟩
  rw [hB]
  unfold digN at hB
  by_cases k0 : x < 48
  · skip
    obtain rfl : false = B := by rw [← hB]; exact (decide_eq_false (by omega)).symm
    have t0 : decide ((48 : Int) ≤ x) = false := decide_eq_false (by omega)
    have t1 : x ≤ (57 : Int) := by omega
    clear hB hx k0
    go_enter Tryz.func35, Tryz.ntmps35
    go_wp2
    go_ret
    exact ⟨rfl, rfl⟩
  by_cases k1 : x ≤ 57
  · skip
    obtain rfl : true = B := by rw [← hB]; exact (decide_eq_true (by omega)).symm
    have t0 : (48 : Int) ≤ x := by omega
    have t1 : x ≤ (57 : Int) := by omega
    clear hB hx k0 k1
    go_enter Tryz.func35, Tryz.ntmps35
    go_wp2
    go_ret
    exact ⟨rfl, rfl⟩
  · skip
    obtain rfl : false = B := by rw [← hB]; exact (decide_eq_false (by omega)).symm
    have t0 : (48 : Int) ≤ x := by omega
    have t1 : decide (x ≤ (57 : Int)) = false := decide_eq_false (by omega)
    clear hB hx k0 k1
    go_enter Tryz.func35, Tryz.ntmps35
    go_wp2
    go_ret
    exact ⟨rfl, rfl⟩
theorem pre_iff {w l : List Nat} : w.isPrefixOf l = decide (l.take w.length = w) := by
  rw [Bool.eq_iff_iff, List.isPrefixOf_iff_prefix, decide_eq_true_eq, List.prefix_iff_eq_take]
  exact eq_comm
theorem pre_long {w l : List Nat} (h : l.length < w.length) : w.isPrefixOf l = false := by
  rw [Bool.eq_false_iff]
  intro k
  have := (List.isPrefixOf_iff_prefix.1 k).length_le
  omega
theorem pre_bytes (s t : ByteArray) (p : Nat) : (bl t).isPrefixOf ((bl s).drop p) = decide (s.extract p (p + t.size) = t) := by
  rw [pre_iff, bl_len]
  apply decide_eq_decide.2
  have e : bl (s.extract p (p + t.size)) = ((bl s).drop p).take t.size := by
    rw [bl_extract, List.drop_take, Nat.add_sub_cancel_left]
  rw [← e]
  exact ⟨fun k => bl_inj k, fun k => by rw [k]⟩
theorem beq_bytes (a b : ByteArray) : (a.toList == b.toList) = decide (a = b) := by
  rw [Bool.eq_iff_iff, beq_iff_eq, decide_eq_true_eq]
  exact ⟨bytes_ext, fun h => by rw [h]⟩
set_option maxRecDepth 100000 in
set_option maxHeartbeats 2000000 in
theorem at_any (s t : ByteArray) (p : Nat) (w : World) (hs : (s.size : Int) ≤ 1000000) (ht : t.size ≤ 100) (hp : p ≤ s.size) : Calls Tryz.prog 59 #[.string s, .int .i64 (p : Nat), .string t] w fun e w' => e = .returned (.bool ((bl t).isPrefixOf ((bl s).drop p))) ∧ w = w' := by
  have e1 : IntKind.i64.wrap ((p : Int) + t.size) = ((p + t.size : Nat) : Int) := (IntWalk.i64_in _ (by omega)).trans (by omega)
  have e2 : wrap64 ((p : Int) + t.size) = ((p + t.size : Nat) : Int) := (IntWalk.wrap64_in _ (by omega)).trans (by omega)
  by_cases h : p + t.size ≤ s.size
  · rw [pre_bytes s t p, ← beq_bytes]
    have h1 : ((p + t.size : Nat) : Int) ≤ s.size := by omega
    have h2 : (0 : Int) ≤ p := by omega
    have h3 : (p : Int) ≤ (p + t.size : Nat) := by omega
    clear hs ht hp
    go_enter Tryz.func59, Tryz.ntmps59
    go_wp2
    go_ret
    exact ⟨rfl, rfl⟩
  · rw [pre_long (by rw [bl_len, List.length_drop, bl_len]; omega)]
    have h1 : decide ((p : Int) + t.size ≤ s.size) = false := decide_eq_false (by omega)
    clear hs ht hp h
    go_enter Tryz.func59, Tryz.ntmps59
    go_wp2
    go_ret
    exact ⟨rfl, rfl⟩
/-- The quotes of a mark, as a text. -/
def quoB (m : Nat) : ByteArray := if m = 1 then ⟨#[39, 39, 39]⟩ else if m = 2 then ⟨#[34, 34, 34]⟩ else if m = 3 then ⟨#[39]⟩ else ⟨#[34]⟩
theorem quoB_bl (m : Nat) : bl (quoB m) = quo m := by unfold quoB quo; (repeat' split) <;> rfl
theorem quoB_len (m : Nat) : (quoB m).size = (quo m).length := by rw [← quoB_bl, bl_len]
theorem quoB_le (m : Nat) : (quoB m).size ≤ 3 := by rw [quoB_len]; exact (quo_len m).2
set_option maxRecDepth 100000 in
set_option maxHeartbeats 2000000 in
theorem quotes_any (m : Nat) (w : World) : Calls Tryz.prog 33 #[.int .u8 (m : Nat)] w fun e w' => e = .returned (.string (quoB m)) ∧ w = w' := by
  by_cases h1 : m = 1
  · subst h1
    go_enter Tryz.func33, Tryz.ntmps33
    go_wp2
    go_ret
    exact ⟨rfl, rfl⟩
  by_cases h2 : m = 2
  · subst h2
    go_enter Tryz.func33, Tryz.ntmps33
    go_wp2
    go_ret
    exact ⟨rfl, rfl⟩
  by_cases h3 : m = 3
  · subst h3
    go_enter Tryz.func33, Tryz.ntmps33
    go_wp2
    go_ret
    exact ⟨rfl, rfl⟩
  have e : quoB m = ⟨#[34]⟩ := by unfold quoB; rw [if_neg h1, if_neg h2, if_neg h3]
  rw [e]
  obtain ⟨x, hx⟩ : ∃ x : Int, (m : Int) = x := ⟨_, rfl⟩
  rw [hx]
  have f1 : (x == (1 : Int)) = false := beq_eq_false_iff_ne.2 (by omega)
  have f2 : (x == (2 : Int)) = false := beq_eq_false_iff_ne.2 (by omega)
  have f3 : (x == (3 : Int)) = false := beq_eq_false_iff_ne.2 (by omega)
  clear h1 h2 h3 e hx
  go_enter Tryz.func33, Tryz.ntmps33
  go_wp2
  go_ret
  exact ⟨rfl, rfl⟩
theorem endF_step {s : ByteArray} {p : Nat} {b : Bool} (h : p < s.size) : endF b p ((bl s).drop p) = if bt s p = 10 then (if b then p - 1 else p) else endF (bt s p == 13) (p + 1) ((bl s).drop (p + 1)) := by
  rw [bl_drop h]
  rfl
theorem endF_last {s : ByteArray} {p : Nat} {b : Bool} (h : s.size ≤ p) : endF b p ((bl s).drop p) = p := by
  rw [bl_end h]
  rfl
/-- A byte 13 stands right ahead. -/
def p13 (s : ByteArray) (p : Nat) : Bool := decide (0 < p) && (bt s (p - 1) == 13)
theorem p13_zero (s : ByteArray) : p13 s 0 = false := rfl
theorem p13_succ (s : ByteArray) (p : Nat) : p13 s (p + 1) = (bt s p == 13) := by unfold p13; simp
end Go.Proofs.YtmfcapbllbfjnaaGreatDoor
