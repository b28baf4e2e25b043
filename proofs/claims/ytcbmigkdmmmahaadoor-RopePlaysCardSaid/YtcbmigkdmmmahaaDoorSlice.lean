/- The rope's Slice and Text. -/
import Derived.Test.YtcbmigkdmmmahaaDoorRope
namespace Go.Proofs.YtcbmigkdmmmahaaDoor
open Go.RowKit

set_option maxRecDepth 100000 in
set_option maxHeartbeats 400000 in
theorem slice_none (f u : Int) (w : World) : Calls Tryd.prog 19 #[.pointer none, .int .i64 f, .int .i64 u] w fun e' w' => e' = .returned (.tuple #[.string ⟨#[]⟩, .int .i64 8]) ∧ w = w' := by
  go_enter Tryd.func19, Tryd.ntmps19
  go_wp2
  go_ret2
  exact ⟨rfl, rfl⟩
set_option maxRecDepth 100000 in
set_option maxHeartbeats 400000 in
theorem slice_out {w : World} {rb : Nat} {s : ByteArray} (hr : RopeIs w rb s) (f u : Int) (hi : ¬ (0 ≤ f ∧ f ≤ u ∧ u ≤ s.size)) : Calls Tryd.prog 19 #[.pointer (some ⟨rb, 0, none⟩), .int .i64 f, .int .i64 u] w fun e' w' => e' = .returned (.tuple #[.string ⟨#[]⟩, .int .i64 5]) ∧ Up w w' := by
  have HL := Lib.hid (Go.Proofs.YtcbmigkdmmmahaaDoor.rope_len_any hr)
  clear hr
  by_cases h0 : f < 0
  · clear hi
    go_enter Tryd.func19, Tryd.ntmps19
    go_wp2
    go_ret2
    exact ⟨rfl, Up.refl _⟩
  · have f0 : decide (f < 0) = false := decide_eq_false h0
    by_cases h1 : (s.size : Int) < u
    · clear hi
      go_enter Tryd.func19, Tryd.ntmps19
      go_wp2_with (go_at_call 17; refine HL.out.mono ?_; rintro e' w' ⟨rfl, hu⟩)
      go_ret2
      exact ⟨rfl, hu⟩
    · have f1 : decide ((s.size : Int) < u) = false := decide_eq_false h1
      have h2 : u < f := by omega
      clear hi h0 h1
      go_enter Tryd.func19, Tryd.ntmps19
      go_wp2_with (go_at_call 17; refine HL.out.mono ?_; rintro e' w' ⟨rfl, hu⟩)
      go_ret2
      exact ⟨rfl, hu⟩

theorem string_of {B bb : Nat} {x : ByteArray} {w : World} (h : IsB B bb x w) (hB : B ≤ w.heap.size) :
    Calls Tryd.prog 36 #[.pointer (some ⟨bb, 0, none⟩)] w fun e w' => e = .returned (.string x) ∧ Below B w w' := by
  have := Tryd.Builder_String_any B bb x.data.toList w h hB
  exact this
theorem grow_fresh (w : World) (n : Nat) (hn : n ≤ 1048576) :
    Calls Tryd.prog 34 #[.pointer (some ⟨w.heap.size, 0, none⟩), .int .i64 n] (w.alloc (.cells #[.pointer none, .slice none 0 0] 72)) fun e w' => e = .returned (.tuple #[]) ∧ IsB w.heap.size w.heap.size ⟨#[]⟩ w' ∧ Below w.heap.size w w' := by
  refine (Tryd.Builder_Grow_fresh w.heap.size w.heap.size n _ (Nat.le_refl _) (Go.heap_alloc_new _ _) (Below.size (Up.alloc _ _)) (by omega)).mono ?_
  rintro e w' ⟨rfl, h1, h2⟩
  exact ⟨rfl, .inr h1, Below.trans (Up.alloc w _) h2⟩

set_option maxRecDepth 100000 in
set_option maxHeartbeats 1000000 in
theorem slice_walk {rb f u n m : Nat} {v : Value} {x : ByteArray} (w : World) (hL : Calls Tryd.prog 17 #[.pointer (some ⟨rb, 0, none⟩)] w fun e w' => e = .returned (.int .i64 (n : Nat)) ∧ Up w w')
    (c0 : w.cell? ⟨rb, 0, none⟩ = some v) (l0 : rb < w.heap.size) (hfu : f ≤ u) (hun : u ≤ n) (hn : n ≤ 1048576) (hm : m = u - f)
    (hW : ∀ w1 W bb, Up w w1 → Below w1.heap.size w1 W → IsB w1.heap.size bb ⟨#[]⟩ W → Calls Tryd.prog 35 #[v, .pointer (some ⟨bb, 0, none⟩), .int .i64 (f : Nat), .int .i64 (u : Nat)] W (WrPost w1.heap.size bb x W)) :
    Calls Tryd.prog 19 #[.pointer (some ⟨rb, 0, none⟩), .int .i64 (f : Nat), .int .i64 (u : Nat)] w fun e' w' => e' = .returned (.tuple #[.string x, .int .i64 0]) ∧ Up w w' := by
  have HL := Lib.hid hL
  have HW := Lib.hid hW
  have f0 : decide ((f : Int) < 0) = false := decide_eq_false (by omega)
  have f1 : decide (n < u) = false := decide_eq_false (by omega)
  have f2 : decide (u < f) = false := decide_eq_false (by omega)
  have f3 : IntKind.i64.wrap ((u : Int) - f) = (m : Nat) := (IntWalk.i64_in _ (by omega)).trans (by omega)
  have HM := Lib.hid (show m ≤ 1048576 by omega)
  clear hL hW hfu hun hn hm
  go_enter Tryd.func19, Tryd.ntmps19
  go_wp2_with (first | (go_at_call 17; ((with_reducible refine HL.out.mono ?_); rintro e' w1 ⟨rfl, hu1⟩; have c1 := cell_up hu1 c0; have l1 := Nat.lt_of_lt_of_le l0 hu1.size; clear c0)) | (go_at_call 34; ((with_reducible refine (grow_fresh _ m HM.out).mono ?_); rintro e' w2 ⟨rfl, hb2, hu2⟩; have HB2 := Lib.hid hb2; clear hb2; have c2 := cell_up hu2 c1)) | (go_at_call 35; ((with_reducible refine (HW.out _ _ _ hu1 hu2 HB2.out).mono ?_); rintro e' w3 ⟨rfl, hb3, hu3⟩; have HB3 := Lib.hid hb3; clear hb3)) | (go_at_call 36; ((with_reducible refine (string_of HB3.out (Nat.le_trans hu2.size hu3.size)).mono ?_); rintro e' w4 ⟨rfl, hu4⟩)))
  go_ret2
  exact ⟨rfl, hu1.trans (Below.trans hu2 (Below.trans hu3 hu4))⟩

theorem slice_in {w : World} {rb : Nat} {s : ByteArray} (hr : RopeIs w rb s) (f u : Nat) (hfu : f ≤ u) (hus : u ≤ s.size) : Calls Tryd.prog 19 #[.pointer (some ⟨rb, 0, none⟩), .int .i64 (f : Nat), .int .i64 (u : Nat)] w fun e' w' => e' = .returned (.tuple #[.string (s.extract f u), .int .i64 0]) ∧ Up w w' := by
  have hL := rope_len_any hr
  obtain ⟨v, o, h1, h2, h3, h4, h5⟩ := hr
  refine slice_walk w hL (cellOf h1 rfl) (Array.getElem?_eq_some_iff.1 h1).1 hfu hus (by omega) rfl ?_
  intro w1 W bb hu1 hB hi
  cases o with
  | none =>
    obtain rfl : v = .pointer none := h2
    obtain rfl : (⟨#[]⟩ : ByteArray) = s := h4
    refine (write_nil _ _ _ W).mono ?_
    rintro e w' ⟨rfl, rfl⟩
    have e : (⟨#[]⟩ : ByteArray).extract f u = ⟨#[]⟩ := by
      have hz : u ≤ 0 := hus
      obtain rfl : u = 0 := by omega
      obtain rfl : f = 0 := by omega
      exact extract_none _ (Nat.le_refl 0)
    exact ⟨rfl, by rw [e]; exact hi, Below.refl _ _⟩
  | some t =>
    obtain ⟨b, rfl, n⟩ := h2
    obtain rfl : t.text = s := h4
    have hs : sl t.text f u = t.text.extract f u := by
      unfold sl
      congr 1 <;> omega
    have := write_any t w1.heap.size b bb ⟨#[]⟩ f u W (NodeIn.keep hB (Nat.le_refl _) (n.up hu1)) hB.size hi (by omega) (by omega) (by omega) (by omega) (by have : (⟨#[]⟩ : ByteArray).size = 0 := rfl; omega)
    rw [empty_append', hs] at this
    exact this

set_option maxRecDepth 100000 in
set_option maxHeartbeats 400000 in
theorem text_of {v : Value} {n : Int} {s : ByteArray} {r : Int} (w : World) (hL : Calls Tryd.prog 17 #[v] w fun e w' => e = .returned (.int .i64 n) ∧ Up w w')
    (hS : ∀ W, Up w W → Calls Tryd.prog 19 #[v, .int .i64 0, .int .i64 n] W fun e' w' => e' = .returned (.tuple #[.string s, .int .i64 r]) ∧ Up W w') :
    Calls Tryd.prog 16 #[v] w fun e' w' => e' = .returned (.string s) ∧ Up w w' := by
  have HL := Lib.hid hL
  have HS := Lib.hid hS
  clear hL hS
  go_enter Tryd.func16, Tryd.ntmps16
  go_wp2_with (first | (go_at_call 17; ((with_reducible refine HL.out.mono ?_); rintro e' w1 ⟨rfl, hu1⟩)) | (go_at_call 19; ((with_reducible refine (HS.out _ hu1).mono ?_); rintro e' w2 ⟨rfl, hu2⟩)))
  go_ret
  exact ⟨rfl, hu1.trans hu2⟩
theorem text_any {w : World} {rb : Nat} {s : ByteArray} (hr : RopeIs w rb s) : Calls Tryd.prog 16 #[.pointer (some ⟨rb, 0, none⟩)] w fun e' w' => e' = .returned (.string s) ∧ Up w w' :=
  text_of (r := 0) w (rope_len_any hr) fun W hu => by
    have := slice_in (hr.up hu) 0 s.size (Nat.zero_le _) (Nat.le_refl _)
    rw [extract_all _ (Nat.le_refl _)] at this
    exact this
theorem text_none (w : World) : Calls Tryd.prog 16 #[.pointer none] w fun e' w' => e' = .returned (.string ⟨#[]⟩) ∧ Up w w' :=
  text_of (n := 0) (r := 8) w (len_of w (counted_none w)) fun W _ => (slice_none 0 0 W).mono fun _ _ h => ⟨h.1, h.2 ▸ Up.refl _⟩
end Go.Proofs.YtcbmigkdmmmahaaDoor
