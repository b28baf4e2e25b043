/- The rope's own calls: what they tell of the text that it has. -/
import Derived.Test.YtcbmigkdmmmahaaDoorWriteAny
import Derived.Test.YtcbmigkdmmmahaaDoorDown2
namespace Go.Proofs.YtcbmigkdmmmahaaDoor
open Go.RowKit

/-- A rope of the text s lies at block rb. -/
def RopeIs (w : World) (rb : Nat) (s : ByteArray) : Prop := ∃ v o, w.heap[rb]? = some (.cells #[v] 56) ∧ Ptr w v o ∧ OkO o ∧ otext o = s ∧ (s.size : Int) ≤ 1048576
theorem RopeIs.up {w w' : World} {rb : Nat} {s : ByteArray} (h : RopeIs w rb s) (hu : Up w w') : RopeIs w' rb s := by
  obtain ⟨v, o, h1, h2, h3, h4, h5⟩ := h
  exact ⟨v, o, (Below.block hu rb (Array.getElem?_eq_some_iff.1 h1).1).trans h1, h2.up hu, h3, h4, h5⟩
theorem RopeIs.size {w : World} {rb : Nat} {s : ByteArray} (h : RopeIs w rb s) : (s.size : Int) ≤ 1048576 := by obtain ⟨_, _, _, _, _, _, h5⟩ := h; exact h5
theorem cv_empty : cv ⟨#[]⟩ = .agg #[.int .i64 0, .int .i64 0, .int .i64 0, .string ⟨#[]⟩, .string ⟨#[]⟩] := by
  have h1 : nl ⟨#[]⟩ = 0 := rfl
  have h2 : countS ⟨#[]⟩ = 0 := by unfold countS; rw [stepsFrom_nil (Nat.not_lt_zero _)]; rfl
  have h3 : hd ⟨#[]⟩ = ⟨#[]⟩ := by unfold hd; exact extract_none _ (by decide)
  have h4 : tl ⟨#[]⟩ = ⟨#[]⟩ := by unfold tl; exact extract_none _ (by decide)
  unfold cv
  rw [h1, h2, h3, h4]
  rfl

set_option maxRecDepth 100000 in
set_option maxHeartbeats 1000000 in
theorem counted_none (w : World) :
    Calls Tryd.prog 29 #[.pointer none] w fun e w' => e = .returned (.agg #[.int .i64 0, .int .i64 0, .int .i64 0, .string ⟨#[]⟩, .string ⟨#[]⟩]) ∧ Up w w' := by
  go_enter Tryd.func29, Tryd.ntmps29
  go_wp2
  exact bodyPost_ret (v := .agg #[.int .i64 0, .int .i64 0, .int .i64 0, .string ⟨#[]⟩, .string ⟨#[]⟩]) (by simp [results, Tryd.results29, go_sem]) rfl ⟨rfl, (Up.alloc _ _).trans (Up.refl _)⟩
set_option maxRecDepth 100000 in
set_option maxHeartbeats 1000000 in
theorem counted_nil (w : World) (rb : Nat) (h0 : w.cell? ⟨rb, 0, none⟩ = some (.pointer none)) (l0 : rb < w.heap.size) :
    Calls Tryd.prog 29 #[.pointer (some ⟨rb, 0, none⟩)] w fun e w' => e = .returned (.agg #[.int .i64 0, .int .i64 0, .int .i64 0, .string ⟨#[]⟩, .string ⟨#[]⟩]) ∧ Up w w' := by
  go_enter Tryd.func29, Tryd.ntmps29
  go_wp2
  exact bodyPost_ret (v := .agg #[.int .i64 0, .int .i64 0, .int .i64 0, .string ⟨#[]⟩, .string ⟨#[]⟩]) (by simp [results, Tryd.results29, go_sem]) rfl ⟨rfl, (Up.alloc _ _).trans (Up.refl _)⟩
set_option maxRecDepth 100000 in
set_option maxHeartbeats 1000000 in
theorem counted_some (w : World) (b : Nat) (bytes ends steps : Int) (h t : ByteArray) (rb : Nat) (h0 : w.cell? ⟨rb, 0, none⟩ = some (.pointer (some ⟨b, 0, none⟩)))
   (c0 : w.cell? ⟨b, 0, none⟩ = some (.int .i64 bytes)) (c1 : w.cell? ⟨b, 1, none⟩ = some (.int .i64 ends)) (c2 : w.cell? ⟨b, 2, none⟩ = some (.int .i64 steps)) (c3 : w.cell? ⟨b, 3, none⟩ = some (.string h)) (c4 : w.cell? ⟨b, 4, none⟩ = some (.string t)) (l0 : rb < w.heap.size) (l1 : b < w.heap.size) :
    Calls Tryd.prog 29 #[.pointer (some ⟨rb, 0, none⟩)] w fun e w' => e = .returned (.agg #[.int .i64 bytes, .int .i64 ends, .int .i64 steps, .string h, .string t]) ∧ Up w w' := by
  go_enter Tryd.func29, Tryd.ntmps29
  go_wp2
  exact bodyPost_ret (v := .agg #[.int .i64 bytes, .int .i64 ends, .int .i64 steps, .string h, .string t]) (by simp [results, Tryd.results29, go_sem]) rfl ⟨rfl, (Up.alloc _ _).trans (Up.refl _)⟩
theorem counted_any {w : World} {rb : Nat} {s : ByteArray} (hr : RopeIs w rb s) :
    Calls Tryd.prog 29 #[.pointer (some ⟨rb, 0, none⟩)] w fun e w' => e = .returned (cv s) ∧ Up w w' := by
  obtain ⟨v, o, h1, h2, h3, h4, h5⟩ := hr
  have l0 := (Array.getElem?_eq_some_iff.1 h1).1
  cases o with
  | none =>
    obtain rfl : v = .pointer none := h2
    obtain rfl : (⟨#[]⟩ : ByteArray) = s := h4
    rw [cv_empty]
    exact counted_nil w rb (cellOf h1 rfl) l0
  | some t =>
    obtain ⟨b, rfl, n⟩ := h2
    obtain rfl : t.text = s := h4
    obtain ⟨l, r, c⟩ := node_cell n
    exact counted_some w b _ _ _ _ _ rb (cellOf h1 rfl) (cellOf c rfl) (cellOf c rfl) (cellOf c rfl) (cellOf c rfl) (cellOf c rfl) l0 n.lt

/-- What is told of one number out of what is counted. -/
theorem cv_hid (s : ByteArray) : ∃ n e k h t, cv s = .agg #[.int .i64 n, .int .i64 e, .int .i64 k, .string h, .string t] ∧ n = (s.size : Int) ∧ e = (nl s : Int) ∧ k = (countS s : Int) := ⟨_, _, _, _, _, rfl, rfl, rfl, rfl⟩

set_option maxRecDepth 100000 in
set_option maxHeartbeats 400000 in
theorem len_of {v : Value} {n e k : Int} {h t : ByteArray} (w : World) (hc : Calls Tryd.prog 29 #[v] w fun e' w' => e' = .returned (.agg #[.int .i64 n, .int .i64 e, .int .i64 k, .string h, .string t]) ∧ Up w w') :
    Calls Tryd.prog 17 #[v] w fun e' w' => e' = .returned (.int .i64 n) ∧ Up w w' := by
  have H := Lib.hid hc
  clear hc
  have hfd : ∀ w : World, (Instr.field 63 (.agg #[.int .i64 n, .int .i64 e, .int .i64 k, .string h, .string t]) 0).run Tryd.prog w = .ok (.int .i64 n) w := fun _ => by kernel_rfl
  go_enter Tryd.func17, Tryd.ntmps17
  go_wp2_with (go_at_call 29; refine H.out.mono ?_; rintro e' w' ⟨rfl, hu⟩)
  go_ret
  exact ⟨rfl, hu⟩
set_option maxRecDepth 100000 in
set_option maxHeartbeats 400000 in
theorem steps_of {v : Value} {n e k : Int} {h t : ByteArray} (w : World) (hc : Calls Tryd.prog 29 #[v] w fun e' w' => e' = .returned (.agg #[.int .i64 n, .int .i64 e, .int .i64 k, .string h, .string t]) ∧ Up w w') :
    Calls Tryd.prog 12 #[v] w fun e' w' => e' = .returned (.int .i64 k) ∧ Up w w' := by
  have H := Lib.hid hc
  clear hc
  have hfd : ∀ w : World, (Instr.field 63 (.agg #[.int .i64 n, .int .i64 e, .int .i64 k, .string h, .string t]) 2).run Tryd.prog w = .ok (.int .i64 k) w := fun _ => by kernel_rfl
  go_enter Tryd.func12, Tryd.ntmps12
  go_wp2_with (go_at_call 29; refine H.out.mono ?_; rintro e' w' ⟨rfl, hu⟩)
  go_ret
  exact ⟨rfl, hu⟩
set_option maxRecDepth 100000 in
set_option maxHeartbeats 400000 in
theorem lines_of {rb : Nat} {n e k : Int} {h t : ByteArray} (w : World) (he : 0 ≤ e) (he2 : e ≤ 1048576) (hc : Calls Tryd.prog 29 #[.pointer (some ⟨rb, 0, none⟩)] w fun e' w' => e' = .returned (.agg #[.int .i64 n, .int .i64 e, .int .i64 k, .string h, .string t]) ∧ Up w w') :
    Calls Tryd.prog 22 #[.pointer (some ⟨rb, 0, none⟩)] w fun e' w' => e' = .returned (.int .i64 (e + 1)) ∧ Up w w' := by
  have H := Lib.hid hc
  clear hc
  have hfd : ∀ w : World, (Instr.field 63 (.agg #[.int .i64 n, .int .i64 e, .int .i64 k, .string h, .string t]) 1).run Tryd.prog w = .ok (.int .i64 e) w := fun _ => by kernel_rfl
  go_enter Tryd.func22, Tryd.ntmps22
  go_wp2_with (go_at_call 29; refine H.out.mono ?_; rintro e' w' ⟨rfl, hu⟩)
  go_ret
  exact ⟨rfl, hu⟩
set_option maxRecDepth 100000 in
set_option maxHeartbeats 400000 in
theorem lines_none (w : World) : Calls Tryd.prog 22 #[.pointer none] w fun e' w' => e' = .returned (.int .i64 0) ∧ w = w' := by
  go_enter Tryd.func22, Tryd.ntmps22
  go_wp2
  go_ret
  exact ⟨rfl, rfl⟩

theorem rope_len_any {w : World} {rb : Nat} {s : ByteArray} (hr : RopeIs w rb s) : Calls Tryd.prog 17 #[.pointer (some ⟨rb, 0, none⟩)] w fun e w' => e = .returned (.int .i64 (s.size : Nat)) ∧ Up w w' := len_of w (counted_any hr)
theorem rope_steps_any {w : World} {rb : Nat} {s : ByteArray} (hr : RopeIs w rb s) : Calls Tryd.prog 12 #[.pointer (some ⟨rb, 0, none⟩)] w fun e w' => e = .returned (.int .i64 (countS s : Nat)) ∧ Up w w' := steps_of w (counted_any hr)
theorem rope_lines_any {w : World} {rb : Nat} {s : ByteArray} (hr : RopeIs w rb s) : Calls Tryd.prog 22 #[.pointer (some ⟨rb, 0, none⟩)] w fun e w' => e = .returned (.int .i64 ((nl s : Int) + 1)) ∧ Up w w' :=
  lines_of w (by omega) (by have := nl_le s; have := hr.size; omega) (counted_any hr)

/-! ### Depth -/
set_option maxRecDepth 100000 in
set_option maxHeartbeats 400000 in
theorem depth_none (w : World) : Calls Tryd.prog 23 #[.pointer none] w fun e' w' => e' = .returned (.int .i64 0) ∧ w = w' := by
  go_enter Tryd.func23, Tryd.ntmps23
  go_wp2
  go_ret
  exact ⟨rfl, rfl⟩
set_option maxRecDepth 100000 in
set_option maxHeartbeats 400000 in
theorem depth_nil (w : World) (rb : Nat) (h0 : w.cell? ⟨rb, 0, none⟩ = some (.pointer none)) : Calls Tryd.prog 23 #[.pointer (some ⟨rb, 0, none⟩)] w fun e' w' => e' = .returned (.int .i64 0) ∧ w = w' := by
  go_enter Tryd.func23, Tryd.ntmps23
  go_wp2
  go_ret
  exact ⟨rfl, rfl⟩
set_option maxRecDepth 100000 in
set_option maxHeartbeats 400000 in
theorem depth_some (w : World) (rb b d : Nat) (h0 : w.cell? ⟨rb, 0, none⟩ = some (.pointer (some ⟨b, 0, none⟩))) (c5 : w.cell? ⟨b, 5, none⟩ = some (.int .i64 (d : Nat))) : Calls Tryd.prog 23 #[.pointer (some ⟨rb, 0, none⟩)] w fun e' w' => e' = .returned (.int .i64 (d : Nat)) ∧ w = w' := by
  go_enter Tryd.func23, Tryd.ntmps23
  go_wp2
  go_ret
  exact ⟨rfl, rfl⟩
def odp : Option T → Nat
  | none => 0
  | some t => t.dp
/-- How deep a rope of n bytes may be. -/
def DepthOk (n d : Nat) : Prop := d = 0 ∧ n = 0 ∨ d = 1 ∧ 1 ≤ n ∨ 256 * 2 ^ (d / 2) ≤ n
theorem depthOk {o : Option T} (h : OkO o) : DepthOk (otext o).size (odp o) := by
  cases o with
  | none => exact .inl ⟨rfl, rfl⟩
  | some t =>
    cases t with
    | leaf s => exact .inr (.inl ⟨rfl, h.1⟩)
    | node l r => exact .inr (.inr (leaves_dp (t := .node l r) h))
theorem depth_any {w : World} {rb : Nat} {s : ByteArray} (hr : RopeIs w rb s) : Calls Tryd.prog 23 #[.pointer (some ⟨rb, 0, none⟩)] w fun e w' => ∃ d : Nat, DepthOk s.size d ∧ e = .returned (.int .i64 (d : Nat)) ∧ w = w' := by
  obtain ⟨v, o, h1, h2, h3, h4, h5⟩ := hr
  have hd := depthOk h3
  rw [h4] at hd
  cases o with
  | none =>
    obtain rfl : v = .pointer none := h2
    exact (depth_nil w rb (cellOf h1 rfl)).mono fun e w' h => ⟨0, hd, h⟩
  | some t =>
    obtain ⟨b, rfl, n⟩ := h2
    exact (depth_some w rb b t.dp (cellOf h1 rfl) n.dpth).mono fun e w' h => ⟨t.dp, hd, h⟩

/-! ### Byte, Find -/
set_option maxRecDepth 100000 in
set_option maxHeartbeats 400000 in
theorem byte_none (i : Int) (w : World) : Calls Tryd.prog 18 #[.pointer none, .int .i64 i] w fun e' w' => e' = .returned (.tuple #[.int .u8 0, .int .i64 8]) ∧ w = w' := by
  go_enter Tryd.func18, Tryd.ntmps18
  go_wp2
  go_ret2
  exact ⟨rfl, rfl⟩
set_option maxRecDepth 100000 in
set_option maxHeartbeats 400000 in
theorem byte_out {w : World} {rb : Nat} {s : ByteArray} (hr : RopeIs w rb s) (i : Int) (hi : ¬ (0 ≤ i ∧ i < s.size)) : Calls Tryd.prog 18 #[.pointer (some ⟨rb, 0, none⟩), .int .i64 i] w fun e' w' => e' = .returned (.tuple #[.int .u8 0, .int .i64 5]) ∧ Up w w' := by
  have HL := Lib.hid (Go.Proofs.YtcbmigkdmmmahaaDoor.rope_len_any hr)
  clear hr
  by_cases h0 : 0 ≤ i
  · have h1 : (s.size : Int) ≤ i := by omega
    have f0 : decide (i < 0) = false := decide_eq_false (by omega)
    clear hi
    go_enter Tryd.func18, Tryd.ntmps18
    go_wp2_with (go_at_call 17; refine HL.out.mono ?_; rintro e' w' ⟨rfl, hu⟩)
    go_ret2
    exact ⟨rfl, hu⟩
  · have h1 : i < 0 := by omega
    clear hi h0
    go_enter Tryd.func18, Tryd.ntmps18
    go_wp2
    go_ret2
    exact ⟨rfl, Up.refl _⟩
set_option maxRecDepth 100000 in
set_option maxHeartbeats 400000 in
theorem byte_in {w : World} {rb : Nat} {s : ByteArray} (hr : RopeIs w rb s) (i : Nat) (hi : i < s.size) : Calls Tryd.prog 18 #[.pointer (some ⟨rb, 0, none⟩), .int .i64 (i : Nat)] w fun e' w' => e' = .returned (.tuple #[.int .u8 (bt s i : Nat), .int .i64 0]) ∧ Up w w' := by
  have HL := Lib.hid (Go.Proofs.YtcbmigkdmmmahaaDoor.rope_len_any hr)
  obtain ⟨v, o, h1, h2, h3, h4, h5⟩ := hr
  cases o with
  | none => obtain rfl : (⟨#[]⟩ : ByteArray) = s := h4; exact absurd hi (Nat.not_lt_zero _)
  | some t =>
    obtain ⟨b, rfl, n⟩ := h2
    obtain rfl : t.text = s := h4
    have HA := Lib.hid (fun W (hu : Up w W) => byteAt_any t b i W (n.up hu) hi h5)
    have c0 : w.cell? ⟨rb, 0, none⟩ = some (.pointer (some ⟨b, 0, none⟩)) := cellOf h1 rfl
    have f0 : decide ((i : Int) < 0) = false := by simp
    have hi2 : (i : Int) < t.text.size := by omega
    clear h1 h3 h5 n hi
    go_enter Tryd.func18, Tryd.ntmps18
    go_wp2_with (first | (go_at_call 17; ((with_reducible refine HL.out.mono ?_); rintro e' w1 ⟨rfl, hu⟩; have c0' := cell_up hu c0)) | (go_at_call 33; ((with_reducible refine (HA.out _ hu).mono ?_); rintro e' w2 ⟨rfl, rfl⟩)))
    go_ret2
    exact ⟨rfl, hu⟩
set_option maxRecDepth 100000 in
set_option maxHeartbeats 400000 in
theorem find_none (i : Int) (w : World) : Calls Tryd.prog 21 #[.pointer none, .int .i64 i] w fun e' w' => e' = .returned (.tuple #[.int .i64 0, .int .i64 8]) ∧ w = w' := by
  go_enter Tryd.func21, Tryd.ntmps21
  go_wp2
  go_ret2
  exact ⟨rfl, rfl⟩
set_option maxRecDepth 100000 in
set_option maxHeartbeats 400000 in
theorem find_out {w : World} {rb : Nat} {s : ByteArray} (hr : RopeIs w rb s) (i : Int) (hi : ¬ (0 ≤ i ∧ i ≤ s.size)) : Calls Tryd.prog 21 #[.pointer (some ⟨rb, 0, none⟩), .int .i64 i] w fun e' w' => e' = .returned (.tuple #[.int .i64 0, .int .i64 5]) ∧ Up w w' := by
  have HL := Lib.hid (Go.Proofs.YtcbmigkdmmmahaaDoor.rope_len_any hr)
  clear hr
  by_cases h0 : 0 ≤ i
  · have h1 : (s.size : Int) < i := by omega
    have f0 : decide (i < 0) = false := decide_eq_false (by omega)
    clear hi
    go_enter Tryd.func21, Tryd.ntmps21
    go_wp2_with (go_at_call 17; refine HL.out.mono ?_; rintro e' w' ⟨rfl, hu⟩)
    go_ret2
    exact ⟨rfl, hu⟩
  · have h1 : i < 0 := by omega
    clear hi h0
    go_enter Tryd.func21, Tryd.ntmps21
    go_wp2
    go_ret2
    exact ⟨rfl, Up.refl _⟩
set_option maxRecDepth 100000 in
set_option maxHeartbeats 400000 in
theorem find_in {w : World} {rb : Nat} {s : ByteArray} (hr : RopeIs w rb s) (i : Nat) (hi : i ≤ s.size) : Calls Tryd.prog 21 #[.pointer (some ⟨rb, 0, none⟩), .int .i64 (i : Nat)] w fun e' w' => e' = .returned (.tuple #[.int .i64 (na s i : Nat), .int .i64 0]) ∧ Up w w' := by
  have HL := Lib.hid (Go.Proofs.YtcbmigkdmmmahaaDoor.rope_len_any hr)
  obtain ⟨v, o, h1, h2, h3, h4, h5⟩ := hr
  have HA : Hid (∀ W, Up w W → Calls Tryd.prog 38 #[v, .int .i64 (i : Nat)] W fun e w' => e = .returned (.int .i64 (na s i : Nat)) ∧ W = w') := by
    refine Lib.hid fun W hu => ?_
    cases o with
    | none =>
      obtain rfl : v = .pointer none := h2
      obtain rfl : (⟨#[]⟩ : ByteArray) = s := h4
      have : i = 0 := Nat.le_zero.1 hi
      subst this
      rw [na_zero]
      exact endsAhead_nil _ W
    | some t =>
      obtain ⟨b, rfl, n⟩ := h2
      obtain rfl : t.text = s := h4
      exact endsAhead_any t b i W (n.up hu) hi h5
  have c0 : w.cell? ⟨rb, 0, none⟩ = some v := cellOf h1 rfl
  have f0 : decide ((i : Int) < 0) = false := by simp
  have hi2 : (i : Int) ≤ s.size := by omega
  clear h1 h2 h3 h5 hi h4
  go_enter Tryd.func21, Tryd.ntmps21
  go_wp2_with (first | (go_at_call 17; ((with_reducible refine HL.out.mono ?_); rintro e' w1 ⟨rfl, hu⟩; have c0' := cell_up hu c0)) | (go_at_call 38; ((with_reducible refine (HA.out _ hu).mono ?_); rintro e' w2 ⟨rfl, rfl⟩)))
  go_ret2
  exact ⟨rfl, hu⟩
end Go.Proofs.YtcbmigkdmmmahaaDoor
