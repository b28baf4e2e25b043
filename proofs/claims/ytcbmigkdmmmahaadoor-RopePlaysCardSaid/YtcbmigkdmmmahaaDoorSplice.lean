/- Ropes made: of a text, and of a rope and an edit. -/
import Derived.Test.YtcbmigkdmmmahaaDoorSlice
namespace Go.Proofs.YtcbmigkdmmmahaaDoor
open Go.RowKit

/-- What a call says that makes a rope of the text s. -/
def RopePost (s : ByteArray) (w : World) (e : Ending) (w' : World) : Prop := ∃ rb, e = .returned (.pointer (some ⟨rb, 0, none⟩)) ∧ RopeIs w' rb s ∧ Up w w'
theorem rope_new {w : World} {v : Value} {o : Option T} {s : ByteArray} (hp : Ptr w v o) (hk : OkO o) (ht : otext o = s) (hs : (s.size : Int) ≤ 1048576) : RopeIs (w.alloc (.cells #[v] 56)) w.heap.size s :=
  ⟨v, o, Go.heap_alloc_new _ _, hp.up (Up.alloc _ _), hk, ht, hs⟩
theorem Ptr.ptr {w : World} {v : Value} {o : Option T} (h : Ptr w v o) : ∃ q, v = .pointer q := by
  cases o with
  | none => exact ⟨none, h⟩
  | some t => obtain ⟨b, e, _⟩ := h; exact ⟨_, e⟩
theorem grow_o (s : ByteArray) (hs : (s.size : Int) ≤ 1048576) (w : World) (hT : Tabs w) : Calls Tryd.prog 24 #[.string s] w (PtrPost s w) := by
  refine (grow_any s hs w hT).mono ?_
  rintro e w' ⟨h0, h1⟩
  by_cases hz : s.size = 0
  · obtain ⟨rfl, hu⟩ := h0 hz
    refine ⟨_, none, rfl, rfl, trivial, ?_, hu⟩
    exact (ext_bt hz.symm fun k hk => absurd hk (Nat.not_lt_zero _))
  · obtain ⟨t, hg, b, rfl, hn, hu⟩ := h1 (by omega)
    exact ⟨_, some t, rfl, ⟨b, rfl, hn⟩, hg.1, hg.2.1, hu⟩

set_option maxRecDepth 100000 in
set_option maxHeartbeats 400000 in
theorem of_long (s : ByteArray) (hs : 1048576 < (s.size : Int)) (w : World) : Calls Tryd.prog 9 #[.string s] w fun e w' => e = .returned (.pointer none) ∧ w = w' := by
  go_enter Tryd.func9, Tryd.ntmps9
  go_wp2
  go_ret
  exact ⟨rfl, rfl⟩
set_option maxRecDepth 100000 in
set_option maxHeartbeats 400000 in
theorem of_any (s : ByteArray) (hs : (s.size : Int) ≤ 1048576) (w : World) (hT : Tabs w) : Calls Tryd.prog 9 #[.string s] w (RopePost s w) := by
  have HG := Lib.hid (grow_o s hs w hT)
  have HS := Lib.hid hs
  have f0 : decide (1048576 < (s.size : Int)) = false := decide_eq_false (by omega)
  clear hs hT
  go_enter Tryd.func9, Tryd.ntmps9
  go_wp2_with (go_at_call 24; ((with_reducible refine HG.out.mono ?_); rintro e w1 ⟨v, o, rfl, p1, k1, x1, hu1⟩; have HX := Lib.hid x1; clear x1; obtain ⟨q, rfl⟩ := p1.ptr))
  go_ret
  exact ⟨_, rfl, rope_new p1 k1 HX.out HS.out, hu1.trans (Up.alloc _ _)⟩

/-! ### Splice -/
set_option maxRecDepth 100000 in
set_option maxHeartbeats 400000 in
theorem splice_none (p d : Int) (i : ByteArray) (w : World) : Calls Tryd.prog 14 #[.pointer none, .agg #[.int .i64 p, .int .i64 d, .string i]] w fun e w' => e = .returned (.tuple #[.pointer none, .int .i64 8]) ∧ Up w w' := by
  go_enter Tryd.func14, Tryd.ntmps14
  go_wp2
  go_ret2
  exact ⟨rfl, Up.alloc _ _⟩

theorem edit_cells (w : World) (p d : Int) (i : ByteArray) : (w.alloc (.cells #[.int .i64 p, .int .i64 d, .string i] 31)).cell? ⟨w.heap.size, 0, none⟩ = some (.int .i64 p) ∧ (w.alloc (.cells #[.int .i64 p, .int .i64 d, .string i] 31)).cell? ⟨w.heap.size, 1, none⟩ = some (.int .i64 d) ∧ (w.alloc (.cells #[.int .i64 p, .int .i64 d, .string i] 31)).cell? ⟨w.heap.size, 2, none⟩ = some (.string i) :=
  ⟨cellOf (Go.heap_alloc_new _ _) rfl, cellOf (Go.heap_alloc_new _ _) rfl, cellOf (Go.heap_alloc_new _ _) rfl⟩

set_option maxRecDepth 100000 in
set_option maxHeartbeats 1000000 in
theorem splice_out {w : World} {rb : Nat} {s : ByteArray} (hr : RopeIs w rb s) (p d : Int) (i : ByteArray) (h : ¬ (0 ≤ p ∧ 0 ≤ d ∧ p + d ≤ s.size)) : Calls Tryd.prog 14 #[.pointer (some ⟨rb, 0, none⟩), .agg #[.int .i64 p, .int .i64 d, .string i]] w fun e w' => e = .returned (.tuple #[.pointer none, .int .i64 5]) ∧ Up w w' := by
  have hz := hr.size
  have HL := Lib.hid (Go.Proofs.YtcbmigkdmmmahaaDoor.rope_len_any (hr.up (Up.alloc w (.cells #[.int .i64 p, .int .i64 d, .string i] 31))))
  obtain ⟨b0, b1, b2⟩ := edit_cells w p d i
  have HE := Lib.hid (Up.alloc w (.cells #[.int .i64 p, .int .i64 d, .string i] 31))
  clear hr
  by_cases h0 : p < 0
  · clear h hz
    go_enter Tryd.func14, Tryd.ntmps14
    go_wp2_with (go_at_call 17; ((with_reducible refine HL.out.mono ?_); rintro e' w1 ⟨rfl, hu1⟩; have c0 := cell_up hu1 b0))
    go_ret2
    exact ⟨rfl, HE.out.trans hu1⟩
  have f0 : decide (p < 0) = false := decide_eq_false h0
  by_cases h1 : d < 0
  · clear h hz
    go_enter Tryd.func14, Tryd.ntmps14
    go_wp2_with (go_at_call 17; ((with_reducible refine HL.out.mono ?_); rintro e' w1 ⟨rfl, hu1⟩; have c0 := cell_up hu1 b0; have c1 := cell_up hu1 b1))
    go_ret2
    exact ⟨rfl, HE.out.trans hu1⟩
  have f1 : decide (d < 0) = false := decide_eq_false h1
  by_cases h2 : (s.size : Int) < p
  · clear h hz h0 h1
    go_enter Tryd.func14, Tryd.ntmps14
    go_wp2_with (go_at_call 17; ((with_reducible refine HL.out.mono ?_); rintro e' w1 ⟨rfl, hu1⟩; have c0 := cell_up hu1 b0; have c1 := cell_up hu1 b1))
    go_ret2
    exact ⟨rfl, HE.out.trans hu1⟩
  have f2 : decide ((s.size : Int) < p) = false := decide_eq_false h2
  have h3 : (s.size : Int) - p < d := by omega
  have e1 : IntKind.i64.wrap ((s.size : Int) - p) = (s.size : Int) - p := IntWalk.i64_in _ (by omega)
  clear h hz h0 h1 h2
  go_enter Tryd.func14, Tryd.ntmps14
  go_wp2_with (go_at_call 17; ((with_reducible refine HL.out.mono ?_); rintro e' w1 ⟨rfl, hu1⟩; have c0 := cell_up hu1 b0; have c1 := cell_up hu1 b1))
  go_ret2
  exact ⟨rfl, HE.out.trans hu1⟩

set_option maxRecDepth 100000 in
set_option maxHeartbeats 1000000 in
theorem splice_long {w : World} {rb : Nat} {s : ByteArray} (hr : RopeIs w rb s) (p d : Nat) (i : ByteArray) (h : p + d ≤ s.size) (hl : (1048576 : Int) < (s.size : Int) - d + i.size) : Calls Tryd.prog 14 #[.pointer (some ⟨rb, 0, none⟩), .agg #[.int .i64 (p : Nat), .int .i64 (d : Nat), .string i]] w fun e w' => e = .returned (.tuple #[.pointer none, .int .i64 2]) ∧ Up w w' := by
  have hz := hr.size
  have HL := Lib.hid (Go.Proofs.YtcbmigkdmmmahaaDoor.rope_len_any (hr.up (Up.alloc w (.cells #[.int .i64 (p : Nat), .int .i64 (d : Nat), .string i] 31))))
  obtain ⟨b0, b1, b2⟩ := edit_cells w (p : Nat) (d : Nat) i
  have HE := Lib.hid (Up.alloc w (.cells #[.int .i64 (p : Nat), .int .i64 (d : Nat), .string i] 31))
  clear hr
  have f0 : decide ((p : Int) < 0) = false := decide_eq_false (by omega)
  have f1 : decide ((d : Int) < 0) = false := decide_eq_false (by omega)
  have f2 : decide (s.size < p) = false := decide_eq_false (by omega)
  have e1 : IntKind.i64.wrap ((s.size : Int) - (p : Nat)) = ((s.size - p : Nat) : Int) := (IntWalk.i64_in _ (by omega)).trans (by omega)
  have f3 : decide (s.size - p < d) = false := decide_eq_false (by omega)
  have e2 : IntKind.i64.wrap ((s.size : Int) - (d : Nat)) = ((s.size - d : Nat) : Int) := (IntWalk.i64_in _ (by omega)).trans (by omega)
  obtain ⟨q, hq⟩ : ∃ q : Nat, (1048576 : Int) - ((s.size - d : Nat) : Int) = (q : Nat) := ⟨(1048576 - ((s.size - d : Nat) : Int)).toNat, by omega⟩
  have e3 : IntKind.i64.wrap ((1048576 : Int) - ((s.size - d : Nat) : Int)) = (q : Nat) := (IntWalk.i64_in _ (by omega)).trans hq
  have h4 : q < i.size := by omega
  clear h hz hl hq
  go_enter Tryd.func14, Tryd.ntmps14
  go_wp2_with (go_at_call 17; ((with_reducible refine HL.out.mono ?_); rintro e' w1 ⟨rfl, hu1⟩; have c0 := cell_up hu1 b0; have c1 := cell_up hu1 b1; have c2 := cell_up hu1 b2))
  go_ret2
  exact ⟨rfl, HE.out.trans hu1⟩

set_option maxRecDepth 100000 in
set_option maxHeartbeats 2000000 in
theorem splice_walk {rb n p d : Nat} {v : Value} {i s1 s2 s3 s4 : ByteArray} (w : World) (hT : Tabs w)
    (hL : ∀ W, Up w W → Calls Tryd.prog 17 #[.pointer (some ⟨rb, 0, none⟩)] W fun e w' => e = .returned (.int .i64 (n : Nat)) ∧ Up W w')
    (c0 : w.cell? ⟨rb, 0, none⟩ = some v) (h : p + d ≤ n) (hn : (n : Int) ≤ 1048576) (hl : (n : Int) - d + i.size ≤ 1048576)
    (z1 : (s1.size : Int) + i.size + s4.size ≤ 1048576) (z2 : (s2.size : Int) ≤ 1048576)
    (hC : ∀ W, Up w W → Tabs W → Calls Tryd.prog 31 #[v, .int .i64 (p : Nat)] W (CutPost s1 s2 W))
    (hs3 : s2.extract 0 d = s3) (hs4 : s2.extract d s2.size = s4) :
    Calls Tryd.prog 14 #[.pointer (some ⟨rb, 0, none⟩), .agg #[.int .i64 (p : Nat), .int .i64 (d : Nat), .string i]] w fun e w' => ∃ rb', e = .returned (.tuple #[.pointer (some ⟨rb', 0, none⟩), .int .i64 0]) ∧ RopeIs w' rb' (s1 ++ i ++ s4) ∧ Up w w' := by
  have HE := Lib.hid (Up.alloc w (.cells #[.int .i64 (p : Nat), .int .i64 (d : Nat), .string i] 31))
  have HL := Lib.hid (hL _ HE.out)
  have HC := Lib.hid hC
  have HD := Lib.hid (fun (W : World) (v : Value) (o : Option T) (hp : Ptr W v o) (hk : OkO o) (ht : Tabs W) (e : otext o = s2) => show Calls Tryd.prog 31 #[v, .int .i64 (d : Nat)] W (CutPost s3 s4 W) by
    have := cut_o (d : Int) hp hk (by rw [e]; exact z2) ht
    rw [e, Int.toNat_natCast, hs3, hs4] at this
    exact this)
  have HG := Lib.hid (fun (W : World) (ht : Tabs W) => grow_o i (by omega) W ht)
  have HJ := Lib.hid (fun (W : World) (v1 v2 : Value) (o1 o2 : Option T) (p1 : Ptr W v1 o1) (p2 : Ptr W v2 o2) (k1 : OkO o1) (k2 : OkO o2) (ht : Tabs W) (e1 : otext o1 = s1) (e2 : otext o2 = i) => show Calls Tryd.prog 32 #[v1, v2] W (PtrPost (s1 ++ i) W) by
    have := join_o p1 p2 k1 k2 (by rw [e1, e2]; omega) ht
    rw [e1, e2] at this
    exact this)
  have HK := Lib.hid (fun (W : World) (v1 v2 : Value) (o1 o2 : Option T) (p1 : Ptr W v1 o1) (p2 : Ptr W v2 o2) (k1 : OkO o1) (k2 : OkO o2) (ht : Tabs W) (e1 : otext o1 = s1 ++ i) (e2 : otext o2 = s4) => show Calls Tryd.prog 32 #[v1, v2] W (PtrPost (s1 ++ i ++ s4) W) by
    have := join_o p1 p2 k1 k2 (by rw [e1, e2, ByteArray.size_append]; omega) ht
    rw [e1, e2] at this
    exact this)
  have HZ := Lib.hid (show ((s1 ++ i ++ s4).size : Int) ≤ 1048576 by rw [ByteArray.size_append, ByteArray.size_append]; omega)
  obtain ⟨b0, b1, b2⟩ := edit_cells w (p : Nat) (d : Nat) i
  have c0 := cell_up HE.out c0
  have HT := Lib.hid (hT.up HE.out)
  have f0 : decide ((p : Int) < 0) = false := decide_eq_false (by omega)
  have f1 : decide ((d : Int) < 0) = false := decide_eq_false (by omega)
  have f2 : decide (n < p) = false := decide_eq_false (by omega)
  have e1 : IntKind.i64.wrap ((n : Int) - (p : Nat)) = ((n - p : Nat) : Int) := (IntWalk.i64_in _ (by omega)).trans (by omega)
  have f3 : decide (n - p < d) = false := decide_eq_false (by omega)
  have e2 : IntKind.i64.wrap ((n : Int) - (d : Nat)) = ((n - d : Nat) : Int) := (IntWalk.i64_in _ (by omega)).trans (by omega)
  obtain ⟨q, hq⟩ : ∃ q : Nat, (1048576 : Int) - ((n - d : Nat) : Int) = (q : Nat) := ⟨(1048576 - ((n - d : Nat) : Int)).toNat, by omega⟩
  have e3 : IntKind.i64.wrap ((1048576 : Int) - ((n - d : Nat) : Int)) = (q : Nat) := (IntWalk.i64_in _ (by omega)).trans hq
  have f4 : decide (q < i.size) = false := decide_eq_false (by omega)
  clear h hl hq hn z1 z2 hL hC hs3 hs4 hT
  go_enter Tryd.func14, Tryd.ntmps14
  go_wp2_with (go_at_call 17; ((with_reducible refine HL.out.mono ?_); rintro e' w1 ⟨rfl, hu1⟩; have d0 := cell_up hu1 b0; have d1 := cell_up hu1 b1; have d2 := cell_up hu1 b2; have d3 := cell_up hu1 c0; have HT1 := Lib.hid (HT.out.up hu1); have HU1 := Lib.hid (HE.out.trans hu1)))
  obtain ⟨N, hN⟩ : ∃ N, w.heap.size = N := ⟨_, rfl⟩
  rw [hN] at d0 d1 d2
  simp only [hN]
  have hS : Up w w1 ∧ Tabs w1 ∧ w1.cell? ⟨rb, 0, none⟩ = some v ∧ w1.cell? ⟨N, 0, none⟩ = some (.int .i64 (p : Nat)) ∧ w1.cell? ⟨N, 1, none⟩ = some (.int .i64 (d : Nat)) ∧ w1.cell? ⟨N, 2, none⟩ = some (.string i) := ⟨HU1.out, HT1.out, d3, d0, d1, d2⟩
  clear c0 b0 b1 b2 d0 d1 d2 d3 HT HT1 HU1 HL HE hu1 f0 f1 f2 f3 f4 e1 e2 e3
  go_region_held3 (fun w' => Up w w' ∧ Tabs w' ∧ w'.cell? ⟨rb, 0, none⟩ = some v ∧ w'.cell? ⟨N, 0, none⟩ = some (.int .i64 (p : Nat)) ∧ w'.cell? ⟨N, 1, none⟩ = some (.int .i64 (d : Nat)) ∧ w'.cell? ⟨N, 2, none⟩ = some (.string i))
    (first | assumption | with_reducible exact keep4 hu2 (by assumption) | with_reducible exact keep4 (Up.drew _) (by assumption))
    (first | (go_at_call 31; ((with_reducible refine (HC.out _ ?_ ?_).mono ?_); (exact (by assumption : _ ∧ Tabs _ ∧ _).1); (exact (by assumption : _ ∧ Tabs _ ∧ _).2.1); rintro e w2 ⟨v1, o1, v2, o2, rfl, p1, p2, k1, k2, x1, x2, hu2⟩; have HX1 := Lib.hid x1; have HX2 := Lib.hid x2; clear x1 x2)))
  have hH : Up w w2 ∧ Tabs w2 ∧ w2.cell? ⟨rb, 0, none⟩ = some v ∧ w2.cell? ⟨N, 0, none⟩ = some (.int .i64 (p : Nat)) ∧ w2.cell? ⟨N, 1, none⟩ = some (.int .i64 (d : Nat)) ∧ w2.cell? ⟨N, 2, none⟩ = some (.string i) := by assumption
  obtain ⟨hw2, t2, -, -, m1, m2⟩ := hH
  clear hS
  go_wp2_with (first
    | (go_at_call 31; ((with_reducible refine (HD.out _ _ _ p2 k2 t2 HX2.out).mono ?_); rintro e w3 ⟨v3, o3, v4, o4, rfl, p3, p4, k3, k4, x3, x4, hu3⟩; have HX4 := Lib.hid x4; clear x3 x4; have m3 := cell_up hu3 m2; have t3 := t2.up hu3))
    | (go_at_call 24; ((with_reducible refine (HG.out _ t3).mono ?_); rintro e w5 ⟨v5, o5, rfl, p5, k5, x5, hu5⟩; have HX5 := Lib.hid x5; clear x5; have t5 := t3.up hu5; have q1 := p1.up (hu3.trans hu5)))
    | (go_at_call 32; ((with_reducible refine (HK.out _ _ _ _ _ p6 q4 k6 k4 t6 HX6.out HX4.out).mono ?_); rintro e w7 ⟨v7, o7, rfl, p7, k7, x7, hu7⟩; have HX7 := Lib.hid x7; clear x7; obtain ⟨q, rfl⟩ := p7.ptr))
    | (go_at_call 32; ((with_reducible refine (HJ.out _ _ _ _ _ q1 p5 k1 k5 t5 HX1.out HX5.out).mono ?_); rintro e w6 ⟨v6, o6, rfl, p6, k6, x6, hu6⟩; have HX6 := Lib.hid x6; clear x6; have t6 := t5.up hu6; have q4 := p4.up (hu5.trans hu6))))
  go_ret2
  exact ⟨_, rfl, rope_new p7 k7 HX7.out HZ.out, hw2.trans (hu3.trans (hu5.trans (hu6.trans (hu7.trans (Up.alloc _ _)))))⟩

theorem extract_extract_end (s : ByteArray) (p d : Nat) (h : p + d ≤ s.size) : (s.extract p s.size).extract d (s.extract p s.size).size = s.extract (p + d) s.size := by
  have z : (s.extract p s.size).size = s.size - p := by rw [ByteArray.size_extract]; omega
  rw [z]
  refine ext_bt (by simp only [ByteArray.size_extract]; omega) fun k hk => ?_
  simp only [ByteArray.size_extract] at hk
  rw [bt_ext_in (by omega) (by omega), bt_ext_in (by omega) (Nat.le_refl _), bt_ext_in (by omega) (Nat.le_refl _), Nat.add_assoc]
/-- The text that an edit makes. -/
def edited (s : ByteArray) (p d : Nat) (i : ByteArray) : ByteArray := s.extract 0 p ++ i ++ s.extract (p + d) s.size
theorem edited_size {s i : ByteArray} {p d : Nat} (h : p + d ≤ s.size) : (edited s p d i).size = s.size - d + i.size := by
  unfold edited
  simp only [ByteArray.size_append, ByteArray.size_extract]
  omega
theorem splice_in {w : World} {rb : Nat} {s : ByteArray} (hr : RopeIs w rb s) (hT : Tabs w) (p d : Nat) (i : ByteArray) (h : p + d ≤ s.size) (hl : (s.size : Int) - d + i.size ≤ 1048576) :
    Calls Tryd.prog 14 #[.pointer (some ⟨rb, 0, none⟩), .agg #[.int .i64 (p : Nat), .int .i64 (d : Nat), .string i]] w fun e w' => ∃ rb', e = .returned (.tuple #[.pointer (some ⟨rb', 0, none⟩), .int .i64 0]) ∧ RopeIs w' rb' (edited s p d i) ∧ Up w w' := by
  have hr' := hr
  obtain ⟨v, o, h1, h2, h3, h4, h5⟩ := hr
  refine splice_walk (v := v) (s1 := s.extract 0 p) (s2 := s.extract p s.size) w hT (fun W hu => rope_len_any (hr'.up hu)) (cellOf h1 rfl) h h5 hl ?_ ?_ ?_ rfl (extract_extract_end s p d h)
  · simp only [ByteArray.size_extract]; omega
  · simp only [ByteArray.size_extract]; omega
  · intro W hu ht
    have := cut_o (p : Int) (h2.up hu) h3 (by rw [h4]; exact h5) ht
    rw [h4, Int.toNat_natCast] at this
    exact this
end Go.Proofs.YtcbmigkdmmmahaaDoor
