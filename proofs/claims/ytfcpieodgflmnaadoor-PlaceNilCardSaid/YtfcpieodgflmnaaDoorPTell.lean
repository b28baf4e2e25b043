/- The program's places, whatever is asked. -/
import Derived.Test.YtfcpieodgflmnaaDoorPChar
namespace Go.Proofs.YtfcpieodgflmnaaDoor
open Go.RowKit

theorem box_cell (w : World) (v : Value) (t : TypeId) : (w.alloc (.cells #[v] t)).cell? ⟨w.heap.size, 0, none⟩ = some v := cellOf (Go.heap_alloc_new _ _) rfl
set_option maxRecDepth 100000 in
set_option maxHeartbeats 1000000 in
theorem of_walk (w : World) (P : Option Addr) (i L C E : Int)
    (H : ∀ W, Up w W → W.cell? ⟨w.heap.size, 0, none⟩ = some (.int .i64 i) → Calls Tryd.prog 20 #[.pointer P, .int .i64 i, .func (.func 21) #[] #[.pointer (some ⟨w.heap.size, 0, none⟩)]] W fun e w' => e = .returned (.tuple #[.int .i64 L, .int .i64 C, .int .i64 E]) ∧ Up W w') :
    Calls Tryd.prog 9 #[.pointer P, .int .i64 i] w fun e w' => e = .returned (.tuple #[.int .i64 L, .int .i64 C, .int .i64 E]) ∧ Up w w' := by
  have hu := Up.alloc w (.cells #[.int .i64 i] 3)
  have c0 := box_cell w (.int .i64 i) 3
  have H1 := Lib.hid (H _ hu c0)
  have HU := Lib.hid hu
  clear hu H
  go_enter Tryd.func9, Tryd.ntmps9
  go_wp2_with (go_at_call 20; ((with_reducible refine H1.out.mono ?_); rintro e w1 ⟨rfl, hu⟩))
  go_ret3
  exact ⟨rfl, HU.out.trans hu⟩
set_option maxRecDepth 100000 in
set_option maxHeartbeats 1000000 in
theorem off_walk (w : World) (P : Option Addr) (k c V E : Int)
    (H : ∀ W, Up w W → W.cell? ⟨w.heap.size, 0, none⟩ = some (.int .i64 c) → Calls Tryd.prog 22 #[.pointer P, .int .i64 k, .func (.func 23) #[] #[.pointer (some ⟨w.heap.size, 0, none⟩)]] W fun e w' => e = .returned (.tuple #[.int .i64 V, .int .i64 E]) ∧ Up W w') :
    Calls Tryd.prog 11 #[.pointer P, .int .i64 k, .int .i64 c] w fun e w' => e = .returned (.tuple #[.int .i64 V, .int .i64 E]) ∧ Up w w' := by
  have hu := Up.alloc w (.cells #[.int .i64 c] 3)
  have c0 := box_cell w (.int .i64 c) 3
  have H1 := Lib.hid (H _ hu c0)
  have HU := Lib.hid hu
  clear hu H
  go_enter Tryd.func11, Tryd.ntmps11
  go_wp2_with (go_at_call 22; ((with_reducible refine H1.out.mono ?_); rintro e w1 ⟨rfl, hu⟩))
  go_ret2
  exact ⟨rfl, HU.out.trans hu⟩
theorem box_two (w : World) (u v : Value) (s t : TypeId) : ((w.alloc (.cells #[u] s)).alloc (.cells #[v] t)).cell? ⟨w.heap.size, 0, none⟩ = some u ∧ ((w.alloc (.cells #[u] s)).alloc (.cells #[v] t)).cell? ⟨w.heap.size + 1, 0, none⟩ = some v ∧ Up w ((w.alloc (.cells #[u] s)).alloc (.cells #[v] t)) := by
  refine ⟨?_, ?_, (Up.alloc w _).trans (Up.alloc _ _)⟩
  · exact cell_up (Up.alloc (w.alloc (.cells #[u] s)) _) (box_cell w u s)
  · have := box_cell (w.alloc (.cells #[u] s)) v t
    rw [World.size_alloc] at this
    exact this
set_option maxRecDepth 100000 in
set_option maxHeartbeats 1000000 in
theorem char_walk (w : World) (P : Option Addr) (i L C E : Int)
    (H : ∀ W, Up w W → W.cell? ⟨w.heap.size, 0, none⟩ = some (.pointer P) → W.cell? ⟨w.heap.size + 1, 0, none⟩ = some (.int .i64 i) → Calls Tryd.prog 20 #[.pointer P, .int .i64 i, .func (.func 25) #[] #[.pointer (some ⟨w.heap.size + 1, 0, none⟩), .pointer (some ⟨w.heap.size, 0, none⟩)]] W fun e w' => e = .returned (.tuple #[.int .i64 L, .int .i64 C, .int .i64 E]) ∧ Up W w') :
    Calls Tryd.prog 13 #[.pointer P, .int .i64 i] w fun e w' => e = .returned (.tuple #[.int .i64 C, .int .i64 E]) ∧ Up w w' := by
  obtain ⟨c0, c1, hu⟩ := box_two w (.pointer P) (.int .i64 i) 23 3
  have H1 := Lib.hid (H _ hu c0 c1)
  have HU := Lib.hid hu
  clear hu H
  go_enter Tryd.func13, Tryd.ntmps13
  go_wp2_with (go_at_call 20; ((with_reducible refine H1.out.mono ?_); rintro e w1 ⟨rfl, hu⟩))
  go_ret2
  exact ⟨rfl, HU.out.trans hu⟩
set_option maxRecDepth 100000 in
set_option maxHeartbeats 1000000 in
theorem cho_walk (w : World) (P : Option Addr) (k c V E : Int)
    (H : ∀ W, Up w W → W.cell? ⟨w.heap.size, 0, none⟩ = some (.pointer P) → W.cell? ⟨w.heap.size + 1, 0, none⟩ = some (.int .i64 c) → Calls Tryd.prog 22 #[.pointer P, .int .i64 k, .func (.func 30) #[] #[.pointer (some ⟨w.heap.size + 1, 0, none⟩), .pointer (some ⟨w.heap.size, 0, none⟩)]] W fun e w' => e = .returned (.tuple #[.int .i64 V, .int .i64 E]) ∧ Up W w') :
    Calls Tryd.prog 15 #[.pointer P, .int .i64 k, .int .i64 c] w fun e w' => e = .returned (.tuple #[.int .i64 V, .int .i64 E]) ∧ Up w w' := by
  obtain ⟨c0, c1, hu⟩ := box_two w (.pointer P) (.int .i64 c) 23 3
  have H1 := Lib.hid (H _ hu c0 c1)
  have HU := Lib.hid hu
  clear hu H
  go_enter Tryd.func15, Tryd.ntmps15
  go_wp2_with (go_at_call 22; ((with_reducible refine H1.out.mono ?_); rintro e w1 ⟨rfl, hu⟩))
  go_ret2
  exact ⟨rfl, HU.out.trans hu⟩

/-! ### The program's calls, whatever is asked -/
/-- A line of a text, and a line without its LF. -/
def lnA (s : ByteArray) (k : Nat) : ByteArray := s.extract (bh s k) (lineEnd s k)
def lnB (s : ByteArray) (k : Nat) : ByteArray := s.extract (bh s k) (be s k)
def ofL (s : ByteArray) (i : Int) : Int := if 0 ≤ i ∧ i ≤ s.size then (na s i.toNat : Nat) else 0
def ofC (s : ByteArray) (i : Int) : Int := if 0 ≤ i ∧ i ≤ s.size then i - (bh s (na s i.toNat) : Nat) else 0
noncomputable def chV (s : ByteArray) (i : Int) : Int := if 0 ≤ i ∧ i ≤ s.size then (chN (lnA s (na s i.toNat)) (i.toNat - bh s (na s i.toNat)) : Nat) else 0
def OsOk (s : ByteArray) (k c : Int) : Prop := (0 ≤ k ∧ k ≤ nl s) ∧ 0 ≤ c ∧ c ≤ (be s k.toNat : Int) - (bh s k.toNat : Nat)
instance (s : ByteArray) (k c : Int) : Decidable (OsOk s k c) := by unfold OsOk; exact inferInstance
def osV (s : ByteArray) (k c : Int) : Int := if OsOk s k c then (bh s k.toNat : Int) + c else 0
def osE (s : ByteArray) (k c : Int) : Int := if OsOk s k c then 0 else 5
def CoOk (s : ByteArray) (k c : Int) : Prop := (0 ≤ k ∧ k ≤ nl s) ∧ 0 ≤ c ∧ c ≤ (countS (lnB s k.toNat) : Nat)
open Classical in
noncomputable def coV (s : ByteArray) (k c : Int) : Int := if CoOk s k c then (bh s k.toNat : Int) + (pos (lnB s k.toNat) c.toNat : Nat) else 0
open Classical in
noncomputable def coE (s : ByteArray) (k c : Int) : Int := if CoOk s k c then 0 else 5

theorem up_same {W : World} {e : Ending} {v : Value} {w' : World} (h : e = .returned v ∧ W = w') : e = .returned v ∧ Up W w' := by obtain ⟨rfl, rfl⟩ := h; exact ⟨rfl, Up.refl _⟩
theorem of_none (i : Int) (w : World) : Calls Tryd.prog 9 #[.pointer none, .int .i64 i] w fun e w' => e = .returned (.tuple #[.int .i64 0, .int .i64 0, .int .i64 8]) ∧ Up w w' :=
  of_walk w none i 0 0 8 fun W _ _ => (locate_none _ i W).mono fun _ _ h => up_same h
theorem off_none (k c : Int) (w : World) : Calls Tryd.prog 11 #[.pointer none, .int .i64 k, .int .i64 c] w fun e w' => e = .returned (.tuple #[.int .i64 0, .int .i64 8]) ∧ Up w w' :=
  off_walk w none k c 0 8 fun W _ _ => reach_none _ k W
theorem char_none (i : Int) (w : World) : Calls Tryd.prog 13 #[.pointer none, .int .i64 i] w fun e w' => e = .returned (.tuple #[.int .i64 0, .int .i64 8]) ∧ Up w w' :=
  char_walk w none i 0 0 8 fun W _ _ _ => (locate_none _ i W).mono fun _ _ h => up_same h
theorem cho_none (k c : Int) (w : World) : Calls Tryd.prog 15 #[.pointer none, .int .i64 k, .int .i64 c] w fun e w' => e = .returned (.tuple #[.int .i64 0, .int .i64 8]) ∧ Up w w' :=
  cho_walk w none k c 0 8 fun W _ _ _ => reach_none _ k W
theorem ofT {w : World} {rb : Nat} {s : ByteArray} (hr : RopeIs w rb s) (i : Int) : Calls Tryd.prog 9 #[.pointer (some ⟨rb, 0, none⟩), .int .i64 i] w fun e w' => e = .returned (.tuple #[.int .i64 (ofL s i), .int .i64 (ofC s i), .int .i64 (fdE s i)]) ∧ Up w w' := by
  unfold ofL ofC fdE
  by_cases h : 0 ≤ i ∧ i ≤ s.size
  · rw [if_pos h, if_pos h, if_pos h]
    obtain ⟨k, rfl⟩ := Int.eq_ofNat_of_zero_le h.1
    refine of_walk w _ _ _ _ _ fun W hu hp => ?_
    exact locate_of (hr.up hu) _ k (by omega) hp
  · rw [if_neg h, if_neg h, if_neg h]
    exact of_walk w _ i _ _ _ fun W hu _ => locate_out (hr.up hu) _ i h
theorem lineEnd_be {s : ByteArray} {k : Nat} (h : k < nl s) : 1 ≤ lineEnd s k ∧ ((lineEnd s k : Nat) : Int) - 1 = (be s k : Nat) := by
  have := bh_lt h
  unfold lineEnd be
  rw [if_pos h, if_pos h]
  omega
theorem be_last {s : ByteArray} : lineEnd s (nl s) = be s (nl s) := by
  unfold lineEnd be
  rw [if_neg (by omega), if_neg (by omega)]
/-- reach, at a line that is there: what the closure counts is where the place lies in the line, or it says that the line has none. -/
theorem off_reach {w : World} {rb pb : Nat} {s : ByteArray} (hr : RopeIs w rb s) (k : Nat) (c : Int) (hp : w.cell? ⟨pb, 0, none⟩ = some (.int .i64 c)) (hk : k ≤ nl s) (V E : Int)
    (h : (0 ≤ c ∧ c ≤ (be s k : Int) - (bh s k : Nat)) ∧ V = (bh s k : Nat) + c ∧ E = 0 ∨ ¬ (0 ≤ c ∧ c ≤ (be s k : Int) - (bh s k : Nat)) ∧ V = 0 ∧ E = 5) :
    Calls Tryd.prog 22 #[.pointer (some ⟨rb, 0, none⟩), .int .i64 (k : Nat), .func (.func 23) #[] #[.pointer (some ⟨pb, 0, none⟩)]] w fun e w' => e = .returned (.tuple #[.int .i64 V, .int .i64 E]) ∧ Up w w' := by
  have hz := hr.size
  have hb := bh_le s k
  have hbb := bh_be s k
  have hbe := be_le s k
  have hl := lineEnd_le s k
  have hnl := nl_le s
  have hLs : ∀ X, Up w X → Calls Tryd.prog 40 #[.pointer (some ⟨rb, 0, none⟩)] X fun e w' => e = .returned (.int .i64 ((nl s : Int) + 1)) ∧ Up X w' := fun X hX => rope_lines_any (hr.up hX)
  have hC : ∀ X, Up w X → Calls Tryd.prog 23 #[.agg #[.int .i64 (bh s k : Nat), .int .i64 (be s k : Nat)], .pointer (some ⟨pb, 0, none⟩)] X fun e w' => e = .returned (.tuple #[.int .i64 c, .bool (decide (0 ≤ c) && decide (c ≤ (be s k : Nat) - (bh s k : Nat)))]) ∧ Up X w' :=
    fun X hX => off1_any X _ c _ _ (cell_up hX hp) (by omega) (by omega)
  have hA := line_at hr k hk
  have hmid : k < nl s → 1 ≤ lineEnd s k ∧ ((lineEnd s k : Nat) : Int) - 1 = (be s k : Nat) := lineEnd_be
  have hlast : k = nl s → lineEnd s k = be s k := fun e => by rw [e]; exact be_last
  generalize bh s k = x at *
  generalize lineEnd s k = z at *
  generalize be s k = y at *
  generalize nl s = K at *
  rcases h with ⟨hc, rfl, rfl⟩ | ⟨hc, rfl, rfl⟩
  · rw [decide_eq_true hc.1, decide_eq_true hc.2, Bool.and_true] at hC
    by_cases hlt : k < K
    · obtain ⟨e1, e2⟩ := hmid hlt
      rw [← e2] at hC
      exact reach_o_mid_yes pb hlt (by omega) (by omega) (by omega) (by omega) e1 hLs hA hC
    · obtain rfl : k = K := by omega
      rw [← hlast rfl] at hC
      exact reach_o_last_yes pb (by omega) (by omega) (by omega) (by omega) hLs hA hC
  · have hf : (decide (0 ≤ c) && decide (c ≤ (y : Int) - (x : Nat))) = false := by
      cases hd : (decide (0 ≤ c) && decide (c ≤ (y : Int) - (x : Nat))) with
      | false => rfl
      | true => rw [Bool.and_eq_true, decide_eq_true_eq, decide_eq_true_eq] at hd; exact absurd hd hc
    rw [hf] at hC
    by_cases hlt : k < K
    · obtain ⟨e1, e2⟩ := hmid hlt
      rw [← e2] at hC
      exact reach_o_mid_no pb hlt (by omega) (by omega) (by omega) e1 hLs hA hC
    · obtain rfl : k = K := by omega
      rw [← hlast rfl] at hC
      exact reach_o_last_no pb (by omega) (by omega) (by omega) hLs hA hC
theorem osT {w : World} {rb : Nat} {s : ByteArray} (hr : RopeIs w rb s) (k c : Int) : Calls Tryd.prog 11 #[.pointer (some ⟨rb, 0, none⟩), .int .i64 k, .int .i64 c] w fun e w' => e = .returned (.tuple #[.int .i64 (osV s k c), .int .i64 (osE s k c)]) ∧ Up w w' := by
  by_cases h : 0 ≤ k ∧ k ≤ nl s
  · obtain ⟨k, rfl⟩ := Int.eq_ofNat_of_zero_le h.1
    refine off_walk w _ _ _ _ _ fun W hu hp => off_reach (hr.up hu) k c hp (by omega) _ _ ?_
    unfold osV osE
    by_cases hc : 0 ≤ c ∧ c ≤ (be s k : Int) - (bh s k : Nat)
    · have hok : OsOk s k c := ⟨h, hc⟩
      rw [if_pos hok, if_pos hok]
      exact .inl ⟨hc, rfl, rfl⟩
    · have hno : ¬ OsOk s k c := fun g => hc g.2
      rw [if_neg hno, if_neg hno]
      exact .inr ⟨hc, rfl, rfl⟩
  · have hno : ¬ OsOk s k c := fun g => h g.1
    unfold osV osE
    rw [if_neg hno, if_neg hno]
    exact off_walk w _ k c _ _ fun W hu _ => reach_out (hr.up hu) _ k h

theorem be_lineEnd (s : ByteArray) {k : Nat} (hk : k ≤ nl s) : be s k ≤ lineEnd s k := by
  rcases be_test hk with ⟨_, _, h⟩ | ⟨h, _⟩ <;> omega
theorem lnA_size (s : ByteArray) (k : Nat) : (lnA s k).size = lineEnd s k - bh s k := by
  have := lineEnd_le s k
  unfold lnA; rw [ByteArray.size_extract]; omega
theorem lnB_size (s : ByteArray) (k : Nat) : (lnB s k).size = be s k - bh s k := by
  have := be_le s k
  unfold lnB; rw [ByteArray.size_extract]; omega
theorem char1_any {w : World} {rb : Nat} {s : ByteArray} (hr : RopeIs w rb s) (hT : Tabs w) (pb qb i : Nat) (h : i ≤ s.size) (hp : w.cell? ⟨pb, 0, none⟩ = some (.int .i64 (i : Nat))) (hq : w.cell? ⟨qb, 0, none⟩ = some (.pointer (some ⟨rb, 0, none⟩))) :
    Calls Tryd.prog 25 #[.agg #[.int .i64 (bh s (na s i) : Nat), .int .i64 (lineEnd s (na s i) : Nat)], .pointer (some ⟨pb, 0, none⟩), .pointer (some ⟨qb, 0, none⟩)] w fun e w' => e = .returned (.int .i64 (chN (lnA s (na s i)) (i - bh s (na s i)) : Nat)) ∧ Up w w' := by
  have hz := hr.size
  have h0 := bh_na_le h
  have hk := na_le_nl h
  have h1 := le_be h
  have h2 := be_lineEnd s hk
  have h3 := lineEnd_le s (na s i)
  have h4 := lnA_size s (na s i)
  obtain ⟨z, hzz⟩ : ∃ z, z = min (lineEnd s (na s i)) (i + 3) := ⟨_, rfl⟩
  have e : (lnA s (na s i)).extract 0 (z - bh s (na s i)) = s.extract (bh s (na s i)) z := by
    unfold lnA
    rw [extract_of_extract (by omega), show bh s (na s i) + (z - bh s (na s i)) = z from by omega]
  have ht : (s.extract (bh s (na s i)) z).size = z - bh s (na s i) := by rw [ByteArray.size_extract]; omega
  refine char1_walk w rb pb qb i _ _ z _ (s.extract (bh s (na s i)) z) h0 (by omega) (by omega) hzz hp hq (fun W hu => slice_at (hr.up hu) _ z (by omega) (by omega)) fun W hu => ?_
  have hb := begun_any (s.extract (bh s (na s i)) z) (i - bh s (na s i)) (by omega) (by unfold maxLen; omega) W (hT.up hu)
  rw [← e, chN_take (by omega) (by omega), e, Int.ofNat_sub h0] at hb
  exact hb
set_option maxRecDepth 100000 in
set_option maxHeartbeats 1000000 in
theorem locate_ch {w : World} {rb : Nat} {s : ByteArray} (hr : RopeIs w rb s) (hT : Tabs w) (pb qb i : Nat) (h : i ≤ s.size) (hp : w.cell? ⟨pb, 0, none⟩ = some (.int .i64 (i : Nat))) (hq : w.cell? ⟨qb, 0, none⟩ = some (.pointer (some ⟨rb, 0, none⟩))) :
    Calls Tryd.prog 20 #[.pointer (some ⟨rb, 0, none⟩), .int .i64 (i : Nat), .func (.func 25) #[] #[.pointer (some ⟨pb, 0, none⟩), .pointer (some ⟨qb, 0, none⟩)]] w fun e w' => e = .returned (.tuple #[.int .i64 (na s i : Nat), .int .i64 (chN (lnA s (na s i)) (i - bh s (na s i)) : Nat), .int .i64 0]) ∧ Up w w' := by
  have HF := Lib.hid (find_at hr i h)
  have HL := Lib.hid (fun (W : World) (hu : Up w W) => line_at (hr.up hu) (na s i) (na_le_nl h))
  have HC := Lib.hid (fun (W : World) (hu : Up w W) => char1_any (hr.up hu) (hT.up hu) pb qb i h (cell_up hu hp) (cell_up hu hq))
  generalize chN (lnA s (na s i)) (i - bh s (na s i)) = c at *
  generalize na s i = k at *
  generalize bh s k = x at *
  generalize lineEnd s k = y at *
  clear hr h hp hq
  go_enter Tryd.func20, Tryd.ntmps20
  go_wp2_with (first
    | (go_at_call 38; ((with_reducible refine HF.out.mono ?_); rintro e w1 ⟨rfl, hu1⟩; have HU1 := Lib.hid hu1; clear hu1))
    | (go_at_call 39; ((with_reducible refine (HL.out _ HU1.out).mono ?_); rintro e w2 ⟨rfl, hu2⟩; have HU2 := Lib.hid (HU1.out.trans (hu2.trans (Up.alloc w2 (.cells #[.int .i64 (x : Nat), .int .i64 (y : Nat)] 50)))); obtain ⟨c0, c1, -⟩ := rg_cells w2 (x : Nat) (y : Nat); clear hu2))
    | (go_at_call 25; ((with_reducible refine (HC.out _ HU2.out).mono ?_); rintro e w3 ⟨rfl, hu3⟩; have HU3 := Lib.hid (HU2.out.trans hu3); clear hu3)))
  go_ret3
  exact ⟨rfl, HU3.out⟩
theorem chT {w : World} {rb : Nat} {s : ByteArray} (hr : RopeIs w rb s) (hT : Tabs w) (i : Int) : Calls Tryd.prog 13 #[.pointer (some ⟨rb, 0, none⟩), .int .i64 i] w fun e w' => e = .returned (.tuple #[.int .i64 (chV s i), .int .i64 (fdE s i)]) ∧ Up w w' := by
  unfold chV fdE
  by_cases h : 0 ≤ i ∧ i ≤ s.size
  · rw [if_pos h, if_pos h]
    obtain ⟨k, rfl⟩ := Int.eq_ofNat_of_zero_le h.1
    exact char_walk w _ _ _ _ _ fun W hu hp hq => locate_ch (hr.up hu) (hT.up hu) _ _ k (by omega) hq hp
  · rw [if_neg h, if_neg h]
    exact char_walk w _ i _ _ _ fun W hu _ _ => locate_out (hr.up hu) _ i h
theorem cho1_any {w : World} {rb : Nat} {s : ByteArray} (hr : RopeIs w rb s) (hT : Tabs w) (pb qb k : Nat) (c : Int) (hp : w.cell? ⟨pb, 0, none⟩ = some (.int .i64 c)) (hq : w.cell? ⟨qb, 0, none⟩ = some (.pointer (some ⟨rb, 0, none⟩))) :
    (0 ≤ c ∧ c ≤ (countS (lnB s k) : Nat) → Calls Tryd.prog 30 #[.agg #[.int .i64 (bh s k : Nat), .int .i64 (be s k : Nat)], .pointer (some ⟨pb, 0, none⟩), .pointer (some ⟨qb, 0, none⟩)] w fun e w' => e = .returned (.tuple #[.int .i64 (pos (lnB s k) c.toNat : Nat), .bool true]) ∧ Up w w')
    ∧ (¬ (0 ≤ c ∧ c ≤ (countS (lnB s k) : Nat)) → Calls Tryd.prog 30 #[.agg #[.int .i64 (bh s k : Nat), .int .i64 (be s k : Nat)], .pointer (some ⟨pb, 0, none⟩), .pointer (some ⟨qb, 0, none⟩)] w fun e w' => e = .returned (.tuple #[.int .i64 0, .bool false]) ∧ Up w w') := by
  have hz := hr.size
  have h0 := bh_be s k
  have h3 := be_le s k
  have h4 := lnB_size s k
  have hcl := countS_le (lnB s k)
  by_cases hc : 0 ≤ c ∧ c ≤ (be s k : Int) - (bh s k : Nat)
  · obtain ⟨n, rfl⟩ := Int.eq_ofNat_of_zero_le hc.1
    obtain ⟨z, hzz⟩ : ∃ z, z = min (be s k) (bh s k + 4 * n) := ⟨_, rfl⟩
    have e : (lnB s k).extract 0 (z - bh s k) = s.extract (bh s k) z := by
      unfold lnB
      rw [extract_of_extract (by omega), show bh s k + (z - bh s k) = z from by omega]
    have ht : (s.extract (bh s k) z).size = z - bh s k := by rw [ByteArray.size_extract]; omega
    obtain ⟨g1, g2⟩ := width_take (u := lnB s k) (n := n) (k := z - bh s k) (by omega)
    rw [e] at g1 g2
    have hS : ∀ W, Up w W → Calls Tryd.prog 26 #[.pointer (some ⟨rb, 0, none⟩), .int .i64 (bh s k : Nat), .int .i64 (z : Nat)] W fun e w' => e = .returned (.tuple #[.string (s.extract (bh s k) z), .int .i64 0]) ∧ Up W w' := fun W hu => slice_at (hr.up hu) _ z (by omega) (by omega)
    refine ⟨fun h => ?_, fun h => ?_⟩
    · refine cho1_walk w rb pb qb _ _ z n _ _ _ h0 (by omega) (by omega) hzz hp hq hS fun W hu => ?_
      have := width_yes (s.extract (bh s k) z) n (g1.2 (by omega)) (by omega) W (hT.up hu)
      rw [g2 (by omega)] at this
      exact this
    · refine cho1_walk w rb pb qb _ _ z n _ _ _ h0 (by omega) (by omega) hzz hp hq hS fun W hu => ?_
      exact width_no (s.extract (bh s k) z) n (by by_cases g : n ≤ countS (s.extract (bh s k) z); exact absurd (g1.1 g) (by omega); omega) (by omega) (by omega) W (hT.up hu)
  · refine ⟨fun h => absurd h (by omega), fun _ => ?_⟩
    exact cho1_no w pb qb _ _ c (by omega) h0 hc hp
theorem cho_reach {w : World} {rb pb qb : Nat} {s : ByteArray} (hr : RopeIs w rb s) (hT : Tabs w) (k : Nat) (c : Int) (hp : w.cell? ⟨pb, 0, none⟩ = some (.int .i64 c)) (hq : w.cell? ⟨qb, 0, none⟩ = some (.pointer (some ⟨rb, 0, none⟩))) (hk : k ≤ nl s) (V E : Int)
    (h : (0 ≤ c ∧ c ≤ (countS (lnB s k) : Nat)) ∧ V = (bh s k : Nat) + (pos (lnB s k) c.toNat : Nat) ∧ E = 0 ∨ ¬ (0 ≤ c ∧ c ≤ (countS (lnB s k) : Nat)) ∧ V = 0 ∧ E = 5) :
    Calls Tryd.prog 22 #[.pointer (some ⟨rb, 0, none⟩), .int .i64 (k : Nat), .func (.func 30) #[] #[.pointer (some ⟨pb, 0, none⟩), .pointer (some ⟨qb, 0, none⟩)]] w fun e w' => e = .returned (.tuple #[.int .i64 V, .int .i64 E]) ∧ Up w w' := by
  have hz := hr.size
  have hb := bh_le s k
  have hbb := bh_be s k
  have hbe := be_le s k
  have hl := lineEnd_le s k
  have hnl := nl_le s
  have hsz := lnB_size s k
  have hpo := pos_le (lnB s k) c.toNat
  have hLs : ∀ X, Up w X → Calls Tryd.prog 40 #[.pointer (some ⟨rb, 0, none⟩)] X fun e w' => e = .returned (.int .i64 ((nl s : Int) + 1)) ∧ Up X w' := fun X hX => rope_lines_any (hr.up hX)
  have hC := fun X (hX : Up w X) => cho1_any (hr.up hX) (hT.up hX) pb qb k c (cell_up hX hp) (cell_up hX hq)
  have hA := line_at hr k hk
  have hmid : k < nl s → 1 ≤ lineEnd s k ∧ ((lineEnd s k : Nat) : Int) - 1 = (be s k : Nat) := lineEnd_be
  have hlast : k = nl s → lineEnd s k = be s k := fun e => by rw [e]; exact be_last
  generalize pos (lnB s k) c.toNat = p at *
  generalize countS (lnB s k) = q at *
  generalize bh s k = x at *
  generalize lineEnd s k = z at *
  generalize be s k = y at *
  generalize nl s = K at *
  rcases h with ⟨hc, rfl, rfl⟩ | ⟨hc, rfl, rfl⟩
  · have hC := fun X hX => (hC X hX).1 hc
    by_cases hlt : k < K
    · obtain ⟨e1, e2⟩ := hmid hlt
      rw [← e2] at hC
      exact reach_c_mid_yes pb qb hlt (by omega) (by omega) (by omega) (by omega) e1 hLs hA hC
    · obtain rfl : k = K := by omega
      rw [← hlast rfl] at hC
      exact reach_c_last_yes pb qb (by omega) (by omega) (by omega) (by omega) hLs hA hC
  · have hC := fun X hX => (hC X hX).2 hc
    by_cases hlt : k < K
    · obtain ⟨e1, e2⟩ := hmid hlt
      rw [← e2] at hC
      exact reach_c_mid_no pb qb hlt (by omega) (by omega) (by omega) e1 hLs hA hC
    · obtain rfl : k = K := by omega
      rw [← hlast rfl] at hC
      exact reach_c_last_no pb qb (by omega) (by omega) (by omega) hLs hA hC
theorem coT {w : World} {rb : Nat} {s : ByteArray} (hr : RopeIs w rb s) (hT : Tabs w) (k c : Int) : Calls Tryd.prog 15 #[.pointer (some ⟨rb, 0, none⟩), .int .i64 k, .int .i64 c] w fun e w' => e = .returned (.tuple #[.int .i64 (coV s k c), .int .i64 (coE s k c)]) ∧ Up w w' := by
  by_cases h : 0 ≤ k ∧ k ≤ nl s
  · obtain ⟨k, rfl⟩ := Int.eq_ofNat_of_zero_le h.1
    refine cho_walk w _ _ _ _ _ fun W hu hp hq => cho_reach (hr.up hu) (hT.up hu) k c hq hp (by omega) _ _ ?_
    unfold coV coE
    by_cases hc : 0 ≤ c ∧ c ≤ (countS (lnB s k) : Nat)
    · have hok : CoOk s k c := ⟨h, hc⟩
      rw [if_pos hok, if_pos hok]
      exact .inl ⟨hc, rfl, rfl⟩
    · have hno : ¬ CoOk s k c := fun g => hc g.2
      rw [if_neg hno, if_neg hno]
      exact .inr ⟨hc, rfl, rfl⟩
  · have hno : ¬ CoOk s k c := fun g => h g.1
    unfold coV coE
    rw [if_neg hno, if_neg hno]
    exact cho_walk w _ k c _ _ fun W hu _ _ => reach_out (hr.up hu) _ k h
end Go.Proofs.YtfcpieodgflmnaaDoor
