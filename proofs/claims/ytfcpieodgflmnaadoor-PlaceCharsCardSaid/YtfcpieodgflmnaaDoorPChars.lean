/- PlaceChars, walked. -/
import Derived.Test.YtfcpieodgflmnaaDoorPCMath
import Derived.Test.YtfcpieodgflmnaaDoorPWakes
namespace Go.Proofs.YtfcpieodgflmnaaDoor
open Go.RowKit

theorem co_at {w : World} {rb : Nat} {s : ByteArray} (hr : RopeIs w rb s) (hT : Tabs w) {k n : Nat} (hk : k ≤ nl s) (hn : n ≤ countS (lnB s k)) : Calls Tryd.prog 15 #[.pointer (some ⟨rb, 0, none⟩), .int .i64 (k : Nat), .int .i64 (n : Nat)] w fun e w' => e = .returned (.tuple #[.int .i64 ((bh s k + pos (lnB s k) n : Nat) : Int), .int .i64 0]) ∧ Up w w' := by
  have h := coT hr hT k n
  unfold coV coE at h
  have hok : CoOk s k n := ⟨⟨by omega, by omega⟩, by omega, by rw [Int.toNat_natCast]; omega⟩
  rw [if_pos hok, if_pos hok, Int.toNat_natCast, Int.toNat_natCast] at h
  exact h
theorem co_no {w : World} {rb : Nat} {s : ByteArray} (hr : RopeIs w rb s) (hT : Tabs w) {k n : Int} (h : ¬ CoOk s k n) : Calls Tryd.prog 15 #[.pointer (some ⟨rb, 0, none⟩), .int .i64 k, .int .i64 n] w fun e w' => e = .returned (.tuple #[.int .i64 0, .int .i64 5]) ∧ Up w w' := by
  have g := coT hr hT k n
  unfold coV coE at g
  rw [if_neg h, if_neg h] at g
  exact g
theorem of_at {w : World} {rb : Nat} {s : ByteArray} (hr : RopeIs w rb s) {i : Nat} (hi : i ≤ s.size) : Calls Tryd.prog 9 #[.pointer (some ⟨rb, 0, none⟩), .int .i64 (i : Nat)] w fun e w' => e = .returned (.tuple #[.int .i64 (na s i : Nat), .int .i64 ((i - bh s (na s i) : Nat) : Int), .int .i64 0]) ∧ Up w w' := by
  have h := ofT hr i
  unfold ofL ofC fdE at h
  have hok : (0 : Int) ≤ (i : Nat) ∧ ((i : Nat) : Int) ≤ s.size := ⟨by omega, by omega⟩
  rw [if_pos hok, if_pos hok, if_pos hok, Int.toNat_natCast, ← Int.ofNat_sub (bh_na_le hi)] at h
  exact h
theorem ch_at {w : World} {rb : Nat} {s : ByteArray} (hr : RopeIs w rb s) (hT : Tabs w) {i : Nat} (hi : i ≤ s.size) : Calls Tryd.prog 13 #[.pointer (some ⟨rb, 0, none⟩), .int .i64 (i : Nat)] w fun e w' => e = .returned (.tuple #[.int .i64 (chN (lnA s (na s i)) (i - bh s (na s i)) : Nat), .int .i64 0]) ∧ Up w w' := by
  have h := chT hr hT i
  unfold chV fdE at h
  have hok : (0 : Int) ≤ (i : Nat) ∧ ((i : Nat) : Int) ≤ s.size := ⟨by omega, by omega⟩
  rw [if_pos hok, if_pos hok, Int.toNat_natCast] at h
  exact h

set_option maxRecDepth 100000 in
set_option maxHeartbeats 2000000 in
theorem pchars_long (w : World) (ht : Tabs w) (s : ByteArray) (hs : (4096 : Int) < s.size) (k c : Int) : Calls Tryd.prog 6 #[.string s, .int .i64 k, .int .i64 c] w fun e w' => e = .returned (.bool true) ∧ Up w w' := by
  have HT := Lib.hid ht
  clear ht
  go_enter Tryd.func6, Tryd.ntmps6
  go_wp2_with (go_at_call 7; ((with_reducible refine (pwakes_any _ HT.out).mono ?_); rintro e wb ⟨rfl, hub⟩))
  go_ret
  exact ⟨rfl, hub⟩
set_option maxRecDepth 100000 in
set_option maxHeartbeats 2000000 in
theorem pchars_out (w : World) (ht : Tabs w) (s : ByteArray) (hs : (s.size : Int) ≤ 4096) (k c : Int) (h : ¬ CoOk s k c) : Calls Tryd.prog 6 #[.string s, .int .i64 k, .int .i64 c] w fun e w' => e = .returned (.bool true) ∧ Up w w' := by
  have HT := Lib.hid ht
  have HO := Lib.hid (of_any s (by omega) w ht)
  have f0 : decide (4096 < (s.size : Int)) = false := decide_eq_false (by omega)
  have HC := Lib.hid h
  clear ht hs h
  go_enter Tryd.func6, Tryd.ntmps6
  go_wp2_with (first
    | (go_at_call 8; ((with_reducible refine HO.out.mono ?_); rintro e w1 ⟨rb, rfl, r1, hu⟩; have HS := Lib.hid (St1.mk r1 hu (HT.out.up hu)); clear r1 hu))
    | (go_at_call 15; ((with_reducible refine (co_no HS.out.r HS.out.t HC.out).mono ?_); rintro e w2 ⟨rfl, hu⟩; have HS := Lib.hid (HS.out.up hu); clear hu))
    | (go_at_call 7; ((with_reducible refine (pwakes_any _ HS.out.t).mono ?_); rintro e wb ⟨rfl, hub⟩)))
  go_ret
  exact ⟨rfl, HS.out.u.trans hub⟩
/-- What CharOffset, Of and Char tell, as the walk wants it. -/
def CoA (s : ByteArray) (k n a p : Nat) : Prop := ∀ (W : World) (rb : Nat), RopeIs W rb s → Tabs W →
  Calls Tryd.prog 15 #[.pointer (some ⟨rb, 0, none⟩), .int .i64 (k : Nat), .int .i64 (n : Nat)] W (fun e w' => e = .returned (.tuple #[.int .i64 (a : Nat), .int .i64 0]) ∧ Up W w')
  ∧ Calls Tryd.prog 9 #[.pointer (some ⟨rb, 0, none⟩), .int .i64 (a : Nat)] W (fun e w' => e = .returned (.tuple #[.int .i64 (k : Nat), .int .i64 (p : Nat), .int .i64 0]) ∧ Up W w')
  ∧ Calls Tryd.prog 13 #[.pointer (some ⟨rb, 0, none⟩), .int .i64 (a : Nat)] W (fun e w' => e = .returned (.tuple #[.int .i64 (n : Nat), .int .i64 0]) ∧ Up W w')
theorem CoA.co {s : ByteArray} {k n a p : Nat} (h : CoA s k n a p) {W : World} {rb : Nat} (hr : RopeIs W rb s) (hT : Tabs W) : Calls Tryd.prog 15 #[.pointer (some ⟨rb, 0, none⟩), .int .i64 (k : Nat), .int .i64 (n : Nat)] W (fun e w' => e = .returned (.tuple #[.int .i64 (a : Nat), .int .i64 0]) ∧ Up W w') := (h W rb hr hT).1
theorem CoA.of {s : ByteArray} {k n a p : Nat} (h : CoA s k n a p) {W : World} {rb : Nat} (hr : RopeIs W rb s) (hT : Tabs W) : Calls Tryd.prog 9 #[.pointer (some ⟨rb, 0, none⟩), .int .i64 (a : Nat)] W (fun e w' => e = .returned (.tuple #[.int .i64 (k : Nat), .int .i64 (p : Nat), .int .i64 0]) ∧ Up W w') := (h W rb hr hT).2.1
theorem CoA.ch {s : ByteArray} {k n a p : Nat} (h : CoA s k n a p) {W : World} {rb : Nat} (hr : RopeIs W rb s) (hT : Tabs W) : Calls Tryd.prog 13 #[.pointer (some ⟨rb, 0, none⟩), .int .i64 (a : Nat)] W (fun e w' => e = .returned (.tuple #[.int .i64 (n : Nat), .int .i64 0]) ∧ Up W w') := (h W rb hr hT).2.2
theorem coA {s : ByteArray} {k n : Nat} (hk : k ≤ nl s) (hn : n ≤ countS (lnB s k)) : CoA s k n (bh s k + pos (lnB s k) n) (pos (lnB s k) n) := by
  intro W rb hr hT
  obtain ⟨h1, h2, h3⟩ := co_back hk hn
  refine ⟨co_at hr hT hk hn, ?_, ?_⟩
  · have := of_at hr h1
    rw [h2, Nat.add_sub_cancel_left] at this
    exact this
  · have := ch_at hr hT h1
    rw [h2, Nat.add_sub_cancel_left, h3] at this
    exact this
set_option maxRecDepth 100000 in
set_option maxHeartbeats 4000000 in
theorem pchars_last (w : World) (ht : Tabs w) (s : ByteArray) (hs : (s.size : Int) ≤ 4096) (k n a p : Nat) (hA : CoA s k n a p) (hN : ¬ CoOk s k ((n : Int) + 1)) (h1 : n ≤ p) (h2 : p ≤ 4 * n) (h3 : (n : Int) ≤ 4096) : Calls Tryd.prog 6 #[.string s, .int .i64 (k : Nat), .int .i64 (n : Nat)] w fun e w' => e = .returned (.bool true) ∧ Up w w' := by
  have HT := Lib.hid ht
  have HO := Lib.hid (of_any s (by omega) w ht)
  have f0 : decide (4096 < (s.size : Int)) = false := decide_eq_false (by omega)
  have f1 : decide (p < n) = false := decide_eq_false (by omega)
  have f2 : decide (4 * (n : Int) < p) = false := decide_eq_false (by omega)
  have HA := Lib.hid hA
  have HN := Lib.hid hN
  clear ht hs hA hN h1 h2
  go_enter Tryd.func6, Tryd.ntmps6
  go_wp2_with (first
    | (go_at_call 8; ((with_reducible refine HO.out.mono ?_); rintro e w1 ⟨rb, rfl, r1, hu⟩; have HS := Lib.hid (St1.mk r1 hu (HT.out.up hu)); clear r1 hu))
    | (go_at_call 15; ((with_reducible refine (CoA.co HA.out HS.out.r HS.out.t).mono ?_); rintro e w2 ⟨rfl, hu⟩; have HS := Lib.hid (HS.out.up hu); clear hu))
    | (go_at_call 9; ((with_reducible refine (CoA.of HA.out HS.out.r HS.out.t).mono ?_); rintro e w3 ⟨rfl, hu⟩; have HS := Lib.hid (HS.out.up hu); clear hu))
    | (go_at_call 13; ((with_reducible refine (CoA.ch HA.out HS.out.r HS.out.t).mono ?_); rintro e w4 ⟨rfl, hu⟩; have HS := Lib.hid (HS.out.up hu); clear hu))
    | (go_at_call 15; ((with_reducible refine (co_no HS.out.r HS.out.t HN.out).mono ?_); rintro e w5 ⟨rfl, hu⟩; have HS := Lib.hid (HS.out.up hu); clear hu))
    | (go_at_call 7; ((with_reducible refine (pwakes_any _ HS.out.t).mono ?_); rintro e wb ⟨rfl, hub⟩)))
  go_ret
  exact ⟨rfl, HS.out.u.trans hub⟩

def CoN (s : ByteArray) (k n b : Nat) : Prop := ∀ (W : World) (rb : Nat), RopeIs W rb s → Tabs W →
  Calls Tryd.prog 15 #[.pointer (some ⟨rb, 0, none⟩), .int .i64 (k : Nat), .int .i64 ((n : Int) + 1)] W (fun e w' => e = .returned (.tuple #[.int .i64 (b : Nat), .int .i64 0]) ∧ Up W w')
theorem CoN.co {s : ByteArray} {k n b : Nat} (h : CoN s k n b) {W : World} {rb : Nat} (hr : RopeIs W rb s) (hT : Tabs W) : Calls Tryd.prog 15 #[.pointer (some ⟨rb, 0, none⟩), .int .i64 (k : Nat), .int .i64 ((n : Int) + 1)] W (fun e w' => e = .returned (.tuple #[.int .i64 (b : Nat), .int .i64 0]) ∧ Up W w') := h W rb hr hT
def ChM (s : ByteArray) (n a b : Nat) : Prop := ∀ (W : World) (rb i : Nat), RopeIs W rb s → Tabs W → a < i → i < b →
  Calls Tryd.prog 13 #[.pointer (some ⟨rb, 0, none⟩), .int .i64 (i : Nat)] W (fun e w' => e = .returned (.tuple #[.int .i64 ((n : Int) + 1), .int .i64 0]) ∧ Up W w')
theorem ChM.ch {s : ByteArray} {n a b : Nat} (h : ChM s n a b) {W : World} {rb i : Nat} (hr : RopeIs W rb s) (hT : Tabs W) (h1 : a < i) (h2 : i < b) : Calls Tryd.prog 13 #[.pointer (some ⟨rb, 0, none⟩), .int .i64 (i : Nat)] W (fun e w' => e = .returned (.tuple #[.int .i64 ((n : Int) + 1), .int .i64 0]) ∧ Up W w') := h W rb i hr hT h1 h2
theorem chM {s : ByteArray} {k n : Nat} (hk : k ≤ nl s) (hn : n + 1 ≤ countS (lnB s k)) : ChM s n (bh s k + pos (lnB s k) n) (bh s k + pos (lnB s k) (n + 1)) := by
  intro W rb i hr hT h1 h2
  obtain ⟨g1, g2, g3⟩ := co_between hk hn h1 h2
  have := ch_at hr hT g1
  rw [g2, g3] at this
  exact this
set_option maxRecDepth 100000 in
set_option maxHeartbeats 4000000 in
theorem pchars_mid (w : World) (ht : Tabs w) (s : ByteArray) (hs : (s.size : Int) ≤ 4096) (k n a p b : Nat) (hA : CoA s k n a p) (hN : CoN s k n b) (hM : ChM s n a b) (h1 : n ≤ p) (h2 : p ≤ 4 * n) (h3 : (n : Int) ≤ 4096) (h4 : a < b) (h5 : b ≤ a + 4) (h6 : (b : Int) ≤ 4096) : Calls Tryd.prog 6 #[.string s, .int .i64 (k : Nat), .int .i64 (n : Nat)] w fun e w' => e = .returned (.bool true) ∧ Up w w' := by
  have HT := Lib.hid ht
  have HO := Lib.hid (of_any s (by omega) w ht)
  have f0 : decide (4096 < (s.size : Int)) = false := decide_eq_false (by omega)
  have f1 : decide (p < n) = false := decide_eq_false (by omega)
  have f2 : decide (4 * (n : Int) < p) = false := decide_eq_false (by omega)
  have f3 : decide (b ≤ a) = false := decide_eq_false (by omega)
  have f4 : decide ((a : Int) + 4 < b) = false := decide_eq_false (by omega)
  have HA := Lib.hid hA
  have HN := Lib.hid hN
  have HM := Lib.hid hM
  clear ht hs hA hN hM h1 h2
  go_enter Tryd.func6, Tryd.ntmps6
  go_wp2_with (first
    | (go_at_call 8; ((with_reducible refine HO.out.mono ?_); rintro e w1 ⟨rb, rfl, r1, hu⟩; have HS := Lib.hid (St1.mk r1 hu (HT.out.up hu)); clear r1 hu))
    | (go_at_call 15; ((with_reducible refine (CoA.co HA.out HS.out.r HS.out.t).mono ?_); rintro e w2 ⟨rfl, hu⟩; have HS := Lib.hid (HS.out.up hu); clear hu))
    | (go_at_call 9; ((with_reducible refine (CoA.of HA.out HS.out.r HS.out.t).mono ?_); rintro e w3 ⟨rfl, hu⟩; have HS := Lib.hid (HS.out.up hu); clear hu))
    | (go_at_call 13; ((with_reducible refine (CoA.ch HA.out HS.out.r HS.out.t).mono ?_); rintro e w4 ⟨rfl, hu⟩; have HS := Lib.hid (HS.out.up hu); clear hu))
    | (go_at_call 15; ((with_reducible refine (CoN.co HN.out HS.out.r HS.out.t).mono ?_); rintro e w5 ⟨rfl, hu⟩; have HS := Lib.hid (HS.out.up hu); clear hu)))
  go_loopg [17, 18, 19] (b - (a + 1)) (fun g iv xv yv wr => ∃ i : Nat, g = b - i ∧ iv = .int .i64 (i : Nat) ∧ a < i ∧ i ≤ b ∧ Hid (St1 w rb s wr))
  case atStart => exact ⟨a + 1, rfl, by go_num, by omega, by omega, HS⟩
  case round =>
    obtain ⟨i, hg, rfl, h7, h8, HS⟩ := hrel
    have HG := Lib.hid hg
    clear hg
    by_cases hlt : i < b
    · have HC := Lib.hid (fun (W : World) (h : St1 w rb s W) => ChM.ch HM.out h.r h.t h7 hlt)
      go_wp2_with (go_at_call 13; ((with_reducible refine (HC.out _ HS.out).mono ?_); rintro e w6 ⟨rfl, hu⟩; have HS := Lib.hid (HS.out.up hu); clear hu))
      go_roundg (b - (i + 1))
      case measure => rw [HG.out]; omega
      case rel => exact ⟨i + 1, rfl, by go_num, by omega, by omega, HS⟩
    · obtain rfl : i = b := by omega
      have f5 : decide (i < i) = false := decide_eq_false (by omega)
      clear hlt h8
      go_wp2_with (go_at_call 7; ((with_reducible refine (pwakes_any _ HS.out.t).mono ?_); rintro e wb ⟨rfl, hub⟩))
      go_ret
      exact ⟨rfl, HS.out.u.trans hub⟩
theorem pchars_walk (w : World) (ht : Tabs w) (s : ByteArray) (k c : Int) : Calls Tryd.prog 6 #[.string s, .int .i64 k, .int .i64 c] w fun e w' => e = .returned (.bool true) ∧ Up w w' := by
  by_cases hs : (s.size : Int) ≤ 4096
  · by_cases h : CoOk s k c
    · have h' := h
      obtain ⟨⟨g1, g2⟩, g3, g4⟩ := h'
      obtain ⟨k, rfl⟩ := Int.eq_ofNat_of_zero_le g1
      obtain ⟨n, rfl⟩ := Int.eq_ofNat_of_zero_le g3
      rw [Int.toNat_natCast] at g4
      have hk : k ≤ nl s := by omega
      have hn : n ≤ countS (lnB s k) := by omega
      have hz := lnB_size s k
      have hb := bh_be s k
      have hbe := be_le s k
      have hc := countS_le (lnB s k)
      have l1 := le_pos n hn
      have l2 := pos_le4 (lnB s k) n
      by_cases h1 : n + 1 ≤ countS (lnB s k)
      · have l3 := pos_incr (t := lnB s k) (j := n) (n := n + 1) (by omega) h1
        have l4 := pos_add_one (t := lnB s k) (n := n) (pos_lt (by omega))
        have l5 := stepLen_le (lnB s k) (pos (lnB s k) n)
        have l6 := pos_le (lnB s k) (n + 1)
        refine pchars_mid w ht s hs k n _ _ (bh s k + pos (lnB s k) (n + 1)) (coA hk hn) ?_ (chM hk h1) l1 l2 (by omega) (by omega) (by omega) (by omega)
        intro W rb hr hT
        exact co_at hr hT hk h1
      · refine pchars_last w ht s hs k n _ _ (coA hk hn) (fun g => h1 ?_) l1 l2 (by omega)
        obtain ⟨_, _, g⟩ := g
        rw [Int.toNat_natCast] at g
        omega
    · exact pchars_out w ht s hs k c h
  · exact pchars_long w ht s (by omega) k c
end Go.Proofs.YtfcpieodgflmnaaDoor
