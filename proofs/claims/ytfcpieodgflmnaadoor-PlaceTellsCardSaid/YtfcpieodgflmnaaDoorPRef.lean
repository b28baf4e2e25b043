/- The document's places, walked. -/
import Derived.Test.YtfcpieodgflmnaaDoorPTell
import Derived.Test.YtfcpieodgflmnaaDoorGI
namespace Go.Proofs.YtfcpieodgflmnaaDoor
open Go.RowKit

set_option maxRecDepth 100000 in
set_option maxHeartbeats 1000000 in
theorem refOf_out (s : ByteArray) (i : Int) (hi : ¬ (0 ≤ i ∧ i ≤ s.size)) (w : World) : Calls Tryd.prog 10 #[.string s, .int .i64 i] w fun e w' => e = .returned (.tuple #[.int .i64 0, .int .i64 0, .int .i64 5]) ∧ w = w' := by
  by_cases h0 : 0 ≤ i
  · have h1 : (s.size : Int) < i := by omega
    have f0 : decide (i < 0) = false := decide_eq_false (by omega)
    clear hi
    go_enter Tryd.func10, Tryd.ntmps10
    go_wp2
    go_ret3
    exact ⟨rfl, rfl⟩
  · have h1 : i < 0 := by omega
    clear hi h0
    go_enter Tryd.func10, Tryd.ntmps10
    go_wp2
    go_ret3
    exact ⟨rfl, rfl⟩
set_option maxRecDepth 100000 in
set_option maxHeartbeats 1000000 in
theorem refOf_in (s : ByteArray) (hs : (s.size : Int) ≤ 1048576) (k : Nat) (hk : k ≤ s.size) (w : World) : Calls Tryd.prog 10 #[.string s, .int .i64 (k : Nat)] w fun e w' => e = .returned (.tuple #[.int .i64 (na s k : Nat), .int .i64 ((k : Int) - (bh s (na s k) : Nat)), .int .i64 0]) ∧ w = w' := by
  have HS := Lib.hid hs
  have f0 : decide ((k : Int) < 0) = false := decide_eq_false (by omega)
  have f1 : decide (s.size < k) = false := decide_eq_false (by omega)
  have HK := Lib.hid hk
  have HB := Lib.hid (bh_na_le hk)
  clear hs hk
  go_enter Tryd.func10, Tryd.ntmps10
  go_wp2
  go_loopg [7, 8, 9] k (fun g nv fv iv wr => w = wr ∧ ∃ (n x i : Nat), g = k - i ∧ nv = .int .i64 (n : Nat) ∧ fv = .int .i64 (x : Nat) ∧ iv = .int .i64 (i : Nat) ∧ i ≤ k ∧ Hid (n = na s i) ∧ Hid (x = bh s (na s i)))
  case atStart => exact ⟨rfl, 0, 0, 0, rfl, rfl, rfl, rfl, Nat.zero_le _, Lib.hid (na_zero s).symm, Lib.hid (by rw [na_zero, bh_zero])⟩
  case round =>
    obtain ⟨rfl, n, x, i, hg, rfl, rfl, rfl, hi, hN, hX⟩ := hrel
    by_cases hlt : i < k
    · have hib : i < s.size := by have := HK.out; omega
      have hii : (i : Int) < s.size := by omega
      have hi2 : (i : Int) ≤ 1048575 := by have := HS.out; omega
      have hn : (n : Int) ≤ 1048576 := by have := hN.out; have := na_le_size s i; have := HS.out; omega
      have hsu := na_succ hib
      have HG := Lib.hid hg
      clear hg
      by_cases hx : s[i] = 10
      · rw [if_pos hx] at hsu
        have hx1 : (((s[i].toNat : Nat) : Int) == 10) = true := by rw [hx]; rfl
        have HN2 : Hid (n + 1 = na s (i + 1)) := Lib.hid (by rw [hN.out, hsu])
        have HX2 : Hid (i + 1 = bh s (na s (i + 1))) := Lib.hid (by rw [hsu]; exact (bh_behind hib hx).symm)
        clear hsu hx
        go_wp2
        go_roundg (k - (i + 1))
        case measure => rw [HG.out]; omega
        case rel => exact ⟨rfl, n + 1, i + 1, i + 1, rfl, by go_num, by go_num, by go_num, by omega, HN2, HX2⟩
      · rw [if_neg hx] at hsu
        have hx1 : (((s[i].toNat : Nat) : Int) == 10) = false := by
          rw [beq_eq_false_iff_ne]
          intro h
          exact hx (by apply UInt8.toNat.inj; show s[i].toNat = 10; omega)
        have HN2 : Hid (n = na s (i + 1)) := Lib.hid (by rw [hN.out, hsu]; rfl)
        have HX2 : Hid (x = bh s (na s (i + 1))) := Lib.hid (by rw [hsu]; exact hX.out)
        clear hsu hx
        go_wp2
        go_roundg (k - (i + 1))
        case measure => rw [HG.out]; omega
        case rel => exact ⟨rfl, n, x, i + 1, rfl, by go_num, by go_num, by go_num, by omega, HN2, HX2⟩
    · obtain rfl : i = k := by omega
      have f2 : decide (i < i) = false := decide_eq_false (by omega)
      have hb := HB.out
      have hz := HK.out
      have hzz := HS.out
      rw [← hX.out] at hb
      clear hg hlt HB HK HS
      go_wp2
      go_ret3
      exact ⟨ret_iii (by rw [hN.out]) (by rw [hX.out]) rfl, rfl⟩
theorem refOfT (s : ByteArray) (hs : (s.size : Int) ≤ 1048576) (i : Int) (w : World) : Calls Tryd.prog 10 #[.string s, .int .i64 i] w fun e w' => e = .returned (.tuple #[.int .i64 (ofL s i), .int .i64 (ofC s i), .int .i64 (fdE s i)]) ∧ w = w' := by
  unfold ofL ofC fdE
  by_cases h : 0 ≤ i ∧ i ≤ s.size
  · obtain ⟨k, rfl⟩ := Int.eq_ofNat_of_zero_le h.1
    rw [if_pos h, if_pos h, if_pos h, Int.toNat_natCast]
    exact refOf_in s hs k (by omega) w
  · rw [if_neg h, if_neg h, if_neg h]
    exact refOf_out s i h w

theorem ret_iib {k l : IntKind} {a a' b b' : Int} {c c' : Bool} (h : a = a') (g : b = b') (f : c = c') : Ending.returned (.tuple #[.int k a, .int l b, .bool c]) = .returned (.tuple #[.int k a', .int l b', .bool c']) := by rw [h, g, f]
set_option maxRecDepth 100000 in
set_option maxHeartbeats 1000000 in
theorem refLn_out (s : ByteArray) (hs : (s.size : Int) ≤ 1048576) (k : Int) (hk : ¬ (0 ≤ k ∧ k ≤ nl s)) (w : World) : Calls Tryd.prog 24 #[.string s, .int .i64 k] w fun e w' => e = .returned (.tuple #[.int .i64 0, .int .i64 0, .bool false]) ∧ Up w w' := by
  have HL := Lib.hid (refLine_out s hs k hk w)
  clear hk hs
  go_enter Tryd.func24, Tryd.ntmps24
  go_wp2_with (go_at_call 28; ((with_reducible refine HL.out.mono ?_); rintro e w1 ⟨rfl, hu⟩; have HU := Lib.hid (hu.trans (Up.alloc w1 (.cells #[.int .i64 0, .int .i64 0] 50)))))
  go_ret3
  exact ⟨rfl, HU.out⟩
set_option maxRecDepth 100000 in
set_option maxHeartbeats 1000000 in
theorem refLn_lf (s : ByteArray) (k x j : Nat) (hs : (s.size : Int) ≤ 1048576) (hx : x ≤ j) (hj : j < s.size) (hb : bt s j = 10) (w : World)
    (hL : Calls Tryd.prog 28 #[.string s, .int .i64 (k : Nat)] w fun e w' => e = .returned (.tuple #[.agg #[.int .i64 (x : Nat), .int .i64 ((j + 1 : Nat) : Int)], .int .i64 0]) ∧ Up w w') :
    Calls Tryd.prog 24 #[.string s, .int .i64 (k : Nat)] w fun e w' => e = .returned (.tuple #[.int .i64 (x : Nat), .int .i64 (j : Nat), .bool true]) ∧ Up w w' := by
  have HL := Lib.hid hL
  have hx1 : (((s[j].toNat : Nat) : Int) == 10) = true := by rw [bt_eq hj, hb]; rfl
  have f1 : decide ((x : Int) < ((j + 1 : Nat) : Int)) = true := decide_eq_true (by omega)
  clear hL hb
  go_enter Tryd.func24, Tryd.ntmps24
  go_wp2_with (go_at_call 28; ((with_reducible refine HL.out.mono ?_); rintro e w1 ⟨rfl, hu⟩; obtain ⟨c0, c1, -⟩ := rg_cells w1 (x : Nat) ((j + 1 : Nat) : Int); have HU := Lib.hid (hu.trans (Up.alloc w1 (.cells #[.int .i64 (x : Nat), .int .i64 ((j + 1 : Nat) : Int)] 50)))))
  go_quiet (fail)
  go_wp2
  go_ret3
  exact ⟨ret_iib rfl (by omega) rfl, HU.out.trans (Up.drewN _ _)⟩
set_option maxRecDepth 100000 in
set_option maxHeartbeats 1000000 in
theorem refLn_no (s : ByteArray) (k x j : Nat) (hs : (s.size : Int) ≤ 1048576) (hx : x ≤ j) (hj : j < s.size) (hb : bt s j ≠ 10) (w : World)
    (hL : Calls Tryd.prog 28 #[.string s, .int .i64 (k : Nat)] w fun e w' => e = .returned (.tuple #[.agg #[.int .i64 (x : Nat), .int .i64 ((j + 1 : Nat) : Int)], .int .i64 0]) ∧ Up w w') :
    Calls Tryd.prog 24 #[.string s, .int .i64 (k : Nat)] w fun e w' => e = .returned (.tuple #[.int .i64 (x : Nat), .int .i64 ((j + 1 : Nat) : Int), .bool true]) ∧ Up w w' := by
  have HL := Lib.hid hL
  have hx1 : (((s[j].toNat : Nat) : Int) == 10) = false := by rw [bt_eq hj, beq_eq_false_iff_ne]; omega
  have f1 : decide ((x : Int) < ((j + 1 : Nat) : Int)) = true := decide_eq_true (by omega)
  clear hL hb
  go_enter Tryd.func24, Tryd.ntmps24
  go_wp2_with (go_at_call 28; ((with_reducible refine HL.out.mono ?_); rintro e w1 ⟨rfl, hu⟩; obtain ⟨c0, c1, -⟩ := rg_cells w1 (x : Nat) ((j + 1 : Nat) : Int); have HU := Lib.hid (hu.trans (Up.alloc w1 (.cells #[.int .i64 (x : Nat), .int .i64 ((j + 1 : Nat) : Int)] 50)))))
  go_quiet (fail)
  go_wp2
  go_ret3
  exact ⟨ret_iib rfl (by omega) rfl, HU.out.trans (Up.drewN _ _)⟩
set_option maxRecDepth 100000 in
set_option maxHeartbeats 1000000 in
theorem refLn_none (s : ByteArray) (k x : Nat) (w : World)
    (hL : Calls Tryd.prog 28 #[.string s, .int .i64 (k : Nat)] w fun e w' => e = .returned (.tuple #[.agg #[.int .i64 (x : Nat), .int .i64 (x : Nat)], .int .i64 0]) ∧ Up w w') :
    Calls Tryd.prog 24 #[.string s, .int .i64 (k : Nat)] w fun e w' => e = .returned (.tuple #[.int .i64 (x : Nat), .int .i64 (x : Nat), .bool true]) ∧ Up w w' := by
  have HL := Lib.hid hL
  have f1 : decide (x < x) = false := decide_eq_false (by omega)
  clear hL
  go_enter Tryd.func24, Tryd.ntmps24
  go_wp2_with (go_at_call 28; ((with_reducible refine HL.out.mono ?_); rintro e w1 ⟨rfl, hu⟩; obtain ⟨c0, c1, -⟩ := rg_cells w1 (x : Nat) (x : Nat); have HU := Lib.hid (hu.trans (Up.alloc w1 (.cells #[.int .i64 (x : Nat), .int .i64 (x : Nat)] 50)))))
  go_quiet (fail)
  go_wp2
  go_ret3
  exact ⟨rfl, HU.out.trans (Up.drewN _ _)⟩
theorem refLn_in (s : ByteArray) (hs : (s.size : Int) ≤ 1048576) (k : Nat) (hk : k ≤ nl s) (w : World) : Calls Tryd.prog 24 #[.string s, .int .i64 (k : Nat)] w fun e w' => e = .returned (.tuple #[.int .i64 (bh s k : Nat), .int .i64 (be s k : Nat), .bool true]) ∧ Up w w' := by
  have hL := refLine_in s hs k hk w
  have h1 := bh_lineEnd s k
  have h2 := lineEnd_le s k
  have h3 := be_test hk
  generalize bh s k = x at *
  generalize lineEnd s k = z at *
  generalize be s k = y at *
  rcases h3 with ⟨g1, g2, g3⟩ | ⟨g1, g2⟩
  · obtain ⟨j, rfl⟩ : ∃ j, z = j + 1 := ⟨z - 1, by omega⟩
    obtain rfl : y = j := by omega
    exact refLn_lf s k x y hs (by omega) (by omega) (by rw [← g2]; rfl) w hL
  · subst g1
    by_cases hxz : x < y
    · obtain ⟨j, rfl⟩ : ∃ j, y = j + 1 := ⟨y - 1, by omega⟩
      exact refLn_no s k x j hs (by omega) (by omega) (g2 hxz) w hL
    · obtain rfl : x = y := by omega
      exact refLn_none s k x w hL

set_option maxRecDepth 100000 in
set_option maxHeartbeats 1000000 in
theorem refOs_walk (s : ByteArray) (k c x y : Int) (b : Bool) (V E : Int) (hx : 0 ≤ x ∧ x ≤ 1048576) (hy : 0 ≤ y ∧ y ≤ 1048576)
    (h : (b = true ∧ 0 ≤ c ∧ c ≤ y - x) ∧ V = x + c ∧ E = 0 ∨ ¬ (b = true ∧ 0 ≤ c ∧ c ≤ y - x) ∧ V = 0 ∧ E = 5) (w : World)
    (hL : Calls Tryd.prog 24 #[.string s, .int .i64 k] w fun e w' => e = .returned (.tuple #[.int .i64 x, .int .i64 y, .bool b]) ∧ Up w w') :
    Calls Tryd.prog 12 #[.string s, .int .i64 k, .int .i64 c] w fun e w' => e = .returned (.tuple #[.int .i64 V, .int .i64 E]) ∧ Up w w' := by
  have HL := Lib.hid hL
  clear hL
  cases b with
  | false =>
    rcases h with ⟨g, _⟩ | ⟨_, rfl, rfl⟩
    · cases g.1
    · go_enter Tryd.func12, Tryd.ntmps12
      go_wp2_with (go_at_call 24; ((with_reducible refine HL.out.mono ?_); rintro e w1 ⟨rfl, hu⟩))
      go_ret2
      exact ⟨rfl, hu⟩
  | true =>
    rcases h with ⟨⟨_, g1, g2⟩, rfl, rfl⟩ | ⟨g, rfl, rfl⟩
    · have f0 : decide (c < 0) = false := decide_eq_false (by omega)
      have f1 : decide (y - x < c) = false := decide_eq_false (by omega)
      go_enter Tryd.func12, Tryd.ntmps12
      go_wp2_with (go_at_call 24; ((with_reducible refine HL.out.mono ?_); rintro e w1 ⟨rfl, hu⟩))
      go_ret2
      exact ⟨rfl, hu⟩
    · by_cases h0 : c < 0
      · have f0 : decide (c < 0) = true := decide_eq_true h0
        clear g h0
        go_enter Tryd.func12, Tryd.ntmps12
        go_wp2_with (go_at_call 24; ((with_reducible refine HL.out.mono ?_); rintro e w1 ⟨rfl, hu⟩))
        go_ret2
        exact ⟨rfl, hu⟩
      · have f0 : decide (c < 0) = false := decide_eq_false h0
        have f1 : decide (y - x < c) = true := decide_eq_true (by by_cases e : y - x < c; exact e; exact absurd ⟨rfl, by omega, by omega⟩ g)
        clear g h0
        go_enter Tryd.func12, Tryd.ntmps12
        go_wp2_with (go_at_call 24; ((with_reducible refine HL.out.mono ?_); rintro e w1 ⟨rfl, hu⟩))
        go_ret2
        exact ⟨rfl, hu⟩
theorem refOsT (s : ByteArray) (hs : (s.size : Int) ≤ 1048576) (k c : Int) (w : World) : Calls Tryd.prog 12 #[.string s, .int .i64 k, .int .i64 c] w fun e w' => e = .returned (.tuple #[.int .i64 (osV s k c), .int .i64 (osE s k c)]) ∧ Up w w' := by
  unfold osV osE
  by_cases h : 0 ≤ k ∧ k ≤ nl s
  · obtain ⟨k, rfl⟩ := Int.eq_ofNat_of_zero_le h.1
    have hb := bh_le s k
    have hbe := be_le s k
    refine refOs_walk s k c (bh s k : Nat) (be s k : Nat) true _ _ (by omega) (by omega) ?_ w (refLn_in s hs k (by omega) w)
    by_cases hc : 0 ≤ c ∧ c ≤ (be s k : Int) - (bh s k : Nat)
    · have hok : OsOk s k c := ⟨h, hc⟩
      rw [if_pos hok, if_pos hok]
      exact .inl ⟨⟨rfl, hc⟩, rfl, rfl⟩
    · have hno : ¬ OsOk s k c := fun g => hc g.2
      rw [if_neg hno, if_neg hno]
      exact .inr ⟨fun g => hc g.2, rfl, rfl⟩
  · have hno : ¬ OsOk s k c := fun g => h g.1
    rw [if_neg hno, if_neg hno]
    exact refOs_walk s k c 0 0 false _ _ (by omega) (by omega) (.inr ⟨(fun g => by cases g.1), rfl, rfl⟩) w (refLn_out s hs k h w)
end Go.Proofs.YtfcpieodgflmnaaDoor
