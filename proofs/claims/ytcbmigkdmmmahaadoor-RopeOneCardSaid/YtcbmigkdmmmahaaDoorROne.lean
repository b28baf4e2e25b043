/- RopeOne, walked. -/
import Derived.Test.YtcbmigkdmmmahaaDoorRWakes
import Derived.Test.YtcbmigkdmmmahaaDoorTell
import Derived.Test.YtcbmigkdmmmahaaDoorArgs
namespace Go.Proofs.YtcbmigkdmmmahaaDoor
open Go.RowKit

set_option maxRecDepth 100000 in
set_option maxHeartbeats 1000000 in
theorem one_big (w : World) (ht : Tabs w) (s : ByteArray) (A : Option Addr) (n c : Nat) (a f u : Int) (h : 16384 < s.size ∨ 60 < n) : Calls Tryd.prog 8 #[.string s, .slice A n c, .int .i64 a, .int .i64 f, .int .i64 u] w fun e w' => e = .returned (.bool true) ∧ Up w w' := by
  have HT := Lib.hid ht
  clear ht
  by_cases h1 : 16384 < s.size
  · clear h
    have h2 : 16384 < (s.size : Int) := by omega
    go_enter Tryd.func8, Tryd.ntmps8
    go_wp2_with (go_at_call 10; ((with_reducible refine (rwakes_any _ HT.out).mono ?_); rintro e wb ⟨rfl, hub⟩))
    go_ret
    exact ⟨rfl, hub⟩
  · have f0 : decide (16384 < (s.size : Int)) = false := decide_eq_false (by omega)
    have h2 : 60 < (n : Int) := by omega
    clear h
    go_enter Tryd.func8, Tryd.ntmps8
    go_wp2_with (go_at_call 10; ((with_reducible refine (rwakes_any _ HT.out).mono ?_); rintro e wb ⟨rfl, hub⟩))
    go_ret
    exact ⟨rfl, hub⟩

structure St1 (w : World) (rb : Nat) (t : ByteArray) (W : World) : Prop where
  r : RopeIs W rb t
  u : Up w W
  t : Tabs W
theorem St1.up {w : World} {rb : Nat} {t : ByteArray} {W W' : World} (h : St1 w rb t W) (hu : Up W W') : St1 w rb t W' := ⟨h.r.up hu, h.u.trans hu, h.t.up hu⟩
structure St2 (w : World) (rb qb : Nat) (t : ByteArray) (W : World) : Prop where
  r : RopeIs W rb t
  q : RopeIs W qb t
  u : Up w W
  t : Tabs W
theorem St2.up {w : World} {rb qb : Nat} {t : ByteArray} {W W' : World} (h : St2 w rb qb t W) (hu : Up W W') : St2 w rb qb t W' := ⟨h.r.up hu, h.q.up hu, h.u.trans hu, h.t.up hu⟩
theorem St2.mk' {w : World} {rb qb : Nat} {t : ByteArray} {W : World} (h : St1 w rb t W) (hq : RopeIs W qb t) : St2 w rb qb t W := ⟨h.r, hq, h.u, h.t⟩
/-- A line that has been told, in its block. -/
structure Rg (W : World) (b : Nat) (x y : Int) : Prop where
  a : W.cell? ⟨b, 0, none⟩ = some (.int .i64 x)
  z : W.cell? ⟨b, 1, none⟩ = some (.int .i64 y)
  l : b < W.heap.size
theorem Rg.up {W W' : World} {b : Nat} {x y : Int} (h : Rg W b x y) (hu : Up W W') : Rg W' b x y := ⟨cell_up hu h.a, cell_up hu h.z, Nat.lt_of_lt_of_le h.l (Below.size hu)⟩
theorem rg_cells (W : World) (x y : Int) : Rg (W.alloc (.cells #[.int .i64 x, .int .i64 y] 45)) W.heap.size x y :=
  ⟨cellOf (Go.heap_alloc_new _ _) rfl, cellOf (Go.heap_alloc_new _ _) rfl, by show W.heap.size < (W.heap.push _).size; simp⟩

set_option maxRecDepth 100000 in
set_option maxHeartbeats 8000000 in
theorem one_in (w : World) (ht : Tabs w) (s : ByteArray) (A : Option Addr) (n c : Nat) (E : Nat → Int × Int × ByteArray) (hE : Edits w A n E) (a f u : Int) (hs : s.size ≤ 16384) (hn : n ≤ 60) : Calls Tryd.prog 8 #[.string s, .slice A n c, .int .i64 a, .int .i64 f, .int .i64 u] w fun e w' => e = .returned (.bool true) ∧ Up w w' := by
  have HE := Lib.hid hE
  have HT := Lib.hid ht
  have H1 := Lib.hid (of_any s (by omega) w ht)
  have f0 : decide (16384 < (s.size : Int)) = false := decide_eq_false (by omega)
  have f1 : decide (60 < (n : Int)) = false := decide_eq_false (by omega)
  have HN := Lib.hid hn
  clear hE ht hs hn
  go_enter Tryd.func8, Tryd.ntmps8
  go_wp2_with (go_at_call 9; ((with_reducible refine H1.out.mono ?_); rintro e w1 ⟨rb, rfl, r1, hu1⟩; have HR1 := Lib.hid r1; have HU1 := Lib.hid hu1; clear r1 hu1))
  go_loopg [11, 12] n (fun g rv iv wr => ∃ (i rb : Nat) (t : ByteArray), g = n - i ∧ rv = .pointer (some ⟨rb, 0, none⟩) ∧ iv = .int .i64 (i : Nat) ∧ i ≤ n ∧ Hid (RopeIs wr rb t) ∧ Hid (Up w wr))
  case atStart => exact ⟨0, rb, s, rfl, rfl, rfl, Nat.zero_le _, HR1, HU1⟩
  case round =>
    obtain ⟨i, rb, t, hg, rfl, rfl, hi, HR, HU⟩ := hrel
    have HG := Lib.hid hg
    clear hg
    by_cases hlt : i < n
    · obtain ⟨hok, b, o, hA, hb, c0, c1, c2⟩ := (HE.out.up HU.out) i hlt
      obtain ⟨⟨p, d, ins⟩, hEi⟩ : ∃ x, E i = x := ⟨_, rfl⟩
      rw [hEi] at hok c0 c1 c2
      have hsz : ins.size ≤ maxLen := hok.2.2
      unfold maxLen at hsz
      have HA := Lib.hid hA
      obtain rfl := HA.out
      clear hEi hok hA HA hb
      simp only at c0 c1 c2
      have HT1 := Lib.hid (HT.out.up HU.out)
      have hii : (i : Int) < n := by omega
      have hi60 : (i : Int) ≤ 60 := by have := HN.out; omega
      by_cases hbig : 8192 < ins.size
      · have hb2 : 8192 < (ins.size : Int) := by omega
        clear hbig
        go_wp2_with (go_at_call 10; ((with_reducible refine (rwakes_any _ HT1.out).mono ?_); rintro e wb ⟨rfl, hub⟩))
        go_ret
        exact ⟨rfl, HU.out.trans hub⟩
      · have fb : decide (8192 < (ins.size : Int)) = false := decide_eq_false (by omega)
        clear hbig
        by_cases hs0 : spE t p d ins = 0
        · have HP := Lib.hid (spliceT_ok HR.out HT1.out p d ins hs0)
          clear hs0
          go_wp2_with (go_at_call 14; ((with_reducible refine HP.out.mono ?_); rintro e w2 ⟨xb, rfl, r2, hu2⟩; have HR2 := Lib.hid r2; have HU2 := Lib.hid (HU.out.trans hu2); clear r2 hu2))
          go_roundg (n - (i + 1))
          case measure => rw [HG.out]; omega
          case rel => exact ⟨i + 1, xb, _, rfl, rfl, by go_num, by omega, HR2, HU2⟩
        · have HP := Lib.hid (spliceT_no HR.out p d ins hs0)
          have fe : (spE t p d ins == 0) = false := beq_false_of_ne hs0
          clear hs0
          go_wp2_with (go_at_call 14; ((with_reducible refine HP.out.mono ?_); rintro e w2 ⟨rfl, hu2⟩; have HR2 := Lib.hid (HR.out.up hu2); have HU2 := Lib.hid (HU.out.trans hu2); clear hu2))
          go_roundg (n - (i + 1))
          case measure => rw [HG.out]; omega
          case rel => exact ⟨i + 1, rb, t, rfl, rfl, by go_num, by omega, HR2, HU2⟩
    · obtain rfl : i = n := by omega
      have f2 : decide (i < i) = false := decide_eq_false (by omega)
      have HS := Lib.hid (show St1 w rb t _ from ⟨HR.out, HU.out, HT.out.up HU.out⟩)
      clear hlt hi HR HU
      go_wp2_with (first
        | (go_at_call 16; ((with_reducible refine (text_any HS.out.r).mono ?_); rintro e w3 ⟨rfl, hu⟩; have HS := Lib.hid (HS.out.up hu); clear hu; have HO := Lib.hid (of_any t HS.out.r.size _ HS.out.t)))
        | (go_at_call 9; ((with_reducible refine HO.out.mono ?_); rintro e w4 ⟨qb, rfl, r4, hu⟩; have HS := Lib.hid (St2.mk' (HS.out.up hu) r4); clear r4 hu))
        | (go_at_call 18; ((with_reducible refine (byteT HS.out.r a).mono ?_); rintro e w5 ⟨rfl, hu⟩; have HS := Lib.hid (HS.out.up hu); clear hu))
        | (go_at_call 18; ((with_reducible refine (byteT HS.out.q a).mono ?_); rintro e w6 ⟨rfl, hu⟩; have HS := Lib.hid (HS.out.up hu); clear hu))
        | (go_at_call 19; ((with_reducible refine (sliceT HS.out.r f u).mono ?_); rintro e w7 ⟨rfl, hu⟩; have HS := Lib.hid (HS.out.up hu); clear hu))
        | (go_at_call 19; ((with_reducible refine (sliceT HS.out.q f u).mono ?_); rintro e w8 ⟨rfl, hu⟩; have HS := Lib.hid (HS.out.up hu); clear hu))
        | (go_at_call 20; ((with_reducible refine (lineT HS.out.r a).mono ?_); rintro e w9 ⟨rfl, hu⟩; have HS := Lib.hid (HS.out.up (hu.trans (Up.alloc w9 (.cells #[.int .i64 (lnF t a), .int .i64 (lnT t a)] 45)))); have HC := Lib.hid (rg_cells w9 (lnF t a) (lnT t a)); clear hu))
        | (go_at_call 20; ((with_reducible refine (lineT HS.out.q a).mono ?_); rintro e wA ⟨rfl, hu⟩; have HS := Lib.hid (HS.out.up (hu.trans (Up.alloc wA (.cells #[.int .i64 (lnF t a), .int .i64 (lnT t a)] 45)))); have HC := Lib.hid (HC.out.up (hu.trans (Up.alloc wA (.cells #[.int .i64 (lnF t a), .int .i64 (lnT t a)] 45)))); have HD := Lib.hid (rg_cells wA (lnF t a) (lnT t a)); clear hu))
        | (go_at_call 21; ((with_reducible refine (findT HS.out.r a).mono ?_); rintro e wB ⟨rfl, hu⟩; have HS := Lib.hid (HS.out.up hu); have HC := Lib.hid (HC.out.up hu); have HD := Lib.hid (HD.out.up hu); clear hu))
        | (go_at_call 21; ((with_reducible refine (findT HS.out.q a).mono ?_); rintro e wC ⟨rfl, hu⟩; have HS := Lib.hid (HS.out.up hu); have HC := Lib.hid (HC.out.up hu); have HD := Lib.hid (HD.out.up hu); clear hu))
        | (go_at_call 17; ((with_reducible refine (rope_len_any HS.out.r).mono ?_); rintro e wD ⟨rfl, hu⟩; have HS := Lib.hid (HS.out.up hu); have HC := Lib.hid (HC.out.up hu); have HD := Lib.hid (HD.out.up hu); clear hu))
        | (go_at_call 17; ((with_reducible refine (rope_len_any HS.out.q).mono ?_); rintro e wE ⟨rfl, hu⟩; have HS := Lib.hid (HS.out.up hu); have HC := Lib.hid (HC.out.up hu); have HD := Lib.hid (HD.out.up hu); clear hu))
        | (go_at_call 22; ((with_reducible refine (rope_lines_any HS.out.r).mono ?_); rintro e wF ⟨rfl, hu⟩; have HS := Lib.hid (HS.out.up hu); have HC := Lib.hid (HC.out.up hu); have HD := Lib.hid (HD.out.up hu); clear hu))
        | (go_at_call 22; ((with_reducible refine (rope_lines_any HS.out.q).mono ?_); rintro e wG ⟨rfl, hu⟩; have HS := Lib.hid (HS.out.up hu); have HC := Lib.hid (HC.out.up hu); have HD := Lib.hid (HD.out.up hu); clear hu))
        | (go_at_call 12; ((with_reducible refine (rope_steps_any HS.out.r).mono ?_); rintro e wH ⟨rfl, hu⟩; have HS := Lib.hid (HS.out.up hu); have HC := Lib.hid (HC.out.up hu); have HD := Lib.hid (HD.out.up hu); clear hu))
        | (go_at_call 12; ((with_reducible refine (rope_steps_any HS.out.q).mono ?_); rintro e wI ⟨rfl, hu⟩; have HS := Lib.hid (HS.out.up hu); have HC := HC.out.up hu; have HD := HD.out.up hu; obtain ⟨k0, k1, -⟩ := HC; obtain ⟨k2, k3, -⟩ := HD; clear hu))
        | (go_at_call 10; ((with_reducible refine (rwakes_any _ HS.out.t).mono ?_); rintro e wb ⟨rfl, hub⟩)))
      go_ret
      exact ⟨rfl, HS.out.u.trans hub⟩
theorem one_walk (w : World) (ht : Tabs w) (s : ByteArray) (A : Option Addr) (n c : Nat) (E : Nat → Int × Int × ByteArray) (hE : Edits w A n E) (a f u : Int) : Calls Tryd.prog 8 #[.string s, .slice A n c, .int .i64 a, .int .i64 f, .int .i64 u] w fun e w' => e = .returned (.bool true) ∧ Up w w' := by
  by_cases h : 16384 < s.size ∨ 60 < n
  · exact one_big w ht s A n c a f u h
  · exact one_in w ht s A n c E hE a f u (by omega) (by omega)
end Go.Proofs.YtcbmigkdmmmahaaDoor
