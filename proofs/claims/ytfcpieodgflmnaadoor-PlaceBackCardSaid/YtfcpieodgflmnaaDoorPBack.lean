/- PlaceBack, walked. -/
import Derived.Test.YtfcpieodgflmnaaDoorPChars
import Derived.Test.YtfcpieodgflmnaaDoorGI
namespace Go.Proofs.YtfcpieodgflmnaaDoor
open Go.RowKit

set_option maxRecDepth 100000 in
set_option maxHeartbeats 1000000 in
theorem pback_big (w : World) (ht : Tabs w) (s : ByteArray) (A : Option Addr) (n c : Nat) (k l : Int) (h : 4096 < s.size ∨ 20 < n) : Calls Tryd.prog 5 #[.string s, .slice A n c, .int .i64 k, .int .i64 l] w fun e w' => e = .returned (.bool true) ∧ Up w w' := by
  have HT := Lib.hid ht
  clear ht
  by_cases h1 : 4096 < s.size
  · clear h
    have h2 : 4096 < (s.size : Int) := by omega
    go_enter Tryd.func5, Tryd.ntmps5
    go_wp2_with (go_at_call 7; ((with_reducible refine (pwakes_any _ HT.out).mono ?_); rintro e wb ⟨rfl, hub⟩))
    go_ret
    exact ⟨rfl, hub⟩
  · have f0 : decide (4096 < (s.size : Int)) = false := decide_eq_false (by omega)
    have h2 : 20 < (n : Int) := by omega
    clear h
    go_enter Tryd.func5, Tryd.ntmps5
    go_wp2_with (go_at_call 7; ((with_reducible refine (pwakes_any _ HT.out).mono ?_); rintro e wb ⟨rfl, hub⟩))
    go_ret
    exact ⟨rfl, hub⟩

/-- What Of tells of a place and Offset of that, as the walk wants it. -/
def OfB (t : ByteArray) (a L x : Nat) : Prop := ∀ (W : World) (rb : Nat), RopeIs W rb t →
  Calls Tryd.prog 9 #[.pointer (some ⟨rb, 0, none⟩), .int .i64 (a : Nat)] W (fun e w' => e = .returned (.tuple #[.int .i64 (L : Nat), .int .i64 ((a : Int) - (x : Nat)), .int .i64 0]) ∧ Up W w')
  ∧ Calls Tryd.prog 11 #[.pointer (some ⟨rb, 0, none⟩), .int .i64 (L : Nat), .int .i64 ((a : Int) - (x : Nat))] W (fun e w' => e = .returned (.tuple #[.int .i64 (a : Nat), .int .i64 0]) ∧ Up W w')
theorem OfB.of {t : ByteArray} {a L x : Nat} (h : OfB t a L x) {W : World} {rb : Nat} (hr : RopeIs W rb t) : Calls Tryd.prog 9 #[.pointer (some ⟨rb, 0, none⟩), .int .i64 (a : Nat)] W (fun e w' => e = .returned (.tuple #[.int .i64 (L : Nat), .int .i64 ((a : Int) - (x : Nat)), .int .i64 0]) ∧ Up W w') := (h W rb hr).1
theorem OfB.off {t : ByteArray} {a L x : Nat} (h : OfB t a L x) {W : World} {rb : Nat} (hr : RopeIs W rb t) : Calls Tryd.prog 11 #[.pointer (some ⟨rb, 0, none⟩), .int .i64 (L : Nat), .int .i64 ((a : Int) - (x : Nat))] W (fun e w' => e = .returned (.tuple #[.int .i64 (a : Nat), .int .i64 0]) ∧ Up W w') := (h W rb hr).2
theorem ofB {t : ByteArray} {a : Nat} (ha : a ≤ t.size) : OfB t a (na t a) (bh t (na t a)) := by
  intro W rb hr
  have h1 := bh_na_le ha
  have h2 := le_be ha
  have h3 := na_le_nl ha
  constructor
  · have := of_at hr ha
    rw [Int.ofNat_sub h1] at this
    exact this
  · have := osT hr (na t a : Nat) ((a : Int) - (bh t (na t a) : Nat))
    unfold osV osE at this
    have hok : OsOk t (na t a : Nat) ((a : Int) - (bh t (na t a) : Nat)) := ⟨⟨by omega, by omega⟩, by omega, by rw [Int.toNat_natCast]; omega⟩
    rw [if_pos hok, if_pos hok, Int.toNat_natCast, show ((bh t (na t a) : Nat) : Int) + ((a : Int) - (bh t (na t a) : Nat)) = (a : Nat) from by omega] at this
    exact this
theorem os_at {w : World} {rb : Nat} {s : ByteArray} (hr : RopeIs w rb s) {k c : Int} (h : OsOk s k c) : Calls Tryd.prog 11 #[.pointer (some ⟨rb, 0, none⟩), .int .i64 k, .int .i64 c] w fun e w' => e = .returned (.tuple #[.int .i64 ((bh s k.toNat : Int) + c), .int .i64 0]) ∧ Up w w' := by
  have g := osT hr k c
  unfold osV osE at g
  rw [if_pos h, if_pos h] at g
  exact g
theorem os_no {w : World} {rb : Nat} {s : ByteArray} (hr : RopeIs w rb s) {k c : Int} (h : ¬ OsOk s k c) : Calls Tryd.prog 11 #[.pointer (some ⟨rb, 0, none⟩), .int .i64 k, .int .i64 c] w fun e w' => e = .returned (.tuple #[.int .i64 0, .int .i64 5]) ∧ Up w w' := by
  have g := osT hr k c
  unfold osV osE at g
  rw [if_neg h, if_neg h] at g
  exact g
/-- What Offset tells, Of takes back. -/
theorem of_back {w : World} {rb : Nat} {s : ByteArray} (hr : RopeIs w rb s) {k c : Int} (h : OsOk s k c) : Calls Tryd.prog 9 #[.pointer (some ⟨rb, 0, none⟩), .int .i64 ((bh s k.toNat : Int) + c)] w fun e w' => e = .returned (.tuple #[.int .i64 k, .int .i64 c, .int .i64 0]) ∧ Up w w' := by
  obtain ⟨⟨h1, h2⟩, h3, h4⟩ := h
  obtain ⟨k, rfl⟩ := Int.eq_ofNat_of_zero_le h1
  obtain ⟨c, rfl⟩ := Int.eq_ofNat_of_zero_le h3
  rw [Int.toNat_natCast] at h4 ⊢
  have hb := bh_be s k
  have hbe := be_le s k
  have hn := na_be (s := s) (k := k) (p := bh s k + c) (by omega) (by omega) (by omega)
  have := of_at hr (i := bh s k + c) (by omega)
  rw [hn, Nat.add_sub_cancel_left] at this
  exact this

theorem lf_step {t : ByteArray} {a : Nat} {B : Bool} (h : a < t.size) (hB : (((t[a].toNat : Nat) : Int) == 10) = B) :
    (B = true → na t a + 1 = na t (a + 1) ∧ a + 1 = bh t (na t (a + 1))) ∧ (B = false → na t a = na t (a + 1) ∧ bh t (na t a) = bh t (na t (a + 1))) := by
  have hs := na_succ h
  by_cases hx : t[a] = 10
  · have hb : B = true := by rw [← hB, hx]; rfl
    rw [if_pos hx] at hs
    exact ⟨fun _ => ⟨hs.symm, by rw [hs]; exact (bh_behind h hx).symm⟩, fun e => by rw [hb] at e; cases e⟩
  · have hb : B = false := by
      rw [← hB, beq_eq_false_iff_ne]
      intro e
      exact hx (by apply UInt8.toNat.inj; show t[a].toNat = 10; omega)
    rw [if_neg hx] at hs
    exact ⟨(fun e => by rw [hb] at e; cases e), fun _ => ⟨hs.symm, by rw [hs]; rfl⟩⟩
set_option maxRecDepth 100000 in
set_option maxHeartbeats 8000000 in
theorem pback_in (w : World) (ht : Tabs w) (s : ByteArray) (A : Option Addr) (n c : Nat) (E : Nat → Int × Int × ByteArray) (hE : Edits w A n E) (k l : Int) (hs : s.size ≤ 4096) (hn : n ≤ 20) : Calls Tryd.prog 5 #[.string s, .slice A n c, .int .i64 k, .int .i64 l] w fun e w' => e = .returned (.bool true) ∧ Up w w' := by
  have HE := Lib.hid hE
  have HT := Lib.hid ht
  have H1 := Lib.hid (of_any s (by omega) w ht)
  have f0 : decide (4096 < (s.size : Int)) = false := decide_eq_false (by omega)
  have f1 : decide (20 < (n : Int)) = false := decide_eq_false (by omega)
  have HN := Lib.hid hn
  clear hE ht hs hn
  go_enter Tryd.func5, Tryd.ntmps5
  go_wp2_with (go_at_call 8; ((with_reducible refine H1.out.mono ?_); rintro e w1 ⟨rb, rfl, r1, hu1⟩; have HR1 := Lib.hid r1; have HU1 := Lib.hid hu1; clear r1 hu1))
  go_loopg [9, 10] n (fun g rv iv wr => ∃ (i rb : Nat) (t : ByteArray), g = n - i ∧ rv = .pointer (some ⟨rb, 0, none⟩) ∧ iv = .int .i64 (i : Nat) ∧ i ≤ n ∧ Hid (RopeIs wr rb t) ∧ Hid (Up w wr))
  case atStart => exact ⟨0, rb, s, rfl, rfl, rfl, Nat.zero_le _, HR1, HU1⟩
  case round =>
    obtain ⟨i, rb, t, hg, rfl, rfl, hi, HR, HU⟩ := hrel
    have HG := Lib.hid hg
    clear hg
    by_cases hlt : i < n
    · obtain ⟨hok, b, o, hA, hb, c0, c1, c2⟩ := (HE.out.up HU.out) i hlt
      obtain ⟨⟨p, d, ins⟩, hEi⟩ : ∃ x, E i = x := ⟨_, rfl⟩
      rw [hEi] at hok c0 c1 c2
      have hsz : ins.size ≤ maxLen := hok.2.2
      unfold maxLen at hsz
      have HA := Lib.hid hA
      obtain rfl := HA.out
      clear hEi hok hA HA hb
      simp only at c0 c1 c2
      have HT1 := Lib.hid (HT.out.up HU.out)
      have hii : (i : Int) < n := by omega
      have hi60 : (i : Int) ≤ 20 := by have := HN.out; omega
      by_cases hbig : 4096 < ins.size
      · have hb2 : 4096 < (ins.size : Int) := by omega
        clear hbig
        go_wp2_with (go_at_call 7; ((with_reducible refine (pwakes_any _ HT1.out).mono ?_); rintro e wb ⟨rfl, hub⟩))
        go_ret
        exact ⟨rfl, HU.out.trans hub⟩
      · have fb : decide (4096 < (ins.size : Int)) = false := decide_eq_false (by omega)
        clear hbig
        by_cases hs0 : spE t p d ins = 0
        · have HP := Lib.hid (spliceT_ok HR.out HT1.out p d ins hs0)
          clear hs0
          go_wp2_with (go_at_call 17; ((with_reducible refine HP.out.mono ?_); rintro e w2 ⟨xb, rfl, r2, hu2⟩; have HR2 := Lib.hid r2; have HU2 := Lib.hid (HU.out.trans hu2); clear r2 hu2))
          go_roundg (n - (i + 1))
          case measure => rw [HG.out]; omega
          case rel => exact ⟨i + 1, xb, _, rfl, rfl, by go_num, by omega, HR2, HU2⟩
        · have HP := Lib.hid (spliceT_no HR.out p d ins hs0)
          have fe : (spE t p d ins == 0) = false := beq_false_of_ne hs0
          clear hs0
          go_wp2_with (go_at_call 17; ((with_reducible refine HP.out.mono ?_); rintro e w2 ⟨rfl, hu2⟩; have HR2 := Lib.hid (HR.out.up hu2); have HU2 := Lib.hid (HU.out.trans hu2); clear hu2))
          go_roundg (n - (i + 1))
          case measure => rw [HG.out]; omega
          case rel => exact ⟨i + 1, rb, t, rfl, rfl, by go_num, by omega, HR2, HU2⟩
    · obtain rfl : i = n := by omega
      have f2 : decide (i < i) = false := decide_eq_false (by omega)
      have HS := Lib.hid (show St1 w rb t _ from ⟨HR.out, HU.out, HT.out.up HU.out⟩)
      have hz : (t.size : Int) ≤ 1048576 := HS.out.r.size
      clear hlt hi HR HU HG HE H1 HR1 HU1
      go_wp2_with (go_at_call 18; ((with_reducible refine (text_any HS.out.r).mono ?_); rintro e w3 ⟨rfl, hu⟩; have HS := Lib.hid (HS.out.up hu); clear hu))
      go_loopg [14, 15, 16] (t.size + 1) (fun g lv fv av wr => ∃ (L x a : Nat), g = t.size + 1 - a ∧ lv = .int .i64 (L : Nat) ∧ fv = .int .i64 (x : Nat) ∧ av = .int .i64 (a : Nat) ∧ a ≤ t.size + 1 ∧ Hid (a ≤ t.size → L = na t a ∧ x = bh t (na t a)) ∧ Hid (St1 w rb t wr))
      case atStart => exact ⟨0, 0, 0, rfl, rfl, rfl, rfl, Nat.zero_le _, Lib.hid (fun _ => by rw [na_zero, bh_zero]; exact ⟨rfl, rfl⟩), HS⟩
      case round =>
        obtain ⟨L, x, a, hg, rfl, rfl, rfl, ha, HX, HS⟩ := hrel
        have HG := Lib.hid hg
        clear hg
        by_cases hle : a ≤ t.size
        · obtain ⟨hL, hx⟩ := HX.out hle
          have HO : Hid (OfB t a L x) := Lib.hid (by rw [hL, hx]; exact ofB hle)
          have hxa : (x : Int) ≤ a := by have := bh_na_le hle; omega
          have hLz : (L : Int) ≤ 1048576 := by have := na_le_size t a; omega
          by_cases hlt : a < t.size
          · have hai : (a : Int) < t.size := by omega
            obtain ⟨B, hB⟩ : ∃ B, (((t[a].toNat : Nat) : Int) == 10) = B := ⟨_, rfl⟩
            obtain ⟨g1, g0⟩ := lf_step hlt hB
            have HK1 : Hid (B = true → L + 1 = na t (a + 1) ∧ a + 1 = bh t (na t (a + 1))) := Lib.hid (by rw [hL]; exact g1)
            have HK0 : Hid (B = false → L = na t (a + 1) ∧ x = bh t (na t (a + 1))) := Lib.hid (by rw [hL, hx]; exact g0)
            clear hL hx hle ha g1 g0
            obtain ⟨D, hD⟩ : ∃ D, ((a : Int) == (x : Int)) = D := ⟨_, rfl⟩
            go_wp2_with (first
              | (go_at_call 9; ((with_reducible refine (OfB.of HO.out HS.out.r).mono ?_); rintro e w4 ⟨rfl, hu⟩; have HS := Lib.hid (HS.out.up hu); clear hu))
              | (go_at_call 11; ((with_reducible refine (OfB.off HO.out HS.out.r).mono ?_); rintro e w5 ⟨rfl, hu⟩; have HS := Lib.hid (HS.out.up hu); clear hu)))
            all_goals go_roundg (t.size + 1 - (a + 1))
            all_goals first
              | (rw [HG.out]; omega)
              | (have hb : B = true := by assumption
                 exact ⟨L + 1, a + 1, a + 1, rfl, by go_num, by go_num, by go_num, by omega, Lib.hid (fun _ => HK1.out hb), HS⟩)
              | (have hb : B = false := by first | assumption | exact And.right (by assumption)
                 exact ⟨L, x, a + 1, rfl, by go_num, by go_num, by go_num, by omega, Lib.hid (fun _ => HK0.out hb), HS⟩)
          · obtain rfl : a = t.size := by omega
            have f4 : decide (t.size < t.size) = false := decide_eq_false (by omega)
            obtain ⟨D, hD⟩ : ∃ D, ((t.size : Int) == (x : Int)) = D := ⟨_, rfl⟩
            clear hL hx hle ha hlt
            go_wp2_with (first
              | (go_at_call 9; ((with_reducible refine (OfB.of HO.out HS.out.r).mono ?_); rintro e w4 ⟨rfl, hu⟩; have HS := Lib.hid (HS.out.up hu); clear hu))
              | (go_at_call 11; ((with_reducible refine (OfB.off HO.out HS.out.r).mono ?_); rintro e w5 ⟨rfl, hu⟩; have HS := Lib.hid (HS.out.up hu); clear hu)))
            all_goals go_roundg (t.size + 1 - (t.size + 1))
            all_goals first
              | exact ⟨L, x, t.size + 1, rfl, by go_num, by go_num, by go_num, Nat.le_refl _, Lib.hid (fun h => absurd h (by omega)), HS⟩
              | (rw [HG.out]; omega)
        · obtain rfl : a = t.size + 1 := by omega
          have f3 : decide (t.size + 1 ≤ t.size) = false := decide_eq_false (by omega)
          clear hle ha HX HG
          by_cases hok : OsOk t k l
          · have HK := Lib.hid hok
            clear hok
            go_wp2_with (first
              | (go_at_call 11; ((with_reducible refine (os_at HS.out.r HK.out).mono ?_); rintro e w4 ⟨rfl, hu⟩; have HS := Lib.hid (HS.out.up hu); clear hu))
              | (go_at_call 9; ((with_reducible refine (of_back HS.out.r HK.out).mono ?_); rintro e w5 ⟨rfl, hu⟩; have HS := Lib.hid (HS.out.up hu); clear hu))
              | (go_at_call 7; ((with_reducible refine (pwakes_any _ HS.out.t).mono ?_); rintro e wb ⟨rfl, hub⟩)))
            go_ret
            exact ⟨rfl, HS.out.u.trans hub⟩
          · have HK := Lib.hid hok
            clear hok
            go_wp2_with (first
              | (go_at_call 11; ((with_reducible refine (os_no HS.out.r HK.out).mono ?_); rintro e w4 ⟨rfl, hu⟩; have HS := Lib.hid (HS.out.up hu); clear hu))
              | (go_at_call 7; ((with_reducible refine (pwakes_any _ HS.out.t).mono ?_); rintro e wb ⟨rfl, hub⟩)))
            go_ret
            exact ⟨rfl, HS.out.u.trans hub⟩
theorem pback_walk (w : World) (ht : Tabs w) (s : ByteArray) (A : Option Addr) (n c : Nat) (E : Nat → Int × Int × ByteArray) (hE : Edits w A n E) (k l : Int) : Calls Tryd.prog 5 #[.string s, .slice A n c, .int .i64 k, .int .i64 l] w fun e w' => e = .returned (.bool true) ∧ Up w w' := by
  by_cases h : 4096 < s.size ∨ 20 < n
  · exact pback_big w ht s A n c k l h
  · exact pback_in w ht s A n c E hE k l (by omega) (by omega)
end Go.Proofs.YtfcpieodgflmnaaDoor
