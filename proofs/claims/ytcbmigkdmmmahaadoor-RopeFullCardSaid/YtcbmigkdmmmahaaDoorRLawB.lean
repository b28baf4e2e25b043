/- RopeFull, walked. -/
import Derived.Test.YtcbmigkdmmmahaaDoorRWakes
namespace Go.Proofs.YtcbmigkdmmmahaaDoor
open Go.RowKit

/-- Of letters of one byte each there are as many steps as bytes. -/
theorem steps_low {s : ByteArray} (h : ∀ i, i < s.size → bt s i < 128) : ∀ m a, s.size - a ≤ m → (stepsFrom s a).length = s.size - a := by
  intro m
  induction m with
  | zero => intro a ha; rw [stepsFrom_nil (by omega)]; show 0 = _; omega
  | succ m ih =>
    intro a ha
    by_cases hl : a < s.size
    · have h1 : stepLen s a = 1 := by
        by_cases hb : bt s a < 128
        · exact wk_step (c := bt s a) ⟨by unfold szOf; rw [if_pos hb], by omega, by omega, fun i h1 h2 => by omega, by show bt s a - leadOf 1 = bt s a; rfl, Nat.zero_le _, (isC_iff _).2 (by omega)⟩
        · exact absurd (h a hl) hb
      rw [stepsFrom_cons hl, h1, List.length_cons, ih (a + 1) (by omega)]
      omega
    · rw [stepsFrom_nil hl]; show 0 = _; omega
theorem count_low {s : ByteArray} (h : ∀ i, i < s.size → bt s i < 128) : countS s = s.size := steps_low h s.size 0 (by omega)

def rep (n : Nat) : ByteArray := ⟨Array.replicate n 97⟩
theorem rep_size (n : Nat) : (rep n).size = n := by show (Array.replicate n (97 : UInt8)).size = n; simp
theorem rep_bt {n i : Nat} (h : i < n) : bt (rep n) i = 97 := by
  rw [← bt_eq (show i < (rep n).size by rw [rep_size]; exact h)]
  show ((Array.replicate n (97 : UInt8))[i]'(by simp; exact h)).toNat = 97
  simp
theorem rep_add (n : Nat) : rep n ++ rep n = rep (n + n) := by
  refine ext_bt (by rw [ByteArray.size_append, rep_size, rep_size]) fun k hk => ?_
  rw [ByteArray.size_append, rep_size] at hk
  rw [rep_bt hk]
  by_cases hl : k < n
  · rw [bt_append_left (by rw [rep_size]; exact hl), rep_bt hl]
  · have := bt_append_right (a := rep n) (b := rep n) (i := k - n) 
    rw [rep_size, show n + (k - n) = k from by omega] at this
    rw [this (by omega), rep_bt (by omega)]
def pw (k : Nat) : Nat := 2 ^ k
theorem pw_zero : pw 0 = 1 := rfl
theorem pw_succ (k : Nat) : pw (k + 1) = pw k + pw k := by unfold pw; omega
theorem pw_20 : pw 20 = 1048576 := rfl
theorem pw_lt {k : Nat} (h : k < 20) : pw k < 1048576 := by unfold pw; rw [← pw_20]; exact Nat.pow_lt_pow_right (by omega) h
theorem full_edit (d : ByteArray) (hd : d = ⟨#[98]⟩) : countS (edited (rep 1048576) 7 1 d) = 1048576 ∧ (edited (rep 1048576) 7 1 d).size = 1048576 := by
  have z : (edited (rep 1048576) 7 1 d).size = 1048576 := by
    rw [edited_size (by rw [rep_size]; omega), rep_size, hd]
    rfl
  refine ⟨?_, z⟩
  rw [count_low ?_, z]
  intro i hi
  rw [z] at hi
  have s1 : ((rep 1048576).extract 0 7).size = 7 := by rw [ByteArray.size_extract, rep_size]; omega
  have s2 : d.size = 1 := by rw [hd]; rfl
  unfold edited
  by_cases h1 : i < 7
  · rw [bt_append_left (by rw [ByteArray.size_append]; omega), bt_append_left (by omega), bt_ext_in (by omega) (by rw [rep_size]; omega), rep_bt (by omega)]
    omega
  by_cases h2 : i = 7
  · subst h2
    have e := bt_append_right (a := (rep 1048576).extract 0 7) (b := d) (i := 0) (by omega)
    rw [s1] at e
    rw [bt_append_left (by rw [ByteArray.size_append]; omega), e, hd]
    decide
  · have e := bt_append_right (a := (rep 1048576).extract 0 7 ++ d) (b := (rep 1048576).extract (7 + 1) (rep 1048576).size) (i := i - 8) (by rw [ByteArray.size_extract, rep_size]; omega)
    rw [ByteArray.size_append, s1, s2, show 7 + 1 + (i - 8) = i from by omega] at e
    rw [e, rep_size, bt_ext_in (by omega) (by rw [rep_size]; omega), rep_bt (by omega)]
    omega

set_option maxRecDepth 100000 in
set_option maxHeartbeats 4000000 in
theorem full_walk (w : World) (ht : Tabs w) : Calls Tryd.prog 5 #[] w fun e w' => e = .returned (.bool true) ∧ Up w w' := by
  have HT := Lib.hid ht
  obtain ⟨M, hM⟩ : ∃ M : Nat, M = 1048576 := ⟨_, rfl⟩
  obtain ⟨S, hS⟩ : ∃ S, rep M = S := ⟨_, rfl⟩
  obtain ⟨E, hE⟩ : ∃ E, edited S 7 1 ⟨#[98]⟩ = E := ⟨_, rfl⟩
  have zS : S.size = M := by rw [← hS, rep_size]
  have hEf := full_edit ⟨#[98]⟩ rfl
  rw [← hM, hS, hE] at hEf
  have HM := Lib.hid hM
  obtain ⟨I, hI⟩ : ∃ I : Int, (M : Int) = I := ⟨_, rfl⟩
  have eM : (I == 1048576) = true := by rw [← hI, hM]; rfl
  have H1 := Lib.hid (fun (W : World) (ht : Tabs W) => of_any S (by rw [zS, hM]; decide) W ht)
  have H2 := Lib.hid (fun (W : World) (rb : Nat) (hr : RopeIs W rb S) (ht : Tabs W) => show Calls Tryd.prog 14 #[.pointer (some ⟨rb, 0, none⟩), .agg #[.int .i64 7, .int .i64 1, .string ⟨#[98]⟩]] W (fun e w' => ∃ rb', e = .returned (.tuple #[.pointer (some ⟨rb', 0, none⟩), .int .i64 0]) ∧ RopeIs w' rb' E ∧ Up W w') by
    have := splice_in hr ht 7 1 ⟨#[98]⟩ (by rw [zS]; omega) (by rw [zS, hM]; decide)
    rw [hE] at this
    exact this)
  have H3 := Lib.hid (fun (W : World) (rb : Nat) (hr : RopeIs W rb S) => show Calls Tryd.prog 14 #[.pointer (some ⟨rb, 0, none⟩), .agg #[.int .i64 7, .int .i64 1, .string ⟨#[98, 99]⟩]] W (fun e w' => e = .returned (.tuple #[.pointer none, .int .i64 2]) ∧ Up W w') from
    splice_long hr 7 1 ⟨#[98, 99]⟩ (by rw [zS]; omega) (by rw [zS, hM]; decide))
  have H4 := Lib.hid (fun (W : World) => show Calls Tryd.prog 9 #[.string (S ++ ⟨#[97]⟩)] W (fun e w' => e = .returned (.pointer none) ∧ W = w') from of_long _ (by rw [ByteArray.size_append, zS, hM]; decide) W)
  have H5 := Lib.hid (fun (W : World) (rb : Nat) (hr : RopeIs W rb E) => show Calls Tryd.prog 17 #[.pointer (some ⟨rb, 0, none⟩)] W (fun e w' => e = .returned (.int .i64 I) ∧ Up W w') by
    have := rope_len_any hr
    rw [hEf.2, hI] at this
    exact this)
  have H6 := Lib.hid (fun (W : World) (rb : Nat) (hr : RopeIs W rb E) => show Calls Tryd.prog 12 #[.pointer (some ⟨rb, 0, none⟩)] W (fun e w' => e = .returned (.int .i64 I) ∧ Up W w') by
    have := rope_steps_any hr
    rw [hEf.1, hI] at this
    exact this)
  have HS := Lib.hid hS
  clear hEf hE hS hM zS ht hI
  go_enter Tryd.func5, Tryd.ntmps5
  go_wp2
  go_loopg [1] 20 (fun g sv wr => w = wr ∧ ∃ (k : Nat) (s : ByteArray), g = 20 - k ∧ sv = .string s ∧ k ≤ 20 ∧ Hid (s = rep (pw k)))
  case atStart => exact ⟨rfl, 0, _, rfl, rfl, by omega, Lib.hid rfl⟩
  case round =>
    obtain ⟨rfl, k, s, hg, rfl, hk, hs⟩ := hrel
    have z : s.size = pw k := by rw [hs.out, rep_size]
    by_cases h20 : k < 20
    · have hlt : (s.size : Int) < 1048576 := by have := pw_lt h20; omega
      have HG := Lib.hid hg
      have HN : Hid (s ++ s = rep (pw (k + 1))) := Lib.hid (by rw [hs.out, rep_add, pw_succ])
      clear z hg
      go_wp2
      go_roundg (20 - (k + 1))
      case measure => rw [HG.out]; omega
      case rel => exact ⟨rfl, k + 1, _, rfl, rfl, by omega, HN⟩
    · obtain rfl : k = 20 := by omega
      obtain ⟨Z, hZ⟩ : ∃ Z : Int, (s.size : Int) = Z := ⟨_, rfl⟩
      have f0 : decide (Z < 1048576) = false := decide_eq_false (by rw [← hZ, z, pw_20]; decide)
      have hZb : Z < 1048577 := by rw [← hZ, z, pw_20]; decide
      obtain rfl : s = S := by rw [hs.out, pw_20, ← HM.out]; exact HS.out
      clear z hs hg h20 hk
      go_wp2_with (first
        | (go_at_call 9; ((with_reducible refine (H1.out _ HT.out).mono ?_); rintro e w1 ⟨rb, rfl, r1, hu1⟩; have HR1 := Lib.hid r1; clear r1; have HT1 := Lib.hid (HT.out.up hu1)))
        | (go_at_call 14; ((with_reducible refine (H2.out _ _ HR1.out HT1.out).mono ?_); rintro e w2 ⟨xb, rfl, r2, hu2⟩; have HX := Lib.hid r2; clear r2; have HR2 := Lib.hid (HR1.out.up hu2)))
        | (go_at_call 14; ((with_reducible refine (H3.out _ _ HR2.out).mono ?_); rintro e w3 ⟨rfl, hu3⟩; have HX3 := Lib.hid (HX.out.up hu3)))
        | (go_at_call 9; ((with_reducible refine (H4.out _).mono ?_); rintro e w4 ⟨rfl, rfl⟩))
        | (go_at_call 17; ((with_reducible refine (H5.out _ _ HX3.out).mono ?_); rintro e w5 ⟨rfl, hu5⟩; have HX5 := Lib.hid (HX3.out.up hu5)))
        | (go_at_call 12; ((with_reducible refine (H6.out _ _ HX5.out).mono ?_); rintro e w6 ⟨rfl, hu6⟩; have HU := Lib.hid (hu1.trans (hu2.trans (hu3.trans (hu5.trans hu6))))))
        | (go_at_call 10; ((with_reducible refine (rwakes_any _ (HT.out.up HU.out)).mono ?_); rintro e wb ⟨rfl, hub⟩)))
      go_ret
      exact ⟨rfl, HU.out.trans hub⟩
end Go.Proofs.YtcbmigkdmmmahaaDoor
