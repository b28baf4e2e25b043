/- The document's characters, walked. -/
import Derived.Test.YtfcpieodgflmnaaDoorPRef
namespace Go.Proofs.YtfcpieodgflmnaaDoor
open Go.RowKit

theorem pos_chN_lt {u : ByteArray} {m n : Nat} (hm : m ≤ u.size) (h : n < chN u m) : pos u n < m := (chN_spec u m hm).2 n h
theorem pos_chN_ge {u : ByteArray} {m : Nat} (hm : m ≤ u.size) : m ≤ pos u (chN u m) := (chN_spec u m hm).1
theorem pos_step {u : ByteArray} {n : Nat} (h : pos u n < u.size) : pos u n + stepLen u (pos u n) = pos u (n + 1) := (pos_add_one h).symm

set_option maxRecDepth 100000 in
set_option maxHeartbeats 2000000 in
theorem refCh_out (s : ByteArray) (i : Int) (h : ¬ (0 ≤ i ∧ i ≤ s.size)) (w : World) : Calls Tryd.prog 14 #[.string s, .int .i64 i] w fun e w' => e = .returned (.tuple #[.int .i64 0, .int .i64 5]) ∧ Up w w' := by
  have HO := Lib.hid (refOf_out s i h w)
  clear h
  go_enter Tryd.func14, Tryd.ntmps14
  go_wp2_with (go_at_call 10; ((with_reducible refine HO.out.mono ?_); rintro e w1 ⟨rfl, rfl⟩))
  go_ret2
  exact ⟨rfl, Up.refl _⟩
set_option maxRecDepth 100000 in
set_option maxHeartbeats 2000000 in
theorem refCh_walk (s u : ByteArray) (i k x y : Nat) (C : Int) (hs : (s.size : Int) ≤ 1048576) (hi : i ≤ s.size) (hx : x ≤ i) (hxy : x ≤ y) (hy : y ≤ s.size) (hu : s.extract x y = u) (hz : i - x ≤ u.size) (w : World)
    (hO : Calls Tryd.prog 10 #[.string s, .int .i64 (i : Nat)] w fun e w' => e = .returned (.tuple #[.int .i64 (k : Nat), .int .i64 C, .int .i64 0]) ∧ w = w')
    (hL : Calls Tryd.prog 28 #[.string s, .int .i64 (k : Nat)] w fun e w' => e = .returned (.tuple #[.agg #[.int .i64 (x : Nat), .int .i64 (y : Nat)], .int .i64 0]) ∧ Up w w') :
    Calls Tryd.prog 14 #[.string s, .int .i64 (i : Nat)] w fun e w' => e = .returned (.tuple #[.int .i64 (chN u (i - x) : Nat), .int .i64 0]) ∧ Up w w' := by
  have HO := Lib.hid hO
  have HL := Lib.hid hL
  have hus : u.size ≤ s.size := by rw [← hu, ByteArray.size_extract]; omega
  have HM : Hid (u.size ≤ maxLen) := Lib.hid (by unfold maxLen; omega)
  have HZ := Lib.hid hz
  have h1 : (x : Int) ≤ y := by omega
  have h2 : (y : Int) ≤ s.size := by omega
  have hii : (i : Int) ≤ 1048576 := by omega
  have hxx : (x : Int) ≤ i := by omega
  have hui : (u.size : Int) ≤ 1048576 := by omega
  clear hO hL hz hs hi hus
  go_enter Tryd.func14, Tryd.ntmps14
  go_wp2_with (first
    | (go_at_call 10; ((with_reducible refine HO.out.mono ?_); rintro e w0 ⟨rfl, rfl⟩))
    | (go_at_call 28; ((with_reducible refine HL.out.mono ?_); rintro e w1 ⟨rfl, hv⟩; have hg := rg_cells w1 (x : Nat) (y : Nat); have HG1 := Lib.hid hg; obtain ⟨c0, c1, -⟩ := hg; have HU := Lib.hid (hv.trans (Up.alloc w1 (.cells #[.int .i64 (x : Nat), .int .i64 (y : Nat)] 50))); clear hv)))
  clear c0 c1
  go_loopg [12, 13] (chN u (i - x)) (fun g nv av wr => ∃ (n a : Nat), g = chN u (i - x) - n ∧ nv = .int .i64 (n : Nat) ∧ av = .int .i64 (a : Nat) ∧ Hid (n ≤ chN u (i - x)) ∧ Hid (a = pos u n) ∧ Hid (Rg wr w1.heap.size (x : Nat) (y : Nat)) ∧ Hid (Up w wr))
  case atStart => exact ⟨0, 0, rfl, rfl, rfl, Lib.hid (Nat.zero_le _), Lib.hid rfl, HG1, HU⟩
  case round =>
    obtain ⟨n, a, hg, rfl, rfl, hn, hA, HR, HU⟩ := hrel
    have HG := Lib.hid hg
    clear hg
    obtain ⟨c0, c1, -⟩ := HR.out
    have hnc := chN_le HZ.out
    have hz' := HZ.out
    have hni : (n : Int) ≤ 1048576 := by have := hn.out; omega
    have hai : (a : Int) ≤ 1048576 := by have := hA.out; have := pos_le u n; omega
    by_cases hlt : n < chN u (i - x)
    · have hp := pos_chN_lt HZ.out hlt
      have hps := pos_step (u := u) (n := n) (by omega)
      have hl := lenI_nat (s := u) (a := pos u n) (by omega)
      have h4 := stepLen_le u (pos u n)
      have hLen := refLen_any u (pos u n : Nat) HM.out wr
      unfold LenSays at hLen
      rw [hl] at hLen
      rw [← hA.out] at hLen hp hps h4
      obtain ⟨L, hLe⟩ : ∃ L, stepLen u a = L := ⟨_, rfl⟩
      rw [hLe] at hLen hps h4
      have hLn : Hid (∀ W, Up wr W → True) := Lib.hid fun _ _ => trivial
      have HX := Lib.hid hLen
      have HP := Lib.hid hps
      have hai2 : (a : Int) < (i : Int) - x := by omega
      have HT := Lib.hid hlt
      clear hlt hp hps hl hLen hLe hz' hnc
      generalize okI u (a : Nat) = ob at HX
      go_wp2_with (go_at_call 29; ((with_reducible refine HX.out.mono ?_); rintro e w3 ⟨rfl, hv⟩; have HR3 := Lib.hid (HR.out.up hv); have HU3 := Lib.hid (HU.out.trans hv); clear hv))
      go_roundg (chN u (i - x) - (n + 1))
      case measure => rw [HG.out]; have := HT.out; omega
      case rel => exact ⟨n + 1, a + L, rfl, by go_num, by go_num, Lib.hid HT.out, HP, HR3, HU3⟩
    · have e : n = chN u (i - x) := by have := hn.out; omega
      have hp := pos_chN_ge HZ.out
      rw [← e, ← hA.out] at hp
      have hai2 : (i : Int) - x ≤ a := by omega
      have HE := Lib.hid e
      clear e hp hlt hnc hz'
      go_wp2
      go_ret2
      exact ⟨ret_ii (by rw [HE.out]) rfl, HU.out⟩
theorem refChT (s : ByteArray) (hs : (s.size : Int) ≤ 1048576) (i : Int) (w : World) : Calls Tryd.prog 14 #[.string s, .int .i64 i] w fun e w' => e = .returned (.tuple #[.int .i64 (chV s i), .int .i64 (fdE s i)]) ∧ Up w w' := by
  unfold chV fdE
  by_cases h : 0 ≤ i ∧ i ≤ s.size
  · rw [if_pos h, if_pos h]
    obtain ⟨k, rfl⟩ := Int.eq_ofNat_of_zero_le h.1
    have hk : k ≤ s.size := by omega
    have h1 := le_be hk
    have h2 := be_lineEnd s (na_le_nl hk)
    have h0 := bh_na_le hk
    rw [Int.toNat_natCast]
    exact refCh_walk s (lnA s (na s k)) k (na s k) (bh s (na s k)) (lineEnd s (na s k)) _ hs hk h0 (by omega) (lineEnd_le _ _) rfl (by rw [lnA_size]; omega) w (refOf_in s hs k hk w) (refLine_in s hs _ (na_le_nl hk) w)
  · rw [if_neg h, if_neg h]
    exact refCh_out s i h w

set_option maxRecDepth 100000 in
set_option maxHeartbeats 2000000 in
theorem refCo_none (s : ByteArray) (k c x y : Int) (w : World) (hL : Calls Tryd.prog 24 #[.string s, .int .i64 k] w fun e w' => e = .returned (.tuple #[.int .i64 x, .int .i64 y, .bool false]) ∧ Up w w') :
    Calls Tryd.prog 16 #[.string s, .int .i64 k, .int .i64 c] w fun e w' => e = .returned (.tuple #[.int .i64 0, .int .i64 5]) ∧ Up w w' := by
  have HL := Lib.hid hL
  clear hL
  go_enter Tryd.func16, Tryd.ntmps16
  go_wp2_with (go_at_call 24; ((with_reducible refine HL.out.mono ?_); rintro e w1 ⟨rfl, hu⟩))
  go_ret2
  exact ⟨rfl, hu⟩
set_option maxRecDepth 100000 in
set_option maxHeartbeats 2000000 in
theorem refCo_neg (s : ByteArray) (k c x y : Int) (hc : c < 0) (w : World) (hL : Calls Tryd.prog 24 #[.string s, .int .i64 k] w fun e w' => e = .returned (.tuple #[.int .i64 x, .int .i64 y, .bool true]) ∧ Up w w') :
    Calls Tryd.prog 16 #[.string s, .int .i64 k, .int .i64 c] w fun e w' => e = .returned (.tuple #[.int .i64 0, .int .i64 5]) ∧ Up w w' := by
  have HL := Lib.hid hL
  have f0 : decide (c < 0) = true := decide_eq_true hc
  clear hL hc
  go_enter Tryd.func16, Tryd.ntmps16
  go_wp2_with (go_at_call 24; ((with_reducible refine HL.out.mono ?_); rintro e w1 ⟨rfl, hu⟩))
  go_ret2
  exact ⟨rfl, hu⟩
set_option maxRecDepth 100000 in
set_option maxHeartbeats 2000000 in
theorem refCo_yes (s u : ByteArray) (k : Int) (m x y : Nat) (hs : (s.size : Int) ≤ 1048576) (hxy : x ≤ y) (hy : y ≤ s.size) (hu : s.extract x y = u) (hm : m ≤ countS u) (w : World)
    (hL : Calls Tryd.prog 24 #[.string s, .int .i64 k] w fun e w' => e = .returned (.tuple #[.int .i64 (x : Nat), .int .i64 (y : Nat), .bool true]) ∧ Up w w') :
    Calls Tryd.prog 16 #[.string s, .int .i64 k, .int .i64 (m : Nat)] w fun e w' => e = .returned (.tuple #[.int .i64 ((x : Int) + (pos u m : Nat)), .int .i64 0]) ∧ Up w w' := by
  have HL := Lib.hid hL
  have hus : u.size + x ≤ s.size := by rw [← hu, ByteArray.size_extract]; omega
  have HM : Hid (u.size ≤ maxLen) := Lib.hid (by unfold maxLen; omega)
  have HC := Lib.hid hm
  have HUS := Lib.hid hus
  have h1 : (x : Int) ≤ y := by omega
  have h2 : (y : Int) ≤ s.size := by omega
  have hxx : (x : Int) ≤ 1048576 := by omega
  have hui : (u.size : Int) ≤ 1048576 := by omega
  have hmi : (m : Int) ≤ 1048576 := by have := countS_le u; omega
  have f0 : decide ((m : Int) < 0) = false := decide_eq_false (by omega)
  clear hL hs hus hm
  go_enter Tryd.func16, Tryd.ntmps16
  go_wp2_with (go_at_call 24; ((with_reducible refine HL.out.mono ?_); rintro e w1 ⟨rfl, hv⟩; have HU := Lib.hid hv; clear hv))
  go_loopg [12, 13] m (fun g av iv wr => ∃ (i a : Nat), g = m - i ∧ av = .int .i64 (a : Nat) ∧ iv = .int .i64 (i : Nat) ∧ i ≤ m ∧ Hid (a = pos u i) ∧ Hid (Up w wr))
  case atStart => exact ⟨0, 0, rfl, rfl, rfl, Nat.zero_le _, Lib.hid rfl, HU⟩
  case round =>
    obtain ⟨i, a, hg, rfl, rfl, hi, hA, HU⟩ := hrel
    have HG := Lib.hid hg
    clear hg
    have hai : (a : Int) ≤ u.size := by have := hA.out; have := pos_le u i; omega
    by_cases hlt : i < m
    · have hl : i < countS u := by have := HC.out; omega
      have hpl := pos_lt hl
      have hps := pos_step hpl
      have hn := lenI_nat hpl
      have h4 := stepLen_le u (pos u i)
      have h5 := stepLen_pos u (pos u i)
      have hLen := refLen_any u (pos u i : Nat) HM.out wr
      unfold LenSays at hLen
      rw [hn] at hLen
      rw [← hA.out] at hLen hps h4 h5
      obtain ⟨L, hLe⟩ : ∃ L, stepLen u a = L := ⟨_, rfl⟩
      rw [hLe] at hLen hps h4 h5
      have HX := Lib.hid hLen
      have HP := Lib.hid hps
      have hf : (((L : Nat) : Int) == 0) = false := by simp; omega
      clear hl hpl hps hn hLen hLe
      generalize okI u (a : Nat) = ob at HX
      go_wp2_with (go_at_call 29; ((with_reducible refine HX.out.mono ?_); rintro e w3 ⟨rfl, hv⟩; have HU3 := Lib.hid (HU.out.trans hv); clear hv))
      go_roundg (m - (i + 1))
      case measure => rw [HG.out]; omega
      case rel => exact ⟨i + 1, a + L, rfl, by go_num, by go_num, by omega, HP, HU3⟩
    · obtain rfl : i = m := by omega
      have f2 : decide (i < i) = false := decide_eq_false (by omega)
      have hus := HUS.out
      clear hlt
      go_wp2
      go_ret2
      exact ⟨ret_ii (by rw [hA.out]) rfl, HU.out⟩
set_option maxRecDepth 100000 in
set_option maxHeartbeats 2000000 in
theorem refCo_no (s u : ByteArray) (k c : Int) (x y : Nat) (hs : (s.size : Int) ≤ 1048576) (hxy : x ≤ y) (hy : y ≤ s.size) (hu : s.extract x y = u) (hm : (countS u : Nat) < c) (w : World)
    (hL : Calls Tryd.prog 24 #[.string s, .int .i64 k] w fun e w' => e = .returned (.tuple #[.int .i64 (x : Nat), .int .i64 (y : Nat), .bool true]) ∧ Up w w') :
    Calls Tryd.prog 16 #[.string s, .int .i64 k, .int .i64 c] w fun e w' => e = .returned (.tuple #[.int .i64 0, .int .i64 5]) ∧ Up w w' := by
  have HL := Lib.hid hL
  have hus : u.size ≤ s.size := by rw [← hu, ByteArray.size_extract]; omega
  have HM : Hid (u.size ≤ maxLen) := Lib.hid (by unfold maxLen; omega)
  have HC := Lib.hid hm
  have h1 : (x : Int) ≤ y := by omega
  have h2 : (y : Int) ≤ s.size := by omega
  have hui : (u.size : Int) ≤ 1048576 := by omega
  have f0 : decide (c < 0) = false := decide_eq_false (by omega)
  clear hL hs hus hm
  go_enter Tryd.func16, Tryd.ntmps16
  go_wp2_with (go_at_call 24; ((with_reducible refine HL.out.mono ?_); rintro e w1 ⟨rfl, hv⟩; have HU := Lib.hid hv; clear hv))
  go_loopg [12, 13] (countS u + 1) (fun g av iv wr => ∃ (i a : Nat), g = countS u + 1 - i ∧ av = .int .i64 (a : Nat) ∧ iv = .int .i64 (i : Nat) ∧ Hid (i ≤ countS u) ∧ Hid (a = pos u i) ∧ Hid (Up w wr))
  case atStart => exact ⟨0, 0, rfl, rfl, rfl, Lib.hid (Nat.zero_le _), Lib.hid rfl, HU⟩
  case round =>
    obtain ⟨i, a, hg, rfl, rfl, hi, hA, HU⟩ := hrel
    have HG := Lib.hid hg
    clear hg
    have hai : (a : Int) ≤ u.size := by have := hA.out; have := pos_le u i; omega
    have hii : (i : Int) ≤ 1048576 := by have := hi.out; have := countS_le u; omega
    have hic : (i : Int) < c := by have := HC.out; have := hi.out; omega
    have hLen := refLen_any u (pos u i : Nat) HM.out wr
    unfold LenSays at hLen
    by_cases hl : i < countS u
    · have hpl := pos_lt hl
      have hps := pos_step hpl
      have hn := lenI_nat hpl
      have h4 := stepLen_le u (pos u i)
      have h5 := stepLen_pos u (pos u i)
      rw [hn] at hLen
      rw [← hA.out] at hLen hps h4 h5
      obtain ⟨L, hLe⟩ : ∃ L, stepLen u a = L := ⟨_, rfl⟩
      rw [hLe] at hLen hps h4 h5
      have HX := Lib.hid hLen
      have HP := Lib.hid hps
      have hf : (((L : Nat) : Int) == 0) = false := by simp; omega
      have HT := Lib.hid hl
      clear hl hpl hps hn hLen hLe
      generalize okI u (a : Nat) = ob at HX
      go_wp2_with (go_at_call 29; ((with_reducible refine HX.out.mono ?_); rintro e w3 ⟨rfl, hv⟩; have HU3 := Lib.hid (HU.out.trans hv); clear hv))
      go_roundg (countS u + 1 - (i + 1))
      case measure => rw [HG.out]; have := HT.out; omega
      case rel => exact ⟨i + 1, a + L, rfl, by go_num, by go_num, Lib.hid HT.out, HP, HU3⟩
    · have e : i = countS u := by have := hi.out; omega
      have hn : lenI u (pos u i : Nat) = 0 := by rw [e]; exact lenI_end u
      rw [hn] at hLen
      rw [← hA.out] at hLen
      have HX := Lib.hid hLen
      clear hl e hn hLen
      generalize okI u (a : Nat) = ob at HX
      go_wp2_with (go_at_call 29; ((with_reducible refine HX.out.mono ?_); rintro e w3 ⟨rfl, hv⟩; have HU3 := Lib.hid (HU.out.trans hv); clear hv))
      go_ret2
      exact ⟨rfl, HU3.out⟩
theorem refCoT (s : ByteArray) (hs : (s.size : Int) ≤ 1048576) (k c : Int) (w : World) : Calls Tryd.prog 16 #[.string s, .int .i64 k, .int .i64 c] w fun e w' => e = .returned (.tuple #[.int .i64 (coV s k c), .int .i64 (coE s k c)]) ∧ Up w w' := by
  unfold coV coE
  by_cases h : 0 ≤ k ∧ k ≤ nl s
  · obtain ⟨k, rfl⟩ := Int.eq_ofNat_of_zero_le h.1
    have hk : k ≤ nl s := by omega
    by_cases hc : 0 ≤ c ∧ c ≤ (countS (lnB s k) : Nat)
    · have hok : CoOk s k c := ⟨h, hc⟩
      rw [if_pos hok, if_pos hok]
      obtain ⟨m, rfl⟩ := Int.eq_ofNat_of_zero_le hc.1
      rw [Int.toNat_natCast, Int.toNat_natCast]
      exact refCo_yes s (lnB s k) k m _ _ hs (bh_be s k) (be_le s k) rfl (by omega) w (refLn_in s hs k hk w)
    · have hno : ¬ CoOk s k c := fun g => hc g.2
      rw [if_neg hno, if_neg hno]
      by_cases h0 : c < 0
      · exact refCo_neg s k c _ _ h0 w (refLn_in s hs k hk w)
      · exact refCo_no s (lnB s k) k c _ _ hs (bh_be s k) (be_le s k) rfl (by omega) w (refLn_in s hs k hk w)
  · have hno : ¬ CoOk s k c := fun g => h g.1
    rw [if_neg hno, if_neg hno]
    exact refCo_none s k c 0 0 w (refLn_out s hs k h w)
end Go.Proofs.YtfcpieodgflmnaaDoor
