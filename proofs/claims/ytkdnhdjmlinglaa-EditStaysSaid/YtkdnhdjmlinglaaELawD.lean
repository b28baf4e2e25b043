/- The law EditStays walked: a byte that is not taken away stands where its place goes, and places are never turned about. -/
import Derived.Test.YtkdnhdjmlinglaaELawC
namespace Go.Proofs.Ytkdnhdjmlinglaa
open Go.RowKit

/-- Where a place of the text goes, in natural numbers. -/
def mvN (p d z k : Nat) : Nat := if k < p then k else if k < p + d then p + z else k - d + z
theorem mv_nat {s x : ByteArray} {p d k : Nat} (h : edErr s.size ((p : Int), (d : Int), x) = 0) (hs : s.size ≤ 1048576) (hk : k ≤ s.size) : mvP ((p : Int), (d : Int), x) (k : Nat) = ((mvN p d x.size k : Nat) : Int) := by
  obtain ⟨h0, h1, h2, h3, h4⟩ := edErr_zero h
  simp only at h0 h1 h2 h3 h4
  unfold mvP mvN
  simp only
  by_cases g : k < p
  · rw [if_pos (by omega), if_pos g]
  · rw [if_neg (by omega), if_neg g]
    by_cases g2 : k < p + d
    · rw [if_pos (by omega), if_pos g2]
      omega
    · rw [if_neg (by omega), if_neg g2]
      omega
theorem mv_facts {s x : ByteArray} {p d : Nat} (h : edErr s.size ((p : Int), (d : Int), x) = 0) : p + d ≤ s.size ∧ (edS s ((p : Int), (d : Int), x)).size = s.size - d + x.size ∧ s.size - d + x.size ≤ 1048576 := by
  obtain ⟨h0, h1, h2, h3, h4⟩ := edErr_zero h
  have hz := edS_size h
  simp only at h0 h1 h2 h3 h4 hz
  omega
theorem mv_le {n p d z k : Nat} (h : p + d ≤ n) (hk : k ≤ n) : mvN p d z k ≤ n - d + z := by
  unfold mvN
  split
  · omega
  · split <;> omega
theorem mv_end {n p d z : Nat} (h : p + d ≤ n) : mvN p d z n = n - d + z := by
  unfold mvN
  rw [if_neg (by omega)] <;> try rw [if_neg (by omega)]
theorem mv_mono {p d z k l : Nat} (h : k ≤ l) : mvN p d z k ≤ mvN p d z l := by
  unfold mvN
  repeat' split
  all_goals omega
theorem mv_stays {s x : ByteArray} {p d k : Nat} (h : edErr s.size ((p : Int), (d : Int), x) = 0) (hk : k < s.size) (g : k < p ∨ p + d ≤ k) : mvN p d x.size k < s.size - d + x.size ∧ bt (edS s ((p : Int), (d : Int), x)) (mvN p d x.size k) = bt s k := by
  obtain ⟨h1, h2, h3⟩ := mv_facts h
  unfold mvN
  by_cases g1 : k < p
  · rw [if_pos g1]
    exact ⟨by omega, edS_ahead h (by simp only; omega)⟩
  · rw [if_neg g1, if_neg (by omega)]
    refine ⟨by omega, ?_⟩
    have e := edS_behind h (i := k - (p + d)) (by simp only; omega)
    simp only at e
    rw [show ((p : Int)).toNat + x.size + (k - (p + d)) = k - d + x.size from by omega, show ((p : Int) + (d : Int)).toNat + (k - (p + d)) = k from by omega] at e
    exact e
set_option maxRecDepth 100000 in
set_option maxHeartbeats 1000000 in
theorem stays_big (w : World) (s : ByteArray) (a : Int × Int × ByteArray) (k l : Int) (h : 1048576 < s.size) :
    Calls Try.prog 8 #[.string s, edV a, .int .i64 k, .int .i64 l] w fun e w' => e = .returned (.bool true) ∧ Up w w' := by
  have HK := Lib.hid (fun W => wakes_any W)
  have h6 := Up.alloc w (.cells #[.int .i64 a.1, .int .i64 a.2.1, .string a.2.2] 23)
  have h1 : (1048576 : Int) < (s.size : Nat) := by omega
  obtain ⟨p, d, x⟩ := a
  unfold edV
  dsimp only at h6 ⊢
  have HU := Lib.hid h6
  clear h h6
  go_enter Try.func8, Try.ntmps8
  go_wp2_with (go_at_call 13; ((with_reducible refine (HK.out _).mono ?_); rintro e w1 ⟨rfl, hu⟩))
  go_ret
  exact ⟨rfl, HU.out.trans hu⟩
set_option maxRecDepth 100000 in
set_option maxHeartbeats 1000000 in
theorem stays_no (w : World) (s : ByteArray) (a : Int × Int × ByteArray) (k l : Int) (hs : s.size ≤ 1048576) (hx : a.2.2.size ≤ 9223372036854775807) (h : edErr s.size a ≠ 0) :
    Calls Try.prog 8 #[.string s, edV a, .int .i64 k, .int .i64 l] w fun e w' => e = .returned (.bool true) ∧ Up w w' := by
  have HK := Lib.hid (fun W => wakes_any W)
  have h1 := fun W => apply_any s a (by omega) hx W
  have h6 := Up.alloc w (.cells #[.int .i64 a.1, .int .i64 a.2.1, .string a.2.2] 23)
  have f1 : decide ((1048576 : Int) < (s.size : Nat)) = false := decide_eq_false (by omega)
  obtain ⟨q, hq⟩ : ∃ q, edErr s.size a = q := ⟨_, rfl⟩
  obtain ⟨T, hT⟩ : ∃ T, edT s a = T := ⟨_, rfl⟩
  rw [hq, hT] at h1
  rw [hq] at h
  have fq : (q == 0) = false := beq_false_of_ne h
  obtain ⟨p, d, x⟩ := a
  unfold edV at h1 ⊢
  dsimp only at h1 h6 ⊢
  have H1 := Lib.hid h1
  have HU := Lib.hid h6
  clear h h6 h1 hT hq hs hx
  go_enter Try.func8, Try.ntmps8
  go_wp2_with (first
    | (go_at_call 9; ((with_reducible refine (H1.out _).mono ?_); rintro e w1 ⟨rfl, hu⟩; have HU := Lib.hid (HU.out.trans hu); clear hu))
    | (go_at_call 13; ((with_reducible refine (HK.out _).mono ?_); rintro e w2 ⟨rfl, hu⟩; have HU := Lib.hid (HU.out.trans hu); clear hu)))
  go_ret
  exact ⟨rfl, HU.out⟩
set_option maxRecDepth 100000 in
set_option maxHeartbeats 1000000 in
theorem stays_out (w : World) (s : ByteArray) (a : Int × Int × ByteArray) (k l : Int) (hs : s.size ≤ 1048576) (hx : a.2.2.size ≤ 9223372036854775807) (h : edErr s.size a = 0) (hkl : ¬ (0 ≤ k ∧ k ≤ s.size ∧ 0 ≤ l ∧ l ≤ s.size)) :
    Calls Try.prog 8 #[.string s, edV a, .int .i64 k, .int .i64 l] w fun e w' => e = .returned (.bool true) ∧ Up w w' := by
  have HK := Lib.hid (fun W => wakes_any W)
  have h1 := fun W => apply_any s a (by omega) hx W
  have h6 := Up.alloc w (.cells #[.int .i64 a.1, .int .i64 a.2.1, .string a.2.2] 23)
  have f1 : decide ((1048576 : Int) < (s.size : Nat)) = false := decide_eq_false (by omega)
  obtain ⟨T, hT⟩ : ∃ T, edT s a = T := ⟨_, rfl⟩
  rw [h, hT] at h1
  obtain ⟨p, d, x⟩ := a
  unfold edV at h1 ⊢
  dsimp only at h1 h6 ⊢
  have H1 := Lib.hid h1
  have HU := Lib.hid h6
  clear h h6 h1 hT hs hx
  by_cases g1 : k < 0
  · clear hkl
    go_enter Try.func8, Try.ntmps8
    go_wp2_with (first
      | (go_at_call 9; ((with_reducible refine (H1.out _).mono ?_); rintro e w1 ⟨rfl, hu⟩; have HU := Lib.hid (HU.out.trans hu); clear hu))
      | (go_at_call 13; ((with_reducible refine (HK.out _).mono ?_); rintro e w2 ⟨rfl, hu⟩; have HU := Lib.hid (HU.out.trans hu); clear hu)))
    go_ret
    exact ⟨rfl, HU.out⟩
  have f2 : decide (k < 0) = false := decide_eq_false g1
  by_cases g2 : (s.size : Int) < k
  · clear hkl g1
    go_enter Try.func8, Try.ntmps8
    go_wp2_with (first
      | (go_at_call 9; ((with_reducible refine (H1.out _).mono ?_); rintro e w1 ⟨rfl, hu⟩; have HU := Lib.hid (HU.out.trans hu); clear hu))
      | (go_at_call 13; ((with_reducible refine (HK.out _).mono ?_); rintro e w2 ⟨rfl, hu⟩; have HU := Lib.hid (HU.out.trans hu); clear hu)))
    go_ret
    exact ⟨rfl, HU.out⟩
  have f3 : decide ((s.size : Int) < k) = false := decide_eq_false g2
  by_cases g3 : l < 0
  · clear hkl g1 g2
    go_enter Try.func8, Try.ntmps8
    go_wp2_with (first
      | (go_at_call 9; ((with_reducible refine (H1.out _).mono ?_); rintro e w1 ⟨rfl, hu⟩; have HU := Lib.hid (HU.out.trans hu); clear hu))
      | (go_at_call 13; ((with_reducible refine (HK.out _).mono ?_); rintro e w2 ⟨rfl, hu⟩; have HU := Lib.hid (HU.out.trans hu); clear hu)))
    go_ret
    exact ⟨rfl, HU.out⟩
  have f4 : decide (l < 0) = false := decide_eq_false g3
  have g4 : (s.size : Int) < l := by omega
  clear hkl g1 g2 g3
  go_enter Try.func8, Try.ntmps8
  go_wp2_with (first
    | (go_at_call 9; ((with_reducible refine (H1.out _).mono ?_); rintro e w1 ⟨rfl, hu⟩; have HU := Lib.hid (HU.out.trans hu); clear hu))
    | (go_at_call 13; ((with_reducible refine (HK.out _).mono ?_); rintro e w2 ⟨rfl, hu⟩; have HU := Lib.hid (HU.out.trans hu); clear hu)))
  go_ret
  exact ⟨rfl, HU.out⟩
set_option maxRecDepth 100000 in
set_option maxHeartbeats 2000000 in
theorem stays_in (w : World) (s x : ByteArray) (p d k l : Nat) (hs : s.size ≤ 1048576) (hx : x.size ≤ 9223372036854775807) (h : edErr s.size ((p : Int), (d : Int), x) = 0) (hk : k ≤ s.size) (hl : l ≤ s.size) :
    Calls Try.prog 8 #[.string s, edV ((p : Int), (d : Int), x), .int .i64 (k : Nat), .int .i64 (l : Nat)] w fun e w' => e = .returned (.bool true) ∧ Up w w' := by
  have HK := Lib.hid (fun W => wakes_any W)
  have h1 := fun W => apply_any s ((p : Int), (d : Int), x) (by omega) hx W
  have h2 := fun W => move_any ((p : Int), (d : Int), x) (k : Nat) (by omega) W
  have h3 := fun W => move_any ((p : Int), (d : Int), x) (s.size : Nat) (by omega) W
  have h4 := fun W => move_any ((p : Int), (d : Int), x) (l : Nat) (by omega) W
  have h5 := edW_cells w ((p : Int), (d : Int), x)
  have h6 := Up.alloc w (.cells #[.int .i64 (p : Nat), .int .i64 (d : Nat), .string x] 23)
  unfold edW at h5
  obtain ⟨m1, m2, m3⟩ := mv_facts h
  rw [show edT s ((p : Int), (d : Int), x) = edS s ((p : Int), (d : Int), x) from if_pos h, h] at h1
  rw [mv_nat h hs hk] at h2
  rw [mv_nat h hs (Nat.le_refl _), mv_end m1, ← m2] at h3
  rw [mv_nat h hs hl] at h4
  have m4 := mv_le (z := x.size) m1 hk
  have m5 : k ≤ l → mvN p d x.size k ≤ mvN p d x.size l := mv_mono
  have m6 := fun hk g => mv_stays (k := k) h hk g
  rw [← m2] at m4 m6
  obtain ⟨S, hS⟩ : ∃ S, edS s ((p : Int), (d : Int), x) = S := ⟨_, rfl⟩
  rw [hS] at h1 h3 m2 m4 m6
  obtain ⟨t, ht⟩ : ∃ t, mvN p d x.size k = t := ⟨_, rfl⟩
  obtain ⟨u, hu⟩ : ∃ u, mvN p d x.size l = u := ⟨_, rfl⟩
  rw [ht] at h2 m4 m5 m6
  rw [hu] at h4 m5
  unfold edV at h1 h2 h3 h4 ⊢
  dsimp only at h1 h2 h3 h4 h5 h6 ⊢
  have f1 : decide ((1048576 : Int) < (s.size : Nat)) = false := decide_eq_false (by omega)
  have f2 : decide ((k : Int) < 0) = false := decide_eq_false (by omega)
  have f3 : decide (s.size < k) = false := decide_eq_false (by omega)
  have f4 : decide ((l : Int) < 0) = false := decide_eq_false (by omega)
  have f5 : decide (s.size < l) = false := decide_eq_false (by omega)
  have f6 : decide ((t : Int) < 0) = false := decide_eq_false (by omega)
  have f7 : decide (S.size < t) = false := decide_eq_false (by omega)
  have H1 := Lib.hid h1
  have H2 := Lib.hid h2
  have H3 := Lib.hid h3
  have H4 := Lib.hid h4
  have C := Lib.hid h5
  have HU := Lib.hid h6
  have M5 := Lib.hid m5
  have M6 := Lib.hid m6
  have M1 := Lib.hid m1
  have HZ := Lib.hid hs
  have HKs := Lib.hid hk
  clear h1 h2 h3 h4 h5 h6 m1 m2 m3 m4 m5 m6 hS ht hu hs hx hk hl h
  go_enter Try.func8, Try.ntmps8
  go_upto_region 11 with (first
    | (go_at_call 9; ((with_reducible refine (H1.out _).mono ?_); rintro e w1 ⟨rfl, hu⟩; have HU := Lib.hid (HU.out.trans hu); have C := Lib.hid (keep3 hu C.out); obtain ⟨d0, d1, d2⟩ := C.out; clear hu))
    | (go_at_call 16; ((with_reducible refine (H2.out _).mono ?_); rintro e w2 ⟨rfl, hu⟩; have HU2 := Lib.hid (HU.out.trans hu); have C := Lib.hid (keep3 hu C.out); clear d0 d1 d2; obtain ⟨d0, d1, d2⟩ := C.out; clear hu))
    | (go_at_call 16; ((with_reducible refine (H3.out _).mono ?_); rintro e w3 ⟨rfl, hu⟩; have HU3 := Lib.hid (HU2.out.trans hu); have C3 := Lib.hid (keep3 hu C.out); clear d0 d1 d2; obtain ⟨d0, d1, d2⟩ := C3.out; clear hu)))
  obtain ⟨pd, hpd⟩ : ∃ pd, p + d = pd := ⟨_, rfl⟩
  have q1 : IntKind.i64.wrap ((p : Int) + (d : Nat)) = (pd : Nat) := (IntWalk.i64_in _ (by have := M1.out; have := HZ.out; omega)).trans (by omega)
  have HPD := Lib.hid hpd
  clear hpd
  go_cut [97] (fun c wx => c = .bool false ∧ Hid (Up w wx) ∧ Hid (wx.cell? ⟨w.heap.size, 0, none⟩ = some (.int .i64 (p : Nat)) ∧ wx.cell? ⟨w.heap.size, 1, none⟩ = some (.int .i64 (d : Nat)) ∧ wx.cell? ⟨w.heap.size, 2, none⟩ = some (.string x)))
  case first =>
    by_cases hks : k < s.size
    · by_cases g1 : k < p
      · obtain ⟨t1, t2⟩ := M6.out hks (.inl g1)
        have k0 : (k : Int) < (p : Nat) := by omega
        have k1 : (k : Int) < (s.size : Nat) := by omega
        have k2 : (t : Int) < (S.size : Nat) := by omega
        have r0 : decide (S.size ≤ t) = false := decide_eq_false (by omega)
        have r1 : (((S[t].toNat : Nat) : Int) == ((s[k].toNat : Nat) : Int)) = true := by
          rw [eqB t1 hks, t2]
          exact decide_eq_true rfl
        clear f1 f2 f3 f4 f5 f6 f7
        go_quiet (fail)
        go_wp2_with fail
        go_meet
        case rel => exact ⟨said_dec (by simp only [bne, r1, Bool.not_true]), Lib.hid (HU3.out.trans (Up.drewN _ _)), Lib.hid (keep3 (Up.drewN _ _) C3.out)⟩
      · have g2 : decide (k < p) = false := decide_eq_false g1
        by_cases g3 : pd ≤ k
        · obtain ⟨t1, t2⟩ := M6.out hks (.inr (by rw [HPD.out]; exact g3))
          have k0 : (pd : Int) ≤ (k : Nat) := by omega
          have k1 : (k : Int) < (s.size : Nat) := by omega
          have k2 : (t : Int) < (S.size : Nat) := by omega
          have r0 : decide (S.size ≤ t) = false := decide_eq_false (by omega)
          have r1 : (((S[t].toNat : Nat) : Int) == ((s[k].toNat : Nat) : Int)) = true := by
            rw [eqB t1 hks, t2]
            exact decide_eq_true rfl
          clear f1 f2 f3 f4 f5 f6 f7
          go_quiet (fail)
          go_wp2_with fail
          go_meet
          case rel => exact ⟨said_dec (by simp only [bne, r1, Bool.not_true]), Lib.hid (HU3.out.trans (Up.drewN _ _)), Lib.hid (keep3 (Up.drewN _ _) C3.out)⟩
        · have g4 : decide (pd ≤ k) = false := decide_eq_false g3
          have k1 : (k : Int) < (s.size : Nat) := by omega
          go_quiet (fail)
          go_wp2_with fail
          go_meet
          case rel => exact ⟨rfl, Lib.hid (HU3.out.trans (Up.drewN _ _)), Lib.hid (keep3 (Up.drewN _ _) C3.out)⟩
    · have g1 : decide (k < s.size) = false := decide_eq_false hks
      go_quiet (fail)
      go_wp2_with fail
      go_meet
      case rel => exact ⟨rfl, Lib.hid (HU3.out.trans (Up.drewN _ _)), Lib.hid (keep3 (Up.drewN _ _) C3.out)⟩
  case rest =>
    obtain ⟨rfl, HU4, HC4⟩ := hcut
    obtain ⟨d0, d1, d2⟩ := HC4.out
    clear q1
    by_cases hkl : k ≤ l
    · have g1 : (k : Int) ≤ (l : Nat) := by omega
      have g2 : decide (u < t) = false := decide_eq_false (by have := M5.out hkl; omega)
      clear hkl
      go_wp2_with (first
        | (go_at_call 16; ((with_reducible refine (H4.out _).mono ?_); rintro e w5 ⟨rfl, hu⟩; have HU5 := Lib.hid (HU4.out.trans hu); clear hu))
        | (go_at_call 13; ((with_reducible refine (HK.out _).mono ?_); rintro e w6 ⟨rfl, hu⟩; have HU6 := Lib.hid (HU5.out.trans hu); clear hu)))
      go_ret
      exact ⟨rfl, HU6.out⟩
    · have g2 : decide (k ≤ l) = false := decide_eq_false hkl
      clear hkl
      go_wp2_with (go_at_call 13; ((with_reducible refine (HK.out _).mono ?_); rintro e w6 ⟨rfl, hu⟩; have HU6 := Lib.hid (HU4.out.trans hu); clear hu))
      go_ret
      exact ⟨rfl, HU6.out⟩
theorem stays_walk (w : World) (s : ByteArray) (a : Int × Int × ByteArray) (k l : Int) (hx : a.2.2.size ≤ 9223372036854775807) :
    Calls Try.prog 8 #[.string s, edV a, .int .i64 k, .int .i64 l] w fun e w' => e = .returned (.bool true) ∧ Up w w' := by
  by_cases hb : 1048576 < s.size
  · exact stays_big w s a k l hb
  · by_cases h : edErr s.size a = 0
    · by_cases hkl : 0 ≤ k ∧ k ≤ s.size ∧ 0 ≤ l ∧ l ≤ s.size
      · obtain ⟨p, d, ha, -, -⟩ := ed_nat h
        obtain ⟨m, rfl⟩ := Int.eq_ofNat_of_zero_le hkl.1
        obtain ⟨n, rfl⟩ := Int.eq_ofNat_of_zero_le hkl.2.2.1
        rw [ha] at h ⊢
        exact stays_in w s a.2.2 p d m n (by omega) hx h (by omega) (by omega)
      · exact stays_out w s a k l (by omega) hx h hkl
    · exact stays_no w s a k l (by omega) hx h
end Go.Proofs.Ytkdnhdjmlinglaa
