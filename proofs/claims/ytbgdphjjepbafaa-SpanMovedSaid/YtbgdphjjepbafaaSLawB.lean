/- SpanMoved walked for any program that answers so. -/
import Derived.Test.YtbgdphjjepbafaaSLawA
namespace Go.Proofs.Ytbgdphjjepbafaa
open Go.RowKit

set_option maxRecDepth 100000 in
set_option maxHeartbeats 2000000 in
theorem moved_out (hC : SpanC) (w : World) (A : Option Addr) (n c : Nat) (a : Int × Int × ByteArray) (k : Int) (hno : ¬ (n ≤ 200 ∧ EdIn a ∧ 0 ≤ k ∧ k ≤ 549755813888)) :
    Calls Try.prog 7 #[.slice A n c, edV a, .int .i64 k] w fun e w' => e = .returned (.bool true) ∧ Up w w' := by
  have HK := Lib.hid (fun W => swakes_any hC W)
  have hu0 := Up.alloc w (.cells #[.int .i64 a.1, .int .i64 a.2.1, .string a.2.2] 33)
  obtain ⟨p, d, x⟩ := a
  unfold edV
  dsimp only at hu0 ⊢
  obtain ⟨z, hz⟩ : ∃ z : Int, (x.size : Int) = z := ⟨_, rfl⟩
  have hno2 : ¬ (n ≤ 200 ∧ (0 ≤ p ∧ p ≤ 1048576 ∧ 0 ≤ d ∧ d ≤ 1048576 ∧ z ≤ 1048576) ∧ 0 ≤ k ∧ k ≤ 549755813888) := fun h => hno ⟨h.1, by unfold EdIn; simp only; rw [hz]; exact h.2.1, h.2.2⟩
  have HU := Lib.hid hu0
  clear hu0 hno hC
  by_cases h0 : 200 < (n : Int)
  · clear hno2 
    go_enter Try.func7, Try.ntmps7
    go_wp2_with (go_at_call 8; ((with_reducible refine (HK.out _).mono ?_); rintro e w1 ⟨rfl, hu⟩))
    go_ret
    exact ⟨rfl, HU.out.trans hu⟩
  have f0 : decide (200 < (n : Int)) = false := decide_eq_false h0
  by_cases h1 : p < 0
  · clear hno2 h0
    go_enter Try.func7, Try.ntmps7
    go_wp2_with (go_at_call 8; ((with_reducible refine (HK.out _).mono ?_); rintro e w1 ⟨rfl, hu⟩))
    go_ret
    exact ⟨rfl, HU.out.trans hu⟩
  have f1 : decide (p < 0) = false := decide_eq_false h1
  by_cases h2 : 1048576 < p
  · clear hno2 h0 h1
    go_enter Try.func7, Try.ntmps7
    go_wp2_with (go_at_call 8; ((with_reducible refine (HK.out _).mono ?_); rintro e w1 ⟨rfl, hu⟩))
    go_ret
    exact ⟨rfl, HU.out.trans hu⟩
  have f2 : decide (1048576 < p) = false := decide_eq_false h2
  by_cases h3 : d < 0
  · clear hno2 h0 h1 h2
    go_enter Try.func7, Try.ntmps7
    go_wp2_with (go_at_call 8; ((with_reducible refine (HK.out _).mono ?_); rintro e w1 ⟨rfl, hu⟩))
    go_ret
    exact ⟨rfl, HU.out.trans hu⟩
  have f3 : decide (d < 0) = false := decide_eq_false h3
  by_cases h4 : 1048576 < d
  · clear hno2 h0 h1 h2 h3
    go_enter Try.func7, Try.ntmps7
    go_wp2_with (go_at_call 8; ((with_reducible refine (HK.out _).mono ?_); rintro e w1 ⟨rfl, hu⟩))
    go_ret
    exact ⟨rfl, HU.out.trans hu⟩
  have f4 : decide (1048576 < d) = false := decide_eq_false h4
  by_cases h5 : 1048576 < z
  · clear hno2 h0 h1 h2 h3 h4
    go_enter Try.func7, Try.ntmps7
    go_wp2_with (go_at_call 8; ((with_reducible refine (HK.out _).mono ?_); rintro e w1 ⟨rfl, hu⟩))
    go_ret
    exact ⟨rfl, HU.out.trans hu⟩
  have f5 : decide (1048576 < z) = false := decide_eq_false h5
  by_cases h6 : k < 0
  · clear hno2 h0 h1 h2 h3 h4 h5
    go_enter Try.func7, Try.ntmps7
    go_wp2_with (go_at_call 8; ((with_reducible refine (HK.out _).mono ?_); rintro e w1 ⟨rfl, hu⟩))
    go_ret
    exact ⟨rfl, HU.out.trans hu⟩
  have f6 : decide (k < 0) = false := decide_eq_false h6
  have h7 : 549755813888 < k := by omega
  clear hno2 h0 h1 h2 h3 h4 h5 h6
  · go_enter Try.func7, Try.ntmps7
    go_wp2_with (go_at_call 8; ((with_reducible refine (HK.out _).mono ?_); rintro e w1 ⟨rfl, hu⟩))
    go_ret
    exact ⟨rfl, HU.out.trans hu⟩
set_option maxRecDepth 100000 in
set_option maxHeartbeats 2000000 in
theorem moved_in (hC : SpanC) (w : World) (A : Option Addr) (n c : Nat) (L : List Rng) (a : Int × Int × ByteArray) (k : Int) (ha : Arg w A n L) (hA : A = none → n = 0 ∧ c = 0) (hok : EdOk a) (hn : n ≤ 200) (hE : EdIn a) (hk : 0 ≤ k ∧ k ≤ 549755813888) :
    Calls Try.prog 7 #[.slice A n c, edV a, .int .i64 k] w fun e w' => e = .returned (.bool true) ∧ Up w w' := by
  have HK := Lib.hid (fun W => swakes_any hC W)
  have hu0 := Up.alloc w (.cells #[.int .i64 a.1, .int .i64 a.2.1, .string a.2.2] 33)
  have hO := fun W (hu : Up w W) => own_any W A n c L (ha.up hu).rgs hA (by omega)
  have hE5 := edW_cells w a
  have HMo := Lib.hid (fun W A' c' (h : Arg W A' n L) => hC.move W A' n c' L a h (by omega) hok)
  have HMv := Lib.hid (fun W => move_any a k (by omega) W)
  have HH1 := Lib.hid (fun W (h : Arg W A n L) => hC.has_ W A n c L k h (by omega) (by omega))
  have HAt := Lib.hid (fun (hx : ¬ (a.1 ≤ k ∧ k < a.1 + a.2.1)) => mvIn_at (L := L) hE hk.1 hk.2 hx)
  have HEd := Lib.hid hE
  have HC := Lib.hid hC
  have hmb := mv_bound hE (x := k) hk.1 (by omega)
  obtain ⟨y, hy⟩ : ∃ y, mvP a k = y := ⟨_, rfl⟩
  rw [hy] at HMv HAt hmb
  obtain ⟨p, d, x⟩ := a
  unfold edV at HMo HMv ⊢
  unfold edW at hE5
  obtain ⟨g1, g2, g3, g4, g5⟩ := hE
  dsimp only at hE5 hu0 HMo HMv HAt g1 g2 g3 g4 g5
  obtain ⟨z, hz⟩ : ∃ z : Int, (x.size : Int) = z := ⟨_, rfl⟩
  rw [hz] at g5
  have hn2 : (n : Int) ≤ 200 := by omega
  have f0 : decide (200 < (n : Int)) = false := decide_eq_false (by omega)
  have f1 : decide (p < 0) = false := decide_eq_false (by omega)
  have f2 : decide (1048576 < p) = false := decide_eq_false (by omega)
  have f3 : decide (d < 0) = false := decide_eq_false (by omega)
  have f4 : decide (1048576 < d) = false := decide_eq_false (by omega)
  have f5 : decide (1048576 < z) = false := decide_eq_false (by omega)
  have f6 : decide (k < 0) = false := decide_eq_false (by omega)
  have f7 : decide (549755813888 < k) = false := decide_eq_false (by omega)
  have q0 : IntKind.i64.wrap (p + d) = p + d := IntWalk.i64_in _ (by omega)
  have HO := Lib.hid hO
  have C := Lib.hid hE5
  have HU := Lib.hid hu0
  have HA := Lib.hid ha
  have HL := Lib.hid ha.rgs.len
  have HMb := Lib.hid hmb
  clear hO hE5 hu0 ha hA hok hn hk hC hmb g1 g2 g3 g4 hy
  go_enter Try.func7, Try.ntmps7
  go_upto_region 3 with fail
  obtain ⟨N, hN⟩ : ∃ N, w.heap.size = N := ⟨_, rfl⟩
  have C1 := C.out
  have HU1 := HU.out
  rw [hN] at C1
  obtain ⟨W0, hW0⟩ : ∃ W0, w.alloc (.cells #[.int .i64 p, .int .i64 d, .string x] 33) = W0 := ⟨_, rfl⟩
  rw [hW0] at C1 HU1
  simp only [hN, hW0]
  have hS : Up w W0 ∧ W0.cell? ⟨N, 0, none⟩ = some (.int .i64 p) ∧ W0.cell? ⟨N, 1, none⟩ = some (.int .i64 d) ∧ W0.cell? ⟨N, 2, none⟩ = some (.string x) := ⟨HU1, C1⟩
  clear C1 HU1 C HU hW0 hN
  go_region_held3 (fun w' => Up w w' ∧ w'.cell? ⟨N, 0, none⟩ = some (.int .i64 p) ∧ w'.cell? ⟨N, 1, none⟩ = some (.int .i64 d) ∧ w'.cell? ⟨N, 2, none⟩ = some (.string x))
    (first | assumption | with_reducible exact keepE4 hu3 (by assumption) | with_reducible exact keepE4 (Up.drew _) (by assumption))
    (first
      | (go_at_call 9; ((with_reducible refine (HO.out _ ?_).mono ?_); (exact (by assumption : Up w _ ∧ _).1); rintro e w3 ⟨v, rfl, ho, hu3⟩; obtain ⟨A5, c5, e5, ha5⟩ := rowR_arg ho HA.out.ok; rw [HL.out] at e5 ha5; subst e5; have HA5 := Lib.hid ha5; clear ho ha5))
      | (go_at_call 20; ((with_reducible refine (HMo.out _ _ _ (HA5.out.up ?_)).mono ?_); (first | exact Up.refl _ | exact Up.drew _); rintro e w4 ⟨v1, F1, rfl, ho1, k1, k2, k3, k4, hu3⟩; have HO1 := Lib.hid ho1; have K1 := Lib.hid (And.intro k1 (And.intro k2 (And.intro k3 k4))); clear ho1 k1 k2 k3 k4)))
  have hH : Up w w4 ∧ w4.cell? ⟨N, 0, none⟩ = some (.int .i64 p) ∧ w4.cell? ⟨N, 1, none⟩ = some (.int .i64 d) ∧ w4.cell? ⟨N, 2, none⟩ = some (.string x) := by assumption
  obtain ⟨hU4, b0, b1, b2⟩ := hH
  have HU4 := Lib.hid hU4
  have HB4 := Lib.hid (And.intro b0 (And.intro b1 b2))
  obtain ⟨A6, c6, e6, ha6⟩ := rowR_arg HO1.out (form_ok K1.out.1)
  subst e6
  have HA6 := Lib.hid ha6
  obtain ⟨m, hm⟩ : ∃ m, F1.length = m := ⟨_, rfl⟩
  rw [hm] at ha6
  rw [hm]
  have hmb : m ≤ 4000 := by have := K1.out.2.2.2; omega
  have h1 := lawForm_any w4 A6 m c6 F1 ha6.rgs K1.out.1 (by omega)
  have h2 := fun W (hu : Up w4 W) => HC.out.has_ W A6 m c6 F1 y (ha6.up hu) hmb (by have := HMb.out; omega)
  have h3 := fun W (hu : Up w4 W) => HH1.out W (HA.out.up (hU4.trans hu))
  obtain ⟨P, hP⟩ : ∃ P, has L k = P := ⟨_, rfl⟩
  rw [hP] at h3
  have HF := Lib.hid h1
  have HY := Lib.hid (fun (hx : ¬ (p ≤ k ∧ k < p + d)) => show has F1 y = P from by
    have e := (K1.out.2.1 HEd.out y).trans (HAt.out hx)
    rw [hP] at e
    cases hF : has F1 y <;> cases P <;> simp_all)
  have H2 := Lib.hid h2
  have H3 := Lib.hid h3
  clear h1 h2 h3 hP hm ha6 hS hU4
  go_upto_region 6 with (go_at_call 22; ((with_reducible refine HF.out.mono ?_); rintro e w5 ⟨rfl, hu⟩; have HU5 := Lib.hid hu; clear b0 b1 b2; obtain ⟨b0, b1, b2⟩ := keepE hu HB4.out; have HB5 := Lib.hid (And.intro b0 (And.intro b1 b2)); clear hu))
  by_cases s1 : p ≤ k
  · by_cases s2 : k < p + d
    · go_wp2_with (go_at_call 8; ((with_reducible refine (HK.out _).mono ?_); rintro e w6 ⟨rfl, hu⟩))
      go_ret
      exact ⟨rfl, HU4.out.trans (HU5.out.trans hu)⟩
    · have s3 : decide (k < p + d) = false := decide_eq_false s2
      have HYY := HY.out (by omega)
      rw [HYY] at H2
      clear s2
      go_wp2_with (first
        | (go_at_call 24; ((with_reducible refine (HMv.out _).mono ?_); rintro e w6 ⟨rfl, hu⟩; have HU6 := Lib.hid (HU5.out.trans hu); clear hu))
        | (go_at_call 16; ((with_reducible refine (H2.out _ HU6.out).mono ?_); rintro e w7 ⟨rfl, hu⟩; have HU6 := Lib.hid (HU6.out.trans hu); clear hu))
        | (go_at_call 16; ((with_reducible refine (H3.out _ HU6.out).mono ?_); rintro e w8 ⟨rfl, hu⟩; have HU6 := Lib.hid (HU6.out.trans hu); clear hu))
        | (go_at_call 8; ((with_reducible refine (HK.out _).mono ?_); rintro e w9 ⟨rfl, hu⟩; have HU6 := Lib.hid (HU6.out.trans hu); clear hu)))
      go_ret
      exact ⟨rfl, HU4.out.trans HU6.out⟩
  · have s3 : decide (p ≤ k) = false := decide_eq_false s1
    have HYY := HY.out (by omega)
    rw [HYY] at H2
    clear s1
    go_wp2_with (first
      | (go_at_call 24; ((with_reducible refine (HMv.out _).mono ?_); rintro e w6 ⟨rfl, hu⟩; have HU6 := Lib.hid (HU5.out.trans hu); clear hu))
      | (go_at_call 16; ((with_reducible refine (H2.out _ HU6.out).mono ?_); rintro e w7 ⟨rfl, hu⟩; have HU6 := Lib.hid (HU6.out.trans hu); clear hu))
      | (go_at_call 16; ((with_reducible refine (H3.out _ HU6.out).mono ?_); rintro e w8 ⟨rfl, hu⟩; have HU6 := Lib.hid (HU6.out.trans hu); clear hu))
      | (go_at_call 8; ((with_reducible refine (HK.out _).mono ?_); rintro e w9 ⟨rfl, hu⟩; have HU6 := Lib.hid (HU6.out.trans hu); clear hu)))
    go_ret
    exact ⟨rfl, HU4.out.trans HU6.out⟩
theorem smoved_walk (hC : SpanC) (w : World) (A : Option Addr) (n c : Nat) (L : List Rng) (a : Int × Int × ByteArray) (k : Int) (ha : Arg w A n L) (hA : A = none → n = 0 ∧ c = 0) (hok : EdOk a) :
    Calls Try.prog 7 #[.slice A n c, edV a, .int .i64 k] w fun e w' => e = .returned (.bool true) ∧ Up w w' := by
  by_cases h : n ≤ 200 ∧ EdIn a ∧ 0 ≤ k ∧ k ≤ 549755813888
  · exact moved_in hC w A n c L a k ha hA hok h.1 h.2.1 h.2.2
  · exact moved_out hC w A n c a k h
end Go.Proofs.Ytbgdphjjepbafaa
