/- SpanForm walked for any program that answers so: ranges are sets. -/
import Derived.Test.YtbgdphjjepbafaaSLawC
namespace Go.Proofs.Ytbgdphjjepbafaa
open Go.RowKit

theorem hasB_or (L M : List Rng) (p : Int) : hasB 0 L M p = (has L p || has M p) := by unfold hasB keepB; rw [if_pos rfl]
theorem hasB_less (L M : List Rng) (p : Int) : hasB 1 L M p = (has L p && !has M p) := by unfold hasB keepB; rw [if_neg (by decide), if_pos rfl]
theorem hasB_and (L M : List Rng) (p : Int) : hasB 2 L M p = (has L p && has M p) := by unfold hasB keepB; rw [if_neg (by decide), if_neg (by decide)]
theorem szT_le (L : List Rng) : 0 ≤ szT L ∧ szT L ≤ 1099511627776 := by
  have := cnt_le (f := has L) 1099511627776
  unfold szT
  omega
theorem sz_two {L M F G : List Rng} (h : ∀ p, has F p = hasB 0 L M p) (g : ∀ p, has G p = hasB 2 L M p) : szT F + szT G = szT L + szT M := by
  unfold szT
  rw [cnt_congr (fun p => (h p).trans (hasB_or L M p)), cnt_congr (fun p => (g p).trans (hasB_and L M p))]
  exact cnt_two _
theorem sz_part {L M F G H : List Rng} (h : ∀ p, has F p = hasB 1 L M p) (g : ∀ p, has G p = hasB 2 L M p) (k : ∀ p, has H p = has L p) : szT F + szT G = szT H := by
  unfold szT
  rw [cnt_congr (fun p => (h p).trans (hasB_less L M p)), cnt_congr (fun p => (g p).trans (hasB_and L M p)), cnt_congr k]
  exact cnt_part _

set_option maxRecDepth 100000 in
set_option maxHeartbeats 1000000 in
theorem form_big (hC : SpanC) (w : World) (A A' : Option Addr) (n n' c c' : Nat) (k : Int) (hb : 200 < n ∨ 200 < n') :
    Calls Try.prog 6 #[.slice A n c, .slice A' n' c', .int .i64 k] w fun e w' => e = .returned (.bool true) ∧ Up w w' := by
  have HK := Lib.hid (fun W => swakes_any hC W)
  clear hC
  by_cases h1 : 200 < (n : Int)
  · clear hb
    go_enter Try.func6, Try.ntmps6
    go_wp2_with (go_at_call 8; ((with_reducible refine (HK.out _).mono ?_); rintro e w1 ⟨rfl, hu⟩))
    go_ret
    exact ⟨rfl, hu⟩
  · have f1 : decide ((200 : Int) < (n : Nat)) = false := decide_eq_false h1
    have h2 : 200 < (n' : Int) := by omega
    clear hb h1
    go_enter Try.func6, Try.ntmps6
    go_wp2_with (go_at_call 8; ((with_reducible refine (HK.out _).mono ?_); rintro e w1 ⟨rfl, hu⟩))
    go_ret
    exact ⟨rfl, hu⟩

theorem owns_none {w : World} {B n c k m : Nat} {T : TypeId} {A : Option Addr} {xs : List Value} (h : w.ownsRow B T k (.slice A n c) m xs) : A = none → n = 0 ∧ c = 0 := by
  intro e
  subst e
  rcases h.2 with ⟨e, -⟩ | ⟨g, cap, cur, e, -⟩
  · injection e with e1 e2 e3
    exact ⟨e2, e3⟩
  · cases e
theorem apart_none {L M F G : List Rng} (h : ∀ p, has F p = hasB 1 L M p) (g : ∀ p, has G p = hasB 2 L M p) (p : Int) : hasB 2 F G p = has [] p := by
  rw [hasB_and, h, g, hasB_less, hasB_and, has_nil]
  cases has L p <;> cases has M p <;> rfl
theorem whole {L M F G H : List Rng} (h : ∀ p, has F p = hasB 1 L M p) (g : ∀ p, has G p = hasB 2 L M p) (k : ∀ p, has H p = has L p) (p : Int) : hasB 0 F G p = has H p := by
  rw [hasB_or, h, g, k, hasB_less, hasB_and]
  cases has L p <;> cases has M p <;> rfl
theorem turn_or (L M : List Rng) (p : Int) : hasB 0 M L p = hasB 0 L M p := by rw [hasB_or, hasB_or, Bool.or_comm]
theorem turn_and (L M : List Rng) (p : Int) : hasB 2 M L p = hasB 2 L M p := by rw [hasB_and, hasB_and, Bool.and_comm]
set_option maxRecDepth 100000 in
set_option maxHeartbeats 8000000 in
theorem lawIn_form (hC : SpanC) (w : World) (A A' : Option Addr) (n n' c c' : Nat) (L M : List Rng) (k : Int) (ha : Arg w A n L) (hA : A = none → n = 0 ∧ c = 0) (hb : Arg w A' n' M) (hA' : A' = none → n' = 0 ∧ c' = 0) (hn : n ≤ 200) (hn' : n' ≤ 200) (hk : -9223372036854775808 ≤ k ∧ k ≤ 9223372036854775807) :
    Calls Try.prog 6 #[.slice A n c, .slice A' n' c', .int .i64 k] w fun e w' => e = .returned (.bool true) ∧ Up w w' := by
  have HK := Lib.hid (fun W => swakes_any hC W)
  have HC := Lib.hid hC
  have HKk := Lib.hid hk
  have f1 : decide ((200 : Int) < (n : Nat)) = false := decide_eq_false (by omega)
  have f2 : decide ((200 : Int) < (n' : Nat)) = false := decide_eq_false (by omega)
  have HA := Lib.hid (And.intro hA hA')
  have HN := Lib.hid (And.intro hn hn')
  have HS := Lib.hid (show AllArg w w [(A, n, L), (A', n', M)] from ⟨fun t ht => by
    simp only [List.mem_cons, List.not_mem_nil, or_false] at ht
    rcases ht with rfl | rfl
    · exact ha
    · exact hb, Up.refl w⟩)
  clear hC hA hA' ha hb hn hn' hk
  go_enter Try.func6, Try.ntmps6
  go_upto_region 8 with (first
    | (go_at_call 9; ((with_reducible refine (own_arg _ A n c L (HS.out.all (A, n, L) (by simp)) HA.out.1 (by have := HN.out;  omega)).mono ?_); rintro e w1 ⟨A1, c1, rfl, h1, hu⟩; have HS := Lib.hid ((HS.out.up hu).add h1); clear h1 hu))
    | (go_at_call 9; ((with_reducible refine (own_arg _ A' n' c' M (HS.out.all (A', n', M) (by simp)) HA.out.2 (by have := HN.out;  omega)).mono ?_); rintro e w1 ⟨A2, c2, rfl, h1, hu⟩; have HS := Lib.hid ((HS.out.up hu).add h1); clear h1 hu))
    | (go_at_call 9; ((with_reducible refine (own_arg _ A3 F3.length c3 F3 (HS.out.all (A3, F3.length, F3) (by simp)) Z3.out (by have := HN.out; have := K3.out.2.2; omega)).mono ?_); rintro e w1 ⟨A7, c7, rfl, h1, hu⟩; have HS := Lib.hid ((HS.out.up hu).add h1); clear h1 hu))
    | (go_at_call 9; ((with_reducible refine (own_arg _ A5 F5.length c5 F5 (HS.out.all (A5, F5.length, F5) (by simp)) Z5.out (by have := HN.out; have := K5.out.2.2; omega)).mono ?_); rintro e w1 ⟨A9, c9, rfl, h1, hu⟩; have HS := Lib.hid ((HS.out.up hu).add h1); clear h1 hu))
    | (go_at_call 9; ((with_reducible refine (own_arg _ A6 F6.length c6 F6 (HS.out.all (A6, F6.length, F6) (by simp)) Z6.out (by have := HN.out; have := K6.out.2.2; omega)).mono ?_); rintro e w1 ⟨A10, c10, rfl, h1, hu⟩; have HS := Lib.hid ((HS.out.up hu).add h1); clear h1 hu))
    | (go_at_call 10; ((with_reducible refine (HC.out.norm _ A1 n c1 L (HS.out.all (A1, n, L) (by simp)) (by have := HN.out; omega)).mono ?_); intro e w3 h0; obtain ⟨A3, c3, F3, rfl, k0, k1, k2, k3, k4, hu⟩ := fp_arg h0; clear h0; have HS := Lib.hid ((HS.out.up hu).add k1); have K3 := Lib.hid (And.intro k2 (And.intro k3 k4)); have Z3 := Lib.hid (owns_none k0); clear k0 k1 k2 k3 k4 hu))
    | (go_at_call 11; ((with_reducible refine (HC.out.union _ A1 A2 n n' c1 c2 L M (HS.out.all (A1, n, L) (by simp)) (HS.out.all (A2, n', M) (by simp)) (by have := HN.out; first | omega | (have := K5.out.2.2; have := K6.out.2.2; omega))).mono ?_); intro e w3 h0; obtain ⟨A4, c4, F4, rfl, k0, k1, k2, k3, k4, hu⟩ := fp_arg h0; clear h0; have HS := Lib.hid ((HS.out.up hu).add k1); have K4 := Lib.hid (And.intro k2 (And.intro k3 k4)); have Z4 := Lib.hid (owns_none k0); clear k0 k1 k2 k3 k4 hu))
    | (go_at_call 12; ((with_reducible refine (HC.out.minus _ A1 A2 n n' c1 c2 L M (HS.out.all (A1, n, L) (by simp)) (HS.out.all (A2, n', M) (by simp)) (by have := HN.out; first | omega | (have := K5.out.2.2; have := K6.out.2.2; omega))).mono ?_); intro e w3 h0; obtain ⟨A5, c5, F5, rfl, k0, k1, k2, k3, k4, hu⟩ := fp_arg h0; clear h0; have HS := Lib.hid ((HS.out.up hu).add k1); have K5 := Lib.hid (And.intro k2 (And.intro k3 k4)); have Z5 := Lib.hid (owns_none k0); clear k0 k1 k2 k3 k4 hu))
    | (go_at_call 13; ((with_reducible refine (HC.out.both _ A1 A2 n n' c1 c2 L M (HS.out.all (A1, n, L) (by simp)) (HS.out.all (A2, n', M) (by simp)) (by have := HN.out; first | omega | (have := K5.out.2.2; have := K6.out.2.2; omega))).mono ?_); intro e w3 h0; obtain ⟨A6, c6, F6, rfl, k0, k1, k2, k3, k4, hu⟩ := fp_arg h0; clear h0; have HS := Lib.hid ((HS.out.up hu).add k1); have K6 := Lib.hid (And.intro k2 (And.intro k3 k4)); have Z6 := Lib.hid (owns_none k0); clear k0 k1 k2 k3 k4 hu))
    | (go_at_call 10; ((with_reducible refine (HC.out.norm _ A7 F3.length c7 F3 (HS.out.all (A7, F3.length, F3) (by simp)) (by have := HN.out; have := K3.out.2.2; omega)).mono ?_); intro e w3 h0; obtain ⟨A8, c8, F8, rfl, k0, k1, k2, k3, k4, hu⟩ := fp_arg h0; clear h0; have e8 : F3 = F8 := (k2.one K3.out.1 (fun p => k3 p)).symm; subst e8; have HS := Lib.hid ((HS.out.up hu).add k1); clear k0 k1 k2 k3 k4 hu))
    | (go_at_call 13; ((with_reducible refine (HC.out.both _ A9 A10 F5.length F6.length c9 c10 F5 F6 (HS.out.all (A9, F5.length, F5) (by simp)) (HS.out.all (A10, F6.length, F6) (by simp)) (by have := HN.out; first | omega | (have := K5.out.2.2; have := K6.out.2.2; omega))).mono ?_); intro e w3 h0; obtain ⟨A8, c8, F8, rfl, k0, k1, k2, k3, k4, hu⟩ := fp_arg h0; clear h0; have e8 : F8 = [] := k2.one trivial (fun p => (k3 p).trans (apart_none K5.out.2.1 K6.out.2.1 p)); subst e8; have HS := Lib.hid (HS.out.up hu); clear k0 k1 k2 k3 k4 hu))
    | (go_at_call 11; ((with_reducible refine (HC.out.union _ A9 A10 F5.length F6.length c9 c10 F5 F6 (HS.out.all (A9, F5.length, F5) (by simp)) (HS.out.all (A10, F6.length, F6) (by simp)) (by have := HN.out; first | omega | (have := K5.out.2.2; have := K6.out.2.2; omega))).mono ?_); intro e w3 h0; obtain ⟨A8, c8, F8, rfl, k0, k1, k2, k3, k4, hu⟩ := fp_arg h0; clear h0; have e8 : F3 = F8 := (k2.one K3.out.1 (fun p => (k3 p).trans (whole K5.out.2.1 K6.out.2.1 K3.out.2.1 p))).symm; subst e8; have HS := Lib.hid ((HS.out.up hu).add k1); clear k0 k1 k2 k3 k4 hu))
    | (go_at_call 11; ((with_reducible refine (HC.out.union _ A2 A1 n' n c2 c1 M L (HS.out.all (A2, n', M) (by simp)) (HS.out.all (A1, n, L) (by simp)) (by have := HN.out; first | omega | (have := K5.out.2.2; have := K6.out.2.2; omega))).mono ?_); intro e w3 h0; obtain ⟨A8, c8, F8, rfl, k0, k1, k2, k3, k4, hu⟩ := fp_arg h0; clear h0; have e8 : F4 = F8 := (k2.one K4.out.1 (fun p => (k3 p).trans ((turn_or L M p).trans (K4.out.2.1 p).symm))).symm; subst e8; have HS := Lib.hid ((HS.out.up hu).add k1); clear k0 k1 k2 k3 k4 hu))
    | (go_at_call 13; ((with_reducible refine (HC.out.both _ A2 A1 n' n c2 c1 M L (HS.out.all (A2, n', M) (by simp)) (HS.out.all (A1, n, L) (by simp)) (by have := HN.out; first | omega | (have := K5.out.2.2; have := K6.out.2.2; omega))).mono ?_); intro e w3 h0; obtain ⟨A8, c8, F8, rfl, k0, k1, k2, k3, k4, hu⟩ := fp_arg h0; clear h0; have e8 : F6 = F8 := (k2.one K6.out.1 (fun p => (k3 p).trans ((turn_and L M p).trans (K6.out.2.1 p).symm))).symm; subst e8; have HS := Lib.hid ((HS.out.up hu).add k1); clear k0 k1 k2 k3 k4 hu))
    | (go_at_call 22; ((with_reducible refine (lawForm_any _ A3 F3.length c3 F3 (HS.out.all (A3, F3.length, F3) (by simp)).rgs K3.out.1 (by have := K3.out.2.2; have := HN.out; omega)).mono ?_); rintro e w4 ⟨rfl, hu⟩; have HS := Lib.hid (HS.out.up hu); clear hu))
    | (go_at_call 22; ((with_reducible refine (lawForm_any _ A4 F4.length c4 F4 (HS.out.all (A4, F4.length, F4) (by simp)).rgs K4.out.1 (by have := K4.out.2.2; have := HN.out; omega)).mono ?_); rintro e w4 ⟨rfl, hu⟩; have HS := Lib.hid (HS.out.up hu); clear hu))
    | (go_at_call 22; ((with_reducible refine (lawForm_any _ A5 F5.length c5 F5 (HS.out.all (A5, F5.length, F5) (by simp)).rgs K5.out.1 (by have := K5.out.2.2; have := HN.out; omega)).mono ?_); rintro e w4 ⟨rfl, hu⟩; have HS := Lib.hid (HS.out.up hu); clear hu))
    | (go_at_call 22; ((with_reducible refine (lawForm_any _ A6 F6.length c6 F6 (HS.out.all (A6, F6.length, F6) (by simp)).rgs K6.out.1 (by have := K6.out.2.2; have := HN.out; omega)).mono ?_); rintro e w4 ⟨rfl, hu⟩; have HS := Lib.hid (HS.out.up hu); clear hu))
    | (go_at_call 23; ((with_reducible refine (lawSame_any _ A8 A3 F3.length c8 c3 F3 (HS.out.all (A8, F3.length, F3) (by simp)).rgs (HS.out.all (A3, F3.length, F3) (by simp)).rgs (by have := K3.out.2.2; have := HN.out; omega)).mono ?_); rintro e w5 ⟨rfl, hu⟩; have HS := Lib.hid (HS.out.up hu); clear hu))
    | (go_at_call 23; ((with_reducible refine (lawSame_any _ A8 A4 F4.length c8 c4 F4 (HS.out.all (A8, F4.length, F4) (by simp)).rgs (HS.out.all (A4, F4.length, F4) (by simp)).rgs (by have := K4.out.2.2; have := HN.out; omega)).mono ?_); rintro e w5 ⟨rfl, hu⟩; have HS := Lib.hid (HS.out.up hu); clear hu))
    | (go_at_call 23; ((with_reducible refine (lawSame_any _ A8 A6 F6.length c8 c6 F6 (HS.out.all (A8, F6.length, F6) (by simp)).rgs (HS.out.all (A6, F6.length, F6) (by simp)).rgs (by have := K6.out.2.2; have := HN.out; omega)).mono ?_); rintro e w5 ⟨rfl, hu⟩; have HS := Lib.hid (HS.out.up hu); clear hu)))
  have hb3 : F3.length ≤ 400 := by have := K3.out.2.2; have := HN.out; omega
  have hb4 : F4.length ≤ 800 := by have := K4.out.2.2; have := HN.out; omega
  have hb5 : F5.length ≤ 800 := by have := K5.out.2.2; have := HN.out; omega
  have hb6 : F6.length ≤ 800 := by have := K6.out.2.2; have := HN.out; omega
  obtain ⟨XL, eL⟩ : ∃ X, szT L = X := ⟨_, rfl⟩
  obtain ⟨XM, eM⟩ : ∃ X, szT M = X := ⟨_, rfl⟩
  obtain ⟨X3, e3⟩ : ∃ X, szT F3 = X := ⟨_, rfl⟩
  obtain ⟨X4, e4⟩ : ∃ X, szT F4 = X := ⟨_, rfl⟩
  obtain ⟨X5, e5⟩ : ∃ X, szT F5 = X := ⟨_, rfl⟩
  obtain ⟨X6, e6⟩ : ∃ X, szT F6 = X := ⟨_, rfl⟩
  have s1 : X4 + X6 = XL + XM := by rw [← e4, ← e6, ← eL, ← eM]; exact sz_two K4.out.2.1 K6.out.2.1
  have s2 : X5 + X6 = X3 := by rw [← e5, ← e6, ← e3]; exact sz_part K5.out.2.1 K6.out.2.1 K3.out.2.1
  have bL := szT_le L
  have bM := szT_le M
  have b3 := szT_le F3
  rw [eL] at bL
  rw [eM] at bM
  rw [e3] at b3
  obtain ⟨T, hT⟩ : ∃ T, X4 + X6 = T := ⟨_, rfl⟩
  have z1 : IntKind.i64.wrap (X4 + X6) = T := by rw [hT]; exact wrap_small _ (by omega) (by omega)
  have z2 : IntKind.i64.wrap (XL + XM) = T := by rw [← s1, hT]; exact wrap_small _ (by omega) (by omega)
  have z3 : IntKind.i64.wrap (X5 + X6) = X3 := by rw [s2]; exact wrap_small _ (by omega) (by omega)
  have ZL := Lib.hid (fun W h => eL ▸ HC.out.size W A n c L h (by have := HN.out; omega))
  have ZM := Lib.hid (fun W h => eM ▸ HC.out.size W A' n' c' M h (by have := HN.out; omega))
  have Z3 := Lib.hid (fun W h => e3 ▸ HC.out.size W A3 F3.length c3 F3 h (by omega))
  have Z4 := Lib.hid (fun W h => e4 ▸ HC.out.size W A4 F4.length c4 F4 h (by omega))
  have Z5 := Lib.hid (fun W h => e5 ▸ HC.out.size W A5 F5.length c5 F5 h (by omega))
  have Z6 := Lib.hid (fun W h => e6 ▸ HC.out.size W A6 F6.length c6 F6 h (by omega))
  obtain ⟨P, hP⟩ : ∃ P, has L k = P := ⟨_, rfl⟩
  obtain ⟨Q, hQ⟩ : ∃ Q, has M k = Q := ⟨_, rfl⟩
  obtain ⟨B3, h3⟩ : ∃ B, has F3 k = B := ⟨_, rfl⟩
  obtain ⟨B4, h4⟩ : ∃ B, has F4 k = B := ⟨_, rfl⟩
  obtain ⟨B5, h5⟩ : ∃ B, has F5 k = B := ⟨_, rfl⟩
  obtain ⟨B6, h6⟩ : ∃ B, has F6 k = B := ⟨_, rfl⟩
  have g3 : P = B3 := by rw [← h3, ← hP]; exact (K3.out.2.1 k).symm
  have g4 : (P || Q) = B4 := by rw [← h4, ← hP, ← hQ, ← hasB_or]; exact (K4.out.2.1 k).symm
  have g5 : (P && !Q) = B5 := by rw [← h5, ← hP, ← hQ, ← hasB_less]; exact (K5.out.2.1 k).symm
  have g6 : (P && Q) = B6 := by rw [← h6, ← hP, ← hQ, ← hasB_and]; exact (K6.out.2.1 k).symm
  have YL := Lib.hid (fun W h => hP ▸ HC.out.has_ W A n c L k h (by have := HN.out; omega) HKk.out)
  have YM := Lib.hid (fun W h => hQ ▸ HC.out.has_ W A' n' c' M k h (by have := HN.out; omega) HKk.out)
  have Y3 := Lib.hid (fun W h => h3 ▸ HC.out.has_ W A3 F3.length c3 F3 k h (by omega) HKk.out)
  have Y4 := Lib.hid (fun W h => h4 ▸ HC.out.has_ W A4 F4.length c4 F4 k h (by omega) HKk.out)
  have Y5 := Lib.hid (fun W h => h5 ▸ HC.out.has_ W A5 F5.length c5 F5 k h (by omega) HKk.out)
  have Y6 := Lib.hid (fun W h => h6 ▸ HC.out.has_ W A6 F6.length c6 F6 k h (by omega) HKk.out)
  have HS := Lib.hid (show AllArg w w5 [(A, n, L), (A', n', M), (A3, F3.length, F3), (A4, F4.length, F4), (A5, F5.length, F5), (A6, F6.length, F6)] from ⟨fun t ht => HS.out.all t (by
    simp only [List.mem_cons, List.not_mem_nil, or_false] at ht
    rcases ht with rfl | rfl | rfl | rfl | rfl | rfl <;> simp), HS.out.u⟩)
  have HG := Lib.hid (And.intro g3 (And.intro g4 (And.intro g5 g6)))
  clear eL eM e3 e4 e5 e6 s1 s2 bL bM b3 hT hP hQ h3 h4 h5 h6 g3 g4 g5 g6 K3 K4 K5 K6 HC HKk hb3 hb4 hb5 hb6
  go_upto_region 10 with (first
    | (go_at_call 18; ((with_reducible refine (ZL.out _ (HS.out.all (A, n, L) (by simp))).mono ?_); rintro e w6 ⟨rfl, hu⟩; have HS := Lib.hid (HS.out.up hu); clear hu))
    | (go_at_call 18; ((with_reducible refine (ZM.out _ (HS.out.all (A', n', M) (by simp))).mono ?_); rintro e w6 ⟨rfl, hu⟩; have HS := Lib.hid (HS.out.up hu); clear hu))
    | (go_at_call 18; ((with_reducible refine (Z3.out _ (HS.out.all (A3, F3.length, F3) (by simp))).mono ?_); rintro e w6 ⟨rfl, hu⟩; have HS := Lib.hid (HS.out.up hu); clear hu))
    | (go_at_call 18; ((with_reducible refine (Z4.out _ (HS.out.all (A4, F4.length, F4) (by simp))).mono ?_); rintro e w6 ⟨rfl, hu⟩; have HS := Lib.hid (HS.out.up hu); clear hu))
    | (go_at_call 18; ((with_reducible refine (Z5.out _ (HS.out.all (A5, F5.length, F5) (by simp))).mono ?_); rintro e w6 ⟨rfl, hu⟩; have HS := Lib.hid (HS.out.up hu); clear hu))
    | (go_at_call 18; ((with_reducible refine (Z6.out _ (HS.out.all (A6, F6.length, F6) (by simp))).mono ?_); rintro e w6 ⟨rfl, hu⟩; have HS := Lib.hid (HS.out.up hu); clear hu)))
  have g := HG.out
  clear HG
  cases P <;> cases Q <;> simp only [Bool.or_false, Bool.or_true, Bool.and_true, Bool.and_false, Bool.not_true, Bool.not_false] at g <;> obtain ⟨g3, g4, g5, g6⟩ := g <;> subst g3 g4 g5 g6
  all_goals
    go_wp2_with (first
      | (go_at_call 16; ((with_reducible refine (YL.out _ (HS.out.all (A, n, L) (by simp))).mono ?_); rintro e w6 ⟨rfl, hu⟩; have HS := Lib.hid (HS.out.up hu); clear hu))
      | (go_at_call 16; ((with_reducible refine (YM.out _ (HS.out.all (A', n', M) (by simp))).mono ?_); rintro e w6 ⟨rfl, hu⟩; have HS := Lib.hid (HS.out.up hu); clear hu))
      | (go_at_call 16; ((with_reducible refine (Y3.out _ (HS.out.all (A3, F3.length, F3) (by simp))).mono ?_); rintro e w6 ⟨rfl, hu⟩; have HS := Lib.hid (HS.out.up hu); clear hu))
      | (go_at_call 16; ((with_reducible refine (Y4.out _ (HS.out.all (A4, F4.length, F4) (by simp))).mono ?_); rintro e w6 ⟨rfl, hu⟩; have HS := Lib.hid (HS.out.up hu); clear hu))
      | (go_at_call 16; ((with_reducible refine (Y5.out _ (HS.out.all (A5, F5.length, F5) (by simp))).mono ?_); rintro e w6 ⟨rfl, hu⟩; have HS := Lib.hid (HS.out.up hu); clear hu))
      | (go_at_call 16; ((with_reducible refine (Y6.out _ (HS.out.all (A6, F6.length, F6) (by simp))).mono ?_); rintro e w6 ⟨rfl, hu⟩; have HS := Lib.hid (HS.out.up hu); clear hu))
      | (go_at_call 8; ((with_reducible refine (HK.out _).mono ?_); rintro e w7 ⟨rfl, hu⟩; have HS := Lib.hid (HS.out.up hu); clear hu)))
    go_ret
    exact ⟨rfl, HS.out.u⟩
theorem form_walk (hC : SpanC) (w : World) (A A' : Option Addr) (n n' c c' : Nat) (L M : List Rng) (k : Int) (ha : Arg w A n L) (hA : A = none → n = 0 ∧ c = 0) (hb : Arg w A' n' M) (hA' : A' = none → n' = 0 ∧ c' = 0) (hk : -9223372036854775808 ≤ k ∧ k ≤ 9223372036854775807) :
    Calls Try.prog 6 #[.slice A n c, .slice A' n' c', .int .i64 k] w fun e w' => e = .returned (.bool true) ∧ Up w w' := by
  by_cases h : 200 < n ∨ 200 < n'
  · exact form_big hC w A A' n n' c c' k h
  · exact lawIn_form hC w A A' n n' c c' L M k ha hA hb hA' (by omega) (by omega) hk
end Go.Proofs.Ytbgdphjjepbafaa
