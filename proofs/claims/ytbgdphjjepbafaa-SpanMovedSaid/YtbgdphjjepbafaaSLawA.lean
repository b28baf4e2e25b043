/- What the statements ask of the program's functions, and the known ranges; SpanLooks and SpanMoves walked for any program that answers so. -/
import Derived.Test.YtbgdphjjepbafaaSMove
namespace Go.Proofs.Ytbgdphjjepbafaa
open Go.RowKit

/-- A list that may be handed in. -/
structure Arg (w : World) (A : Option Addr) (n : Nat) (L : List Rng) : Prop where
  rgs : Rgs w A n L
  lt : ∀ b, A = some b → b.block < w.heap.size
  ok : ∀ r ∈ L, RgOk r
theorem Arg.up {w w' : World} {A : Option Addr} {n : Nat} {L : List Rng} (h : Arg w A n L) (hu : Up w w') : Arg w' A n L :=
  ⟨h.rgs.up hu, fun b e => Nat.lt_of_lt_of_le (h.lt b e) (Below.size hu), h.ok⟩
/-- An answer that is a list in form, of these places. -/
def FP (K : Int → Bool) (B : Nat) (w : World) (e : Ending) (w' : World) : Prop := ∃ v F, e = .returned v ∧ RowR w' w.heap.size v F ∧ Form F ∧ (∀ p, has F p = K p) ∧ F.length ≤ B ∧ Up w w'
/-- What the program's functions answer. -/
structure SpanC : Prop where
  norm : ∀ w A n c L, Arg w A n L → n ≤ 4000 → Calls Try.prog 10 #[.slice A n c] w (FP (has L) (2 * n) w)
  union : ∀ w A A' n n' c c' L M, Arg w A n L → Arg w A' n' M → n + n' ≤ 4000 → Calls Try.prog 11 #[.slice A n c, .slice A' n' c'] w (FP (hasB 0 L M) (2 * n + 2 * n') w)
  minus : ∀ w A A' n n' c c' L M, Arg w A n L → Arg w A' n' M → n + n' ≤ 4000 → Calls Try.prog 12 #[.slice A n c, .slice A' n' c'] w (FP (hasB 1 L M) (2 * n + 2 * n') w)
  both : ∀ w A A' n n' c c' L M, Arg w A n L → Arg w A' n' M → n + n' ≤ 4000 → Calls Try.prog 13 #[.slice A n c, .slice A' n' c'] w (FP (hasB 2 L M) (2 * n + 2 * n') w)
  has_ : ∀ w A n c L p, Arg w A n L → n ≤ 4000 → -9223372036854775808 ≤ p ∧ p ≤ 9223372036854775807 → Calls Try.prog 16 #[.slice A n c, .int .i64 p] w fun e w' => e = .returned (.bool (has L p)) ∧ Up w w'
  size : ∀ w A n c L, Arg w A n L → n ≤ 4000 → Calls Try.prog 18 #[.slice A n c] w fun e w' => e = .returned (.int .i64 (szT L)) ∧ Up w w'
  move : ∀ w A n c L a, Arg w A n L → n ≤ 1000 → EdOk a → Calls Try.prog 20 #[.slice A n c, edV a] w (MvPost L a n w)
theorem form_ok {F : List Rng} (h : Form F) : ∀ r ∈ F, RgOk r := by
  intro r hr
  obtain ⟨h1, h2, h3⟩ := formA_mem (lo := -1) (by omega) h r hr
  unfold RgOk
  simp only [Lit.wf, IntKind.min, IntKind.max, IntKind.signed, IntKind.bits]
  constructor <;> simp <;> omega
theorem rowR_arg {w : World} {B : Nat} {v : Value} {F : List Rng} (h : RowR w B v F) (ok : ∀ r ∈ F, RgOk r) : ∃ A c, v = .slice A F.length c ∧ Arg w A F.length F := by
  obtain ⟨A, c, e, hr, hl⟩ := owns_rgs_lt h
  exact ⟨A, c, e, hr, hl, ok⟩
/-- The known ranges. -/
def known4 : List Rng := [(5, 7), (1, 3), (3, 4), (9, 9)]
def known2 : List Rng := [(1, 4), (5, 7)]
theorem known_form : Form known2 := by
  unfold Form known2 FormA FormA FormA
  decide
theorem known_has (p : Int) : has known4 p = has known2 p := by
  unfold known4 known2 has inR clp
  simp only [List.any_cons, List.any_nil, Bool.or_false]
  by_cases h1 : 1 ≤ p <;> by_cases h3 : p < 3 <;> by_cases h4 : p < 4 <;> by_cases h5 : 5 ≤ p <;> by_cases h7 : p < 7 <;> by_cases h9 : 9 ≤ p <;> simp [h1, h3, h4, h5, h7, h9] <;> omega
theorem known_size : szT known2 = 5 := by
  unfold szT
  rw [← known_form.sum]
  rfl
theorem known_in : has known2 3 = true := by decide
theorem known_out : has known2 4 = false := by decide
theorem lit_arg4 (w : World) : Arg (w.alloc (.cells #[.int .i64 5, .int .i64 7, .int .i64 1, .int .i64 3, .int .i64 3, .int .i64 4, .int .i64 9, .int .i64 9] 29)) (some ⟨w.heap.size, 0, none⟩) 4 known4 := by
  refine ⟨⟨rfl, fun i hi => ⟨w.heap.size, 0, rfl, by simp, ?_⟩⟩, fun b e => by cases e; simp, ?_⟩
  · have hi4 : i < 4 := hi
    match i, hi4 with
    | 0, _ => exact ⟨cellOf (Go.heap_alloc_new _ _) rfl, cellOf (Go.heap_alloc_new _ _) rfl⟩
    | 1, _ => exact ⟨cellOf (Go.heap_alloc_new _ _) rfl, cellOf (Go.heap_alloc_new _ _) rfl⟩
    | 2, _ => exact ⟨cellOf (Go.heap_alloc_new _ _) rfl, cellOf (Go.heap_alloc_new _ _) rfl⟩
    | 3, _ => exact ⟨cellOf (Go.heap_alloc_new _ _) rfl, cellOf (Go.heap_alloc_new _ _) rfl⟩
  · intro r hr
    unfold known4 at hr
    simp only [List.mem_cons, List.not_mem_nil, or_false] at hr
    rcases hr with rfl | rfl | rfl | rfl <;> exact ⟨by decide, by decide⟩
theorem lit_rgs2 (w : World) : Rgs (w.alloc (.cells #[.int .i64 1, .int .i64 4, .int .i64 5, .int .i64 7] 29)) (some ⟨w.heap.size, 0, none⟩) 2 known2 := by
  refine ⟨rfl, fun i hi => ⟨w.heap.size, 0, rfl, by simp, ?_⟩⟩
  have hi2 : i < 2 := hi
  match i, hi2 with
  | 0, _ => exact ⟨cellOf (Go.heap_alloc_new _ _) rfl, cellOf (Go.heap_alloc_new _ _) rfl⟩
  | 1, _ => exact ⟨cellOf (Go.heap_alloc_new _ _) rfl, cellOf (Go.heap_alloc_new _ _) rfl⟩
set_option maxRecDepth 100000 in
set_option maxHeartbeats 1000000 in
theorem swakes_any (hC : SpanC) (w : World) : Calls Try.prog 8 #[] w fun e w' => e = .returned (.bool true) ∧ Up w w' := by
  have HN := Lib.hid (hC.norm _ _ 4 4 _ (lit_arg4 w) (by decide))
  have HC := Lib.hid hC
  have HU := Lib.hid (Up.alloc w (.cells #[.int .i64 5, .int .i64 7, .int .i64 1, .int .i64 3, .int .i64 3, .int .i64 4, .int .i64 9, .int .i64 9] 29))
  clear hC
  go_enter Try.func8, Try.ntmps8
  go_upto_region 2 with (go_at_call 10; ((with_reducible refine HN.out.mono ?_); rintro e w1 ⟨v, F, rfl, ho, hf, hh, hl, hu⟩; have hF : F = known2 := hf.one known_form (fun p => (hh p).trans (known_has p)); subst hF; have HR := Lib.hid ho; have HU1 := Lib.hid (HU.out.trans hu); clear ho hf hh hl hu))
  obtain ⟨A5, c5, e5, ha⟩ := rowR_arg HR.out (form_ok known_form)
  subst e5
  have HA := Lib.hid ha
  have h1 := refSame_any (w1.alloc (.cells #[.int .i64 1, .int .i64 4, .int .i64 5, .int .i64 7] 29)) A5 (some ⟨w1.heap.size, 0, none⟩) 2 c5 2 known2 (ha.rgs.up (Up.alloc _ _)) (lit_rgs2 w1) (by decide)
  have h2 := fun W (hu : Up w1 W) => HC.out.size W A5 2 c5 known2 (ha.up hu) (by decide)
  have h3 := fun W (hu : Up w1 W) => HC.out.has_ W A5 2 c5 known2 3 (ha.up hu) (by decide) (by decide)
  have h4 := fun W (hu : Up w1 W) => HC.out.has_ W A5 2 c5 known2 4 (ha.up hu) (by decide) (by decide)
  rw [known_size] at h2
  rw [known_in] at h3
  rw [known_out] at h4
  have H1 := Lib.hid h1
  have H2 := Lib.hid h2
  have H3 := Lib.hid h3
  have H4 := Lib.hid h4
  have HUa := Lib.hid (Up.alloc w1 (.cells #[.int .i64 1, .int .i64 4, .int .i64 5, .int .i64 7] 29))
  have hk2 : known2.length = 2 := rfl
  rw [hk2]
  clear ha h1 h2 h3 h4 hk2
  go_wp2_with (first
    | (go_at_call 14; ((with_reducible refine H1.out.mono ?_); rintro e w2 ⟨rfl, hu⟩; have HV := Lib.hid (HUa.out.trans hu); clear hu))
    | (go_at_call 18; ((with_reducible refine (H2.out _ HV.out).mono ?_); rintro e w3 ⟨rfl, hu⟩; have HV := Lib.hid (HV.out.trans hu); clear hu))
    | (go_at_call 16; ((with_reducible refine (H3.out _ HV.out).mono ?_); rintro e w4 ⟨rfl, hu⟩; have HV := Lib.hid (HV.out.trans hu); clear hu))
    | (go_at_call 16; ((with_reducible refine (H4.out _ HV.out).mono ?_); rintro e w5 ⟨rfl, hu⟩; have HV := Lib.hid (HV.out.trans hu); clear hu)))
  go_ret
  exact ⟨rfl, HU1.out.trans HV.out⟩
set_option maxRecDepth 100000 in
set_option maxHeartbeats 1000000 in
theorem looks_walk (hC : SpanC) (w : World) (A : Option Addr) (n c : Nat) (L : List Rng) (p : Int) (ha : Arg w A n L) (hp : -9223372036854775808 ≤ p ∧ p ≤ 9223372036854775807) :
    Calls Try.prog 4 #[.slice A n c, .int .i64 p] w fun e w' => e = .returned (.bool true) ∧ Up w w' := by
  have HK := Lib.hid (fun W => swakes_any hC W)
  by_cases hb : 200 < n
  · have f1 : (200 : Int) < (n : Nat) := by omega
    clear ha hp hC
    go_enter Try.func4, Try.ntmps4
    go_wp2_with (go_at_call 8; ((with_reducible refine (HK.out _).mono ?_); rintro e w1 ⟨rfl, hu⟩))
    go_ret
    exact ⟨rfl, hu⟩
  · have f1 : decide ((200 : Int) < (n : Nat)) = false := decide_eq_false (by omega)
    have h1 := fun W (hu : Up w W) => hC.has_ W A n c L p (ha.up hu) (by omega) hp
    have h2 := fun W (hu : Up w W) => refHas_any W A n c L (ha.up hu).rgs (by omega) p
    have h3 := fun W (hu : Up w W) => hC.size W A n c L (ha.up hu) (by omega)
    have h4 := fun W (hu : Up w W) => refSize_any W A n c L (ha.up hu).rgs (ha.up hu).lt (by omega)
    obtain ⟨P, hP⟩ : ∃ P, has L p = P := ⟨_, rfl⟩
    obtain ⟨S, hS⟩ : ∃ S, szT L = S := ⟨_, rfl⟩
    rw [hP] at h1 h2
    rw [hS] at h3 h4
    have H1 := Lib.hid h1
    have H2 := Lib.hid h2
    have H3 := Lib.hid h3
    have H4 := Lib.hid h4
    have HU := Lib.hid (Up.refl w)
    clear h1 h2 h3 h4 hP hS ha hp hC hb
    go_enter Try.func4, Try.ntmps4
    go_wp2_with (first
      | (go_at_call 16; ((with_reducible refine (H1.out _ HU.out).mono ?_); rintro e w1 ⟨rfl, hu⟩; have HU := Lib.hid (HU.out.trans hu); clear hu))
      | (go_at_call 17; ((with_reducible refine (H2.out _ HU.out).mono ?_); rintro e w2 ⟨rfl, rfl⟩))
      | (go_at_call 18; ((with_reducible refine (H3.out _ HU.out).mono ?_); rintro e w3 ⟨rfl, hu⟩; have HU := Lib.hid (HU.out.trans hu); clear hu))
      | (go_at_call 19; ((with_reducible refine (H4.out _ HU.out).mono ?_); rintro e w4 ⟨rfl, hu⟩; have HU := Lib.hid (HU.out.trans hu); clear hu))
      | (go_at_call 8; ((with_reducible refine (HK.out _).mono ?_); rintro e w5 ⟨rfl, hu⟩; have HU := Lib.hid (HU.out.trans hu); clear hu)))
    go_ret
    exact ⟨rfl, HU.out⟩
theorem keepE4 {w : World} {N : Nat} {v0 v1 v2 : Value} {W W' : World} (hu : Up W W') (h : Up w W ∧ W.cell? ⟨N, 0, none⟩ = some v0 ∧ W.cell? ⟨N, 1, none⟩ = some v1 ∧ W.cell? ⟨N, 2, none⟩ = some v2) : Up w W' ∧ W'.cell? ⟨N, 0, none⟩ = some v0 ∧ W'.cell? ⟨N, 1, none⟩ = some v1 ∧ W'.cell? ⟨N, 2, none⟩ = some v2 :=
  ⟨h.1.trans hu, keepE hu h.2⟩
theorem mvPost_one {L : List Rng} {a : Int × Int × ByteArray} {F G : List Rng} (hf : Form F) (hg : Form G) (f1 : EdIn a → ∀ q, has F q = true ↔ MvIn L a q) (f2 : ¬ EdIn a → ∀ q, has F q = has L q) (g1 : EdIn a → ∀ q, has G q = true ↔ MvIn L a q) (g2 : ¬ EdIn a → ∀ q, has G q = has L q) : F = G := by
  refine hf.one hg fun q => ?_
  by_cases h : EdIn a
  · have e := (f1 h q).trans (g1 h q).symm
    cases hF : has F q <;> cases hG : has G q <;> simp_all
  · rw [f2 h, g2 h]
set_option maxRecDepth 100000 in
set_option maxHeartbeats 2000000 in
theorem smoves_walk (hC : SpanC) (w : World) (A : Option Addr) (n c : Nat) (L : List Rng) (a : Int × Int × ByteArray) (ha : Arg w A n L) (hA : A = none → n = 0 ∧ c = 0) (hok : EdOk a) :
    Calls Try.prog 5 #[.slice A n c, edV a] w fun e w' => e = .returned (.bool true) ∧ Up w w' := by
  have HK := Lib.hid (fun W => swakes_any hC W)
  have hu0 := Up.alloc w (.cells #[.int .i64 a.1, .int .i64 a.2.1, .string a.2.2] 33)
  by_cases hb : 200 < n
  · have f1 : (200 : Int) < (n : Nat) := by omega
    obtain ⟨p, d, x⟩ := a
    unfold edV
    dsimp only at hu0 ⊢
    have HU := Lib.hid hu0
    clear ha hC hA hok hu0
    go_enter Try.func5, Try.ntmps5
    go_wp2_with (go_at_call 8; ((with_reducible refine (HK.out _).mono ?_); rintro e w1 ⟨rfl, hu⟩))
    go_ret
    exact ⟨rfl, HU.out.trans hu⟩
  · have f1 : decide ((200 : Int) < (n : Nat)) = false := decide_eq_false (by omega)
    have hO := own_any (edW w a) A n c L (ha.up hu0).rgs hA (by omega)
    have hE := edW_cells w a
    have h2 := fun W (hu : Up w W) => refMv_any W A n c L a (ha.up hu).rgs (ha.up hu).lt (by omega)
    have HMo := Lib.hid (fun W A' c' (h : Arg W A' n L) => hC.move W A' n c' L a h (by omega) hok)
    have HA := Lib.hid ha
    have HN := Lib.hid (show n ≤ 200 by omega)
    have HL := Lib.hid ha.rgs.len
    have HO := Lib.hid hO
    have H2 := Lib.hid h2
    have C := Lib.hid hE
    have HU := Lib.hid hu0
    have HAo := Lib.hid (Below.size hu0)
    obtain ⟨p, d, x⟩ := a
    unfold edV at HMo H2 ⊢
    unfold edW at HO C
    dsimp only at HO C HU HMo H2
    clear hO hE h2 ha hC hA hok hu0 hb
    go_enter Try.func5, Try.ntmps5
    go_upto_region 4 with (go_at_call 9; ((with_reducible refine HO.out.mono ?_); rintro e w1 ⟨v, rfl, ho, hu⟩; have HR := Lib.hid ho; have HU1 := Lib.hid (HU.out.trans hu); have C1 := Lib.hid (keepE hu C.out); clear ho hu))
    obtain ⟨A5, c5, e5, ha5⟩ := rowR_arg HR.out HA.out.ok
    rw [HL.out] at e5 ha5
    subst e5
    have HA5 := Lib.hid ha5
    have HAL := Lib.hid (HA.out.up HU1.out)
    have HUw := HU1
    obtain ⟨N, hN⟩ : ∃ N, w.heap.size = N := ⟨_, rfl⟩
    rw [hN] at C1
    try simp only [hN]
    have hS : Up w1 w1 ∧ w1.cell? ⟨N, 0, none⟩ = some (.int .i64 p) ∧ w1.cell? ⟨N, 1, none⟩ = some (.int .i64 d) ∧ w1.cell? ⟨N, 2, none⟩ = some (.string x) := ⟨Up.refl _, C1.out⟩
    clear ha5 HO C HR HA HU HUw C1
    go_region_held3 (fun w' => Up w1 w' ∧ w'.cell? ⟨N, 0, none⟩ = some (.int .i64 p) ∧ w'.cell? ⟨N, 1, none⟩ = some (.int .i64 d) ∧ w'.cell? ⟨N, 2, none⟩ = some (.string x))
      (first | assumption | with_reducible exact keepE4 hu3 (by assumption) | with_reducible exact keepE4 (Up.drew _) (by assumption))
      (first
        | (go_at_call 20; ((with_reducible refine (HMo.out _ _ _ (HA5.out.up ?_)).mono ?_); (exact (by assumption : Up w1 _ ∧ _).1); rintro e w3 ⟨v1, F1, rfl, ho1, k1, k2, k3, k4, hu3⟩; have HO1 := Lib.hid ho1; have K1 := Lib.hid (And.intro k1 (And.intro k2 (And.intro k3 k4))); clear ho1 k1 k2 k3 k4))
        | (go_at_call 21; ((with_reducible refine (H2.out _ (HU1.out.trans ?_)).mono ?_); (exact (by assumption : Up w1 _ ∧ _).1); rintro e w4 ⟨v2, F2, rfl, ho2, k1, k2, k3, k4, hu3⟩; have hFG := mvPost_one K1.out.1 k1 K1.out.2.1 K1.out.2.2.1 k2 k3; subst hFG; have HO2 := Lib.hid ho2; have HO1 := Lib.hid (World.ownsRow.kept HO1.out (Up.grownBy hu3) (by cases hv : Value.ownBlock _ <;> simp)); obtain ⟨A6, c6, e6, ha6⟩ := rowR_arg HO1.out (form_ok K1.out.1); obtain ⟨A7, c7, e7, ha7⟩ := rowR_arg HO2.out (form_ok K1.out.1); subst e6 e7; have HS1 := Lib.hid (fun W (hu : Up w4 W) => refSame_any W A6 A7 F1.length c6 c7 F1 (ha6.up hu).rgs (ha7.up hu).rgs (by have := K1.out.2.2.2; have := HN.out; omega)); clear ho2 k1 k2 k3 k4 ha6 ha7))
        | (go_at_call 14; ((with_reducible refine (HS1.out _ ?_).mono ?_); (first | exact Up.refl _ | exact Up.drew _); rintro e w5 ⟨rfl, hu3⟩))
        | (go_at_call 14; ((with_reducible refine (refSame_any _ A5 A n c5 c L (HA5.out.up ?_).rgs (HAL.out.up ?_).rgs ?_).mono ?_); (exact (by assumption : Up w1 _ ∧ _).1); (exact (by assumption : Up w1 _ ∧ _).1); (have := HN.out; omega); rintro e w6 ⟨rfl, hu3⟩))
        | (go_at_call 8; ((with_reducible refine (HK.out _).mono ?_); rintro e w7 ⟨rfl, hu3⟩)))
    have hH : Up w1 w7 ∧ w7.cell? ⟨N, 0, none⟩ = some (.int .i64 p) ∧ w7.cell? ⟨N, 1, none⟩ = some (.int .i64 d) ∧ w7.cell? ⟨N, 2, none⟩ = some (.string x) := by assumption
    go_wp2
    go_ret
    exact ⟨rfl, HU1.out.trans hH.1⟩
end Go.Proofs.Ytbgdphjjepbafaa
