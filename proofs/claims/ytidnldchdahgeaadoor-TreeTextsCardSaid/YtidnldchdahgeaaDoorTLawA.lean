/- Whether a list is a tree, and the deepest node at a place: the statements TreeChecks and TreeAts, walked. -/
import Derived.Test.YtidnldchdahgeaaDoorTWakes
namespace Go.Proofs.YtidnldchdahgeaaDoor
open Go.RowKit

set_option maxRecDepth 100000 in
theorem nodes_cap {r : Reach} {b0 : Nat} {w : World} {A : Option Addr} {n c : Nat} (hv : Value.okWide Tryd.prog w r b0 22 (.slice A n c)) (hz : A = none → n = 0 ∧ c = 0) : n ≤ c := by
  cases A with
  | none => obtain ⟨h1, h2⟩ := hz rfl; omega
  | some a =>
    simp only [Value.okWide, Tryd.underlying22, Cell.okWide, Cell.ok] at hv
    exact hv.1
/-- A list of its own is one that may be handed in. -/
theorem own_arg {w : World} {B : Nat} {v : Value} {L : List Nd} (h : RowN w B v L) (hok : ∀ x ∈ L, NdOk x) : ∃ A c, v = .slice A L.length c ∧ NArg w A L.length L ∧ L.length ≤ c := by
  obtain ⟨A, c, rfl, h1, h2, h3⟩ := owns_nds h
  refine ⟨A, c, rfl, ⟨h1, h3, hok⟩, ?_⟩
  cases A with
  | none =>
    rcases owns_cell h with ⟨e, e2⟩ | ⟨g, c2, e, -⟩
    · omega
    · injection e with e; cases e
  | some a => exact owns_cap h
noncomputable def isB (L : List Nd) (m : Int) : Bool := @decide (IsT L m) (Classical.propDecidable _)
theorem isB_iff {L : List Nd} {m : Int} : isB L m = true ↔ IsT L m := by unfold isB; exact @decide_eq_true_iff _ (Classical.propDecidable _)
theorem says_isB {L : List Nd} {m : Int} {w w' : World} {e : Ending} (h : SaysB (IsT L m) w e w') : e = .returned (.bool (isB L m)) ∧ Up w w' := by
  obtain ⟨⟨B, rfl, hB⟩, hu⟩ := h
  refine ⟨ret_bool ?_, hu⟩
  cases B with
  | false =>
    cases h2 : isB L m with
    | false => rfl
    | true => exact absurd (hB.2 (isB_iff.1 h2)) (by decide)
  | true => exact (isB_iff.2 (hB.1 rfl)).symm
theorem says_isE {L : List Nd} {m : Int} {w w' : World} {e : Ending} (h : SaysE (IsT L m) w e w') : e = .returned (.int .i64 (if isB L m = true then 0 else 60)) ∧ Up w w' := by
  obtain ⟨⟨z, rfl, hz⟩, hu⟩ := h
  refine ⟨ret_int ?_, hu⟩
  rcases hz with ⟨rfl, hz⟩ | ⟨rfl, hz⟩
  · rw [if_pos (isB_iff.2 hz)]
  · rw [if_neg (fun h => hz (isB_iff.1 h))]
/-- The statements' copy of a list, as one that may be handed in. -/
theorem ownArg_any (w : World) (A : Option Addr) (n c : Nat) (L : List Nd) (hL : NArg w A n L) (hz : A = none → n = 0 ∧ c = 0) (hn : n ≤ 1000000) :
    Calls Tryd.prog 13 #[.slice A n c] w fun e w' => ∃ A' c', e = .returned (.slice A' n c') ∧ NArg w' A' n L ∧ n ≤ c' ∧ Up w w' := by
  refine (nOwn_any w A n c L hL.nds hz hn).mono ?_
  rintro e w' ⟨v, rfl, h, hu⟩
  obtain ⟨A', c', rfl, h1, h2⟩ := own_arg h hL.ok
  rw [hL.nds.len] at h1 h2 ⊢
  exact ⟨A', c', rfl, h1, h2, hu⟩
set_option maxRecDepth 100000 in
set_option maxHeartbeats 4000000 in
theorem checks_walk (w : World) (hT : Tab w) (A : Option Addr) (n c : Nat) (L : List Nd) (hL : NArg w A n L) (_ : n ≤ c) (hz : A = none → n = 0 ∧ c = 0) (m : Int) (hm : -9223372036854775808 ≤ m ∧ m ≤ 9223372036854775807) :
    Calls Tryd.prog 3 #[.slice A n c, .int .i64 m] w fun e w' => e = .returned (.bool true) ∧ Up w w' := by
  have HW := Lib.hid (fun W (hu : Up w W) => wakes_any W (hT.up hu))
  by_cases h : (2000 : Int) < n
  · clear hL hz hm hT
    go_enter Tryd.func3, Tryd.ntmps3
    go_wp2_with (go_at_call 11; ((with_reducible refine (HW.out _ (Up.refl _)).mono ?_); rintro e w1 ⟨rfl, hu⟩; have HU := Lib.hid hu; clear hu))
    go_ret
    exact ⟨rfl, HU.out⟩
  have f0 : decide ((2000 : Int) < n) = false := decide_eq_false h
  have HO := Lib.hid (ownArg_any w A n c L hL hz (by omega))
  have HC := Lib.hid (fun W A' c' (h1 : NArg W A' n L) (h2 : n ≤ c') => (check_any W A' n c' L h1 h2 (by omega) m hm).mono fun _ _ h => says_isE h)
  have HI := Lib.hid (fun W (hu : Up w W) => (refIs_any W A n c L (hL.up hu) (by omega) m hm).mono fun _ _ h => says_isB h)
  have hS : ∃ B, isB L m = B := ⟨_, rfl⟩
  obtain ⟨B, hB⟩ := hS
  rw [hB] at HC HI
  clear hL hz hm hT h hB
  cases B
  all_goals
    first | rw [if_neg (by decide)] at HC | rw [if_pos rfl] at HC
    go_enter Tryd.func3, Tryd.ntmps3
    go_wp2_with (first
      | (go_at_call 13; ((with_reducible refine HO.out.mono ?_); rintro e w1 ⟨A', c', rfl, h1, h2, hu⟩; have HU := Lib.hid hu; have H1 := Lib.hid h1; have H2 := Lib.hid h2; clear hu h1 h2))
      | (go_at_call 12; ((with_reducible refine (HC.out _ _ _ H1.out H2.out).mono ?_); rintro e w2 ⟨rfl, hu⟩; have HU := Lib.hid (HU.out.trans hu); clear hu))
      | (go_at_call 14; ((with_reducible refine (HI.out _ HU.out).mono ?_); rintro e w3 ⟨rfl, hu⟩; have HU := Lib.hid (HU.out.trans hu); clear hu))
      | (go_at_call 11; ((with_reducible refine (HW.out _ HU.out).mono ?_); rintro e w4 ⟨rfl, hu⟩; have HU := Lib.hid (HU.out.trans hu); clear hu)))
    go_ret
    exact ⟨rfl, HU.out⟩
set_option maxRecDepth 100000 in
set_option maxHeartbeats 4000000 in
theorem ats_walk (w : World) (hT : Tab w) (A : Option Addr) (n c : Nat) (L : List Nd) (hL : NArg w A n L) (_ : n ≤ c) (hz : A = none → n = 0 ∧ c = 0) (q : Int) :
    Calls Tryd.prog 5 #[.slice A n c, .int .i64 q] w fun e w' => e = .returned (.bool true) ∧ Up w w' := by
  have HW := Lib.hid (fun W (hu : Up w W) => wakes_any W (hT.up hu))
  by_cases h : (2000 : Int) < n
  · clear hL hz hT
    go_enter Tryd.func5, Tryd.ntmps5
    go_wp2_with (go_at_call 11; ((with_reducible refine (HW.out _ (Up.refl _)).mono ?_); rintro e w1 ⟨rfl, hu⟩; have HU := Lib.hid hu; clear hu))
    go_ret
    exact ⟨rfl, HU.out⟩
  have f0 : decide ((2000 : Int) < n) = false := decide_eq_false h
  have HO := Lib.hid (ownArg_any w A n c L hL hz (by omega))
  have HA := Lib.hid (fun W A' c' (h1 : NArg W A' n L) (h2 : n ≤ c') => at_any W A' n c' L h1 h2 (by omega) q)
  have HF := Lib.hid (fun W (hu : Up w W) => (refFit_any W A n c L (hL.up hu) (by omega)).mono fun _ _ h => saysB_fit h)
  have hl := hL.nds.len
  have hae : atE L q = if fitB L = true then (if q < 0 ∨ (nd L 0).2.2.1 < q then 5 else 0) else 60 := rfl
  have haa : atA L q = if atE L q = 0 then ((atT L q n : Nat) : Int) else 0 := by unfold atA; rw [hl]
  cases hF : fitB L with
  | false =>
    rw [hF] at HF
    rw [hF, if_neg (by decide)] at hae
    rw [hae, if_neg (by decide)] at haa
    rw [hae, haa] at HA
    clear hL hz hT h hF hl hae haa
    go_enter Tryd.func5, Tryd.ntmps5
    go_wp2_with (first
      | (go_at_call 13; ((with_reducible refine HO.out.mono ?_); rintro e w1 ⟨A', c', rfl, h1, h2, hu⟩; have HU := Lib.hid hu; have H1 := Lib.hid h1; have H2 := Lib.hid h2; clear hu h1 h2))
      | (go_at_call 26; ((with_reducible refine (HA.out _ _ _ H1.out H2.out).mono ?_); rintro e w2 ⟨rfl, hu⟩; have HU := Lib.hid (HU.out.trans hu); clear hu))
      | (go_at_call 20; ((with_reducible refine (HF.out _ HU.out).mono ?_); rintro e w3 ⟨rfl, hu⟩; have HU := Lib.hid (HU.out.trans hu); clear hu))
      | (go_at_call 11; ((with_reducible refine (HW.out _ HU.out).mono ?_); rintro e w4 ⟨rfl, hu⟩; have HU := Lib.hid (HU.out.trans hu); clear hu)))
    go_ret
    exact ⟨rfl, HU.out⟩
  | true =>
    rw [hF] at HF
    rw [hF, if_pos rfl] at hae
    have hfit := fit_of hF
    have hpos : 0 < n := by have := hfit.pos; omega
    have HRA := Lib.hid (fun W (hu : Up w W) => refAt_any W A n c L (hL.nds.up hu) (by omega) hpos q)
    have HN := Lib.hid (fun W (hu : Up w W) => nds_nd (hL.nds.up hu) 0 hpos)
    obtain ⟨b0, o0, rfl, -, k0, k1, k2, k3⟩ := nds_nd hL.nds 0 hpos
    obtain ⟨m, hm⟩ : ∃ m, (nd L 0).2.2.1 = m := ⟨_, rfl⟩
    rw [hm] at k2 hae
    simp only [Nat.zero_mul, Nat.add_zero] at k2
    have n0 : (0 : Int) < n := by omega
    by_cases h0 : q < 0
    · rw [if_pos (.inl h0)] at hae
      rw [hae, if_neg (by decide)] at haa
      rw [hae, haa] at HA
      clear hL hz hT h hF hl hae haa hfit hm k0 k1 k3 hpos
      go_enter Tryd.func5, Tryd.ntmps5
      go_wp2_with (first
        | (go_at_call 13; ((with_reducible refine HO.out.mono ?_); rintro e w1 ⟨A', c', rfl, h1, h2, hu⟩; replace k2 := cell_up hu k2; have HU := Lib.hid hu; have H1 := Lib.hid h1; have H2 := Lib.hid h2; clear hu h1 h2))
        | (go_at_call 26; ((with_reducible refine (HA.out _ _ _ H1.out H2.out).mono ?_); rintro e w2 ⟨rfl, hu⟩; replace k2 := cell_up hu k2; have HU := Lib.hid (HU.out.trans hu); clear hu))
        | (go_at_call 20; ((with_reducible refine (HF.out _ HU.out).mono ?_); rintro e w3 ⟨rfl, hu⟩; replace k2 := cell_up hu k2; have HU := Lib.hid (HU.out.trans hu); clear hu))
        | (go_at_call 11; ((with_reducible refine (HW.out _ HU.out).mono ?_); rintro e w4 ⟨rfl, hu⟩; have HU := Lib.hid (HU.out.trans hu); clear hu)))
      go_ret
      exact ⟨rfl, HU.out⟩
    have g0 : decide (q < 0) = false := decide_eq_false h0
    by_cases h1 : m < q
    · rw [if_pos (.inr h1)] at hae
      rw [hae, if_neg (by decide)] at haa
      rw [hae, haa] at HA
      clear hL hz hT h hF hl hae haa hfit hm k0 k1 k3 hpos h0
      go_enter Tryd.func5, Tryd.ntmps5
      go_wp2_with (first
        | (go_at_call 13; ((with_reducible refine HO.out.mono ?_); rintro e w1 ⟨A', c', rfl, h1, h2, hu⟩; replace k2 := cell_up hu k2; have HU := Lib.hid hu; have H1 := Lib.hid h1; have H2 := Lib.hid h2; clear hu h1 h2))
        | (go_at_call 26; ((with_reducible refine (HA.out _ _ _ H1.out H2.out).mono ?_); rintro e w2 ⟨rfl, hu⟩; replace k2 := cell_up hu k2; have HU := Lib.hid (HU.out.trans hu); clear hu))
        | (go_at_call 20; ((with_reducible refine (HF.out _ HU.out).mono ?_); rintro e w3 ⟨rfl, hu⟩; replace k2 := cell_up hu k2; have HU := Lib.hid (HU.out.trans hu); clear hu))
        | (go_at_call 11; ((with_reducible refine (HW.out _ HU.out).mono ?_); rintro e w4 ⟨rfl, hu⟩; have HU := Lib.hid (HU.out.trans hu); clear hu)))
      go_ret
      exact ⟨rfl, HU.out⟩
    have g1 : decide (m < q) = false := decide_eq_false h1
    rw [if_neg (by omega)] at hae
    rw [hae, if_pos rfl] at haa
    rw [hae, haa] at HA
    obtain ⟨z, hz1⟩ : ∃ z, ((atT L q n : Nat) : Int) = z := ⟨_, rfl⟩
    rw [hz1] at HA HRA
    clear hL hz hT h hF hl hae haa hfit hm k0 k1 k3 hpos h0 h1 hz1
    go_enter Tryd.func5, Tryd.ntmps5
    go_wp2_with (first
      | (go_at_call 13; ((with_reducible refine HO.out.mono ?_); rintro e w1 ⟨A', c', rfl, h1, h2, hu⟩; replace k2 := cell_up hu k2; have HU := Lib.hid hu; have H1 := Lib.hid h1; have H2 := Lib.hid h2; clear hu h1 h2))
      | (go_at_call 26; ((with_reducible refine (HA.out _ _ _ H1.out H2.out).mono ?_); rintro e w2 ⟨rfl, hu⟩; replace k2 := cell_up hu k2; have HU := Lib.hid (HU.out.trans hu); clear hu))
      | (go_at_call 20; ((with_reducible refine (HF.out _ HU.out).mono ?_); rintro e w3 ⟨rfl, hu⟩; replace k2 := cell_up hu k2; have HU := Lib.hid (HU.out.trans hu); clear hu))
      | (go_at_call 27; ((with_reducible refine (HRA.out _ HU.out).mono ?_); rintro e w3 ⟨rfl, hu⟩; have HU := Lib.hid (HU.out.trans hu); clear hu))
      | (go_at_call 11; ((with_reducible refine (HW.out _ HU.out).mono ?_); rintro e w4 ⟨rfl, hu⟩; have HU := Lib.hid (HU.out.trans hu); clear hu)))
    go_ret
    exact ⟨rfl, HU.out⟩
end Go.Proofs.YtidnldchdahgeaaDoor
