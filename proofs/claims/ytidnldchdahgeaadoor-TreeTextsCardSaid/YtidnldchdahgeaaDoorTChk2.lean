/- Whether a list is a tree of its size, and has such a node: the program's check and checkNode. -/
import Derived.Test.YtidnldchdahgeaaDoorTCheck
import Derived.Test.YtidnldchdahgeaaDoorTFit
namespace Go.Proofs.YtidnldchdahgeaaDoor
open Go.RowKit

noncomputable def fitE (L : List Nd) : Int := if fitB L = true then 0 else 60
theorem saysE_fit {L : List Nd} {m : Int} {w w' : World} {e : Ending} (hm : (nd L 0).2.2.1 = m) (h : SaysE (IsT L m) w e w') : e = .returned (.int .i64 (fitE L)) ∧ Up w w' := by
  obtain ⟨⟨z, rfl, hz⟩, hu⟩ := h
  refine ⟨?_, hu⟩
  unfold fitE
  have hF : Fit L ↔ IsT L m := by unfold Fit; rw [hm]
  rcases hz with ⟨rfl, hz⟩ | ⟨rfl, hz⟩
  · rw [fitB_yes (hF.2 hz)]; rfl
  · rw [fitB_no (fun h => hz (hF.1 h))]; rfl
set_option maxRecDepth 100000 in
set_option maxHeartbeats 1000000 in
theorem checkF_any (w : World) (A : Option Addr) (n c : Nat) (L : List Nd) (hL : NArg w A n L) (hc : n ≤ c) (hn : n ≤ 10000) :
    Calls Tryd.prog 41 #[.slice A n c] w fun e w' => e = .returned (.int .i64 (fitE L)) ∧ Up w w' := by
  by_cases h2 : n = 0
  · have HR := Lib.hid (show fitE L = 60 by unfold fitE; rw [fitB_no (fun h => by have := h.pos; have := hL.nds.len; omega)]; rfl)
    subst h2
    clear hL
    go_enter Tryd.func41, Tryd.ntmps41
    go_wp2
    go_ret
    exact ⟨ret_int HR.out.symm, Up.refl _⟩
  · obtain ⟨b, o, hA, hb, k0, k1, k2, k3⟩ := nds_nd hL.nds 0 (by omega)
    subst hA
    obtain ⟨m, hm⟩ : ∃ m, (nd L 0).2.2.1 = m := ⟨_, rfl⟩
    have hmo := wf64 (nd_ok hL.ok 0).2.2.1
    rw [hm] at k2 hmo
    simp only [Nat.zero_mul, Nat.add_zero] at k2
    have HC := Lib.hid (check_any w (some ⟨b, o, none⟩) n c L hL hc hn m hmo)
    have HM := Lib.hid hm
    have f2 : ((n : Int) == 0) = false := beq_false_of_ne (by omega)
    have n0 : (0 : Int) < n := by omega
    clear hL hm k0 k1 k3 hb hmo h2
    go_enter Tryd.func41, Tryd.ntmps41
    go_wp2_with (go_at_call 12; ((with_reducible refine HC.out.mono ?_); rintro e w1 hs; obtain ⟨rfl, hu⟩ := saysE_fit HM.out hs; have HU := Lib.hid hu; clear hs hu))
    go_ret
    exact ⟨rfl, HU.out⟩
theorem wrong_small (L : List Nd) (i : Int) : wrongT L i = 0 ∨ wrongT L i = 5 ∨ wrongT L i = 60 := by
  unfold wrongT
  split
  · split
    · exact .inr (.inl rfl)
    · exact .inl rfl
  · exact .inr (.inr rfl)
theorem wrong_zero {L : List Nd} {i : Int} (h : wrongT L i = 0) : Fit L ∧ 0 ≤ i ∧ i < L.length := by
  unfold wrongT at h
  split at h
  · rename_i hF
    split at h
    · cases h
    · rename_i h1
      refine ⟨?_, by omega, by omega⟩
      by_cases hf : Fit L
      · exact hf
      · rw [fitB_no hf] at hF
        cases hF
  · cases h
set_option maxRecDepth 100000 in
set_option maxHeartbeats 1000000 in
theorem checkNode_any (w : World) (A : Option Addr) (n c : Nat) (L : List Nd) (hL : NArg w A n L) (hc : n ≤ c) (hn : n ≤ 10000) (i : Int) :
    Calls Tryd.prog 37 #[.slice A n c, .int .i64 i] w fun e w' => e = .returned (.int .i64 (wrongT L i)) ∧ Up w w' := by
  have HC := Lib.hid (checkF_any w A n c L hL hc hn)
  have hl := hL.nds.len
  have hw : wrongT L i = if fitB L = true then (if i < 0 ∨ (n : Int) ≤ i then 5 else 0) else 60 := by unfold wrongT; rw [hl]
  clear hL hl
  have hE : fitE L = if fitB L = true then 0 else 60 := rfl
  cases hF : fitB L with
  | true =>
    rw [hF, if_pos rfl] at hw hE
    rw [hE] at HC
    clear hF
    by_cases h0 : i < 0
    · rw [if_pos (.inl h0)] at hw
      have HW := Lib.hid hw
      clear hw hE
      go_enter Tryd.func37, Tryd.ntmps37
      go_wp2_with (go_at_call 41; ((with_reducible refine HC.out.mono ?_); rintro e w1 ⟨rfl, hu⟩; have HU := Lib.hid hu; clear hu))
      go_ret
      exact ⟨ret_int HW.out.symm, HU.out⟩
    · have f0 : decide (i < 0) = false := decide_eq_false h0
      by_cases h1 : (n : Int) ≤ i
      · rw [if_pos (.inr h1)] at hw
        have HW := Lib.hid hw
        clear hw hE
        go_enter Tryd.func37, Tryd.ntmps37
        go_wp2_with (go_at_call 41; ((with_reducible refine HC.out.mono ?_); rintro e w1 ⟨rfl, hu⟩; have HU := Lib.hid hu; clear hu))
        go_ret
        exact ⟨ret_int HW.out.symm, HU.out⟩
      · have f1 : decide ((n : Int) ≤ i) = false := decide_eq_false h1
        rw [if_neg (by omega)] at hw
        have HW := Lib.hid hw
        clear hw hE
        go_enter Tryd.func37, Tryd.ntmps37
        go_wp2_with (go_at_call 41; ((with_reducible refine HC.out.mono ?_); rintro e w1 ⟨rfl, hu⟩; have HU := Lib.hid hu; clear hu))
        go_ret
        exact ⟨ret_int HW.out.symm, HU.out⟩
  | false =>
    rw [hF, if_neg (by decide)] at hw hE
    rw [hE] at HC
    have HW := Lib.hid hw
    clear hw hE hF
    go_enter Tryd.func37, Tryd.ntmps37
    go_wp2_with (go_at_call 41; ((with_reducible refine HC.out.mono ?_); rintro e w1 ⟨rfl, hu⟩; have HU := Lib.hid hu; clear hu))
    go_ret
    exact ⟨ret_int HW.out.symm, HU.out⟩
end Go.Proofs.YtidnldchdahgeaaDoor
