/- Whether a list is a tree of its size; the error of a list and a node's place: the document's Fit and Wrong. -/
import Derived.Test.YtidnldchdahgeaaDoorTIs
namespace Go.Proofs.YtidnldchdahgeaaDoor
open Go.RowKit

set_option maxRecDepth 100000 in
set_option maxHeartbeats 1000000 in
theorem refFit_any (w : World) (A : Option Addr) (n c : Nat) (L : List Nd) (hL : NArg w A n L) (hn : n ≤ 10000) :
    Calls Tryd.prog 20 #[.slice A n c] w (SaysB (Fit L) w) := by
  by_cases h2 : n = 0
  · have HR := Lib.hid (show ¬ Fit L from fun h => by have := h.pos; have := hL.nds.len; omega)
    subst h2
    clear hL
    go_enter Tryd.func20, Tryd.ntmps20
    go_wp2
    go_ret
    exact saysB_no HR.out (Up.refl _)
  · obtain ⟨b, o, hA, hb, k0, k1, k2, k3⟩ := nds_nd hL.nds 0 (by omega)
    have hw := wf64 (nd_ok hL.ok 0).2.2.1
    have HI := refIs_any w A n c L hL hn _ hw
    subst hA
    obtain ⟨m, hm⟩ : ∃ m, (nd L 0).2.2.1 = m := ⟨_, rfl⟩
    rw [hm] at k2 HI
    simp only [Nat.zero_mul, Nat.add_zero] at k2
    have HI := Lib.hid HI
    have HF := Lib.hid (show Fit L ↔ IsT L m by unfold Fit; rw [hm])
    have n0 : (0 : Int) < n := by omega
    clear hL k0 k1 k3 hb hw hm
    go_enter Tryd.func20, Tryd.ntmps20
    go_wp2_with (go_at_call 14; ((with_reducible refine HI.out.mono ?_); rintro e w1 ⟨⟨B, rfl, hB⟩, hu⟩; have HB := Lib.hid hB; have HU := Lib.hid hu; clear hB hu))
    go_ret
    exact ⟨⟨B, rfl, HB.out.trans HF.out.symm⟩, HU.out⟩
/-- The error of a list and a node's place. -/
noncomputable def fitB (L : List Nd) : Bool := @decide (Fit L) (Classical.propDecidable _)
theorem fitB_yes {L : List Nd} (h : Fit L) : fitB L = true := @decide_eq_true _ (Classical.propDecidable _) h
theorem fitB_no {L : List Nd} (h : ¬ Fit L) : fitB L = false := @decide_eq_false _ (Classical.propDecidable _) h
theorem saysB_fit {L : List Nd} {w w' : World} {e : Ending} (h : SaysB (Fit L) w e w') : e = .returned (.bool (fitB L)) ∧ Up w w' := by
  obtain ⟨⟨B, rfl, hB⟩, hu⟩ := h
  refine ⟨?_, hu⟩
  by_cases hF : Fit L
  · rw [fitB_yes hF, hB.2 hF]
  · rw [fitB_no hF]
    cases B with
    | false => rfl
    | true => exact absurd (hB.1 rfl) hF
noncomputable def wrongT (L : List Nd) (i : Int) : Int := if fitB L = true then (if i < 0 ∨ (L.length : Int) ≤ i then 5 else 0) else 60
set_option maxRecDepth 100000 in
set_option maxHeartbeats 1000000 in
theorem refWrong_any (w : World) (A : Option Addr) (n c : Nat) (L : List Nd) (hL : NArg w A n L) (hn : n ≤ 10000) (i : Int) :
    Calls Tryd.prog 15 #[.slice A n c, .int .i64 i] w fun e w' => e = .returned (.int .i64 (wrongT L i)) ∧ Up w w' := by
  have HI := Lib.hid ((refFit_any w A n c L hL hn).mono fun _ _ h => saysB_fit h)
  have HW := Lib.hid (show wrongT L i = if fitB L = true then (if i < 0 ∨ (n : Int) ≤ i then 5 else 0) else 60 by unfold wrongT; rw [hL.nds.len])
  clear hL
  obtain ⟨F, hF⟩ : ∃ F, fitB L = F := ⟨_, rfl⟩
  rw [hF] at HI HW
  rw [HW.out]
  clear HW hF
  cases F with
  | true =>
    rw [if_pos rfl]
    by_cases h0 : i < 0
    · rw [if_pos (.inl h0)]
      go_enter Tryd.func15, Tryd.ntmps15
      go_wp2_with (go_at_call 20; ((with_reducible refine HI.out.mono ?_); rintro e w1 ⟨rfl, hu⟩; have HU := Lib.hid hu; clear hu))
      go_ret
      exact ⟨rfl, HU.out⟩
    · have f0 : decide (i < 0) = false := decide_eq_false h0
      by_cases h1 : (n : Int) ≤ i
      · rw [if_pos (.inr h1)]
        clear h0
        go_enter Tryd.func15, Tryd.ntmps15
        go_wp2_with (go_at_call 20; ((with_reducible refine HI.out.mono ?_); rintro e w1 ⟨rfl, hu⟩; have HU := Lib.hid hu; clear hu))
        go_ret
        exact ⟨rfl, HU.out⟩
      · have f1 : decide ((n : Int) ≤ i) = false := decide_eq_false h1
        rw [if_neg (by omega)]
        clear h0 h1
        go_enter Tryd.func15, Tryd.ntmps15
        go_wp2_with (go_at_call 20; ((with_reducible refine HI.out.mono ?_); rintro e w1 ⟨rfl, hu⟩; have HU := Lib.hid hu; clear hu))
        go_ret
        exact ⟨rfl, HU.out⟩
  | false =>
    rw [if_neg Bool.false_ne_true]
    go_enter Tryd.func15, Tryd.ntmps15
    go_wp2_with (go_at_call 20; ((with_reducible refine HI.out.mono ?_); rintro e w1 ⟨rfl, hu⟩; have HU := Lib.hid hu; clear hu))
    go_ret
    exact ⟨rfl, HU.out⟩
end Go.Proofs.YtidnldchdahgeaaDoor
