/- A node's sum: the statement TreeSums, walked. -/
import Derived.Test.YtidnldchdahgeaaDoorTLawA
import Derived.Test.YtidnldchdahgeaaDoorTHashP
import Derived.Test.YtidnldchdahgeaaDoorTRefHash
namespace Go.Proofs.YtidnldchdahgeaaDoor
open Go.RowKit

theorem num_small {L : List Nd} {n : Nat} (hF : Fit L) (hok : ∀ x ∈ L, NdOk x) (hl : L.length = n) (hn : n ≤ 10000) {i : Nat} (hi : i < n) : ∀ k, k < n → IntKind.i64.wrap (dep L k - dep L i) = dep L k - dep L i ∧ IntKind.i64.wrap ((nd L k).2.1 - (nd L i).2.1) = (nd L k).2.1 - (nd L i).2.1 ∧ IntKind.i64.wrap ((nd L k).2.2.1 - (nd L i).2.1) = (nd L k).2.2.1 - (nd L i).2.1 := fun k hk => by
  obtain ⟨⟨⟨a0, a1⟩, ⟨a2, a3⟩, ⟨a4, a5⟩, -⟩, -, -, a6⟩ := fit_in hF hok (by omega) (k + 1) k (Nat.lt_succ_self k) (by omega)
  obtain ⟨⟨-, ⟨b2, b3⟩, -, -⟩, -, -, b6⟩ := fit_in hF hok (by omega) (i + 1) i (Nat.lt_succ_self i) (by omega)
  have hG : Good L n := hl ▸ hF.good
  have d1 := (hG.len hk).2
  have d2 := (hG.len hi).2
  exact ⟨IntWalk.i64_in _ (by omega), IntWalk.i64_in _ (by omega), IntWalk.i64_in _ (by omega)⟩
set_option maxRecDepth 100000 in
set_option maxHeartbeats 4000000 in
theorem tsums_walk (w : World) (hT : Tab w) (A : Option Addr) (n c : Nat) (L : List Nd) (hL : NArg w A n L) (_ : n ≤ c) (hz : A = none → n = 0 ∧ c = 0) (i : Int) :
    Calls Tryd.prog 7 #[.slice A n c, .int .i64 i] w fun e w' => e = .returned (.bool true) ∧ Up w w' := by
  have HW := Lib.hid (fun W (hu : Up w W) => wakes_any W (hT.up hu))
  by_cases h : (2000 : Int) < n
  · clear hL hz hT
    go_enter Tryd.func7, Tryd.ntmps7
    go_wp2_with (go_at_call 11; ((with_reducible refine (HW.out _ (Up.refl _)).mono ?_); rintro e w1 ⟨rfl, hu⟩; have HU := Lib.hid hu; clear hu))
    go_ret
    exact ⟨rfl, HU.out⟩
  have f0 : decide ((2000 : Int) < n) = false := decide_eq_false h
  have hn : n ≤ 10000 := by omega
  have hl := hL.nds.len
  have HO := Lib.hid (ownArg_any w A n c L hL hz (by omega))
  have HH := Lib.hid (fun W A' c' (h1 : NArg W A' n L) (h2 : n ≤ c') => (callsIn_wide (n := 4)).1 (hash_in W A' n c' L h1 h2 hn i))
  have HWr := Lib.hid (fun W (hu : Up w W) => refWrong_any W A n c L (hL.up hu) hn i)
  by_cases hwr : wrongT L i = 0
  · obtain ⟨hF, h0, h1⟩ := wrong_zero hwr
    obtain ⟨k, rfl⟩ : ∃ k : Nat, i = (k : Nat) := ⟨i.toNat, by omega⟩
    have hk : k < n := by omega
    have HR := Lib.hid (fun W (hu : Up w W) => refHash_any W A n c L (hL.nds.up hu) hn k hk (num_small hF hL.ok hl hn hk))
    have hha : hashA L ((k : Nat) : Int) = eatL 14695981039346656037 (sumNs L n k) := by unfold hashA sumT; rw [if_pos hwr, hl, Int.toNat_natCast]
    rw [hwr, hha] at HH
    rw [hwr] at HWr
    obtain ⟨V, hV⟩ : ∃ V, eatL 14695981039346656037 (sumNs L n k) = V := ⟨_, rfl⟩
    rw [hV] at HH HR
    clear hL hz hT h hl hn hwr hF h0 h1 hk hha hV
    go_enter Tryd.func7, Tryd.ntmps7
    go_wp2_with (first
      | (go_at_call 13; ((with_reducible refine HO.out.mono ?_); rintro e w1 ⟨A', c', rfl, h1, h2, hu⟩; have HU := Lib.hid hu; have H1 := Lib.hid h1; have H2 := Lib.hid h2; clear hu h1 h2))
      | (go_at_call 33; ((with_reducible refine (HH.out _ _ _ H1.out H2.out).mono ?_); rintro e w2 ⟨rfl, hu⟩; have HU := Lib.hid (HU.out.trans hu); clear hu))
      | (go_at_call 15; ((with_reducible refine (HWr.out _ HU.out).mono ?_); rintro e w3 ⟨rfl, hu⟩; have HU := Lib.hid (HU.out.trans hu); clear hu))
      | (go_at_call 34; ((with_reducible refine (HR.out _ HU.out).mono ?_); rintro e w3 ⟨rfl, hu⟩; have HU := Lib.hid (HU.out.trans hu); clear hu))
      | (go_at_call 11; ((with_reducible refine (HW.out _ HU.out).mono ?_); rintro e w4 ⟨rfl, hu⟩; have HU := Lib.hid (HU.out.trans hu); clear hu)))
    go_ret
    exact ⟨rfl, HU.out⟩
  · have hha : hashA L i = 0 := by unfold hashA; rw [if_neg hwr]
    rw [hha] at HH
    obtain ⟨x, hx⟩ : ∃ x, wrongT L i = x := ⟨_, rfl⟩
    rw [hx] at HH HWr hwr
    have g0 : (x == 0) = false := beq_false_of_ne hwr
    clear hL hz hT h hl hn hwr hha hx
    go_enter Tryd.func7, Tryd.ntmps7
    go_wp2_with (first
      | (go_at_call 13; ((with_reducible refine HO.out.mono ?_); rintro e w1 ⟨A', c', rfl, h1, h2, hu⟩; have HU := Lib.hid hu; have H1 := Lib.hid h1; have H2 := Lib.hid h2; clear hu h1 h2))
      | (go_at_call 33; ((with_reducible refine (HH.out _ _ _ H1.out H2.out).mono ?_); rintro e w2 ⟨rfl, hu⟩; have HU := Lib.hid (HU.out.trans hu); clear hu))
      | (go_at_call 15; ((with_reducible refine (HWr.out _ HU.out).mono ?_); rintro e w3 ⟨rfl, hu⟩; have HU := Lib.hid (HU.out.trans hu); clear hu))
      | (go_at_call 11; ((with_reducible refine (HW.out _ HU.out).mono ?_); rintro e w4 ⟨rfl, hu⟩; have HU := Lib.hid (HU.out.trans hu); clear hu)))
    go_ret
    exact ⟨rfl, HU.out⟩
end Go.Proofs.YtidnldchdahgeaaDoor
