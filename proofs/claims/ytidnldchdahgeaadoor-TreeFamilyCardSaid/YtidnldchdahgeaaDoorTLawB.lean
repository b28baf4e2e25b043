/- A node's parent, kids and path, and all leaves: the statement TreeLooks, walked. -/
import Derived.Test.YtidnldchdahgeaaDoorTLawA
import Derived.Test.YtidnldchdahgeaaDoorTKidsP
namespace Go.Proofs.YtidnldchdahgeaaDoor
open Go.RowKit

theorem toI_len (l : List Nat) : (toI l).length = l.length := List.length_map ..
set_option maxRecDepth 100000 in
set_option maxHeartbeats 8000000 in
theorem tlooks_walk (w : World) (hT : Tab w) (A : Option Addr) (n c : Nat) (L : List Nd) (hL : NArg w A n L) (hc : n ≤ c) (i : Int) :
    Calls Tryd.prog 4 #[.slice A n c, .int .i64 i] w fun e w' => e = .returned (.bool true) ∧ Up w w' := by
  have HW := Lib.hid (fun W (hu : Up w W) => wakes_any W (hT.up hu))
  by_cases h : (2000 : Int) < n
  · clear hL hc hT
    go_enter Tryd.func4, Tryd.ntmps4
    go_wp2_with (go_at_call 11; ((with_reducible refine (HW.out _ (Up.refl _)).mono ?_); rintro e w1 ⟨rfl, hu⟩; have HU := Lib.hid hu; clear hu))
    go_ret
    exact ⟨rfl, HU.out⟩
  have f0 : decide ((2000 : Int) < n) = false := decide_eq_false h
  have hn : n ≤ 10000 := by omega
  have hl := hL.nds.len
  have HU := Lib.hid (Up.refl w)
  have HWr := Lib.hid (fun W (hu : Up w W) => refWrong_any W A n c L (hL.up hu) hn i)
  have HUp := Lib.hid (fun W (hu : Up w W) => up_any W A n c L (hL.up hu) hc hn i)
  have HKi := Lib.hid (fun W (hu : Up w W) => (callsIn_wide (n := 4)).1 (kids_in W A n c L (hL.up hu) hc hn i))
  have HPa := Lib.hid (fun W (hu : Up w W) => path_any W A n c L (hL.up hu) hc hn i)
  have HLe := Lib.hid (fun W (hu : Up w W) => leaves_any W A n c L (hL.up hu) hc hn)
  have HFi := Lib.hid (fun W (hu : Up w W) => (refFit_any W A n c L (hL.up hu) hn).mono fun _ _ h => saysB_fit h)
  have HRl := Lib.hid (fun W (hu : Up w W) => refLeaves_any W A n c L (hL.nds.up hu) hn)
  have HIn := Lib.hid (fun W B B' v v' (o : List Int) (h1 : RowI W B v o) (h2 : RowI W B' v' o) (h3 : o.length ≤ 100000) => show Calls Tryd.prog 21 #[v, v'] W fun e w' => e = .returned (.bool true) ∧ Up W w' from by
    have h4 := refInts_any W B B' v v' o o h1 h2 h3
    rw [decide_eq_true (rfl : o = o)] at h4
    exact h4)
  have HVl := Lib.hid (show (toI (leavesT L n)).length ≤ 100000 by rw [toI_len]; have := leavesT_len L n; omega)
  have hfe : fitE L = if fitB L = true then 0 else 60 := rfl
  have hwr : wrongT L i = if fitB L = true then (if i < 0 ∨ (n : Int) ≤ i then 5 else 0) else 60 := by unfold wrongT; rw [hl]
  unfold upE upA at HUp
  unfold GivesI at HKi HPa HLe
  cases hF : fitB L with
  | false =>
    rw [hF] at HFi
    rw [hF, if_neg (by decide)] at hfe hwr
    rw [hfe] at HLe
    rw [hwr] at HWr HUp HKi HPa
    simp only [show ((60 : Int) = 0) = False from by decide, if_false, false_and] at HUp HKi HPa HLe
    clear hL hc hT h hF hl hfe hwr hn
    go_enter Tryd.func4, Tryd.ntmps4
    go_wp2_with (first
        | (go_at_call 15; ((with_reducible refine (HWr.out _ HU.out).mono ?_); rintro e w1 ⟨rfl, hu⟩; have HU := Lib.hid (HU.out.trans hu); clear hu))
        | (go_at_call 16; ((with_reducible refine (HUp.out _ HU.out).mono ?_); rintro e w2 ⟨rfl, hu⟩; have HU := Lib.hid (HU.out.trans hu); clear hu))
        | (go_at_call 17; ((with_reducible refine (HKi.out _ HU.out).mono ?_); rintro e w3 ⟨vk, rfl, hr, hu⟩; obtain ⟨Ak, ck, rfl, -⟩ := RowI.form hr; have HK := Lib.hid hr; have HU := Lib.hid (HU.out.trans hu); clear hr hu))
        | (go_at_call 18; ((with_reducible refine (HPa.out _ HU.out).mono ?_); rintro e w4 ⟨vp, rfl, hr, hu⟩; obtain ⟨Ap, cp, rfl, -⟩ := RowI.form hr; have HP := Lib.hid hr; have HK := Lib.hid (rowI_up HK.out hu); have HU := Lib.hid (HU.out.trans hu); clear hr hu))
        | (go_at_call 19; ((with_reducible refine (HLe.out _ HU.out).mono ?_); rintro e w5 ⟨vv, rfl, hr, hu⟩; obtain ⟨Av, cv, rfl, -⟩ := RowI.form hr; have HV := Lib.hid hr; have HK := Lib.hid (rowI_up HK.out hu); have HP := Lib.hid (rowI_up HP.out hu); have HU := Lib.hid (HU.out.trans hu); clear hr hu))
        | (go_at_call 20; ((with_reducible refine (HFi.out _ HU.out).mono ?_); rintro e w6 ⟨rfl, hu⟩; have HK := Lib.hid (rowI_up HK.out hu); have HP := Lib.hid (rowI_up HP.out hu); have HV := Lib.hid (rowI_up HV.out hu); have HU := Lib.hid (HU.out.trans hu); clear hu))
        | (go_at_call 11; ((with_reducible refine (HW.out _ HU.out).mono ?_); rintro e wz ⟨rfl, hu⟩; have HU := Lib.hid (HU.out.trans hu); clear hu)))
    go_ret
    exact ⟨rfl, HU.out⟩
  | true =>
    rw [hF] at HFi
    rw [hF, if_pos rfl] at hfe hwr
    rw [hfe] at HLe
    simp only [if_true] at HLe
    have hfit := fit_of hF
    have hG : Good L n := hl ▸ hfit.good
    by_cases hr : i < 0 ∨ (n : Int) ≤ i
    · rw [if_pos hr] at hwr
      rw [hwr] at HWr HUp HKi HPa
      simp only [show ((5 : Int) = 0) = False from by decide, if_false, false_and] at HUp HKi HPa
      clear hL hc hT h hF hl hfe hwr hn hr hfit hG
      go_enter Tryd.func4, Tryd.ntmps4
      go_wp2_with (first
        | (go_at_call 15; ((with_reducible refine (HWr.out _ HU.out).mono ?_); rintro e w1 ⟨rfl, hu⟩; have HU := Lib.hid (HU.out.trans hu); clear hu))
        | (go_at_call 16; ((with_reducible refine (HUp.out _ HU.out).mono ?_); rintro e w2 ⟨rfl, hu⟩; have HU := Lib.hid (HU.out.trans hu); clear hu))
        | (go_at_call 17; ((with_reducible refine (HKi.out _ HU.out).mono ?_); rintro e w3 ⟨vk, rfl, hr, hu⟩; obtain ⟨Ak, ck, rfl, -⟩ := RowI.form hr; have HK := Lib.hid hr; have HU := Lib.hid (HU.out.trans hu); clear hr hu))
        | (go_at_call 18; ((with_reducible refine (HPa.out _ HU.out).mono ?_); rintro e w4 ⟨vp, rfl, hr, hu⟩; obtain ⟨Ap, cp, rfl, -⟩ := RowI.form hr; have HP := Lib.hid hr; have HK := Lib.hid (rowI_up HK.out hu); have HU := Lib.hid (HU.out.trans hu); clear hr hu))
        | (go_at_call 19; ((with_reducible refine (HLe.out _ HU.out).mono ?_); rintro e w5 ⟨vv, rfl, hr, hu⟩; obtain ⟨Av, cv, rfl, -⟩ := RowI.form hr; have HV := Lib.hid hr; have HK := Lib.hid (rowI_up HK.out hu); have HP := Lib.hid (rowI_up HP.out hu); have HU := Lib.hid (HU.out.trans hu); clear hr hu))
        | (go_at_call 20; ((with_reducible refine (HFi.out _ HU.out).mono ?_); rintro e w6 ⟨rfl, hu⟩; have HK := Lib.hid (rowI_up HK.out hu); have HP := Lib.hid (rowI_up HP.out hu); have HV := Lib.hid (rowI_up HV.out hu); have HU := Lib.hid (HU.out.trans hu); clear hu))
        | (go_at_call 22; ((with_reducible refine (HRl.out _ HU.out).mono ?_); rintro e w7 ⟨vr, rfl, hr, hu⟩; have HK := Lib.hid (rowI_up HK.out hu); have HP := Lib.hid (rowI_up HP.out hu); have HV := Lib.hid (rowI_up HV.out hu); have HU := Lib.hid (HU.out.trans hu); have HR := Lib.hid hr; clear hr hu))
        | (go_at_call 21; ((with_reducible refine (HIn.out _ _ _ _ _ _ HV.out HR.out HVl.out).mono ?_); rintro e w8 ⟨rfl, hu⟩; have HK := Lib.hid (rowI_up HK.out hu); have HP := Lib.hid (rowI_up HP.out hu); have HV := Lib.hid (rowI_up HV.out hu); have HU := Lib.hid (HU.out.trans hu); clear hu))
        | (go_at_call 11; ((with_reducible refine (HW.out _ HU.out).mono ?_); rintro e wz ⟨rfl, hu⟩; have HU := Lib.hid (HU.out.trans hu); clear hu)))
      go_ret
      exact ⟨rfl, HU.out⟩
    · rw [if_neg hr] at hwr
      rw [hwr] at HWr HUp HKi HPa
      simp only [if_true, true_and] at HUp HKi HPa
      obtain ⟨k, rfl⟩ : ∃ k : Nat, i = (k : Nat) := ⟨i.toNat, by omega⟩
      have hk : k < n := by omega
      rw [Int.toNat_natCast] at HUp HKi HPa
      have hdep : ∀ j, j < n → 0 ≤ dep L j ∧ dep L j ≤ 10000 := fun j hj => by
        have h1 := hG.len hj
        have h2 := st_lenle L j
        omega
      have HPr := Lib.hid (fun W (hu : Up w W) => refParent_any W A n c L (hL.nds.up hu) hn k hk (hdep k hk))
      have HRk := Lib.hid (fun W (hu : Up w W) => refKids_any W A n c L (hL.nds.up hu) hn k hk (hdep k hk))
      have HRp := Lib.hid (fun W (hu : Up w W) => refPath_any W A n c L (hL.nds.up hu) hn k hk hdep)
      have HKl := Lib.hid (show (toI (kidsL L n k)).length ≤ 100000 by rw [toI_len]; unfold kidsL; have := kidsR_len L k (n - (k + 1)) (k + 1); omega)
      have HPl := Lib.hid (show (toI (pathL L k)).length ≤ 100000 by rw [toI_len]; unfold pathL; have := pathR_len L (k + 1) k; omega)
      by_cases hk0 : k = 0
      · subst hk0
        have hp : par L 0 = -1 := par_zero L
        rw [hp] at HPr
        simp only [show (((0 : Nat) : Int) = 0) = True from by simp, if_true, show (((0 : Nat) : Int) ≠ 0) = False from by simp, if_false] at HUp
        simp only [show ((0 : Nat) : Int) = 0 from rfl] at HWr HUp HKi HPa HPr HRk HRp ⊢
        clear hL hc hT h hF hl hfe hwr hn hr hfit hG hdep hk hp
        go_enter Tryd.func4, Tryd.ntmps4
        go_wp2_with (first
        | (go_at_call 15; ((with_reducible refine (HWr.out _ HU.out).mono ?_); rintro e w1 ⟨rfl, hu⟩; have HU := Lib.hid (HU.out.trans hu); clear hu))
        | (go_at_call 16; ((with_reducible refine (HUp.out _ HU.out).mono ?_); rintro e w2 ⟨rfl, hu⟩; have HU := Lib.hid (HU.out.trans hu); clear hu))
        | (go_at_call 17; ((with_reducible refine (HKi.out _ HU.out).mono ?_); rintro e w3 ⟨vk, rfl, hr, hu⟩; obtain ⟨Ak, ck, rfl, -⟩ := RowI.form hr; have HK := Lib.hid hr; have HU := Lib.hid (HU.out.trans hu); clear hr hu))
        | (go_at_call 18; ((with_reducible refine (HPa.out _ HU.out).mono ?_); rintro e w4 ⟨vp, rfl, hr, hu⟩; obtain ⟨Ap, cp, rfl, -⟩ := RowI.form hr; have HP := Lib.hid hr; have HK := Lib.hid (rowI_up HK.out hu); have HU := Lib.hid (HU.out.trans hu); clear hr hu))
        | (go_at_call 19; ((with_reducible refine (HLe.out _ HU.out).mono ?_); rintro e w5 ⟨vv, rfl, hr, hu⟩; obtain ⟨Av, cv, rfl, -⟩ := RowI.form hr; have HV := Lib.hid hr; have HK := Lib.hid (rowI_up HK.out hu); have HP := Lib.hid (rowI_up HP.out hu); have HU := Lib.hid (HU.out.trans hu); clear hr hu))
        | (go_at_call 20; ((with_reducible refine (HFi.out _ HU.out).mono ?_); rintro e w6 ⟨rfl, hu⟩; have HK := Lib.hid (rowI_up HK.out hu); have HP := Lib.hid (rowI_up HP.out hu); have HV := Lib.hid (rowI_up HV.out hu); have HU := Lib.hid (HU.out.trans hu); clear hu))
        | (go_at_call 22; ((with_reducible refine (HRl.out _ HU.out).mono ?_); rintro e w7 ⟨vr, rfl, hr, hu⟩; have HK := Lib.hid (rowI_up HK.out hu); have HP := Lib.hid (rowI_up HP.out hu); have HV := Lib.hid (rowI_up HV.out hu); have HU := Lib.hid (HU.out.trans hu); have HR := Lib.hid hr; clear hr hu))
        | (go_at_call 21; ((with_reducible refine (HIn.out _ _ _ _ _ _ HV.out HR.out HVl.out).mono ?_); rintro e w8 ⟨rfl, hu⟩; have HK := Lib.hid (rowI_up HK.out hu); have HP := Lib.hid (rowI_up HP.out hu); have HV := Lib.hid (rowI_up HV.out hu); have HU := Lib.hid (HU.out.trans hu); clear hu))
        | (go_at_call 23; ((with_reducible refine (HPr.out _ HU.out).mono ?_); rintro e w9 ⟨rfl, hu⟩; have HK := Lib.hid (rowI_up HK.out hu); have HP := Lib.hid (rowI_up HP.out hu); have HV := Lib.hid (rowI_up HV.out hu); have HU := Lib.hid (HU.out.trans hu); clear hu))
        | (go_at_call 24; ((with_reducible refine (HRk.out _ HU.out).mono ?_); rintro e w7 ⟨vr, rfl, hr, hu⟩; have HK := Lib.hid (rowI_up HK.out hu); have HP := Lib.hid (rowI_up HP.out hu); have HV := Lib.hid (rowI_up HV.out hu); have HU := Lib.hid (HU.out.trans hu); have HR := Lib.hid hr; clear hr hu))
        | (go_at_call 21; ((with_reducible refine (HIn.out _ _ _ _ _ _ HK.out HR.out HKl.out).mono ?_); rintro e w8 ⟨rfl, hu⟩; have HK := Lib.hid (rowI_up HK.out hu); have HP := Lib.hid (rowI_up HP.out hu); have HV := Lib.hid (rowI_up HV.out hu); have HU := Lib.hid (HU.out.trans hu); clear hu))
        | (go_at_call 25; ((with_reducible refine (HRp.out _ HU.out).mono ?_); rintro e w7 ⟨vr, rfl, hr, hu⟩; have HK := Lib.hid (rowI_up HK.out hu); have HP := Lib.hid (rowI_up HP.out hu); have HV := Lib.hid (rowI_up HV.out hu); have HU := Lib.hid (HU.out.trans hu); have HR := Lib.hid hr; clear hr hu))
        | (go_at_call 21; ((with_reducible refine (HIn.out _ _ _ _ _ _ HP.out HR.out HPl.out).mono ?_); rintro e w8 ⟨rfl, hu⟩; have HK := Lib.hid (rowI_up HK.out hu); have HP := Lib.hid (rowI_up HP.out hu); have HV := Lib.hid (rowI_up HV.out hu); have HU := Lib.hid (HU.out.trans hu); clear hu))
        | (go_at_call 11; ((with_reducible refine (HW.out _ HU.out).mono ?_); rintro e wz ⟨rfl, hu⟩; have HU := Lib.hid (HU.out.trans hu); clear hu)))
        go_ret
        exact ⟨rfl, HU.out⟩
      · obtain ⟨j, rfl⟩ : ∃ j, k = j + 1 := ⟨k - 1, by omega⟩
        obtain ⟨x, -, hx, -⟩ := par_st hG hk
        rw [hx] at HPr HUp
        simp only [show (((j + 1 : Nat) : Int) = 0) = False from by simp; omega, if_false, show (((j + 1 : Nat) : Int) ≠ 0) = True from by simp; omega, if_true] at HUp
        obtain ⟨m, hm⟩ : ∃ m, j + 1 = m := ⟨_, rfl⟩
        rw [hm] at HWr HUp HKi HPa HPr HRk HRp HKl HPl
        have g0 : (0 : Int) ≤ (x : Nat) := by omega
        have g1 : decide (((x : Nat) : Int) < 0) = false := decide_eq_false (by omega)
        simp only [hm]
        clear hL hc hT h hF hl hfe hwr hn hr hfit hG hdep hk hx hm hk0
        go_enter Tryd.func4, Tryd.ntmps4
        go_wp2_with (first
        | (go_at_call 15; ((with_reducible refine (HWr.out _ HU.out).mono ?_); rintro e w1 ⟨rfl, hu⟩; have HU := Lib.hid (HU.out.trans hu); clear hu))
        | (go_at_call 16; ((with_reducible refine (HUp.out _ HU.out).mono ?_); rintro e w2 ⟨rfl, hu⟩; have HU := Lib.hid (HU.out.trans hu); clear hu))
        | (go_at_call 17; ((with_reducible refine (HKi.out _ HU.out).mono ?_); rintro e w3 ⟨vk, rfl, hr, hu⟩; obtain ⟨Ak, ck, rfl, -⟩ := RowI.form hr; have HK := Lib.hid hr; have HU := Lib.hid (HU.out.trans hu); clear hr hu))
        | (go_at_call 18; ((with_reducible refine (HPa.out _ HU.out).mono ?_); rintro e w4 ⟨vp, rfl, hr, hu⟩; obtain ⟨Ap, cp, rfl, -⟩ := RowI.form hr; have HP := Lib.hid hr; have HK := Lib.hid (rowI_up HK.out hu); have HU := Lib.hid (HU.out.trans hu); clear hr hu))
        | (go_at_call 19; ((with_reducible refine (HLe.out _ HU.out).mono ?_); rintro e w5 ⟨vv, rfl, hr, hu⟩; obtain ⟨Av, cv, rfl, -⟩ := RowI.form hr; have HV := Lib.hid hr; have HK := Lib.hid (rowI_up HK.out hu); have HP := Lib.hid (rowI_up HP.out hu); have HU := Lib.hid (HU.out.trans hu); clear hr hu))
        | (go_at_call 20; ((with_reducible refine (HFi.out _ HU.out).mono ?_); rintro e w6 ⟨rfl, hu⟩; have HK := Lib.hid (rowI_up HK.out hu); have HP := Lib.hid (rowI_up HP.out hu); have HV := Lib.hid (rowI_up HV.out hu); have HU := Lib.hid (HU.out.trans hu); clear hu))
        | (go_at_call 22; ((with_reducible refine (HRl.out _ HU.out).mono ?_); rintro e w7 ⟨vr, rfl, hr, hu⟩; have HK := Lib.hid (rowI_up HK.out hu); have HP := Lib.hid (rowI_up HP.out hu); have HV := Lib.hid (rowI_up HV.out hu); have HU := Lib.hid (HU.out.trans hu); have HR := Lib.hid hr; clear hr hu))
        | (go_at_call 21; ((with_reducible refine (HIn.out _ _ _ _ _ _ HV.out HR.out HVl.out).mono ?_); rintro e w8 ⟨rfl, hu⟩; have HK := Lib.hid (rowI_up HK.out hu); have HP := Lib.hid (rowI_up HP.out hu); have HV := Lib.hid (rowI_up HV.out hu); have HU := Lib.hid (HU.out.trans hu); clear hu))
        | (go_at_call 23; ((with_reducible refine (HPr.out _ HU.out).mono ?_); rintro e w9 ⟨rfl, hu⟩; have HK := Lib.hid (rowI_up HK.out hu); have HP := Lib.hid (rowI_up HP.out hu); have HV := Lib.hid (rowI_up HV.out hu); have HU := Lib.hid (HU.out.trans hu); clear hu))
        | (go_at_call 24; ((with_reducible refine (HRk.out _ HU.out).mono ?_); rintro e w7 ⟨vr, rfl, hr, hu⟩; have HK := Lib.hid (rowI_up HK.out hu); have HP := Lib.hid (rowI_up HP.out hu); have HV := Lib.hid (rowI_up HV.out hu); have HU := Lib.hid (HU.out.trans hu); have HR := Lib.hid hr; clear hr hu))
        | (go_at_call 21; ((with_reducible refine (HIn.out _ _ _ _ _ _ HK.out HR.out HKl.out).mono ?_); rintro e w8 ⟨rfl, hu⟩; have HK := Lib.hid (rowI_up HK.out hu); have HP := Lib.hid (rowI_up HP.out hu); have HV := Lib.hid (rowI_up HV.out hu); have HU := Lib.hid (HU.out.trans hu); clear hu))
        | (go_at_call 25; ((with_reducible refine (HRp.out _ HU.out).mono ?_); rintro e w7 ⟨vr, rfl, hr, hu⟩; have HK := Lib.hid (rowI_up HK.out hu); have HP := Lib.hid (rowI_up HP.out hu); have HV := Lib.hid (rowI_up HV.out hu); have HU := Lib.hid (HU.out.trans hu); have HR := Lib.hid hr; clear hr hu))
        | (go_at_call 21; ((with_reducible refine (HIn.out _ _ _ _ _ _ HP.out HR.out HPl.out).mono ?_); rintro e w8 ⟨rfl, hu⟩; have HK := Lib.hid (rowI_up HK.out hu); have HP := Lib.hid (rowI_up HP.out hu); have HV := Lib.hid (rowI_up HV.out hu); have HU := Lib.hid (HU.out.trans hu); clear hu))
        | (go_at_call 11; ((with_reducible refine (HW.out _ HU.out).mono ?_); rintro e wz ⟨rfl, hu⟩; have HU := Lib.hid (HU.out.trans hu); clear hu)))
        go_ret
        exact ⟨rfl, HU.out⟩
end Go.Proofs.YtidnldchdahgeaaDoor
