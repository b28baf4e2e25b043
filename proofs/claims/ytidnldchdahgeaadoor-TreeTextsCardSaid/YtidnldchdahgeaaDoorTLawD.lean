/- A tree's text, and the tree that a text tells: the statement TreeTexts, walked. -/
import Derived.Test.YtidnldchdahgeaaDoorTLawG
import Derived.Test.YtidnldchdahgeaaDoorTRefPrint
import Derived.Test.YtidnldchdahgeaaDoorTRefParse
import Derived.Test.YtidnldchdahgeaaDoorTSame
namespace Go.Proofs.YtidnldchdahgeaaDoor
open Go.RowKit

theorem parse_ok (s : ByteArray) : (∀ x ∈ parseL s, NdOk x) ∧ 8 * (parseL s).length ≤ s.size := by
  unfold parseL
  cases hp : parseT s.data.toList with
  | none => exact ⟨fun x h => (by cases h), by simp⟩
  | some M =>
    obtain ⟨p1, p2, -⟩ := pr_parse _ (Nat.le_refl _) hp
    dsimp only
    split
    · refine ⟨fun x hx => ndin_ok (p2 x hx), ?_⟩
      have := prL_ge M
      rw [p1] at this
      exact this
    · exact ⟨fun x h => (by cases h), by simp⟩
set_option maxRecDepth 100000 in
set_option maxHeartbeats 8000000 in
theorem ttexts_walk (w : World) (hT : Tab w) (A : Option Addr) (n c : Nat) (L : List Nd) (hL : NArg w A n L) (_ : n ≤ c) (hz : A = none → n = 0 ∧ c = 0) (s : ByteArray) :
    Calls Tryd.prog 6 #[.slice A n c, .string s] w fun e w' => e = .returned (.bool true) ∧ Up w w' := by
  have HW := Lib.hid (fun W (hu : Up w W) => wakes_any W (hT.up hu))
  by_cases h : (2000 : Int) < n
  · clear hL hz hT
    go_enter Tryd.func6, Tryd.ntmps6
    go_wp2_with (go_at_call 11; ((with_reducible refine (HW.out _ (Up.refl _)).mono ?_); rintro e w1 ⟨rfl, hu⟩; have HU := Lib.hid hu; clear hu))
    go_ret
    exact ⟨rfl, HU.out⟩
  have f0 : decide ((2000 : Int) < n) = false := decide_eq_false h
  by_cases h' : (65536 : Int) < s.size
  · clear hL hz hT h
    go_enter Tryd.func6, Tryd.ntmps6
    go_wp2_with (go_at_call 11; ((with_reducible refine (HW.out _ (Up.refl _)).mono ?_); rintro e w1 ⟨rfl, hu⟩; have HU := Lib.hid hu; clear hu))
    go_ret
    exact ⟨rfl, HU.out⟩
  have f1 : decide ((65536 : Int) < s.size) = false := decide_eq_false h'
  have hn : n ≤ 2000 := by omega
  have hs : s.size ≤ 65536 := by omega
  have HO := Lib.hid (ownArg_any w A n c L hL hz (by omega))
  have HP := Lib.hid (fun W (hu : Up w W) A' c' (h1 : NArg W A' n L) (h2 : n ≤ c') => print_any W (hT.up hu) A' n c' L h1 h2 (by omega))
  have HFi := Lib.hid (fun W (hu : Up w W) => (refFit_any W A n c L (hL.up hu) (by omega)).mono fun _ _ h => saysB_fit h)
  have hpo := parse_ok s
  obtain ⟨m, hm⟩ : ∃ m, (parseL s).length = m := ⟨_, rfl⟩
  obtain ⟨E, hE⟩ : ∃ E, parseE s = E := ⟨_, rfl⟩
  have HPa := Lib.hid (fun W => show Calls Tryd.prog 30 #[.string s] W fun e w' => ∃ A' c', e = .returned (.tuple #[.slice A' m c', .int .i64 E]) ∧ Nds w' A' m (parseL s) ∧ Up W w' from by
    refine ((callsIn_wide (n := 4)).1 (parse_in s hs W)).mono ?_
    rintro e w' ⟨v, rfl, hr, hu⟩
    obtain ⟨A', c', rfl, r1, -⟩ := own_arg hr hpo.1
    rw [hm] at r1 ⊢
    rw [hE]
    exact ⟨A', c', rfl, r1.nds, hu⟩)
  have HRp := Lib.hid (fun W => show Calls Tryd.prog 31 #[.string s] W fun e w' => ∃ A' c', e = .returned (.tuple #[.slice A' m c', .int .i64 E]) ∧ Nds w' A' m (parseL s) ∧ Up W w' from by
    refine (refParse_any s hs W).mono ?_
    rintro e w' ⟨v, rfl, hr, hu⟩
    obtain ⟨A', c', rfl, r1, -⟩ := own_arg hr hpo.1
    rw [hm] at r1 ⊢
    rw [hE]
    exact ⟨A', c', rfl, r1.nds, hu⟩)
  have HSm := Lib.hid (fun W A' A'' c' c'' (h1 : Nds W A' m (parseL s)) (h2 : Nds W A'' m (parseL s)) => refSame_any W A' A'' m c' c'' (parseL s) h1 h2 (by omega))
  have g5 : (E == E) = true := beq_self_eq_true _
  cases hF : fitB L with
  | false =>
    have e1 : prS L = ⟨#[]⟩ := by unfold prS; rw [hF, if_neg (by decide)]; rfl
    have e2 : fitE L = 60 := by unfold fitE; rw [hF, if_neg (by decide)]
    rw [e1, e2] at HP
    rw [hF] at HFi
    clear hL hz hT h h' hn hs hpo hm hE hF e1 e2
    go_enter Tryd.func6, Tryd.ntmps6
    go_wp2_with (first
      | (go_at_call 13; ((with_reducible refine HO.out.mono ?_); rintro e w1 ⟨A', c', rfl, h1, h2, hu⟩; have HU := Lib.hid hu; have H1 := Lib.hid h1; have H2 := Lib.hid h2; clear hu h1 h2))
      | (go_at_call 28; ((with_reducible refine (HP.out _ HU.out _ _ H1.out H2.out).mono ?_); rintro e w2 ⟨rfl, hu⟩; have HU := Lib.hid (HU.out.trans hu); clear hu))
      | (go_at_call 20; ((with_reducible refine (HFi.out _ HU.out).mono ?_); rintro e w3 ⟨rfl, hu⟩; have HU := Lib.hid (HU.out.trans hu); clear hu))
      | (go_at_call 30; ((with_reducible refine (HPa.out _).mono ?_); rintro e w5 ⟨A5, c5, rfl, h1, hu⟩; have HU := Lib.hid (HU.out.trans hu); have H5 := Lib.hid h1; clear hu h1))
      | (go_at_call 31; ((with_reducible refine (HRp.out _).mono ?_); rintro e w6 ⟨A6, c6, rfl, h1, hu⟩; have HU := Lib.hid (HU.out.trans hu); have H6 := Lib.hid h1; have H5 := Lib.hid (H5.out.up hu); clear hu h1))
      | (go_at_call 32; ((with_reducible refine (HSm.out _ _ _ _ _ H5.out H6.out).mono ?_); rintro e w7 ⟨rfl, hu⟩; have HU := Lib.hid (HU.out.trans hu); clear hu))
      | (go_at_call 11; ((with_reducible refine (HW.out _ HU.out).mono ?_); rintro e w8 ⟨rfl, hu⟩; have HU := Lib.hid (HU.out.trans hu); clear hu)))
    go_ret
    exact ⟨rfl, HU.out⟩
  | true =>
    have e2 : fitE L = 0 := by unfold fitE; rw [hF, if_pos rfl]
    have HRr := Lib.hid (fun W (hu : Up w W) => refPrint_any W A n c L (hL.up hu) (by omega) hF)
    obtain ⟨T, hTx⟩ : ∃ T, prS L = T := ⟨_, rfl⟩
    rw [hTx, e2] at HP
    rw [hTx] at HRr
    rw [hF] at HFi
    clear hL hz hT h h' hn hs hpo hm hE hF e2 hTx
    go_enter Tryd.func6, Tryd.ntmps6
    go_wp2_with (first
      | (go_at_call 13; ((with_reducible refine HO.out.mono ?_); rintro e w1 ⟨A', c', rfl, h1, h2, hu⟩; have HU := Lib.hid hu; have H1 := Lib.hid h1; have H2 := Lib.hid h2; clear hu h1 h2))
      | (go_at_call 28; ((with_reducible refine (HP.out _ HU.out _ _ H1.out H2.out).mono ?_); rintro e w2 ⟨rfl, hu⟩; have HU := Lib.hid (HU.out.trans hu); clear hu))
      | (go_at_call 20; ((with_reducible refine (HFi.out _ HU.out).mono ?_); rintro e w3 ⟨rfl, hu⟩; have HU := Lib.hid (HU.out.trans hu); clear hu))
      | (go_at_call 29; ((with_reducible refine (HRr.out _ HU.out).mono ?_); rintro e w4 ⟨rfl, hu⟩; have HU := Lib.hid (HU.out.trans hu); clear hu))
      | (go_at_call 30; ((with_reducible refine (HPa.out _).mono ?_); rintro e w5 ⟨A5, c5, rfl, h1, hu⟩; have HU := Lib.hid (HU.out.trans hu); have H5 := Lib.hid h1; clear hu h1))
      | (go_at_call 31; ((with_reducible refine (HRp.out _).mono ?_); rintro e w6 ⟨A6, c6, rfl, h1, hu⟩; have HU := Lib.hid (HU.out.trans hu); have H6 := Lib.hid h1; have H5 := Lib.hid (H5.out.up hu); clear hu h1))
      | (go_at_call 32; ((with_reducible refine (HSm.out _ _ _ _ _ H5.out H6.out).mono ?_); rintro e w7 ⟨rfl, hu⟩; have HU := Lib.hid (HU.out.trans hu); clear hu))
      | (go_at_call 11; ((with_reducible refine (HW.out _ HU.out).mono ?_); rintro e w8 ⟨rfl, hu⟩; have HU := Lib.hid (HU.out.trans hu); clear hu)))
    go_ret
    exact ⟨rfl, HU.out⟩
end Go.Proofs.YtidnldchdahgeaaDoor
