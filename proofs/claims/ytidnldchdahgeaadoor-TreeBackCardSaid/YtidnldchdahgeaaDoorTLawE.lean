/- A text tells the tree that it is told of: the statement TreeBack, walked. -/
import Derived.Test.YtidnldchdahgeaaDoorTLawG
import Derived.Test.YtidnldchdahgeaaDoorTParseP
import Derived.Test.YtidnldchdahgeaaDoorTSame
namespace Go.Proofs.YtidnldchdahgeaaDoor
open Go.RowKit

theorem dec_len : ∀ (k u : Nat), u < 10 ^ (k + 1) → (Go.Lib.decDigits u).length ≤ k + 1
  | 0, u, h => by
    rw [Go.Lib.decDigits_one (by omega)]
    exact Nat.le_refl _
  | k + 1, u, h => by
    by_cases hu : u < 10
    · rw [Go.Lib.decDigits_one hu]
      exact Nat.succ_le_succ (Nat.zero_le _)
    · rw [Go.Lib.decDigits, dif_neg hu, List.length_append, List.length_singleton]
      have h1 := dec_len k (u / 10) (by rw [Nat.pow_succ] at h; omega)
      omega
theorem fit_low {L : List Nd} (hF : Fit L) {i : Nat} (hi : i < L.length) : (nd L i).2.1 ≤ (nd L i).2.2.1 := by
  cases i with
  | zero =>
    have h1 := hF.root
    have h2 := hF.lo
    rw [h1] at h2 ⊢
    exact h2
  | succ j =>
    obtain ⟨-, -, -, o4, -⟩ := hF.good.2 j hi
    exact o4
theorem dig_seven {z : Int} (h : z ≤ 1048576) : (dig z).length ≤ 7 := dec_len 6 _ (by omega)
theorem prN_tight {x : Nd} (h1 : x.1 ≤ 255) (h2 : x.2.1 ≤ 1048576) (h3 : x.2.2.1 ≤ 1048576) (h4 : x.2.2.2 ≤ 1048576) : (prN x).length ≤ 32 := by
  have a := dig_seven (show x.1 ≤ 1048576 by omega)
  have b := dig_seven h2
  have c := dig_seven h3
  have d := dig_seven h4
  unfold prN
  simp only [List.length_append, List.length_cons, List.length_nil]
  omega
theorem prL_tight {L : List Nd} (h : ∀ x ∈ L, (prN x).length ≤ 32) : (prL L).length ≤ 32 * L.length := by
  induction L with
  | nil => exact Nat.le_refl _
  | cons x t ih =>
    have h1 := ih (fun y hy => h y (List.mem_cons_of_mem _ hy))
    have h2 := h x List.mem_cons_self
    show (prN x ++ prL t).length ≤ 32 * (t.length + 1)
    rw [List.length_append]
    omega
theorem prS_len {L : List Nd} (hF : Fit L) (hok : ∀ x ∈ L, NdOk x) (hl : L.length ≤ 2000) : (prS L).size ≤ 65536 := by
  have h := prL_tight (L := L) (fun x hx => by
    obtain ⟨i, hi, rfl⟩ := mem_nd hx
    obtain ⟨⟨⟨-, a1⟩, -, -, -⟩, b1, b2, b3⟩ := fit_in hF hok (by omega) (i + 1) i (Nat.lt_succ_self i) hi
    have key := fit_low hF hi
    have hdd : (nd L i).2.2.2 = dep L i := rfl
    exact prN_tight a1 (by omega) b2 (by omega))
  unfold prS
  rw [if_pos (fitB_yes hF)]
  show (prL L).toArray.size ≤ _
  rw [List.size_toArray]
  omega
theorem back_pr {L : List Nd} (hF : Fit L) (hok : ∀ x ∈ L, NdOk x) (hl : L.length ≤ 10000) : parseE (prS L) = 0 ∧ parseL (prS L) = L := by
  have h := parse_pr (fit_all hF hok hl)
  have hB := fitB_yes hF
  have hs : (prS L).data.toList = prL L := by unfold prS; rw [if_pos hB]
  unfold parseE parseL
  rw [hs, h]
  dsimp only
  exact ⟨by unfold fitE; rw [if_pos hB], if_pos hB⟩
theorem back_text {s : ByteArray} (h : parseE s = 0) : fitE (parseL s) = 0 ∧ prS (parseL s) = s ∧ 8 * (parseL s).length ≤ s.size ∧ ∀ x ∈ parseL s, NdOk x := by
  cases hp : parseT s.data.toList with
  | none => unfold parseE at h; rw [hp] at h; cases h
  | some M =>
    have h1 : fitE M = 0 := by unfold parseE at h; rw [hp] at h; exact h
    have hB : fitB M = true := by
      cases hb : fitB M with
      | true => rfl
      | false => unfold fitE at h1; rw [hb] at h1; cases h1
    have h2 : parseL s = M := by unfold parseL; rw [hp]; dsimp only; rw [if_pos hB]
    obtain ⟨p1, p2, -⟩ := pr_parse _ (Nat.le_refl _) hp
    rw [h2]
    refine ⟨h1, ?_, ?_, fun x hx => ndin_ok (p2 x hx)⟩
    · unfold prS
      rw [if_pos hB, p1]
    · have := prL_ge M
      rw [p1] at this
      exact this
set_option maxRecDepth 100000 in
set_option maxHeartbeats 8000000 in
theorem tback_walk (w : World) (hT : Tab w) (A : Option Addr) (n c : Nat) (L : List Nd) (hL : NArg w A n L) (_ : n ≤ c) (hz : A = none → n = 0 ∧ c = 0) (s : ByteArray) :
    Calls Tryd.prog 8 #[.slice A n c, .string s] w fun e w' => e = .returned (.bool true) ∧ Up w w' := by
  have HW := Lib.hid (fun W (hu : Up w W) => wakes_any W (hT.up hu))
  by_cases h : (2000 : Int) < n
  · clear hL hz hT
    go_enter Tryd.func8, Tryd.ntmps8
    go_wp2_with (go_at_call 11; ((with_reducible refine (HW.out _ (Up.refl _)).mono ?_); rintro e w1 ⟨rfl, hu⟩; have HU := Lib.hid hu; clear hu))
    go_ret
    exact ⟨rfl, HU.out⟩
  have f0 : decide ((2000 : Int) < n) = false := decide_eq_false h
  by_cases h' : (65536 : Int) < s.size
  · clear hL hz hT h
    go_enter Tryd.func8, Tryd.ntmps8
    go_wp2_with (go_at_call 11; ((with_reducible refine (HW.out _ (Up.refl _)).mono ?_); rintro e w1 ⟨rfl, hu⟩; have HU := Lib.hid hu; clear hu))
    go_ret
    exact ⟨rfl, HU.out⟩
  have f1 : decide ((65536 : Int) < s.size) = false := decide_eq_false h'
  have hn : n ≤ 2000 := by omega
  have hs : s.size ≤ 65536 := by omega
  have hl := hL.nds.len
  have hok := hL.ok
  have HO := Lib.hid (ownArg_any w A n c L hL hz (by omega))
  have HP := Lib.hid (fun W (hu : Up w W) A' c' (h1 : NArg W A' n L) (h2 : n ≤ c') => print_any W (hT.up hu) A' n c' L h1 h2 (by omega))
  have HN := Lib.hid (fun W (hu : Up w W) => hL.nds.up hu)
  have HSm := Lib.hid (fun W A' c' (h1 : Nds W A' n L) (h2 : Nds W A n L) => refSame_any W A' A n c' c L h1 h2 (by omega))
  have HPa := Lib.hid (fun (t : ByteArray) (ht : t.size ≤ 65536) W => (callsIn_wide (n := 4)).1 (parse_in t ht W))
  have HBk := Lib.hid (show fitB L = true → (prS L).size ≤ 65536 ∧ parseE (prS L) = 0 ∧ parseL (prS L) = L from fun hb =>
    ⟨prS_len (fit_of hb) hok (by omega), back_pr (fit_of hb) hok (by omega)⟩)
  have HX := Lib.hid (show (fitB L = true → ∀ W, Calls Tryd.prog 30 #[.string (prS L)] W fun e w' => ∃ A' c', e = .returned (.tuple #[.slice A' n c', .int .i64 0]) ∧ Nds w' A' n L ∧ Up W w') from fun hb W => by
    obtain ⟨b1, b2, b3⟩ := HBk.out hb
    refine (HPa.out _ b1 W).mono ?_
    rintro e w' ⟨v, rfl, hr, hu⟩
    rw [b3] at hr
    obtain ⟨A', c', rfl, r1, -⟩ := own_arg hr hok
    rw [hl] at r1
    exact ⟨A', c', by rw [b2, hl], r1.nds, hu⟩)
  have HY := Lib.hid (show (parseE s = 0 → ∃ m, m ≤ 10000 ∧ (∀ W, Calls Tryd.prog 30 #[.string s] W fun e w' => ∃ A' c', e = .returned (.tuple #[.slice A' m c', .int .i64 0]) ∧ NArg w' A' m (parseL s) ∧ m ≤ c' ∧ Up W w') ∧ ∀ W A' c', Up w W → NArg W A' m (parseL s) → m ≤ c' → Calls Tryd.prog 28 #[.slice A' m c'] W fun e w' => e = .returned (.tuple #[.string s, .int .i64 0]) ∧ Up W w') from fun hb => by
    obtain ⟨b1, b2, b3, b4⟩ := back_text hb
    have hm : (parseL s).length ≤ 10000 := by omega
    refine ⟨(parseL s).length, hm, fun W => ?_, fun W A' c' hu h1 h2 => ?_⟩
    · refine (HPa.out _ hs W).mono ?_
      rintro e w' ⟨v, rfl, hr, hu⟩
      obtain ⟨A', c', rfl, r1, r2⟩ := own_arg hr b4
      exact ⟨A', c', by rw [hb], r1, r2, hu⟩
    · refine (print_any W (hT.up hu) A' _ c' _ h1 h2 hm).mono ?_
      rintro e w' ⟨rfl, h3⟩
      exact ⟨by rw [b1, b2], h3⟩)
  have HZ := Lib.hid (fun W => HPa.out s hs W)
  clear hL hz hT h h' hn hs hok HBk
  by_cases hb : fitB L = true
  case' pos => have HX := Lib.hid (HX.out hb); have hpe : fitE L = 0 := (by unfold fitE; rw [if_pos hb])
  case' neg => clear HX; obtain ⟨y, hpe⟩ : ∃ y, fitE L = y := ⟨_, rfl⟩; have g1 : (y == 0) = false := (by rw [← hpe]; unfold fitE; rw [if_neg hb]; rfl)
  all_goals rw [hpe] at HP; obtain ⟨T, hT⟩ : ∃ T, prS L = T := ⟨_, rfl⟩; simp only [hT] at *; clear hb hpe hT hl
  all_goals by_cases hy : parseE s = 0
  · obtain ⟨m, hm, hyp, hyq⟩ := HY.out hy
    have HYp := Lib.hid hyp
    have HYq := Lib.hid hyq
    clear HY HZ hyp hyq hy hm
    go_enter Tryd.func8, Tryd.ntmps8
    go_wp2_with (first
      | (go_at_call 13; ((with_reducible refine HO.out.mono ?_); rintro e w1 ⟨A', c', rfl, h1, h2, hu⟩; have HU := Lib.hid hu; have H1 := Lib.hid h1; have H2 := Lib.hid h2; clear hu h1 h2))
      | (go_at_call 28; ((with_reducible refine (HP.out _ HU.out _ _ H1.out H2.out).mono ?_); rintro e w2 ⟨rfl, hu⟩; have HU := Lib.hid (HU.out.trans hu); clear hu H1 H2))
      | (go_at_call 30; ((with_reducible refine (HX.out _).mono ?_); rintro e w3 ⟨A', c', rfl, h1, hu⟩; have HU := Lib.hid (HU.out.trans hu); have H3 := Lib.hid h1; clear hu h1 HX))
      | (go_at_call 32; ((with_reducible refine (HSm.out _ _ _ H3.out (HN.out _ HU.out)).mono ?_); rintro e w4 ⟨rfl, hu⟩; have HU := Lib.hid (HU.out.trans hu); clear hu))
      | (go_at_call 30; ((with_reducible refine (HYp.out _).mono ?_); rintro e w5 ⟨A', c', rfl, h1, h2, hu⟩; have HU := Lib.hid (HU.out.trans hu); have H4 := Lib.hid h1; have H5 := Lib.hid h2; clear hu h1 h2))
      | (go_at_call 28; ((with_reducible refine (HYq.out _ _ _ HU.out H4.out H5.out).mono ?_); rintro e w6 ⟨rfl, hu⟩; have HU := Lib.hid (HU.out.trans hu); clear hu))
      | (go_at_call 11; ((with_reducible refine (HW.out _ HU.out).mono ?_); rintro e w7 ⟨rfl, hu⟩; have HU := Lib.hid (HU.out.trans hu); clear hu)))
    go_ret
    exact ⟨rfl, HU.out⟩
  · obtain ⟨x, hx⟩ : ∃ x, parseE s = x := ⟨_, rfl⟩
    rw [hx] at HZ hy
    have g0 : (x == 0) = false := beq_false_of_ne hy
    clear HY hy hx
    go_enter Tryd.func8, Tryd.ntmps8
    go_wp2_with (first
      | (go_at_call 13; ((with_reducible refine HO.out.mono ?_); rintro e w1 ⟨A', c', rfl, h1, h2, hu⟩; have HU := Lib.hid hu; have H1 := Lib.hid h1; have H2 := Lib.hid h2; clear hu h1 h2))
      | (go_at_call 28; ((with_reducible refine (HP.out _ HU.out _ _ H1.out H2.out).mono ?_); rintro e w2 ⟨rfl, hu⟩; have HU := Lib.hid (HU.out.trans hu); clear hu H1 H2))
      | (go_at_call 30; ((with_reducible refine (HX.out _).mono ?_); rintro e w3 ⟨A', c', rfl, h1, hu⟩; have HU := Lib.hid (HU.out.trans hu); have H3 := Lib.hid h1; clear hu h1 HX))
      | (go_at_call 32; ((with_reducible refine (HSm.out _ _ _ H3.out (HN.out _ HU.out)).mono ?_); rintro e w4 ⟨rfl, hu⟩; have HU := Lib.hid (HU.out.trans hu); clear hu))
      | (go_at_call 30; ((with_reducible refine (HZ.out _).mono ?_); rintro e w5 ⟨v5, rfl, -, hu⟩; have HU := Lib.hid (HU.out.trans hu); clear hu))
      | (go_at_call 11; ((with_reducible refine (HW.out _ HU.out).mono ?_); rintro e w7 ⟨rfl, hu⟩; have HU := Lib.hid (HU.out.trans hu); clear hu)))
    go_ret
    exact ⟨rfl, HU.out⟩
  · obtain ⟨m, hm, hyp, hyq⟩ := HY.out hy
    have HYp := Lib.hid hyp
    have HYq := Lib.hid hyq
    clear HY HZ hyp hyq hy hm
    go_enter Tryd.func8, Tryd.ntmps8
    go_wp2_with (first
      | (go_at_call 13; ((with_reducible refine HO.out.mono ?_); rintro e w1 ⟨A', c', rfl, h1, h2, hu⟩; have HU := Lib.hid hu; have H1 := Lib.hid h1; have H2 := Lib.hid h2; clear hu h1 h2))
      | (go_at_call 28; ((with_reducible refine (HP.out _ HU.out _ _ H1.out H2.out).mono ?_); rintro e w2 ⟨rfl, hu⟩; have HU := Lib.hid (HU.out.trans hu); clear hu H1 H2))
      | (go_at_call 30; ((with_reducible refine (HX.out _).mono ?_); rintro e w3 ⟨A', c', rfl, h1, hu⟩; have HU := Lib.hid (HU.out.trans hu); have H3 := Lib.hid h1; clear hu h1 HX))
      | (go_at_call 32; ((with_reducible refine (HSm.out _ _ _ H3.out (HN.out _ HU.out)).mono ?_); rintro e w4 ⟨rfl, hu⟩; have HU := Lib.hid (HU.out.trans hu); clear hu))
      | (go_at_call 30; ((with_reducible refine (HYp.out _).mono ?_); rintro e w5 ⟨A', c', rfl, h1, h2, hu⟩; have HU := Lib.hid (HU.out.trans hu); have H4 := Lib.hid h1; have H5 := Lib.hid h2; clear hu h1 h2))
      | (go_at_call 28; ((with_reducible refine (HYq.out _ _ _ HU.out H4.out H5.out).mono ?_); rintro e w6 ⟨rfl, hu⟩; have HU := Lib.hid (HU.out.trans hu); clear hu))
      | (go_at_call 11; ((with_reducible refine (HW.out _ HU.out).mono ?_); rintro e w7 ⟨rfl, hu⟩; have HU := Lib.hid (HU.out.trans hu); clear hu)))
    go_ret
    exact ⟨rfl, HU.out⟩
  · obtain ⟨x, hx⟩ : ∃ x, parseE s = x := ⟨_, rfl⟩
    rw [hx] at HZ hy
    have g0 : (x == 0) = false := beq_false_of_ne hy
    clear HY hy hx
    go_enter Tryd.func8, Tryd.ntmps8
    go_wp2_with (first
      | (go_at_call 13; ((with_reducible refine HO.out.mono ?_); rintro e w1 ⟨A', c', rfl, h1, h2, hu⟩; have HU := Lib.hid hu; have H1 := Lib.hid h1; have H2 := Lib.hid h2; clear hu h1 h2))
      | (go_at_call 28; ((with_reducible refine (HP.out _ HU.out _ _ H1.out H2.out).mono ?_); rintro e w2 ⟨rfl, hu⟩; have HU := Lib.hid (HU.out.trans hu); clear hu H1 H2))
      | (go_at_call 30; ((with_reducible refine (HX.out _).mono ?_); rintro e w3 ⟨A', c', rfl, h1, hu⟩; have HU := Lib.hid (HU.out.trans hu); have H3 := Lib.hid h1; clear hu h1 HX))
      | (go_at_call 32; ((with_reducible refine (HSm.out _ _ _ H3.out (HN.out _ HU.out)).mono ?_); rintro e w4 ⟨rfl, hu⟩; have HU := Lib.hid (HU.out.trans hu); clear hu))
      | (go_at_call 30; ((with_reducible refine (HZ.out _).mono ?_); rintro e w5 ⟨v5, rfl, -, hu⟩; have HU := Lib.hid (HU.out.trans hu); clear hu))
      | (go_at_call 11; ((with_reducible refine (HW.out _ HU.out).mono ?_); rintro e w7 ⟨rfl, hu⟩; have HU := Lib.hid (HU.out.trans hu); clear hu)))
    go_ret
    exact ⟨rfl, HU.out⟩
end Go.Proofs.YtidnldchdahgeaaDoor
