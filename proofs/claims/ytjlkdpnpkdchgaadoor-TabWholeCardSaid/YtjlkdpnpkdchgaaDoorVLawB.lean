/- TabWhole: within its bounds, walked for any program that answers as the chapter asks. -/
import Derived.Test.YtjlkdpnpkdchgaaDoorVLaw
import Derived.Test.YtjlkdpnpkdchgaaDoorVMath2
import Derived.Deep.DeepCutAuto
import Derived.Deep.CutBlock
namespace Go.Proofs.YtjlkdpnpkdchgaaDoor
open Go.RowKit

section
variable (hC : TabC)
include hC
set_option maxRecDepth 100000 in
set_option maxHeartbeats 4000000 in
theorem whole_main (w : World) (s : ByteArray) (a : Nat) (col want size : Int) (E M : Nat) (La C : Int) (hn : (s.size : Int) ≤ 65536) (ha : a ≤ s.size) (hc0 : 0 ≤ col) (hc1 : col ≤ 1099511627776) (h1 : 1 ≤ size) (h2 : size ≤ 64) (hw : 0 ≤ want) (hw1 : want ≤ 1073741824)
    (hE : tkF s a col farC size = (E, La)) (hM : tkF s a col (col + want) size = (M, C)) : Calls Tryd.prog 6 #[.string s, .int .i64 (a : Nat), .int .i64 col, .int .i64 want, .int .i64 size] w fun e w' => e = .returned (.bool true) ∧ Up w w' := by
  have HW := Lib.hid (fun W => vwakes_any hC W)
  have F := whole_facts hn ha hc0 hc1 h1 h2 hw hw1 hE hM
  obtain ⟨m0, m1, e1, c0, c1, l0, l1, all, on, at_, tab, fin, more⟩ := F
  have i0 : inE s (a : Nat) col size = ((E : Int), La) := by unfold inE; rw [if_pos ⟨by omega, by omega, hc0, hc1, h1, h2⟩, Int.toNat_natCast, hE]
  have i1 : tkE s (a : Nat) col want size = ((M : Int), C) := by unfold tkE; rw [if_pos ⟨by omega, by omega, hc0, hc1, h1, h2⟩, Int.toNat_natCast, show wantC want = want from by unfold wantC; rw [if_neg (by omega), if_neg (by omega)], hM]
  have i2 : tkE s (a : Nat) col 1099511627776 size = ((E : Int), La) := by unfold tkE; rw [if_pos ⟨by omega, by omega, hc0, hc1, h1, h2⟩, Int.toNat_natCast, show wantC 1099511627776 = 1099511627776 from rfl, all]
  have i3 : C ≤ 1099511627776 → inE s (M : Nat) C size = ((E : Int), La) := fun hC1 => by unfold inE; rw [if_pos ⟨by omega, by omega, by omega, hC1, h1, h2⟩, Int.toNat_natCast, on]
  have i4 : ∀ q : Int, 0 ≤ q → q ≤ 1099511627776 → M < E → (M : Int) < (tkE s (M : Nat) q 1048576 size).1 ∧ q < (tkE s (M : Nat) q 1048576 size).2 := fun q q0 q1 hlt => by
    have := more q q0 hlt
    unfold tkE
    rw [if_pos ⟨by omega, by omega, q0, q1, h1, h2⟩, Int.toNat_natCast, show wantC 1048576 = 1048576 from rfl]
    exact ⟨by have := this.1; dsimp only; omega, this.2⟩
  have k1 := hC.ind w
  have H0 := Lib.hid (fun W => hC.ind W s (a : Nat) col size hn (by unfold I64v; omega) (by unfold I64v; omega) (by unfold I64v; omega))
  have H1 := Lib.hid (fun W => hC.take W s (a : Nat) col want size hn (by unfold I64v; omega) (by unfold I64v; omega) (by unfold I64v; omega) (by unfold I64v; omega))
  have H2 := Lib.hid (fun W => hC.take W s (a : Nat) col 1099511627776 size hn (by unfold I64v; omega) (by unfold I64v; omega) (by unfold I64v; omega) (by unfold I64v; omega))
  have H3 := Lib.hid (fun W => hC.ind W s (M : Nat) C size hn (by unfold I64v; omega) (by unfold I64v; omega) (by unfold I64v; omega))
  have H4 := Lib.hid (fun W (q : Int) (q0 : 0 ≤ q ∧ q ≤ 1099511627776) (hlt : M < E) => (hC.take W s (M : Nat) q 1048576 size hn (by unfold I64v; omega) (by unfold I64v; omega) (by unfold I64v; omega) (by unfold I64v; omega)).mono (R' := fun e w' => ∃ N k : Int, e = .returned (.tuple #[.int .i64 N, .int .i64 k]) ∧ decide (N ≤ (M : Int)) = false ∧ decide (k ≤ q) = false ∧ Up W w') fun e w' hh => ⟨_, _, hh.1, decide_eq_false (Int.not_le.2 (i4 q q0.1 q0.2 hlt).1), decide_eq_false (Int.not_le.2 (i4 q q0.1 q0.2 hlt).2), hh.2⟩)
  rw [i0] at H0
  rw [i1] at H1
  rw [i2] at H2
  obtain ⟨Z, hZ⟩ : ∃ Z : Int, (s.size : Int) = Z := ⟨_, rfl⟩
  have HF := Lib.hid (And.intro i3 (And.intro i4 (And.intro at_ (And.intro tab fin))))
  have HN := Lib.hid (show a ≤ M ∧ M ≤ E ∧ E ≤ s.size ∧ col ≤ C ∧ C ≤ col + want ∧ C ≤ La ∧ La ≤ 1099515822080 ∧ 0 ≤ col ∧ 1 ≤ size ∧ size ≤ 64 ∧ (s.size : Int) ≤ 65536 from ⟨m0, m1, e1, c0, c1, l0, by omega, hc0, h1, h2, hn⟩)
  have g0 : decide (65536 < Z) = false := decide_eq_false (by omega)
  have g1 : decide ((a : Int) < 0) = false := decide_eq_false (by omega)
  have g2 : decide (Z < (a : Int)) = false := decide_eq_false (by omega)
  have g3 : decide (col < 0) = false := decide_eq_false (by omega)
  have g4 : decide (1099511627776 < col) = false := decide_eq_false (by omega)
  have g5 : decide (size < 1) = false := decide_eq_false (by omega)
  have g6 : decide (64 < size) = false := decide_eq_false (by omega)
  have g7 : decide (want < 0) = false := decide_eq_false (by omega)
  have g8 : decide (1073741824 < want) = false := decide_eq_false (by omega)
  have t0 : decide (M < a) = false := decide_eq_false (by omega)
  have t1 : decide (E < M) = false := decide_eq_false (by omega)
  have t2 : decide (C < col) = false := decide_eq_false (by omega)
  have t3 : decide (col + want < C) = false := decide_eq_false (by omega)
  have t4 : decide (La < C) = false := decide_eq_false (by omega)
  have HW1 := Lib.hid (IntWalk.i64_in _ (by omega) : IntKind.i64.wrap (col + want) = col + want)
  obtain ⟨X, hX⟩ : ∃ X, decide (C ≤ 1099511627776) = X := ⟨_, rfl⟩
  have HXx := Lib.hid hX
  have hU := Up.refl w
  clear hC hn ha hc0 hc1 h1 h2 hw hw1 hE hM m0 m1 e1 c0 c1 l0 l1 all on at_ tab fin more i0 i1 i2 i3 i4 k1
  have w1 := HW1.out
  go_enter Tryd.func6, Tryd.ntmps6
  go_upto_if 120 with (first
    | (go_at_call 8; ((with_reducible refine (H0.out _).mono ?_); rintro e w2 ⟨rfl, hu⟩; have hU := hU.trans hu; clear hu))
    | (go_at_call 10; ((with_reducible refine (H1.out _).mono ?_); rintro e w3 ⟨rfl, hu⟩; have hU := hU.trans hu; clear hu))
    | (go_at_call 10; ((with_reducible refine (H2.out _).mono ?_); rintro e w4 ⟨rfl, hu⟩; have hU := hU.trans hu; clear hu)))
  go_cut [] (fun wx => Hid (Up w wx))
  case first => as_aux_lemma =>
    clear w1
    cases X with
    | true =>
      have hi := HF.out.1 (of_decide_eq_true HXx.out)
      rw [hi] at H3
      clear hi hX
      go_wp2_with (go_at_call 8; ((with_reducible refine (H3.out _).mono ?_); rintro e w5 ⟨rfl, hu⟩; have hU := hU.trans hu; clear hu))
      go_meet
      case rel => exact Lib.hid hU
    | false =>
      clear hX
      go_wp2
      go_meet
      case rel => exact Lib.hid hU
  case rest =>
    have hU := hcut.out
    obtain ⟨Y, hY⟩ : ∃ Y, decide (M < E) = Y := ⟨_, rfl⟩
    have HYy := Lib.hid hY
    clear w1 hcut H0 H1 H2 H3 hX g0 g1 g2 g3 g4 g5 g6 g7 g8 t0 t1 t2 t3 t4
    go_upto_if 139 with fail
    go_cut [] (fun wx => Hid (Up w wx))
    case first => as_aux_lemma =>
      cases Y with
      | false =>
        clear hY
        go_wp2
        go_meet
        case rel => exact Lib.hid hU
      | true =>
        have hlt : M < E := of_decide_eq_true HYy.out
        have hn := HN.out
        have hMs : M < s.size := by omega
        obtain ⟨x, hx⟩ : ∃ x, s[M].toNat = x := ⟨_, rfl⟩
        have hbx : bt s M = x := by rw [← bt_eq hMs]; exact hx
        have hat := HF.out.2.2.1 hlt
        rw [hbx] at hat
        have p0 : (0 : Int) ≤ M := by omega
        have p1 : (M : Int) < Z := by omega
        have p2 : (M : Int) < s.size := by omega
        have HMs := Lib.hid hMs
        have HLt := Lib.hid hlt
        have hC3 : C ≤ 1099511627776 ∨ 1099511627776 < C := by omega
        have hx32 : (x = 32 ∧ decide (C < col + want) = false) ∨ ((x : Int) == 32) = false := by
          rcases hat.1 with h | h
          · exact .inl ⟨h, decide_eq_false (by have := hat.2 h; omega)⟩
          · exact .inr (beq_false_of_ne (by omega))
        have HCq := Lib.hid (fun h : C ≤ 1099511627776 => (show 0 ≤ C ∧ C ≤ 1099511627776 by omega))
        have HK0 := Lib.hid (show (0 : Int) ≤ 1099511627776 ∧ (1099511627776 : Int) ≤ 1099511627776 by decide)
        clear hY hbx hat hn hlt
        have w1 := HW1.out
        rcases hC3 with k1 | k1
        all_goals
          rcases hx32 with ⟨rfl, hcw⟩ | hx32
          all_goals
            go_wp2_with (go_at_call 10; ((with_reducible refine (H4.out _ _ (by first | exact HK0.out | exact HCq.out (by assumption)) HLt.out).mono ?_); rintro e w6 ⟨N, k, rfl, hN, hk, hu⟩; have hU := hU.trans hu; clear hu))
            go_meet
            case rel => exact Lib.hid hU
    case rest =>
      have hU := hcut.out
      clear hcut H4 hY
      go_upto_region 16 with fail
      go_cut [186] (fun c wx => c = .bool false ∧ Hid (Up w wx))
      case first => as_aux_lemma =>
        have hn := HN.out
        obtain ⟨V, hV⟩ : ∃ V, decide (a < M) = V := ⟨_, rfl⟩
        have HVv := Lib.hid hV
        cases V with
        | false =>
          clear hn
          go_wp2
          go_meet
          case rel => exact ⟨rfl, Lib.hid hU⟩
        | true =>
          have hlt : a < M := of_decide_eq_true HVv.out
          obtain ⟨m, hm⟩ : ∃ m, M = m + 1 := ⟨M - 1, by omega⟩
          have hms : m < s.size := by omega
          obtain ⟨y, hy⟩ : ∃ y, s[m].toNat = y := ⟨_, rfl⟩
          have hby : bt s m = y := by rw [← bt_eq hms]; exact hy
          have ht := HF.out.2.2.2.1 hlt
          rw [show M - 1 = m from by omega, hby] at ht
          have p0 : (0 : Int) ≤ m := by omega
          have p1 : (m : Int) < Z := by omega
          have p2 : (m : Int) < s.size := by omega
          have P3 := Lib.hid ((IntWalk.i64_in _ (by omega)).trans (by omega) : IntKind.i64.wrap ((M : Int) - 1) = (m : Int))
          have hz : ¬ size = 0 := by omega
          have r1 : Int.tmod C size = C % size := Int.tmod_eq_emod_of_nonneg (by omega)
          have hC0 : 0 ≤ C := by omega
          by_cases h9 : y = 9
          · have hr := ht h9
            subst h9
            have r2 : IntKind.i64.wrap (C % size) = 0 := by rw [hr]; rfl
            clear hby ht hn hlt hm
            have p3 := P3.out
            go_wp2
            go_meet
            case rel => exact ⟨by first | rfl | simp [hr], Lib.hid hU⟩
          · have f9 : ((y : Int) == 9) = false := beq_false_of_ne (by omega)
            clear hby ht hn hlt hm
            have p3 := P3.out
            go_wp2
            go_meet
            case rel => exact ⟨rfl, Lib.hid hU⟩
      case rest =>
        obtain ⟨hc186, hcu⟩ := hcut
        subst hc186
        have hU := hcu.out
        have hn := HN.out
        clear hcu
        by_cases hE : (E : Int) = Z
        · have hEb : ((E : Int) == Z) = true := by rw [hE]; exact beq_self_eq_true _
          clear hn
          go_wp2_with (go_at_call 7; ((with_reducible refine (HW.out _).mono ?_); rintro e w9 ⟨rfl, hu⟩; have hU := hU.trans hu; clear hu))
          go_ret
          exact ⟨rfl, hU⟩
        · have hEb : ((E : Int) == Z) = false := beq_false_of_ne hE
          have hlt : E < s.size := by omega
          obtain ⟨x, hx⟩ : ∃ x, s[E].toNat = x := ⟨_, rfl⟩
          have hbx : bt s E = x := by rw [← bt_eq hlt]; exact hx
          have hfin := HF.out.2.2.2.2 hlt
          rw [hbx] at hfin
          have p0 : (0 : Int) ≤ E := by omega
          have p1 : (E : Int) < Z := by omega
          have p2 : (E : Int) < s.size := by omega
          have f32 : ((x : Int) == 32) = false := beq_false_of_ne (by omega)
          have f9 : ((x : Int) == 9) = false := beq_false_of_ne (by omega)
          have f32b : ((x : Int) != 32) = true := by rw [bne, f32]; rfl
          have f9b : ((x : Int) != 9) = true := by rw [bne, f9]; rfl
          clear hbx hfin hn hE
          go_wp2_with (go_at_call 7; ((with_reducible refine (HW.out _).mono ?_); rintro e w9 ⟨rfl, hu⟩; have hU := hU.trans hu; clear hu))
          go_ret
          exact ⟨rfl, hU⟩
end
end Go.Proofs.YtjlkdpnpkdchgaaDoor
