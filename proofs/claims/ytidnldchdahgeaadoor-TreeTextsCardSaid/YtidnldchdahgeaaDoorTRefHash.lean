/- A node's sum: the document's Hash. -/
import Derived.Test.YtidnldchdahgeaaDoorTAddN
namespace Go.Proofs.YtidnldchdahgeaaDoor
open Go.RowKit

set_option maxRecDepth 100000 in
set_option maxHeartbeats 8000000 in
theorem refHash_any (w : World) (A : Option Addr) (n c : Nat) (L : List Nd) (hL : Nds w A n L) (hn : n ≤ 10000) (i : Nat) (hi : i < n)
    (hnum : ∀ k, k < n → IntKind.i64.wrap (dep L k - dep L i) = dep L k - dep L i ∧ IntKind.i64.wrap ((nd L k).2.1 - (nd L i).2.1) = (nd L k).2.1 - (nd L i).2.1 ∧ IntKind.i64.wrap ((nd L k).2.2.1 - (nd L i).2.1) = (nd L k).2.2.1 - (nd L i).2.1) :
    Calls Tryd.prog 34 #[.slice A n c, .int .i64 (i : Nat)] w fun e w' => e = .returned (.int .u64 (eatL 14695981039346656037 (sumNs L n i))) ∧ Up w w' := by
  have HL := Lib.hid hL
  have HNum := Lib.hid hnum
  have HE := Lib.hid (fun h x W (hx : x < 18446744073709551616) => show Calls Tryd.prog 49 #[.int .u64 h, .int .u64 (x : Nat)] W fun e w' => e = .returned (.int .u64 (eatS 8 h x)) ∧ w' = W from (eat_any h x hx W).mono fun _ _ h => ⟨h.1, h.2.symm⟩)
  obtain ⟨V, hV⟩ : ∃ V, eatL 14695981039346656037 (sumNs L n i) = V := ⟨_, rfl⟩
  have HV := Lib.hid (show eatL (eatL 14695981039346656037 (nums L i i)) (numsL L i (subR L i (n - (i + 1)) (i + 1))) = V by rw [← hV, ← eatL_app]; rfl)
  rw [hV]
  obtain ⟨a0, o0, rfl, -⟩ := nds_nd hL i hi
  clear hL hnum hV
  go_enter Tryd.func34, Tryd.ntmps34
  go_wp2
  go_loopg [5, 6] (n - i) (fun g hv kv wr => ∃ (k : Nat) (h : Int), g = n - k ∧ kv = .int .i64 (k : Nat) ∧ hv = .int .u64 h ∧ i ≤ k ∧ k ≤ n ∧ Hid ((k = i ∧ h = 14695981039346656037) ∨ (i < k ∧ eatL h (numsL L i (subR L i (n - k) k)) = V)) ∧ Hid (Up w wr))
  case atStart => exact ⟨i, _, rfl, rfl, rfl, Nat.le_refl _, by omega, Lib.hid (.inl ⟨rfl, rfl⟩), Lib.hid (Up.refl w)⟩
  case round =>
    obtain ⟨k, h, hg, rfl, rfl, hik, hk, HK, HU⟩ := hrel
    have HG := Lib.hid hg
    clear hg
    by_cases hlt : k < n
    · obtain ⟨a, o, hA, -, x0, x1, x2, x3⟩ := nds_nd (HL.out.up HU.out) k hlt
      obtain ⟨e1, e2⟩ : a = a0 ∧ o = o0 := by injection hA with e; injection e with e1 e2; exact ⟨e1.symm, e2.symm⟩
      rw [e1, e2] at x0 x1 x2 x3
      obtain ⟨a2, o2, hA2, -, -, z1, -, z3⟩ := nds_nd (HL.out.up HU.out) i hi
      obtain ⟨e3, e4⟩ : a2 = a0 ∧ o2 = o0 := by injection hA2 with e; injection e with e1 e2; exact ⟨e1.symm, e2.symm⟩
      rw [e3, e4] at z1 z3
      obtain ⟨q1, q2, q3⟩ := HNum.out k hlt
      obtain ⟨K0, hK0⟩ : ∃ K0, (nd L k).1 = K0 := ⟨_, rfl⟩
      obtain ⟨f, hf⟩ : ∃ f, (nd L k).2.1 = f := ⟨_, rfl⟩
      obtain ⟨t, ht⟩ : ∃ t, (nd L k).2.2.1 = t := ⟨_, rfl⟩
      obtain ⟨d, hd⟩ : ∃ d, dep L k = d := ⟨_, rfl⟩
      obtain ⟨f0, hf0⟩ : ∃ f0, (nd L i).2.1 = f0 := ⟨_, rfl⟩
      obtain ⟨d0, hd0⟩ : ∃ d0, dep L i = d0 := ⟨_, rfl⟩
      have HNs := Lib.hid (show nums L i k = [K0, d - d0, f - f0, t - f0] by unfold nums; rw [hK0, hf, ht, hd, hf0, hd0])
      have HSb : Hid (i < k → subR L i (n - k) k = if d0 < d then k :: subR L i (n - (k + 1)) (k + 1) else []) := Lib.hid fun h => by
        rw [show n - k = (n - (k + 1)) + 1 from by omega, ← hd0, ← hd]
        rfl
      rw [hK0] at x0
      rw [hf] at x1 q2
      rw [ht] at x2 q3
      rw [show (nd L k).2.2.2 = d from hd] at x3
      rw [hf0] at z1 q2 q3
      rw [show (nd L i).2.2.2 = d0 from hd0] at z3
      rw [hd, hd0] at q1
      have u0 := u64N_eq K0
      have u1 := u64N_eq (d - d0)
      have u2 := u64N_eq (f - f0)
      have u3 := u64N_eq (t - f0)
      obtain ⟨X0, hX0⟩ : ∃ X, u64N K0 = X := ⟨_, rfl⟩
      obtain ⟨X1, hX1⟩ : ∃ X, u64N (d - d0) = X := ⟨_, rfl⟩
      obtain ⟨X2, hX2⟩ : ∃ X, u64N (f - f0) = X := ⟨_, rfl⟩
      obtain ⟨X3, hX3⟩ : ∃ X, u64N (t - f0) = X := ⟨_, rfl⟩
      have HB := Lib.hid (show X0 < 18446744073709551616 ∧ X1 < 18446744073709551616 ∧ X2 < 18446744073709551616 ∧ X3 < 18446744073709551616 from ⟨hX0 ▸ u64N_lt _, hX1 ▸ u64N_lt _, hX2 ▸ u64N_lt _, hX3 ▸ u64N_lt _⟩)
      have HX := Lib.hid (show eatL h [K0, d - d0, f - f0, t - f0] = eatS 8 (eatS 8 (eatS 8 (eatS 8 h X0) X1) X2) X3 by rw [← hX0, ← hX1, ← hX2, ← hX3]; rfl)
      rw [hX0] at u0
      rw [hX1] at u1
      rw [hX2] at u2
      rw [hX3] at u3
      obtain ⟨h4, hh4⟩ : ∃ h4, eatS 8 (eatS 8 (eatS 8 (eatS 8 h X0) X1) X2) X3 = h4 := ⟨_, rfl⟩
      have HH4 := Lib.hid hh4
      have j1 : (k : Int) < n := by omega
      have j2 : (i : Int) < n := by omega
      clear hX0 hX1 hX2 hX3 hf ht hd hf0 hd0 hK0 hA hA2 e1 e2 e3 e4 hh4
      have next : ∀ W, Up w W → (k = i ∨ d0 < d) → Hid ((k + 1 = i ∧ h4 = 14695981039346656037) ∨ (i < k + 1 ∧ eatL h4 (numsL L i (subR L i (n - (k + 1)) (k + 1))) = V)) := fun W _ hc => by
        refine Lib.hid (.inr ⟨by omega, ?_⟩)
        have e4 : eatL h (nums L i k) = h4 := by rw [HNs.out, HX.out, HH4.out]
        rcases HK.out with ⟨e5, e6⟩ | ⟨e5, e6⟩
        · rw [← e4, e6, e5]
          exact HV.out
        · rw [HSb.out e5, if_pos (by omega)] at e6
          rw [← e4, ← eatL_app]
          exact e6
      have HNext := Lib.hid next
      clear next
      by_cases hki : k = i
      · have e1 : ((k : Int) == (i : Int)) = true := beq_iff_eq.2 (by omega)
        have HKI := Lib.hid hki
        clear hki
        go_wp2
        go_quiet (fail)
        obtain ⟨wp, hwp⟩ : ∃ wp, wr.drewN nq = wp := ⟨_, rfl⟩
        have HUp := Lib.hid (HU.out.trans (Up.drewN wr nq))
        replace x0 := cell_up (Up.drewN wr nq) x0
        replace x1 := cell_up (Up.drewN wr nq) x1
        replace x2 := cell_up (Up.drewN wr nq) x2
        replace x3 := cell_up (Up.drewN wr nq) x3
        replace z1 := cell_up (Up.drewN wr nq) z1
        replace z3 := cell_up (Up.drewN wr nq) z3
        rw [hwp] at HUp x0 x1 x2 x3 z1 z3
        simp only [hwp]
        clear hwp
        go_wp2_with (go_at_call 49; ((with_reducible refine (HE.out _ _ _ HB.out.1).mono ?_); rintro e w1 ⟨rfl, hw⟩; obtain rfl : wp = w1 := hw.symm))
        go_quiet ((go_at_call 49; with_reducible exact Calls.quiet_of_same (HE.out _ _ _ HB.out.2.1)))
        obtain ⟨wq0, hwq0⟩ : ∃ x, wp.drewN nq = x := ⟨_, rfl⟩
        have HUwq0 := Lib.hid (HUp.out.trans (Up.drewN wp nq))
        replace x1 := cell_up (Up.drewN wp nq) x1
        replace x2 := cell_up (Up.drewN wp nq) x2
        replace x3 := cell_up (Up.drewN wp nq) x3
        replace z1 := cell_up (Up.drewN wp nq) z1
        replace z3 := cell_up (Up.drewN wp nq) z3
        rw [hwq0] at HUwq0 x1 x2 x3 z1 z3
        simp only [hwq0]
        clear hwq0
        go_wp2
        go_quiet ((go_at_call 49; with_reducible exact Calls.quiet_of_same (HE.out _ _ _ HB.out.2.2.1)))
        obtain ⟨wq1, hwq1⟩ : ∃ x, wq0.drewN nq = x := ⟨_, rfl⟩
        have HUwq1 := Lib.hid (HUwq0.out.trans (Up.drewN wq0 nq))
        replace x1 := cell_up (Up.drewN wq0 nq) x1
        replace x2 := cell_up (Up.drewN wq0 nq) x2
        replace x3 := cell_up (Up.drewN wq0 nq) x3
        replace z1 := cell_up (Up.drewN wq0 nq) z1
        replace z3 := cell_up (Up.drewN wq0 nq) z3
        rw [hwq1] at HUwq1 x1 x2 x3 z1 z3
        simp only [hwq1]
        clear hwq1
        go_wp2
        go_quiet ((go_at_call 49; with_reducible exact Calls.quiet_of_same (HE.out _ _ _ HB.out.2.2.2)))
        obtain ⟨wq2, hwq2⟩ : ∃ x, wq1.drewN nq = x := ⟨_, rfl⟩
        have HUwq2 := Lib.hid (HUwq1.out.trans (Up.drewN wq1 nq))
        replace x1 := cell_up (Up.drewN wq1 nq) x1
        replace x2 := cell_up (Up.drewN wq1 nq) x2
        replace x3 := cell_up (Up.drewN wq1 nq) x3
        replace z1 := cell_up (Up.drewN wq1 nq) z1
        replace z3 := cell_up (Up.drewN wq1 nq) z3
        rw [hwq2] at HUwq2 x1 x2 x3 z1 z3
        simp only [hwq2]
        clear hwq2
        go_wp2
        go_roundg (n - (k + 1))
        case measure => rw [HG.out]; omega
        case rel => exact ⟨k + 1, h4, rfl, by go_num, by rw [← HH4.out], by omega, by omega, HNext.out _ HUwq2.out (.inl HKI.out), HUwq2⟩
      · have e1 : ((k : Int) == (i : Int)) = false := beq_false_of_ne (by omega)
        have HIK := Lib.hid (show i < k by omega)
        clear hki
        by_cases hdd : d0 < d
        · have HDD := Lib.hid hdd
          go_wp2
          go_quiet (fail)
          obtain ⟨wp, hwp⟩ : ∃ wp, wr.drewN nq = wp := ⟨_, rfl⟩
          have HUp := Lib.hid (HU.out.trans (Up.drewN wr nq))
          replace x0 := cell_up (Up.drewN wr nq) x0
          replace x1 := cell_up (Up.drewN wr nq) x1
          replace x2 := cell_up (Up.drewN wr nq) x2
          replace x3 := cell_up (Up.drewN wr nq) x3
          replace z1 := cell_up (Up.drewN wr nq) z1
          replace z3 := cell_up (Up.drewN wr nq) z3
          rw [hwp] at HUp x0 x1 x2 x3 z1 z3
          simp only [hwp]
          clear hwp
          go_wp2_with (go_at_call 49; ((with_reducible refine (HE.out _ _ _ HB.out.1).mono ?_); rintro e w1 ⟨rfl, hw⟩; obtain rfl : wp = w1 := hw.symm))
          go_quiet ((go_at_call 49; with_reducible exact Calls.quiet_of_same (HE.out _ _ _ HB.out.2.1)))
          obtain ⟨wq0, hwq0⟩ : ∃ x, wp.drewN nq = x := ⟨_, rfl⟩
          have HUwq0 := Lib.hid (HUp.out.trans (Up.drewN wp nq))
          replace x1 := cell_up (Up.drewN wp nq) x1
          replace x2 := cell_up (Up.drewN wp nq) x2
          replace x3 := cell_up (Up.drewN wp nq) x3
          replace z1 := cell_up (Up.drewN wp nq) z1
          replace z3 := cell_up (Up.drewN wp nq) z3
          rw [hwq0] at HUwq0 x1 x2 x3 z1 z3
          simp only [hwq0]
          clear hwq0
          go_wp2
          go_quiet ((go_at_call 49; with_reducible exact Calls.quiet_of_same (HE.out _ _ _ HB.out.2.2.1)))
          obtain ⟨wq1, hwq1⟩ : ∃ x, wq0.drewN nq = x := ⟨_, rfl⟩
          have HUwq1 := Lib.hid (HUwq0.out.trans (Up.drewN wq0 nq))
          replace x1 := cell_up (Up.drewN wq0 nq) x1
          replace x2 := cell_up (Up.drewN wq0 nq) x2
          replace x3 := cell_up (Up.drewN wq0 nq) x3
          replace z1 := cell_up (Up.drewN wq0 nq) z1
          replace z3 := cell_up (Up.drewN wq0 nq) z3
          rw [hwq1] at HUwq1 x1 x2 x3 z1 z3
          simp only [hwq1]
          clear hwq1
          go_wp2
          go_quiet ((go_at_call 49; with_reducible exact Calls.quiet_of_same (HE.out _ _ _ HB.out.2.2.2)))
          obtain ⟨wq2, hwq2⟩ : ∃ x, wq1.drewN nq = x := ⟨_, rfl⟩
          have HUwq2 := Lib.hid (HUwq1.out.trans (Up.drewN wq1 nq))
          replace x1 := cell_up (Up.drewN wq1 nq) x1
          replace x2 := cell_up (Up.drewN wq1 nq) x2
          replace x3 := cell_up (Up.drewN wq1 nq) x3
          replace z1 := cell_up (Up.drewN wq1 nq) z1
          replace z3 := cell_up (Up.drewN wq1 nq) z3
          rw [hwq2] at HUwq2 x1 x2 x3 z1 z3
          simp only [hwq2]
          clear hwq2
          go_wp2
          go_roundg (n - (k + 1))
          case measure => rw [HG.out]; omega
          case rel => exact ⟨k + 1, h4, rfl, by go_num, by rw [← HH4.out], by omega, by omega, HNext.out _ HUwq2.out (.inr HDD.out), HUwq2⟩
        · have f1 : decide (d0 < d) = false := decide_eq_false hdd
          have HZ := Lib.hid (show h = V from by
            rcases HK.out with ⟨e5, e6⟩ | ⟨e5, e6⟩
            · have := HIK.out; omega
            · rw [HSb.out e5, if_neg hdd] at e6
              exact e6)
          clear hdd
          go_wp2
          go_quiet (fail)
          go_wp2
          go_ret
          exact ⟨ret_int HZ.out, HU.out.trans (Up.drewN _ _)⟩
    · obtain rfl : k = n := by omega
      have f0 : decide (k < k) = false := decide_eq_false hlt
      have HZ := Lib.hid (show h = V from by
        rcases HK.out with ⟨e5, e6⟩ | ⟨e5, e6⟩
        · omega
        · rw [Nat.sub_self] at e6
          exact e6)
      clear hlt
      go_wp2
      go_quiet (fail)
      go_wp2
      go_ret
      exact ⟨ret_int HZ.out, HU.out.trans (Up.drewN _ _)⟩
end Go.Proofs.YtidnldchdahgeaaDoor
