/- The deepest node at a place: the document's At. -/
import Derived.Test.YtidnldchdahgeaaDoorTLook
namespace Go.Proofs.YtidnldchdahgeaaDoor
open Go.RowKit

theorem atT_succ (L : List Nd) (q : Int) {k : Nat} (h : 1 ≤ k) : atT L q (k + 1) = if (nd L k).2.1 ≤ q ∧ q ≤ (nd L k).2.2.1 ∧ dep L (atT L q k) < dep L k then k else atT L q k := by
  show (if k = 0 then 0 else _) = _
  rw [if_neg (by omega)]
set_option maxRecDepth 100000 in
set_option maxHeartbeats 2000000 in
theorem refAt_any (w : World) (A : Option Addr) (n c : Nat) (L : List Nd) (hL : Nds w A n L) (hn : n ≤ 10000) (h0 : 0 < n) (q : Int) :
    Calls Tryd.prog 27 #[.slice A n c, .int .i64 q] w fun e w' => e = .returned (.int .i64 (atT L q n : Nat)) ∧ Up w w' := by
  have HL := Lib.hid hL
  clear hL
  go_enter Tryd.func27, Tryd.ntmps27
  go_wp2
  go_loopg [5, 6] (n - 1) (fun g bv iv wr => ∃ k b : Nat, g = n - k ∧ bv = .int .i64 (b : Nat) ∧ iv = .int .i64 (k : Nat) ∧ 1 ≤ k ∧ k ≤ n ∧ b < n ∧ Hid (b = atT L q k) ∧ Hid (Up w wr))
  case atStart => exact ⟨1, 0, rfl, rfl, rfl, Nat.le_refl _, by omega, h0, Lib.hid rfl, Lib.hid (Up.refl _)⟩
  case round =>
    obtain ⟨k, b, hg, rfl, rfl, hk1, hk, hb, HB, HU⟩ := hrel
    have HG := Lib.hid hg
    clear hg
    by_cases hlt : k < n
    · obtain ⟨a, o, hA, -, -, x1, x2, x3⟩ := nds_nd (HL.out.up HU.out) k hlt
      obtain ⟨a2, o2, hA2, -, -, -, -, y3⟩ := nds_nd (HL.out.up HU.out) b hb
      subst hA
      obtain ⟨rfl, rfl⟩ : a2 = a ∧ o2 = o := by injection hA2 with e; injection e with e1 e2; exact ⟨e1.symm, e2.symm⟩
      obtain ⟨f, hf⟩ : ∃ f, (nd L k).2.1 = f := ⟨_, rfl⟩
      obtain ⟨t, ht⟩ : ∃ t, (nd L k).2.2.1 = t := ⟨_, rfl⟩
      obtain ⟨d, hd⟩ : ∃ d, dep L k = d := ⟨_, rfl⟩
      obtain ⟨e, he⟩ : ∃ e, dep L b = e := ⟨_, rfl⟩
      rw [hf] at x1
      rw [ht] at x2
      rw [show (nd L k).2.2.2 = d from hd] at x3
      rw [show (nd L b).2.2.2 = e from he] at y3
      have HS := Lib.hid (show atT L q (k + 1) = if f ≤ q ∧ q ≤ t ∧ e < d then k else b by rw [atT_succ L q hk1, hf, ht, hd, ← HB.out, he])
      have j1 : (k : Int) < n := by omega
      have j2 : (b : Int) < n := by omega
      clear hf ht hd he
      by_cases c1 : f ≤ q
      case neg =>
        have f1 : decide (f ≤ q) = false := decide_eq_false c1
        have HN2 := Lib.hid (show b = atT L q (k + 1) by rw [HS.out, if_neg (by omega)])
        clear c1
        go_wp2
        go_quiet (fail)
        have HUq := Lib.hid (HU.out.trans (Up.drewN wr nq))
        go_wp2
        go_roundg (n - (k + 1))
        case measure => rw [HG.out]; omega
        case rel => exact ⟨k + 1, b, rfl, rfl, by go_num, by omega, by omega, by omega, HN2, HUq⟩
      by_cases c2 : q ≤ t
      case neg =>
        have f2 : decide (q ≤ t) = false := decide_eq_false c2
        have HN2 := Lib.hid (show b = atT L q (k + 1) by rw [HS.out, if_neg (by omega)])
        clear c2
        go_wp2
        go_quiet (fail)
        have HUq := Lib.hid (HU.out.trans (Up.drewN wr nq))
        go_wp2
        go_roundg (n - (k + 1))
        case measure => rw [HG.out]; omega
        case rel => exact ⟨k + 1, b, rfl, rfl, by go_num, by omega, by omega, by omega, HN2, HUq⟩
      by_cases c3 : e < d
      case neg =>
        have f3 : decide (e < d) = false := decide_eq_false c3
        have HN2 := Lib.hid (show b = atT L q (k + 1) by rw [HS.out, if_neg (by omega)])
        clear c3
        go_wp2
        go_quiet (fail)
        have HUq := Lib.hid (HU.out.trans (Up.drewN wr nq))
        go_wp2
        go_roundg (n - (k + 1))
        case measure => rw [HG.out]; omega
        case rel => exact ⟨k + 1, b, rfl, rfl, by go_num, by omega, by omega, by omega, HN2, HUq⟩
      have HN2 := Lib.hid (show k = atT L q (k + 1) by rw [HS.out, if_pos ⟨c1, c2, c3⟩])
      go_wp2
      go_quiet (fail)
      have HUq := Lib.hid (HU.out.trans (Up.drewN wr nq))
      go_wp2
      go_roundg (n - (k + 1))
      case measure => rw [HG.out]; omega
      case rel => exact ⟨k + 1, k, rfl, rfl, by go_num, by omega, by omega, by omega, HN2, HUq⟩
    · obtain rfl : k = n := by omega
      have f0 : decide (k < k) = false := decide_eq_false hlt
      clear hlt
      go_wp2
      go_ret
      exact ⟨ret_int (congrArg (fun x : Nat => (x : Int)) HB.out), HU.out⟩
end Go.Proofs.YtidnldchdahgeaaDoor
