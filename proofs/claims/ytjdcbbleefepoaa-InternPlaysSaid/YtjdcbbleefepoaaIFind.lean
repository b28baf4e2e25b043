/- The document's Find. -/
import Derived.Test.YtjdcbbleefepoaaIRef
import Derived.Test.YtjdcbbleefepoaaIRun
namespace Go.Proofs.Ytjdcbbleefepoaa
open Go.RowKit
attribute [local go_sem ↓] ldS_eq stS_eq elS_eq neS_eq zrS_eq
attribute [local go_sem] ldS_run stS_run elS_run neS_run zrS_run g0_rule ldV_drew ldV_drewN

theorem none_form {W : World} {base : Nat} {v : Value} {L : List (Array Value)} (h : W.ownsRow base TS 82 v L.length (rows L)) : ∃ A cap, v = .slice A L.length cap := by
  rcases h.2 with ⟨h0, h1⟩ | ⟨g, cap, cur, hv, -⟩
  · exact ⟨none, 0, by rw [h0, h1]⟩
  · exact ⟨_, _, hv⟩
set_option maxRecDepth 100000 in
set_option maxHeartbeats 2000000 in
theorem refFind_any (w : World) (base tb : Nat) (v : Value) (L : List (Array Value)) (x : Array Value) (hT : RT w base tb v L) (hx : IsS x) (hn : L.length ≤ 1000000) :
    Calls Try.prog 11 #[.pointer (some ⟨tb, 0, none⟩), .agg x] w fun e w' => e = .returned (.tuple #[.int .i64 (fE L x : Nat), .bool (fB L x)]) ∧ Up w w' := by
  obtain ⟨A, cap, rfl⟩ := none_form hT.own
  obtain ⟨n, hln⟩ : ∃ n, L.length = n := ⟨_, rfl⟩
  obtain ⟨E, hE⟩ : ∃ E, fE L x = E := ⟨_, rfl⟩
  obtain ⟨D, hD⟩ : ∃ D, fB L x = D := ⟨_, rfl⟩
  rw [hE, hD]
  have HE := Lib.hid hE
  have HD := Lib.hid hD
  clear hE hD
  have hu := Up.alloc w (.cells x TS)
  have hc : (w.alloc (.cells x TS)).cell? ⟨tb, 0, none⟩ = some (.slice A n cap) := by rw [← hln]; exact cell_up hu (cellOf hT.box rfl)
  have hl := load_S hx (range_box w x TS)
  have HT := Lib.hid hT
  have HU := Lib.hid hu
  have HN := Lib.hid hln
  rw [hln] at hn
  clear hT hu hln
  go_enter Try.func11, Try.ntmps11
  go_wp2
  go_loopg [6] n (fun g i wr => ∃ k : Nat, k ≤ n ∧ g = n - k ∧ i = .int .i64 (k : Nat) ∧ Hid (∀ j (hj : j < L.length), j < k → eqS (L[j]) x = false) ∧ wr.cell? ⟨tb, 0, none⟩ = some (.slice A n cap) ∧ Hid (Up (w.alloc (.cells x TS)) wr))
  case atStart => exact ⟨0, Nat.zero_le _, rfl, rfl, Lib.hid fun j _ hj => absurd hj (Nat.not_lt_zero _), hc, Lib.hid (Up.refl _)⟩
  case round =>
    clear hc hl
    obtain ⟨k, hk, hg, rfl, HB, hc, HV⟩ := hrel
    have HG := Lib.hid hg
    clear hg
    by_cases hlt : k < n
    · have hkL : k < L.length := by rw [HN.out]; exact hlt
      obtain ⟨g, cap', hv, -, -, hr⟩ := row_range HT.out.own HT.out.st k hkL
      injection hv with hv
      subst hv
      obtain ⟨y, hy⟩ : ∃ y, L[k] = y := ⟨_, rfl⟩
      rw [hy] at hr
      have hyS : IsS y := by rw [← hy]; exact HT.out.st _ (List.getElem_mem hkL)
      have l1 := ldV_of hyS (range_up HV.out (range_up HU.out hr))
      have l2 := ldV_of hx (range_up HV.out (range_box w x TS))
      have q1 := eqV_of hyS hx
      obtain ⟨b, hb⟩ : ∃ b, eqS y x = b := ⟨_, rfl⟩
      rw [hb] at q1
      have p0 : (0 : Int) ≤ k := by omega
      have p1 : (k : Int) < n := by omega
      have HY := Lib.hid hy
      have HK := Lib.hid hlt
      clear hr hyS hy
      cases b with
      | true =>
        have e : fI L x = k := fI_at hkL (by rw [HY.out]; exact hb) (fun j hj => HB.out j (by omega) hj)
        have e1 : fE L x = k := by unfold fE; rw [if_pos (by omega), e]
        have e2 : fB L x = true := by unfold fB; rw [e]; exact decide_eq_true hkL
        obtain rfl : k = E := e1.symm.trans HE.out
        obtain rfl : true = D := e2.symm.trans HD.out
        clear e e1 e2
        go_wp2
        go_quiet (fail)
        go_wp2
        go_ret2
        exact ⟨rfl, HU.out.trans (HV.out.trans (Up.drewN _ _))⟩
      | false =>
        have e2 : IntKind.i64.wrap ((k : Int) + 1) = (k : Int) + 1 := IntWalk.i64_in _ (by omega)
        have HB2 := Lib.hid (fun j (hj : j < L.length) (hjk : j < k + 1) => show eqS (L[j]) x = false from if h : j = k then by subst h; rw [HY.out]; exact hb else HB.out j hj (by omega))
        go_wp2
        go_quiet (fail)
        go_wp2
        go_roundg (n - (k + 1))
        case measure => rw [HG.out]; have := HK.out; omega
        case rel => exact ⟨k + 1, HK.out, rfl, by go_num, HB2, hc, Lib.hid (HV.out.trans (Up.drewN _ _))⟩
    · have e : fI L x = L.length := fI_none fun j hj => HB.out j hj (by have := HN.out; omega)
      have e1 : fE L x = 0 := by unfold fE; rw [if_neg (by omega)]
      have e2 : fB L x = false := by unfold fB; rw [e]; exact decide_eq_false (by omega)
      obtain rfl : 0 = E := e1.symm.trans HE.out
      obtain rfl : false = D := e2.symm.trans HD.out
      have f0 : decide (k < n) = false := decide_eq_false hlt
      clear hlt e e1 e2
      go_wp2
      go_ret2
      exact ⟨rfl, HU.out.trans HV.out⟩
end Go.Proofs.Ytjdcbbleefepoaa
