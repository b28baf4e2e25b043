/- The program's apart: a state with words of its own is that state. -/
import Derived.Test.YtjdcbbleefepoaaIDocs
import Derived.Test.YtjdcbbleefepoaaIArg
import Derived.Test.YtjdcbbleefepoaaIClone
namespace Go.Proofs.Ytjdcbbleefepoaa
open Go.RowKit
attribute [local go_sem ↓] ldS_eq stS_eq elS_eq neS_eq zrS_eq bsS_eq bdS_eq ldD_eq
attribute [local go_sem] ldS_run stS_run elS_run neS_run zrS_run bsS_run bdS_run0 bdS_run1 g0_rule ldV_drew ldV_drewN

theorem results_cell1 {fn : Func} {p : Tmp} {ty : TypeId} (h : fn.results = #[.cell p ty]) (tmps : Array Value) (P : Program) (w : World) :
    (results fn tmps).run P w = ((asAddr (tmps.getD p undef)).run P w).andThen fun a w₁ => (loadVar ty a).run P w₁ := by
  simp only [results, h]
  simp [Sem.run_bind, Result.andThen]
theorem res_S1 {fn : Func} {p : Tmp} (h : fn.results = #[.cell p TS]) (tmps : Array Value) (w : World) (a : Addr) {v : Value} (hp : tmps.getD p undef = .pointer (some a)) (hv : ldV (.pointer (some a)) w = some v) :
    (results fn tmps).run Try.prog w = .ok v w := by
  obtain ⟨a', e, h2⟩ := ldVar_of hv
  injection e with e; injection e with e
  subst e
  rw [results_cell1 h, hp]
  simp only [asAddr, Sem.run_pure, Result.andThen_ok, h2]
set_option maxRecDepth 100000 in
set_option maxHeartbeats 4000000 in
theorem apart_any (w : World) (x : Array Value) (hx : IsS x) : Calls Try.prog 15 #[.agg x] w fun e w' => e = .returned (.agg x) ∧ Up w w' := by
  obtain ⟨S, P, Q, hd⟩ := docs_of hx
  obtain ⟨b0, hb0⟩ : ∃ b, w.heap.size = b := ⟨_, rfl⟩
  obtain ⟨W1, hW1⟩ : ∃ W, w.alloc (.cells x TS) = W := ⟨_, rfl⟩
  have hs1 : W1.heap.size = b0 + 1 := by rw [← hW1, World.size_alloc, hb0]
  obtain ⟨W2, hW2⟩ : ∃ W, W1.alloc (.cells z0 TS) = W := ⟨_, rfl⟩
  have u1 : Up w W1 := by rw [← hW1]; exact Up.alloc w _
  have u2 : Up W1 W2 := by rw [← hW2]; exact Up.alloc W1 _
  have r0 : W1.rangeAt b0 0 x.toList := by rw [← hW1, ← hb0]; exact range_box w x TS
  have t0 : W1.there b0 0 82 := by rw [← hW1, ← hb0]; exact there_box w hx TS
  have t1 : W2.there (b0 + 1) 0 82 := by rw [← hW2, ← hs1]; exact there_box W1 z0_is TS
  have r2 := range_up u2 r0
  have hldD := ldD_run r2 hd
  have R2 := Lib.hid r2
  have T2 := Lib.hid (there_up u2 t0)
  have T1 := Lib.hid t1
  have HU := Lib.hid (show Below b0 w W2 by have := u1.trans u2; unfold Up at this; rwa [hb0] at this)
  have HB := Lib.hid hb0
  have HX := Lib.hid hx
  have HD := Lib.hid hd
  clear r0 t0 t1 r2 u1 u2 hd hx
  go_enter Try.func15, Try.ntmps15
  go_wp2
  clear hW1 hW2 hs1 hldD hb0
  go_loopg [7] 4 (fun g i wr => ∃ k : Nat, k ≤ 4 ∧ g = 4 - k ∧ i = .int .i64 (k : Nat) ∧ Hid (wr.rangeAt b0 0 x.toList) ∧ Hid (wr.there b0 0 82) ∧ Hid (wr.there (b0 + 1) 0 82) ∧ Hid (Below b0 w wr))
  case atStart => exact ⟨0, Nat.zero_le _, rfl, rfl, R2, T2, T1, HU⟩
  case round =>
    clear R2 T2 T1 HU
    obtain ⟨k, hk, hg, rfl, R2, T2, T1, HU⟩ := hrel
    have HG := Lib.hid hg
    clear hg
    by_cases hlt : k < 4
    · have hix := ixD (S := S) (P := P) (Q := Q) k hlt
      have HL := Lib.hid (fun W => clone_any (S k) W (HD.out k hlt).2.2.2)
      go_wp2_with (go_at_call 16; ((with_reducible refine (HL.out _).mono ?_); rintro e w1 ⟨rfl, hu⟩; have HV := Lib.hid ((Up.alloc wr _).trans hu); have c1 := range_up HV.out R2.out _ _ (HD.out k hlt).1; have f1 := (there_up HV.out T2.out (69 + k * 3) (by omega)).2; rw [Nat.zero_add] at c1 f1; clear hu))
      have HR := Lib.hid (set_range (range_up HV.out R2.out) (HD.out k hlt).1)
      have HT2 := Lib.hid (there_set (there_up HV.out T2.out) b0 (69 + k * 3) (.string (S k)))
      have HT1 := Lib.hid (there_set (there_up HV.out T1.out) b0 (69 + k * 3) (.string (S k)))
      have HU2 := Lib.hid ((Below.trans HU.out (HV.out.mono (by have := Below.size HU.out; rw [HB.out] at this; exact this))).setCell (p := ⟨b0, 69 + k * 3, none⟩) (Nat.le_refl _) (.string (S k)))
      clear c1 f1 hix
      go_roundg (4 - (k + 1))
      case measure => rw [HG.out]; omega
      case rel => exact ⟨k + 1, hlt, rfl, by go_num, HR, HT2, HT1, HU2⟩
    · have hl := ldV_of HX.out R2.out
      have hst := stV_of HX.out T1.out
      have hld := set_ld HX.out T1.out
      have f0 : decide ((k : Int) < 4) = false := decide_eq_false (by omega)
      clear hlt
      go_wp2
      refine bodyPost_ret (res_S1 rfl _ _ _ rfl hld) rfl ?_
      refine ⟨rfl, ?_⟩
      unfold Up
      rw [HB.out]
      exact set_below b0 (b0 + 1) (by omega) _ 0 _ _ HU.out
end Go.Proofs.Ytjdcbbleefepoaa
