/- The program's Norm, Union, Minus, Both and Size. -/
import Derived.Test.YtbgdphjjepbafaaSFormP
import Derived.Test.YtbgdphjjepbafaaSHasP
import Derived.Test.YtbgdphjjepbafaaSLawA
namespace Go.Proofs.Ytbgdphjjepbafaa
open Go.RowKit

theorem form_any (w : World) (A A' : Option Addr) (n n' c c' : Nat) (L M : List Rng) (hL : Rgs w A n L) (hM : Rgs w A' n' M) (hn : n + n' ≤ 40000) (gk : Nat) (K : Bool → Bool → Bool) (hK0 : K false false = false) (eg : ∀ args w, (callFunc gk args).run Try.prog w = .ok (.enter gk args) w) (hK : ∀ x y W, Calls Try.prog gk #[.bool x, .bool y] W fun e w' => e = .returned (.bool (K x y)) ∧ W = w') :
    Calls Try.prog 25 #[.slice A n c, .slice A' n' c', .func (.func gk) #[] #[]] w fun e w' => ∃ v F, e = .returned v ∧ RowR w' w.heap.size v F ∧ Form F ∧ (∀ p, has F p = K (has L p) (has M p)) ∧ F.length ≤ 2 * n + 2 * n' ∧ Up w w' :=
  callsIn_wide.1 (form_in w A A' n n' c c' L M hL hM hn gk K hK0 eg hK)
set_option maxRecDepth 100000 in
set_option maxHeartbeats 1000000 in
theorem norm_any (w : World) (A : Option Addr) (n c : Nat) (L : List Rng) (hL : Rgs w A n L) (hn : n ≤ 40000) : Calls Try.prog 10 #[.slice A n c] w (FP (has L) (2 * n) w) := by
  have H := Lib.hid (form_any w A none n 0 c 0 L [] hL (Rgs.nil _ _) (by omega) 26 (fun x _ => x) rfl (enters_of Try.func26 (by kernel_rfl) rfl) (fun x y W => keepNorm_any x y W))
  clear hL
  go_enter Try.func10, Try.ntmps10
  go_wp2_with (go_at_call 25; ((with_reducible refine H.out.mono ?_); rintro e w1 ⟨v, F, rfl, h1, h2, h3, h4, h5⟩; have HR := Lib.hid (show FP (has L) (2 * n) w (.returned v) w1 from ⟨v, F, rfl, h1, h2, h3, h4, h5⟩); clear h1 h2 h3 h4 h5))
  go_ret
  exact HR.out
set_option maxRecDepth 100000 in
set_option maxHeartbeats 1000000 in
theorem union_any (w : World) (A A' : Option Addr) (n n' c c' : Nat) (L M : List Rng) (hL : Rgs w A n L) (hM : Rgs w A' n' M) (hn : n + n' ≤ 40000) : Calls Try.prog 11 #[.slice A n c, .slice A' n' c'] w (FP (hasB 0 L M) (2 * n + 2 * n') w) := by
  have H := Lib.hid (form_any w A A' n n' c c' L M hL hM hn 27 (fun x y => x || y) rfl (enters_of Try.func27 (by kernel_rfl) rfl) (fun x y W => keepUnion_any x y W))
  clear hL hM
  go_enter Try.func11, Try.ntmps11
  go_wp2_with (go_at_call 25; ((with_reducible refine H.out.mono ?_); rintro e w1 ⟨v, F, rfl, h1, h2, h3, h4, h5⟩; have HR := Lib.hid (show FP (hasB 0 L M) (2 * n + 2 * n') w (.returned v) w1 from ⟨v, F, rfl, h1, h2, h3, h4, h5⟩); clear h1 h2 h3 h4 h5))
  go_ret
  exact HR.out
set_option maxRecDepth 100000 in
set_option maxHeartbeats 1000000 in
theorem minus_any (w : World) (A A' : Option Addr) (n n' c c' : Nat) (L M : List Rng) (hL : Rgs w A n L) (hM : Rgs w A' n' M) (hn : n + n' ≤ 40000) : Calls Try.prog 12 #[.slice A n c, .slice A' n' c'] w (FP (hasB 1 L M) (2 * n + 2 * n') w) := by
  have H := Lib.hid (form_any w A A' n n' c c' L M hL hM hn 28 (fun x y => x && !y) rfl (enters_of Try.func28 (by kernel_rfl) rfl) (fun x y W => keepMinus_any x y W))
  clear hL hM
  go_enter Try.func12, Try.ntmps12
  go_wp2_with (go_at_call 25; ((with_reducible refine H.out.mono ?_); rintro e w1 ⟨v, F, rfl, h1, h2, h3, h4, h5⟩; have HR := Lib.hid (show FP (hasB 1 L M) (2 * n + 2 * n') w (.returned v) w1 from ⟨v, F, rfl, h1, h2, h3, h4, h5⟩); clear h1 h2 h3 h4 h5))
  go_ret
  exact HR.out
set_option maxRecDepth 100000 in
set_option maxHeartbeats 1000000 in
theorem both_any (w : World) (A A' : Option Addr) (n n' c c' : Nat) (L M : List Rng) (hL : Rgs w A n L) (hM : Rgs w A' n' M) (hn : n + n' ≤ 40000) : Calls Try.prog 13 #[.slice A n c, .slice A' n' c'] w (FP (hasB 2 L M) (2 * n + 2 * n') w) := by
  have H := Lib.hid (form_any w A A' n n' c c' L M hL hM hn 29 (fun x y => x && y) rfl (enters_of Try.func29 (by kernel_rfl) rfl) (fun x y W => keepBoth_any x y W))
  clear hL hM
  go_enter Try.func13, Try.ntmps13
  go_wp2_with (go_at_call 25; ((with_reducible refine H.out.mono ?_); rintro e w1 ⟨v, F, rfl, h1, h2, h3, h4, h5⟩; have HR := Lib.hid (show FP (hasB 2 L M) (2 * n + 2 * n') w (.returned v) w1 from ⟨v, F, rfl, h1, h2, h3, h4, h5⟩); clear h1 h2 h3 h4 h5))
  go_ret
  exact HR.out
theorem form_at {F : List Rng} (h : Form F) (i : Nat) (hi : i < F.length) : 0 ≤ (F[i]'hi).1 ∧ (F[i]'hi).1 < (F[i]'hi).2 ∧ (F[i]'hi).2 ≤ 1099511627776 := formA_mem (lo := -1) (by omega) h _ (List.getElem_mem hi)
set_option maxRecDepth 100000 in
set_option maxHeartbeats 1000000 in
theorem size_any (w : World) (A : Option Addr) (n c : Nat) (L : List Rng) (hL : Rgs w A n L) (hn : n ≤ 4000) :
    Calls Try.prog 18 #[.slice A n c] w fun e w' => e = .returned (.int .i64 (szT L)) ∧ Up w w' := by
  have HO := Lib.hid (norm_any w A n c L hL (by omega))
  obtain ⟨S, hS⟩ : ∃ S, szT L = S := ⟨_, rfl⟩
  rw [hS]
  have HS := Lib.hid hS
  have HN := Lib.hid hn
  clear hS hL hn
  go_enter Try.func18, Try.ntmps18
  go_upto_region 3 with (go_at_call 10; ((with_reducible refine HO.out.mono ?_); rintro e w1 ⟨v, F, rfl, ho, hf, hh, hl, hu⟩; have HR := Lib.hid ho; have HF := Lib.hid hf; have HH := Lib.hid hh; have HLn := Lib.hid hl; have HU := Lib.hid hu; obtain ⟨A2, c2, hv, hr, hA2⟩ := owns_rgs_lt ho; subst hv; have HRg := Lib.hid hr; clear ho hf hh hl hu hr hA2))
  have HSum := Lib.hid (show sumF F = S by
    rw [← HS.out, HF.out.sum]
    exact cnt_congr HH.out _)
  obtain ⟨m, hm⟩ : ∃ m, F.length = m := ⟨_, rfl⟩
  rw [hm] at HRg
  simp only [hm]
  have HM := Lib.hid hm
  have hmb : m ≤ 20000 := by have := HLn.out; have := HN.out; omega
  have HB := Lib.hid (show ∀ i, 0 ≤ sumF (F.take i) ∧ sumF (F.take i) ≤ 1099511627776 from fun i => by
    have h1 := sum_take (lo := -1) i HF.out
    have h2 := cnt_le (f := has F) 1099511627776
    have h3 := HF.out.sum
    omega)
  clear hm
  go_loopg [3, 5, 9] m (fun g sv _ iv wr => ∃ i : Nat, g = m - i ∧ iv = .int .i64 (i : Nat) ∧ i ≤ m ∧ sv = .int .i64 (sumF (F.take i)) ∧ Hid (Up w1 wr))
  case atStart => exact ⟨0, rfl, rfl, Nat.zero_le _, rfl, Lib.hid (Up.refl _)⟩
  case round =>
    obtain ⟨i, hg, rfl, hi, rfl, HV⟩ := hrel
    have HG := Lib.hid hg
    clear hg
    obtain ⟨T, hT⟩ : ∃ T, sumF (F.take i) = T := ⟨_, rfl⟩
    rw [hT]
    by_cases hlt : i < m
    · have hiF : i < F.length := by have := HM.out; omega
      obtain ⟨b, o, hA2, -, c0, c1⟩ := (HRg.out.up HV.out).at_ i hiF
      subst hA2
      obtain ⟨⟨r1, r2⟩, hr⟩ : ∃ r, F[i] = r := ⟨_, rfl⟩
      rw [hr] at c0 c1
      dsimp only at c0 c1
      have hii : (i : Int) < m := by omega
      have hfi := form_at HF.out i hiF
      rw [hr] at hfi
      have hT2 : T + (r2 - r1) = sumF (F.take (i + 1)) := by
        rw [List.take_succ_eq_append_getElem hiF, sumF_append, hT, hr]
        have : sumF [((r1, r2) : Rng)] = r2 - r1 + 0 := rfl
        rw [this]
        omega
      have hTb := HB.out i
      rw [hT] at hTb
      obtain ⟨f1, f2, f3⟩ := hfi
      dsimp only at f1 f2 f3
      have HUa := Lib.hid (Up.alloc wr (.cells #[.int .i64 r1, .int .i64 r2] 29))
      have q1 : IntKind.i64.wrap (r2 - r1) = r2 - r1 := IntWalk.i64_in _ (by omega)
      have q2 : IntKind.i64.wrap (T + (r2 - r1)) = T + (r2 - r1) := IntWalk.i64_in _ (by omega)
      have HT2 := Lib.hid hT2
      clear hT2 hT hr hTb f1 f2 f3
      go_wp2
      go_roundg (m - (i + 1))
      case measure => rw [HG.out]; omega
      case rel => exact ⟨i + 1, rfl, by go_num, by omega, by rw [HT2.out], Lib.hid (HV.out.trans HUa.out)⟩
    · obtain rfl : i = m := by omega
      have f0 : decide (i < i) = false := decide_eq_false hlt
      have HTS := Lib.hid (show T = S by rw [← hT, ← HSum.out, List.take_of_length_le (by have := HM.out; omega)])
      clear hlt hT
      go_wp2
      go_ret
      exact ⟨ret_int HTS.out, HU.out.trans HV.out⟩
end Go.Proofs.Ytbgdphjjepbafaa
