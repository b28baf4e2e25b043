/- How many places a list has: the document's Size. -/
import Derived.Test.YtbgdphjjepbafaaSOf
namespace Go.Proofs.Ytbgdphjjepbafaa
open Go.RowKit

/-- How many places. -/
def szT (L : List Rng) : Int := cnt (has L) 1099511627776
theorem cnt_le {f : Int → Bool} : ∀ n : Nat, 0 ≤ cnt f n ∧ cnt f n ≤ n
  | 0 => ⟨Int.le_refl _, Int.le_refl _⟩
  | n + 1 => by
    have := cnt_le (f := f) n
    unfold cnt
    split <;> omega
theorem sum_take {lo : Int} : ∀ {F : List Rng} (i : Nat), FormA lo F → 0 ≤ sumF (F.take i) ∧ sumF (F.take i) ≤ sumF F
  | [], i, _ => by simp [sumF]
  | r :: t, 0, ⟨h1, h2, h3, h4⟩ => by
    have := sum_take 0 h4
    have e : sumF (r :: t) = r.2 - r.1 + sumF t := rfl
    simp only [List.take_zero] at this ⊢
    have z : sumF [] = 0 := rfl
    omega
  | r :: t, i + 1, ⟨h1, h2, h3, h4⟩ => by
    have := sum_take i h4
    have e : sumF (r :: t) = r.2 - r.1 + sumF t := rfl
    have e2 : sumF ((r :: t).take (i + 1)) = r.2 - r.1 + sumF (t.take i) := rfl
    omega
theorem hasB_one (L : List Rng) (p : Int) : hasB 0 L [] p = has L p := by
  unfold hasB keepB
  rw [if_pos rfl, has_nil, Bool.or_false]
set_option maxRecDepth 100000 in
set_option maxHeartbeats 1000000 in
theorem refSize_any (w : World) (A : Option Addr) (n c : Nat) (L : List Rng) (hL : Rgs w A n L) (hA : ∀ a, A = some a → a.block < w.heap.size) (hn : n ≤ 10000) :
    Calls Try.prog 19 #[.slice A n c] w fun e w' => e = .returned (.int .i64 (szT L)) ∧ Up w w' := by
  have hO := of_any w A none n 0 c 0 L [] 0 hL (Rgs.nil _ _) hA (fun a h => by cases h) (by omega)
  obtain ⟨S, hS⟩ : ∃ S, szT L = S := ⟨_, rfl⟩
  rw [hS]
  have HO := Lib.hid hO
  have HS := Lib.hid hS
  have HN := Lib.hid hn
  clear hO hS hL hA hn
  go_enter Try.func19, Try.ntmps19
  go_upto_region 4 with (go_at_call 15; ((with_reducible refine HO.out.mono ?_); rintro e w1 ⟨v, F, rfl, ho, hf, hh, hl, hu⟩; have HR := Lib.hid ho; have HF := Lib.hid hf; have HH := Lib.hid hh; have HLn := Lib.hid hl; have HU := Lib.hid hu; clear ho hf hh hl hu))
  have HSum := Lib.hid (show sumF F = S by
    rw [← HS.out, HF.out.sum]
    exact cnt_congr (fun p => (HH.out p).trans (hasB_one L p)) _)
  obtain ⟨A2, c2, e, hr, -⟩ := owns_rgs HR.out
  subst e
  obtain ⟨m, hm⟩ : ∃ m, F.length = m := ⟨_, rfl⟩
  rw [hm]
  have HM := Lib.hid hm
  have HRg := Lib.hid hr
  have hmb : m ≤ 20000 := by have := HLn.out; have := HN.out; omega
  have HB := Lib.hid (show ∀ i, 0 ≤ sumF (F.take i) ∧ sumF (F.take i) ≤ 1099511627776 from fun i => by
    have h1 := sum_take (lo := -1) i HF.out
    have h2 := cnt_le (f := has F) 1099511627776
    have h3 := HF.out.sum
    omega)
  clear hm hr
  go_wp2
  go_loopg [3, 5] m (fun g sv iv wr => ∃ i : Nat, g = m - i ∧ iv = .int .i64 (i : Nat) ∧ i ≤ m ∧ sv = .int .i64 (sumF (F.take i)) ∧ Hid (Up w1 wr))
  case atStart => exact ⟨0, rfl, rfl, Nat.zero_le _, rfl, Lib.hid (Up.refl _)⟩
  case round =>
    obtain ⟨i, hg, rfl, hi, rfl, HV⟩ := hrel
    have HG := Lib.hid hg
    clear hg
    obtain ⟨T, hT⟩ : ∃ T, sumF (F.take i) = T := ⟨_, rfl⟩
    rw [hT]
    by_cases hlt : i < m
    · have hiF : i < F.length := by have := HM.out; omega
      obtain ⟨b, o, hA2, -, c0, c1⟩ := (HRg.out.up HV.out).at_ i hiF
      subst hA2
      obtain ⟨⟨r1, r2⟩, hr⟩ : ∃ r, F[i] = r := ⟨_, rfl⟩
      rw [hr] at c0 c1
      dsimp only at c0 c1
      have hii : (i : Int) < m := by omega
      have hfi := formA_at (lo := -1) (by omega) HF.out i hiF
      rw [hr] at hfi
      have hT2 : T + r2 - r1 = sumF (F.take (i + 1)) := by
        rw [List.take_succ_eq_append_getElem hiF, sumF_append, hT, hr]
        have : sumF [((r1, r2) : Rng)] = r2 - r1 + 0 := rfl
        rw [this]
        omega
      have hTb := HB.out i
      rw [hT] at hTb
      obtain ⟨f1, f2, f3, -⟩ := hfi
      dsimp only at f1 f2 f3
      obtain ⟨q1, q2⟩ : IntKind.i64.wrap (T + r2) = T + r2 ∧ IntKind.i64.wrap (T + r2 - r1) = T + r2 - r1 := ⟨IntWalk.i64_in _ (by omega), IntWalk.i64_in _ (by omega)⟩
      have HT2 := Lib.hid hT2
      clear hT2 hT hr hTb f1 f2 f3
      go_wp2
      go_quiet (fail)
      clear q1 q2
      go_wp2
      go_roundg (m - (i + 1))
      case measure => rw [HG.out]; omega
      case rel => exact ⟨i + 1, rfl, by go_num, by omega, by rw [HT2.out], Lib.hid (HV.out.trans (Up.drewN _ _))⟩
    · obtain rfl : i = m := by omega
      have f0 : decide (i < i) = false := decide_eq_false hlt
      have HTS := Lib.hid (show T = S by rw [← hT, ← HSum.out, List.take_of_length_le (by have := HM.out; omega)])
      clear hlt hT
      go_wp2
      go_ret
      exact ⟨ret_int HTS.out, HU.out.trans HV.out⟩
end Go.Proofs.Ytbgdphjjepbafaa
