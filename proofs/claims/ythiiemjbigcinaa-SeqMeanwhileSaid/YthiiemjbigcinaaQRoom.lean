/- Whether there is room: the program's hasRoom. -/
import Derived.Test.YthiiemjbigcinaaQSizes
namespace Go.Proofs.Ythiiemjbigcinaa
open Go.RowKit

theorem sum_cons_take {Z : List Int} {j : Nat} (h : j < Z.length) : (Z.take (j + 1)).sum = (Z.take j).sum + Z[j] := by
  rw [List.take_succ_eq_append_getElem h, List.sum_append]
  simp
theorem sum_nn {Z : List Int} (h : ∀ z ∈ Z, 0 ≤ z) : 0 ≤ Z.sum := by
  induction Z with
  | nil => exact Int.le_refl 0
  | cons x t ih =>
    have h1 := h x (List.mem_cons_self ..)
    have h2 := ih fun y hy => h y (List.mem_cons_of_mem _ hy)
    rw [List.sum_cons]
    omega
theorem sum_take_le {Z : List Int} (h : ∀ z ∈ Z, 0 ≤ z) (j : Nat) : (Z.take j).sum ≤ Z.sum := by
  have h1 : Z.sum = (Z.take j).sum + (Z.drop j).sum := by rw [← List.sum_append, List.take_append_drop]
  have h2 := sum_nn (Z := Z.drop j) fun z hz => h z (List.mem_of_mem_drop hz)
  omega
set_option maxRecDepth 100000 in
set_option maxHeartbeats 2000000 in
theorem room_walk (w : World) (sb : Nat) (p : Option Addr) (i n j c m d : Nat) (s P1 P2 T M C E : Int) (B : Option Addr) (Z : List Int) (KL : SLn w (ptr sb) c) (KS : SSz w (ptr sb) s) (c0 : w.cell? ⟨sb, 0, none⟩ = some (.pointer p))
    (PJ : ∀ W, Up w W → Calls Try.prog 19 #[.pointer p, .int .i64 (j : Nat)] W fun e w' => e = .returned (.int .i64 P1) ∧ Up W w')
    (PI : ∀ W, Up w W → Calls Try.prog 19 #[.pointer p, .int .i64 (i : Nat)] W fun e w' => e = .returned (.int .i64 P2) ∧ Up W w')
    (hj : IntKind.i64.wrap ((i : Int) + n) = (j : Int)) (h1 : IntKind.i64.wrap (P1 - P2) = P1 - P2) (h2 : IntKind.i64.wrap (s - (P1 - P2)) = T) (h3 : IntKind.i64.wrap (1099511627776 - T) = M) (h4 : IntKind.i64.wrap ((c : Int) - n) = C) (h5 : IntKind.i64.wrap (2097152 - C) = E)
    (hM0 : 0 ≤ M) (hM1 : M ≤ 1099511627776) (hZ : Nums w B m Z) (hz : ∀ z ∈ Z, 0 ≤ z) (hm : m ≤ 1000000) :
    Calls Try.prog 25 #[ptr sb, .int .i64 (i : Nat), .int .i64 (n : Nat), .slice B m d] w fun e w' => e = .returned (.bool (decide (Z.sum ≤ M ∧ (m : Int) ≤ E))) ∧ Up w w' := by
  have HL := Lib.hid KL
  have HS := Lib.hid KS
  have HJ := Lib.hid PJ
  have HI := Lib.hid PI
  have HZ := Lib.hid hZ
  have HN := Lib.hid hZ.len
  have HZ0 := Lib.hid hz
  have HM := Lib.hid (And.intro hM0 hM1)
  have hS : Up w w ∧ w.cell? ⟨sb, 0, none⟩ = some (.pointer p) := ⟨Up.refl w, c0⟩
  clear KL KS PJ PI hZ hz c0 hM0 hM1
  go_enter Try.func25, Try.ntmps25
  go_wp2
  go_region_held3 (fun w' => Up w w' ∧ w'.cell? ⟨sb, 0, none⟩ = some (.pointer p))
    (first | assumption | with_reducible exact qkeep1 hu3 (by assumption) | with_reducible exact qkeep1 hu2 (by assumption) | with_reducible exact qkeep1 hu1 (by assumption) | with_reducible exact qkeep1 (Up.drew _) (by assumption))
    (first
      | (go_at_call 13; ((with_reducible refine (HS.out.at_ ?_).mono ?_); (exact (by assumption : Up w _ ∧ _).1); rintro e w1 ⟨rfl, hu1⟩))
      | (go_at_call 19; ((with_reducible refine (HJ.out _ ?_).mono ?_); (exact (by assumption : Up w _ ∧ _).1); rintro e w2 ⟨rfl, hu2⟩))
      | (go_at_call 19; ((with_reducible refine (HI.out _ ?_).mono ?_); (exact (by assumption : Up w _ ∧ _).1); rintro e w3 ⟨rfl, hu3⟩)))
  have HU3 := Lib.hid (by assumption : Up w w3 ∧ _).1
  clear hS hu1 hu2 hu3 HJ HI HS hj h1 h2
  go_wp2
  go_loopg [10, 12, 35] m (fun g r _ jv wr => ∃ k : Nat, g = m - k ∧ jv = .int .i64 (k : Nat) ∧ k ≤ m ∧ (∃ q : Int, r = .int .i64 q ∧ Hid (q = M - (Z.take k).sum ∧ 0 ≤ q)) ∧ Hid (Up w wr))
  case atStart => exact ⟨0, rfl, rfl, Nat.zero_le _, ⟨M, rfl, Lib.hid ⟨by simp, HM.out.1⟩⟩, HU3⟩
  case round =>
    obtain ⟨k, hg, rfl, hk, ⟨q, rfl, HQ⟩, HU⟩ := hrel
    have HG := Lib.hid hg
    clear hg HU3 h3
    by_cases hlt : k < m
    · have hkL : k < Z.length := by have := HN.out; omega
      obtain ⟨b, o, hA, hb, z0⟩ := (HZ.out.up HU.out).at_ k hkL
      subst hA
      obtain ⟨z, hzk⟩ : ∃ z, Z[k] = z := ⟨_, rfl⟩
      rw [hzk] at z0
      have hz1 : 0 ≤ z := hzk ▸ HZ0.out _ (List.getElem_mem hkL)
      have hsum := sum_cons_take hkL
      rw [hzk] at hsum
      have hle := sum_take_le HZ0.out (k + 1)
      have hge := sum_nn (Z := Z.take k) fun z hz => HZ0.out z (List.mem_of_mem_take hz)
      have hkk : (k : Int) < m := by omega
      have hk0 : (0 : Int) ≤ k := by omega
      have hq := HQ.out
      have hMM := HM.out
      by_cases hzq : q < z
      · have HNo := Lib.hid (show ¬ (Z.sum ≤ M ∧ (m : Int) ≤ E) from fun h => by omega)
        clear hb hzk hz1 hsum hle hge hq hMM
        go_wp2
        go_ret
        exact ⟨ret_bool (decide_eq_false HNo.out).symm, HU.out⟩
      · have f1 : decide (q < z) = false := decide_eq_false hzq
        have e1 : IntKind.i64.wrap (q - z) = q - z := IntWalk.i64_in _ (by omega)
        have HQ2 : Hid (q - z = M - (Z.take (k + 1)).sum ∧ 0 ≤ q - z) := Lib.hid ⟨by omega, by omega⟩
        clear hb hzk hz1 hsum hle hge hq hMM hzq
        go_wp2
        go_roundg (m - (k + 1))
        case measure => rw [HG.out]; omega
        case rel => exact ⟨k + 1, rfl, by go_num, by omega, ⟨q - z, rfl, HQ2⟩, HU⟩
    · obtain rfl : k = m := by omega
      have f0 : decide (k < k) = false := decide_eq_false hlt
      have hU := HU.out
      have HQS := Lib.hid (show Z.sum ≤ M from by
        have h6 := HQ.out
        rw [List.take_of_length_le (by have := HN.out; omega)] at h6
        omega)
      clear hlt HU
      go_wp2_with (go_at_call 12; ((with_reducible refine (HL.out.at_ hU).mono ?_); rintro e w4 ⟨rfl, hu4⟩; have hU := hU.trans hu4; clear hu4))
      go_ret
      exact ⟨ret_bool (by simp only [HQS.out, true_and]), hU⟩
end Go.Proofs.Ythiiemjbigcinaa
