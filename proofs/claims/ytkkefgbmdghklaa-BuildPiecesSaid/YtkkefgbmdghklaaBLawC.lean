/- BuildPieces, walked: what is out of its bounds, and what may not be put. -/
import Derived.Test.YtkkefgbmdghklaaBCopy
import Derived.Test.YtkkefgbmdghklaaBShift
namespace Go.Proofs.Ytkkefgbmdghklaa
open Go.RowKit

theorem BUp.up' {w w' : World} {bb B : Nat} {k : Int} {b : Bs} (h : BUp w bb B k b) (hu : Up w w') : BUp w' bb B k b := BAt.up h hu
set_option maxRecDepth 100000 in
set_option maxHeartbeats 2000000 in
theorem pieces_out (w : World) (A : Option Addr) (n c : Nat) (a1 a2 a3 : Int) (h : 3000 < n ∨ a1 < 0 ∨ 524288 < a1) : Calls Try.prog 5 #[.slice A n c, .int .i64 a1, .int .i64 a2, .int .i64 a3] w fun e w' => e = .returned (.bool true) ∧ Below w.heap.size w w' := by
  have HW := Lib.hid (fun W => wakes_any W)
  by_cases h1 : 3000 < n
  · have h2 : (3000 : Int) < n := by omega
    clear h h1
    go_enter Try.func5, Try.ntmps5
    go_wp2_with (go_at_call 11; ((with_reducible refine (HW.out _).mono ?_); rintro e w1 ⟨rfl, hu⟩; have HU := Lib.hid hu; clear hu))
    go_ret
    exact ⟨rfl, HU.out⟩
  have f1 : decide ((3000 : Int) < n) = false := decide_eq_false (by omega)
  by_cases h2 : a1 < 0
  · clear h h1
    go_enter Try.func5, Try.ntmps5
    go_wp2_with (go_at_call 11; ((with_reducible refine (HW.out _).mono ?_); rintro e w1 ⟨rfl, hu⟩; have HU := Lib.hid hu; clear hu))
    go_ret
    exact ⟨rfl, HU.out⟩
  have f2 : decide (a1 < 0) = false := decide_eq_false h2
  have h3 : 524288 < a1 := by omega
  clear h h1 h2
  go_enter Try.func5, Try.ntmps5
  go_wp2_with (go_at_call 11; ((with_reducible refine (HW.out _).mono ?_); rintro e w1 ⟨rfl, hu⟩; have HU := Lib.hid hu; clear hu))
  go_ret
  exact ⟨rfl, HU.out⟩
/-- A builder to which a copy is put. -/
theorem put_copy {w1 w2 : World} {bb B : Nat} {k : Int} {b : Bs} (hb : BUp w1 bb B k b) (hok : BOk b) (hu : Up w1 w2) (hB : B ≤ w1.heap.size) {A : Option Addr} {n c : Nat} {L : List Ev} (he : Evs w2 A n L) (hc : n ≤ c) (hA : ∀ a, A = some a → w1.heap.size ≤ a.block) (hev : ∀ e ∈ L, EvOk e) (hn : b.N.length + n ≤ 1000000) (at_ : Int) :
    Calls Try.prog 8 #[.pointer (some ⟨bb, 0, none⟩), .slice A n c, .int .i64 at_] w2 fun e w' => e = .returned (.int .i64 (putE at_ b L)) ∧ BUp w' bb B k (putB at_ b L) ∧ Below B w1 w' := by
  refine (put_up w1 w2 bb B k b hb hok hu hB A n c L he hc (fun a e _ => .inr (hA a e)) hev hn at_).mono ?_
  rintro e w' ⟨h1, h2, h3⟩
  exact ⟨h1, h2, Below.trans (Below.mono hu hB) (h3.below (Nat.le_trans hB (Below.size hu)) (fun i h => h.1))⟩
set_option maxRecDepth 100000 in
set_option maxHeartbeats 2000000 in
theorem pieces_bad (w : World) (A : Option Addr) (n c : Nat) (L : List Ev) (a1 a2 a3 : Int) (hL : EArg w A n c L) (hz : A = none → n = 0 ∧ c = 0) (hn : n ≤ 3000) (ha : 0 ≤ a1 ∧ a1 ≤ 524288) (h0 : putE a1 Bs.new L ≠ 0) :
    Calls Try.prog 5 #[.slice A n c, .int .i64 a1, .int .i64 a2, .int .i64 a3] w fun e w' => e = .returned (.bool true) ∧ Below w.heap.size w w' := by
  have HW := Lib.hid (fun W => wakes_any W)
  have HNw := Lib.hid (new_any w 7)
  have f1 : decide ((3000 : Int) < n) = false := decide_eq_false (by omega)
  have f2 : decide (a1 < 0) = false := decide_eq_false (by omega)
  have f3 : decide (524288 < a1) = false := decide_eq_false (by omega)
  have hpb : putB a1 Bs.new L = Bs.new := by unfold putB; rw [if_neg h0]
  obtain ⟨z, hzz⟩ : ∃ z, putE a1 Bs.new L = z := ⟨_, rfl⟩
  rw [hzz] at h0
  have f4 : (z == 0) = false := beq_false_of_ne h0
  have HPb := Lib.hid hpb
  have HZz := Lib.hid hzz
  have HL := Lib.hid hL
  have hn6 : n ≤ 1000000 := by omega
  clear hL hn ha h0 hpb hzz
  go_enter Try.func5, Try.ntmps5
  go_wp2_with (first
    | (go_at_call 13; ((with_reducible refine HNw.out.mono ?_); rintro e w1 ⟨rfl, hb1, hu1, hs1⟩; have HB1 : Hid (BUp w1 w.heap.size w.heap.size 7 Bs.new) := Lib.hid (hb1.mono (fun i _ h => Nat.le_of_eq h.symm)); have HU1 := Lib.hid hu1; have hev1 := (HL.out.evs.up hu1); clear hb1 hu1 hs1))
    | (at_builtin; (refine wpList_copy_evs rfl _ _ rfl rfl A n c L rfl hev1 hz hn6 ?_); intro v2 w2 hown2 hu2; obtain ⟨A2, c2, rfl, he2, hc2, hb2, hz2⟩ := evs_row hown2; have HP := Lib.hid (put_copy HB1.out BOk.new hu2 (Below.size HU1.out) he2 hc2 hb2 HL.out.ok (by show 0 + n ≤ _; omega) a1); rw [HZz.out, HPb.out] at HP; clear hown2 hu2 he2 hc2 hb2 hz2 hev1)
    | (go_at_call 8; ((with_reducible refine HP.out.mono ?_); rintro e w3 ⟨rfl, hb3, hu3⟩; have HU3 := Lib.hid (Below.trans HU1.out hu3); have HF := Lib.hid (far_any w3 _ _ 7 _ hb3); have HO := Lib.hid (open_any w3 _ _ 7 _ hb3); clear hb3 hu3))
    | (go_at_call 10; ((with_reducible refine HF.out.mono ?_); rintro e w4 ⟨rfl, rfl⟩))
    | (go_at_call 9; ((with_reducible refine HO.out.mono ?_); rintro e w4 ⟨rfl, rfl⟩))
    | (go_at_call 11; ((with_reducible refine (HW.out _).mono ?_); rintro e w1 ⟨rfl, hu⟩; have HU := Lib.hid hu; clear hu)))
  go_ret
  exact ⟨rfl, Below.trans HU3.out (Below.mono HU.out (Below.size HU3.out))⟩
end Go.Proofs.Ytkkefgbmdghklaa
