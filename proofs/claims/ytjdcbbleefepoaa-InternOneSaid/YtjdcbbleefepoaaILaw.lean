/- What the statements ask of the program's tables; the known table; no table. -/
import Derived.Test.YtjdcbbleefepoaaIArg
namespace Go.Proofs.Ytjdcbbleefepoaa
open Go.RowKit
attribute [local go_sem ↓] ldS_eq stS_eq elS_eq neS_eq zrS_eq bsS_eq bdS_eq
attribute [local go_sem] ldS_run stS_run elS_run neS_run zrS_run bsS_run bdS_run0 bdS_run1 g0_rule ldV_drew ldV_drewN

abbrev ptr (sb : Nat) : Value := .pointer (some ⟨sb, 0, none⟩)
/-- S w tb G L: at the block tb stands a table of these states, all of whose blocks are of G. -/
structure IntC (S : World → Nat → (Nat → Prop) → List (Array Value) → Prop) : Prop where
  turn : ∀ {w w' : World} {tb : Nat} {G G' : Nat → Prop} {L : List (Array Value)}, S w tb G L → Turn G' w w' → (∀ i, i < w.heap.size → G i → ¬ G' i) → S w' tb G L
  mono : ∀ {w : World} {tb : Nat} {G G' : Nat → Prop} {L : List (Array Value)}, S w tb G L → (∀ i, i < w.heap.size → G i → G' i) → S w tb G' L
  st : ∀ {w : World} {tb : Nat} {G : Nat → Prop} {L : List (Array Value)}, S w tb G L → ∀ x ∈ L, IsS x
  new : ∀ w, Calls Try.prog 7 #[] w fun e w' => ∃ tb, e = .returned (ptr tb) ∧ S w' tb (fun i => w.heap.size ≤ i) [] ∧ Up w w'
  id : ∀ w tb G L x, S w tb G L → IsS x → L.length ≤ 1000000 → Calls Try.prog 8 #[ptr tb, .agg x] w fun e w' => e = .returned (.int .i64 (fI L x : Nat)) ∧ S w' tb (fun j => G j ∨ w.heap.size ≤ j) (addS L x) ∧ Turn G w w'
  find : ∀ w tb G L x, S w tb G L → IsS x → L.length ≤ 1000000 → Calls Try.prog 10 #[ptr tb, .agg x] w fun e w' => e = .returned (.tuple #[.int .i64 (fE L x : Nat), .bool (fB L x)]) ∧ Up w w'
  state : ∀ w tb G L i, S w tb G L → L.length ≤ 1000000 → (Lit.int .i64 i).wf = true → Calls Try.prog 12 #[ptr tb, .int .i64 i] w fun e w' => e = .returned (.tuple #[.agg (stT L i), .int .i64 (stE L.length i)]) ∧ Up w w'
  len : ∀ w tb G L, S w tb G L → Calls Try.prog 14 #[ptr tb] w fun e w' => e = .returned (.int .i64 (L.length : Nat)) ∧ Up w w'
  id0 : ∀ w x, IsS x → Calls Try.prog 8 #[.pointer none, .agg x] w fun e w' => e = .returned (.int .i64 0) ∧ Up w w'
  find0 : ∀ w x, IsS x → Calls Try.prog 10 #[.pointer none, .agg x] w fun e w' => e = .returned (.tuple #[.int .i64 0, .bool false]) ∧ Up w w'
  state0 : ∀ w i, (Lit.int .i64 i).wf = true → Calls Try.prog 12 #[.pointer none, .int .i64 i] w fun e w' => e = .returned (.tuple #[.agg z0, .int .i64 8]) ∧ Up w w'
  len0 : ∀ w, Calls Try.prog 14 #[.pointer none] w fun e w' => e = .returned (.int .i64 0) ∧ Up w w'
theorem fI_nil (x : Array Value) : fI [] x = 0 := rfl
theorem addS_nil (x : Array Value) : addS [] x = [x] := rfl
theorem eqS_false {x y : Array Value} (h : x ≠ y) : eqS x y = false := by
  cases hq : eqS x y with
  | false => rfl
  | true => exact absurd (eqS_true.1 hq) h
theorem fI_01 : fI [z0] z1 = 1 := fI_none (L := [z0]) fun k hk => by
  have hk' : k < 1 := hk
  obtain rfl : k = 0 := by omega
  exact eqS_false z01
theorem fI_00 (r : List (Array Value)) (x : Array Value) : fI (x :: r) x = 0 := fI_at (i := 0) (by simp) (eqS_self x) fun k hk => absurd hk (Nat.not_lt_zero _)
theorem addS_01 : addS [z0] z1 = [z0, z1] := by unfold addS; rw [fI_01]; rfl
theorem addS_00 : addS [z0, z1] z0 = [z0, z1] := by unfold addS; rw [fI_00]; rfl
theorem stT_1 : stT [z0, z1] 1 = z1 := rfl
section
variable {S : World → Nat → (Nat → Prop) → List (Array Value) → Prop} (hC : IntC S)
include hC
theorem IntC.up {w w' : World} {tb : Nat} {G : Nat → Prop} {L : List (Array Value)} (h : S w tb G L) (hu : Up w w') : S w' tb G L := hC.turn h (.of_up (fun _ => False) hu) (fun _ _ _ k => k)
/-- A table that is new since w. -/
structure NewS (S : World → Nat → (Nat → Prop) → List (Array Value) → Prop) (w : World) (tb : Nat) (L : List (Array Value)) (W : World) : Prop where
  s : S W tb (fun i => w.heap.size ≤ i) L
  up : Up w W
theorem NewS.more {w W W' : World} {tb : Nat} {L : List (Array Value)} (h : NewS S w tb L W) (hu : Up W W') : NewS S w tb L W' := ⟨hC.up h.s hu, h.up.trans hu⟩
theorem new_id {w W : World} {tb : Nat} {L : List (Array Value)} (h : NewS S w tb L W) {x : Array Value} (hx : IsS x) (hl : L.length ≤ 1000000) :
    Calls Try.prog 8 #[ptr tb, .agg x] W fun e w' => e = .returned (.int .i64 (fI L x : Nat)) ∧ NewS S w tb (addS L x) w' := by
  refine (hC.id W tb _ L x h.s hx hl).mono ?_
  rintro e w' ⟨h1, h2, h3⟩
  have hsz := Below.size h.up
  refine ⟨h1, hC.mono h2 (fun i _ k => ?_), h.up.trans' h3 (fun i g => g)⟩
  rcases k with k | k
  · exact k
  · exact Nat.le_trans hsz k
set_option maxRecDepth 100000 in
set_option maxHeartbeats 2000000 in
theorem iwakes_any (w : World) : Calls Try.prog 6 #[] w fun e w' => e = .returned (.bool true) ∧ Up w w' := by
  have H0 := Lib.hid (hC.new w)
  have H1 := Lib.hid (fun (W : World) (tb : Nat) (h : NewS S w tb [] W) => new_id hC h z0_is (by simp))
  have H2 := Lib.hid (fun (W : World) (tb : Nat) (h : NewS S w tb [z0] W) => new_id hC h z1_is (by simp))
  have H3 := Lib.hid (fun (W : World) (tb : Nat) (h : NewS S w tb [z0, z1] W) => new_id hC h z0_is (by simp))
  have H4 := Lib.hid (fun (W : World) (tb : Nat) (h : NewS S w tb [z0, z1] W) => hC.state W tb _ _ 1 h.s (by simp) (by decide))
  have H5 := Lib.hid (fun (W : World) (tb : Nat) (h : NewS S w tb [z0, z1] W) => hC.len W tb _ _ h.s)
  rw [fI_nil, addS_nil] at H1
  rw [fI_01, addS_01] at H2
  rw [fI_00, addS_00] at H3
  rw [stT_1, show stE ([z0, z1] : List (Array Value)).length 1 = 0 from by decide] at H4
  have HM := Lib.hid (fun (W W' : World) (tb : Nat) (L : List (Array Value)) (h : NewS S w tb L W) (hu : Up W W') => h.more hC hu)
  have q1 := eqV_of z1_is z1_is
  rw [eqS_self] at q1
  have hq := Lib.hid q1
  clear hC q1
  go_enter Try.func6, Try.ntmps6
  go_wp2_with (first
    | (go_at_call 7; ((with_reducible refine H0.out.mono ?_); rintro e w1 ⟨tb, rfl, hs, hu⟩; have HS := Lib.hid (NewS.mk hs hu); clear hs hu))
    | (go_at_call 8; ((with_reducible refine (H1.out _ _ HS.out).mono ?_); rintro e w2 ⟨rfl, hs⟩; have HS2 := Lib.hid hs; clear hs))
    | (go_at_call 8; ((with_reducible refine (H2.out _ _ HS2.out).mono ?_); rintro e w3 ⟨rfl, hs⟩; have HS3 := Lib.hid hs; clear hs))
    | (go_at_call 8; ((with_reducible refine (H3.out _ _ HS3.out).mono ?_); rintro e w4 ⟨rfl, hs⟩; have HS4 := Lib.hid hs; clear hs))
    | (go_at_call 12; ((with_reducible refine (H4.out _ _ HS4.out).mono ?_); rintro e w5 ⟨rfl, hu⟩; have hst := stV_of z1_is (there_box w5 z0_is TS); have HU5 := Lib.hid (hu.trans (set_upS (b := w5.heap.size) (o := 0) (l := z1.toList) (Up.alloc w5 (.cells z0 TS)) (Nat.le_refl _))); have HL := Lib.hid (set_ld z1_is (there_box w5 z0_is TS)); clear hu))
    | (go_at_call 14; ((with_reducible refine (H5.out _ _ (HM.out _ _ _ _ HS4.out HU5.out)).mono ?_); rintro e w6 ⟨rfl, hu⟩; have hl := ldV_up hu HL.out; have HU6 := Lib.hid (HU5.out.trans hu); have hq2 := hq.out; clear hu)))
  go_ret
  exact ⟨rfl, HS4.out.up.trans HU6.out⟩
set_option maxRecDepth 100000 in
set_option maxHeartbeats 2000000 in
theorem inil_walk (w : World) (x : Array Value) (hx : IsS x) (n : Int) (hn : (Lit.int .i64 n).wf = true) : Calls Try.prog 4 #[.agg x, .int .i64 n] w fun e w' => e = .returned (.bool true) ∧ Up w w' := by
  have HW := Lib.hid (fun W => iwakes_any hC W)
  have H1 := Lib.hid (fun W => hC.id0 W x hx)
  have H2 := Lib.hid (fun W => hC.find0 W x hx)
  have H3 := Lib.hid (fun W => hC.state0 W n hn)
  have H4 := Lib.hid (fun W => hC.len0 W)
  have hl := ldV_of hx (range_box w x TS)
  have HU := Lib.hid (Up.alloc w (.cells x TS))
  have q1 := eqV_of z0_is z0_is
  rw [eqS_self] at q1
  have hq := Lib.hid q1
  clear hC q1
  go_enter Try.func4, Try.ntmps4
  go_wp2_with (first
    | (go_at_call 10; ((with_reducible refine (H2.out _).mono ?_); rintro e w1 ⟨rfl, hu⟩; have hl := ldV_up hu hl; have HU := Lib.hid (HU.out.trans hu); clear hu))
    | (go_at_call 12; ((with_reducible refine (H3.out _).mono ?_); rintro e w2 ⟨rfl, hu⟩; have hst := stV_of z0_is (there_box w2 z0_is TS); have hu2 := hu.trans (set_upS (b := w2.heap.size) (o := 0) (l := z0.toList) (Up.alloc w2 (.cells z0 TS)) (Nat.le_refl _)); have hl := ldV_up hu2 hl; have HU := Lib.hid (HU.out.trans hu2); have HL := Lib.hid (set_ld z0_is (there_box w2 z0_is TS)); clear hu hu2))
    | (go_at_call 8; ((with_reducible refine (H1.out _).mono ?_); rintro e w3 ⟨rfl, hu⟩; have hl2 := ldV_up hu HL.out; have hq2 := hq.out; have HU := Lib.hid (HU.out.trans hu); clear hu))
    | (go_at_call 14; ((with_reducible refine (H4.out _).mono ?_); rintro e w4 ⟨rfl, hu⟩; have HU := Lib.hid (HU.out.trans hu); clear hu))
    | (go_at_call 6; ((with_reducible refine (HW.out _).mono ?_); rintro e w5 ⟨rfl, hu⟩; have HU := Lib.hid (HU.out.trans hu); clear hu)))
  go_ret
  exact ⟨rfl, HU.out⟩
end
end Go.Proofs.Ytjdcbbleefepoaa
