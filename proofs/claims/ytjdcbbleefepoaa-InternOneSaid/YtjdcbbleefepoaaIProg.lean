/- The program's table keeps what the statements ask of it. -/
import Derived.Test.YtjdcbbleefepoaaIProgB
namespace Go.Proofs.Ytjdcbbleefepoaa
open Go.RowKit
attribute [local go_sem ↓] ldS_eq stS_eq elS_eq neS_eq zrS_eq bsS_eq bdS_eq
attribute [local go_sem] ldS_run stS_run elS_run neS_run zrS_run bsS_run bdS_run0 bdS_run1 g0_rule ldV_drew ldV_drewN

set_option maxRecDepth 100000 in
set_option maxHeartbeats 2000000 in
theorem tState_out (w : World) (tb mb : Nat) (v : Value) (L : List (Array Value)) (i : Int) (hT : TabI w tb mb v L) (hi : ¬ (0 ≤ i ∧ i < L.length)) :
    Calls Try.prog 12 #[ptr tb, .int .i64 i] w fun e w' => e = .returned (.tuple #[.agg z0, .int .i64 5]) ∧ Up w w' := by
  obtain ⟨A, cap, rfl⟩ := none_form hT.own
  obtain ⟨n, hln⟩ : ∃ n, L.length = n := ⟨_, rfl⟩
  rw [hln] at hi
  have hu := Up.alloc w (.cells z0 TS)
  have hc : (w.alloc (.cells z0 TS)).cell? ⟨tb, 0, none⟩ = some (.slice A n cap) := by rw [← hln]; exact cell_up hu (cellOf hT.box rfl)
  have hst : stV (.pointer (some ⟨w.heap.size, 0, none⟩)) (.agg z0) (w.alloc (.cells z0 TS)) = some ((w.alloc (.cells z0 TS)).setCells w.heap.size 0 z0.toList) := stV_of z0_is (there_box w z0_is TS)
  have hld := set_ld z0_is (there_box w z0_is TS)
  have HU := Lib.hid (set_upS (b := w.heap.size) (o := 0) (l := z0.toList) hu (Nat.le_refl _))
  clear hT hu hln
  by_cases h0 : i < 0
  · clear hi
    go_enter Try.func12, Try.ntmps12
    go_wp2
    refine bodyPost_ret (res_S rfl _ _ _ _ rfl hld) rfl ?_
    exact ⟨rfl, HU.out⟩
  · have g0 : decide (i < 0) = false := decide_eq_false h0
    have g1 : (n : Int) ≤ i := by omega
    clear hi h0
    go_enter Try.func12, Try.ntmps12
    go_wp2
    refine bodyPost_ret (res_S rfl _ _ _ _ rfl hld) rfl ?_
    exact ⟨rfl, HU.out⟩
set_option maxRecDepth 100000 in
set_option maxHeartbeats 2000000 in
theorem tState_in (w : World) (tb mb : Nat) (v : Value) (L : List (Array Value)) (i : Nat) (hT : TabI w tb mb v L) (hi : i < L.length) :
    Calls Try.prog 12 #[ptr tb, .int .i64 (i : Nat)] w fun e w' => e = .returned (.tuple #[.agg L[i], .int .i64 0]) ∧ Up w w' := by
  obtain ⟨g, cap, rfl, -, -, hr⟩ := row_range hT.own hT.st i hi
  obtain ⟨n, hln⟩ : ∃ n, L.length = n := ⟨_, rfl⟩
  have hy := hT.st _ (List.getElem_mem hi)
  obtain ⟨y, hyy⟩ : ∃ y, L[i] = y := ⟨_, rfl⟩
  rw [hyy] at hr hy ⊢
  have hlt : i < n := by omega
  have hu := Up.alloc w (.cells z0 TS)
  have hc : (w.alloc (.cells z0 TS)).cell? ⟨tb, 0, none⟩ = some (.slice (some ⟨g, 0, none⟩) n cap) := by rw [← hln]; exact cell_up hu (cellOf hT.box rfl)
  have hl := ldV_of hy (range_up hu hr)
  have HTH := Lib.hid (there_box w z0_is TS)
  have HA := Lib.hid (fun W => apart_any W y hy)
  have HU := Lib.hid hu
  have HY := Lib.hid hy
  have p0 : (0 : Int) ≤ i := by omega
  have p1 : (i : Int) < n := by omega
  have g0 : decide ((i : Int) < 0) = false := decide_eq_false (by omega)
  have g1 : decide (n ≤ i) = false := decide_eq_false (by omega)
  clear hT hu hln hyy hr hy hi
  go_enter Try.func12, Try.ntmps12
  go_wp2_with (go_at_call 15; ((with_reducible refine (HA.out _).mono ?_); rintro e2 w2 ⟨rfl, hu⟩; have hst := stV_of HY.out (there_up hu HTH.out); have hld := set_ld HY.out (there_up hu HTH.out); have HU3 := Lib.hid (set_upS (b := w.heap.size) (o := 0) (l := y.toList) (HU.out.trans hu) (Nat.le_refl _)); clear hu))
  refine bodyPost_ret (res_S rfl _ _ _ _ rfl hld) rfl ?_
  exact ⟨rfl, HU3.out⟩
theorem tState (w : World) (tb mb : Nat) (v : Value) (L : List (Array Value)) (i : Int) (hT : TabI w tb mb v L) :
    Calls Try.prog 12 #[ptr tb, .int .i64 i] w fun e w' => e = .returned (.tuple #[.agg (stT L i), .int .i64 (stE L.length i)]) ∧ Up w w' := by
  by_cases hi : 0 ≤ i ∧ i < L.length
  · obtain ⟨k, rfl⟩ : ∃ k : Nat, i = k := ⟨i.toNat, by omega⟩
    have hk : k < L.length := by omega
    have e1 : stT L k = L[k] := by unfold stT; rw [if_pos hi]; simp [hk]
    have e2 : stE L.length k = 0 := by unfold stE; rw [if_pos hi]
    rw [e1, e2]
    exact tState_in w tb mb v L k hT hk
  · have e1 : stT L i = z0 := by unfold stT; rw [if_neg hi]
    have e2 : stE L.length i = 5 := by unfold stE; rw [if_neg hi]
    rw [e1, e2]
    exact tState_out w tb mb v L i hT hi
set_option maxRecDepth 100000 in
set_option maxHeartbeats 2000000 in
theorem tLen (w : World) (tb mb : Nat) (v : Value) (L : List (Array Value)) (hT : TabI w tb mb v L) :
    Calls Try.prog 14 #[ptr tb] w fun e w' => e = .returned (.int .i64 (L.length : Nat)) ∧ Up w w' := by
  obtain ⟨A, cap, rfl⟩ := none_form hT.own
  have c0 : w.cell? ⟨tb, 0, none⟩ = some (.slice A L.length cap) := cellOf hT.box rfl
  generalize L.length = n at c0 ⊢
  clear hT
  go_enter Try.func14, Try.ntmps14
  go_wp2
  go_ret
  exact ⟨rfl, Up.refl _⟩
set_option maxRecDepth 100000 in
set_option maxHeartbeats 2000000 in
theorem tNew (w : World) : Calls Try.prog 7 #[] w fun e w' => ∃ tb mb, e = .returned (ptr tb) ∧ TabI w' tb mb (.slice none 0 0) [] ∧ w.heap.size ≤ tb ∧ w.heap.size ≤ mb ∧ Up w w' := by
  have hmk : (Instr.makeMap 51 none).run Try.prog w = .ok (.map (some w.heap.size)) (w.alloc (.map #[] 0)) := by first | kernel_rfl | rfl | simp [Instr.makeMap, go_sem]
  go_enter Try.func7, Try.ntmps7
  go_wp2
  go_ret
  refine ⟨w.heap.size + 1, w.heap.size, by simp [ptr], ⟨?_, ⟨rfl, .inl ⟨rfl, rfl⟩⟩, ?_, ⟨by simp [Value.ownBlock], by simp [Value.ownBlock], by omega⟩, by simp, once_nil⟩, by omega, by omega, (Up.alloc _ _).trans (Up.alloc _ _)⟩
  · have := Go.heap_alloc_new (w.alloc (.map #[] 0)) (.cells #[.slice none 0 0, .map (some w.heap.size)] 53)
    rwa [World.size_alloc] at this
  · exact (MapS.made w).up (Up.alloc _ _)
set_option maxRecDepth 100000 in
set_option maxHeartbeats 2000000 in
theorem tId0 (w : World) (x : Array Value) : Calls Try.prog 8 #[.pointer none, .agg x] w fun e w' => e = .returned (.int .i64 0) ∧ Up w w' := by
  have HU := Lib.hid (Up.alloc w (.cells x TS))
  go_enter Try.func8, Try.ntmps8
  go_wp2
  go_ret
  exact ⟨rfl, HU.out⟩
set_option maxRecDepth 100000 in
set_option maxHeartbeats 2000000 in
theorem tFind0 (w : World) (x : Array Value) : Calls Try.prog 10 #[.pointer none, .agg x] w fun e w' => e = .returned (.tuple #[.int .i64 0, .bool false]) ∧ Up w w' := by
  have HU := Lib.hid (Up.alloc w (.cells x TS))
  go_enter Try.func10, Try.ntmps10
  go_wp2
  go_ret2
  exact ⟨rfl, HU.out⟩
set_option maxRecDepth 100000 in
set_option maxHeartbeats 2000000 in
theorem tState0 (w : World) (i : Int) : Calls Try.prog 12 #[.pointer none, .int .i64 i] w fun e w' => e = .returned (.tuple #[.agg z0, .int .i64 8]) ∧ Up w w' := by
  have hst : stV (.pointer (some ⟨w.heap.size, 0, none⟩)) (.agg z0) (w.alloc (.cells z0 TS)) = some ((w.alloc (.cells z0 TS)).setCells w.heap.size 0 z0.toList) := stV_of z0_is (there_box w z0_is TS)
  have hld := set_ld z0_is (there_box w z0_is TS)
  have HU := Lib.hid (set_upS (b := w.heap.size) (o := 0) (l := z0.toList) (Up.alloc w (.cells z0 TS)) (Nat.le_refl _))
  go_enter Try.func12, Try.ntmps12
  go_wp2
  refine bodyPost_ret (res_S rfl _ _ _ _ rfl hld) rfl ?_
  exact ⟨rfl, HU.out⟩
set_option maxRecDepth 100000 in
set_option maxHeartbeats 2000000 in
theorem tLen0 (w : World) : Calls Try.prog 14 #[.pointer none] w fun e w' => e = .returned (.int .i64 0) ∧ Up w w' := by
  go_enter Try.func14, Try.ntmps14
  go_wp2
  go_ret
  exact ⟨rfl, Up.refl _⟩
/-- A table of these states, all of whose blocks are of G. -/
def TabP (w : World) (tb : Nat) (G : Nat → Prop) (L : List (Array Value)) : Prop := ∃ mb v, TabI w tb mb v L ∧ G tb ∧ G mb ∧ ∀ g, v.ownBlock = some g → G g
theorem own_lt {w : World} {v : Value} {n : Nat} {xs : List Value} (h : w.ownsRow 0 TS 82 v n xs) {g : Nat} (e : v.ownBlock = some g) : g < w.heap.size := by
  rcases h.2 with ⟨h0, -⟩ | ⟨g', cap', cur, h0, -, hg, -⟩
  · rw [h0] at e; cases e
  · rw [h0] at e
    obtain rfl := Option.some.inj e
    exact (Array.getElem?_eq_some_iff.1 hg).1
theorem intC : IntC TabP where
  turn := fun {w w' tb G G' L} ⟨mb, v, h, g1, g2, g3⟩ ht hG => ⟨mb, v, h.turn ht (hG tb (Array.getElem?_eq_some_iff.1 h.box).1 g1) (fun g e => hG g (own_lt h.own e) (g3 g e)) (hG mb h.map.lt g2), g1, g2, g3⟩
  mono := fun {w tb G G' L} ⟨mb, v, h, g1, g2, g3⟩ hG => ⟨mb, v, h, hG tb (Array.getElem?_eq_some_iff.1 h.box).1 g1, hG mb h.map.lt g2, fun g e => hG g (own_lt h.own e) (g3 g e)⟩
  st := fun ⟨mb, v, h, _⟩ => h.st
  new := fun w => (tNew w).mono fun e w' ⟨tb, mb, he, h, h1, h2, hu⟩ => ⟨tb, he, ⟨mb, _, h, h1, h2, fun g e => by cases e⟩, hu⟩
  id := fun w tb G L x ⟨mb, v, h, g1, g2, g3⟩ hx hn => by
    by_cases hin : fI L x < L.length
    · refine (tId_in w tb mb v L x h hx hn hin).mono fun e w' ⟨he, hu⟩ => ⟨he, ?_, .of_up G hu⟩
      have e1 : addS L x = L := by unfold addS; rw [if_pos hin]
      rw [e1]
      exact ⟨mb, v, h.up hu, .inl g1, .inl g2, fun g e => .inl (g3 g e)⟩
    · refine (tId_out w tb mb v L x h hx hn hin).mono fun e w' ⟨he, v', h', ho, ht⟩ => ?_
      have e1 : addS L x = L ++ [x] := by unfold addS; rw [if_neg hin]
      have e2 : fI L x = L.length := by have := fI_le L x; omega
      rw [e1, e2]
      refine ⟨he, ⟨mb, v', h', .inl g1, .inl g2, fun g e => ?_⟩, ht.mono fun i _ k => ?_⟩
      · rcases ho g e with k | k
        · exact .inl (g3 g k)
        · exact .inr k
      · rcases k with k | k | k
        · rw [k]; exact g1
        · rw [k]; exact g2
        · exact g3 i k
  find := fun w tb G L x ⟨mb, v, h, _⟩ hx hn => tFind w tb mb v L x h hx hn
  state := fun w tb G L i ⟨mb, v, h, _⟩ _ _ => tState w tb mb v L i h
  len := fun w tb G L ⟨mb, v, h, _⟩ => tLen w tb mb v L h
  id0 := fun w x _ => tId0 w x
  find0 := fun w x _ => tFind0 w x
  state0 := fun w i _ => tState0 w i
  len0 := fun w => tLen0 w
end Go.Proofs.Ytjdcbbleefepoaa
