/- The program's table: what it looks like in memory; Find. -/
import Derived.Test.YtjdcbbleefepoaaILaw
import Derived.Test.YtjdcbbleefepoaaIMap
import Derived.Test.YtjdcbbleefepoaaIApart
import Derived.Deep.RegionLaw
import Derived.Deep.DeepCutAuto
import Derived.Deep.CutBlock
namespace Go.Proofs.Ytjdcbbleefepoaa
open Go.RowKit
attribute [local go_sem ↓] ldS_eq stS_eq elS_eq neS_eq zrS_eq bsS_eq bdS_eq
attribute [local go_sem] ldS_run stS_run elS_run neS_run zrS_run bsS_run bdS_run0 bdS_run1 g0_rule ldV_drew ldV_drewN

/-- A table in memory. -/
structure TabI (W : World) (tb mb : Nat) (v : Value) (L : List (Array Value)) : Prop where
  box : W.heap[tb]? = some (.cells #[v, .map (some mb)] 53)
  own : W.ownsRow 0 TS 82 v L.length (rows L)
  map : MapS W mb L
  apart : v.ownBlock ≠ some tb ∧ v.ownBlock ≠ some mb ∧ tb ≠ mb
  st : ∀ x ∈ L, IsS x
  once : Once L
theorem TabI.turn {W W' : World} {G : Nat → Prop} {tb mb : Nat} {v : Value} {L : List (Array Value)} (h : TabI W tb mb v L) (ht : Turn G W W') (h1 : ¬ G tb) (h2 : ∀ g, v.ownBlock = some g → ¬ G g) (h3 : ¬ G mb) : TabI W' tb mb v L :=
  ⟨(ht.block tb (Array.getElem?_eq_some_iff.1 h.box).1 h1).trans h.box, owns_turn h.own ht h2, h.map.turn ht h3, h.apart, h.st, h.once⟩
theorem TabI.up {W W' : World} {tb mb : Nat} {v : Value} {L : List (Array Value)} (h : TabI W tb mb v L) (hu : Up W W') : TabI W' tb mb v L :=
  h.turn (.of_up (fun _ => False) hu) (fun k => k) (fun _ _ k => k) (fun k => k)
set_option maxRecDepth 100000 in
set_option maxHeartbeats 4000000 in
theorem tFind (w : World) (tb mb : Nat) (v : Value) (L : List (Array Value)) (x : Array Value) (hT : TabI w tb mb v L) (hx : IsS x) (hn : L.length ≤ 1000000) :
    Calls Try.prog 10 #[ptr tb, .agg x] w fun e w' => e = .returned (.tuple #[.int .i64 (fE L x : Nat), .bool (fB L x)]) ∧ Up w w' := by
  obtain ⟨A, cap, rfl⟩ := none_form hT.own
  have hu := Up.alloc w (.cells x TS)
  obtain ⟨W, hW⟩ : ∃ W, w.alloc (.cells x TS) = W := ⟨_, rfl⟩
  have hl := ldV_of hx (range_box w x TS)
  have hT2 := hT.up hu
  have hk2 := fun m => MapS.look (w := W.drewN m) (by rw [← hW]; exact hT2.map) hx
  have hk3 := MapS.look (w := W.drew) (by rw [← hW]; exact hT2.map) hx
  rw [hW] at hl hu hT2
  have c0 : W.cell? ⟨tb, 0, none⟩ = some (.slice A L.length cap) := cellOf hT2.box rfl
  have c1 : W.cell? ⟨tb, 1, none⟩ = some (.map (some mb)) := cellOf hT2.box rfl
  have HU := Lib.hid hu
  obtain ⟨E, hE⟩ : ∃ E, fE L x = E := ⟨_, rfl⟩
  obtain ⟨B, hB⟩ : ∃ B, fB L x = B := ⟨_, rfl⟩
  rw [hE, hB] at hk2 hk3 ⊢
  obtain ⟨n, hln⟩ : ∃ n, L.length = n := ⟨_, rfl⟩
  rw [hln] at c0 hn
  by_cases h0 : n = 0
  · subst h0
    clear hT hu hT2 hE hB hx hln hn
    go_enter Try.func10, Try.ntmps10
    go_wp2
    try simp only [hW]
    clear hW
    go_quiet (fail)
    go_wp2
    go_quiet (fail)
    go_wp2
    go_ret2
    exact ⟨rfl, HU.out.trans ((Up.drewN _ _).trans (Up.drewN _ _))⟩
  · obtain ⟨k, rfl⟩ : ∃ k, n = k + 1 := ⟨n - 1, by omega⟩
    have hkL : k < L.length := by omega
    obtain ⟨g, cap', hv, -, -, hr⟩ := row_range hT2.own hT2.st k hkL
    injection hv with hv
    subst hv
    obtain ⟨y, hy⟩ : ∃ y, L[k] = y := ⟨_, rfl⟩
    rw [hy] at hr
    have hyS : IsS y := by rw [← hy]; exact hT.st _ (List.getElem_mem hkL)
    have l1 := ldV_of hyS hr
    have q1 := eqV_of hyS hx
    have e1 : ((k + 1 : Nat) : Int) - 1 = (k : Nat) := by omega
    have e2 : wrap64 (((k + 1 : Nat) : Int) - 1) = (k : Nat) := by rw [e1]; exact IntWalk.wrap64_in _ (by omega)
    have p0 : (0 : Int) ≤ k := by omega
    have p1 : (k : Int) < (k + 1 : Nat) := by omega
    obtain ⟨D, hD⟩ : ∃ D, eqS y x = D := ⟨_, rfl⟩
    rw [hD] at q1
    have hres : D = true → E = k ∧ B = true := fun hd => by
      rw [hd] at hD
      have hyx : y = x := eqS_true.1 hD
      have e := fI_once hT.once hkL
      rw [hy, hyx] at e
      exact ⟨by rw [← hE]; unfold fE; rw [if_pos (by omega), e], by rw [← hB]; unfold fB; rw [e]; exact decide_eq_true hkL⟩
    have HR := Lib.hid hres
    clear hT hu hT2 hE hB hx hln hr hyS hy hD hres hkL h0
    cases D with
    | true =>
      obtain ⟨rfl, rfl⟩ := HR.out rfl
      go_enter Try.func10, Try.ntmps10
      go_wp2
      try simp only [hW]
      clear hW hk2 hk3
      go_quiet (fail)
      go_wp2
      go_ret2
      exact ⟨rfl, HU.out.trans (Up.drewN _ _)⟩
    | false =>
      go_enter Try.func10, Try.ntmps10
      go_wp2
      try simp only [hW]
      clear hW
      go_quiet (fail)
      go_wp2
      go_quiet (fail)
      go_wp2
      go_ret2
      exact ⟨rfl, HU.out.trans ((Up.drewN _ _).trans (Up.drewN _ _))⟩
end Go.Proofs.Ytjdcbbleefepoaa
