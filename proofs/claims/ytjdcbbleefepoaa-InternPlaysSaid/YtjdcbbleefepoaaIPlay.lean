/- InternPlays, walked for any program whose tables answer so. -/
import Derived.Test.YtjdcbbleefepoaaILaw
import Derived.Test.YtjdcbbleefepoaaITab
import Derived.Test.YtjdcbbleefepoaaIRunA
import Derived.Deep.DeepCutAuto
import Derived.Deep.CutBlock
namespace Go.Proofs.Ytjdcbbleefepoaa
open Go.RowKit
attribute [local go_sem ↓] ldS_eq stS_eq elS_eq neS_eq zrS_eq bsS_eq bdS_eq ldSA_eq stSA_eq zrSA_eq
attribute [local go_sem] ldS_run stS_run elS_run neS_run zrS_run bsS_run bdS_run0 bdS_run1 g0_rule ldV_drew ldV_drewN ldSA_run stSA_run zrSA_run ldV_drewA ldV_drewNA

/-- Two tables side by side: the program's, the document's; neither stands in the other's blocks, in those of K, or in what was there before. -/
structure Two (S : World → Nat → (Nat → Prop) → List (Array Value) → Prop) (w : World) (sb tb : Nat) (L1 L2 : List (Array Value)) (K : Nat → Prop) (W : World) : Prop where
  ex : ∃ (G : Nat → Prop) (v : Value), S W sb G L1 ∧ RT W 0 tb v L2 ∧ (∀ j, G j → w.heap.size ≤ j ∧ j < W.heap.size ∧ ¬ K j ∧ j ≠ tb ∧ v.ownBlock ≠ some j) ∧ ¬ K tb ∧ w.heap.size ≤ tb ∧ ∀ g, v.ownBlock = some g → w.heap.size ≤ g ∧ ¬ K g
  up : Up w W
section
variable {S : World → Nat → (Nat → Prop) → List (Array Value) → Prop} (hC : IntC S)
variable {w W W' : World} {sb tb : Nat} {L1 L2 : List (Array Value)} {K K' : Nat → Prop}
theorem own_ltRT {base : Nat} {v : Value} {L : List (Array Value)} (h : RT W base tb v L) : tb < W.heap.size ∧ ∀ g, v.ownBlock = some g → g < W.heap.size := by
  refine ⟨(Array.getElem?_eq_some_iff.1 h.box).1, fun g hg => ?_⟩
  rcases h.own.2 with ⟨h0, -⟩ | ⟨g', cap', cur, hv, -, hgg, -⟩
  · rw [h0] at hg; cases hg
  · rw [hv] at hg
    obtain rfl := Option.some.inj hg
    exact (Array.getElem?_eq_some_iff.1 hgg).1
include hC
theorem Two.box (h : Two S w sb tb L1 L2 K W) (hu : Up W W') (hK : ∀ j, K' j → K j ∨ W.heap.size ≤ j) : Two S w sb tb L1 L2 K' W' := by
  obtain ⟨G, v, h1, h2, h3, h4, h5, h6⟩ := h.ex
  obtain ⟨t1, t2⟩ := own_ltRT h2
  refine ⟨⟨G, v, hC.up h1 hu, h2.up hu, fun j hj => ?_, fun k => ?_, h5, fun g hg => ⟨(h6 g hg).1, fun k => ?_⟩⟩, h.up.trans hu⟩
  · obtain ⟨k1, k2, k3, k4, k5⟩ := h3 j hj
    refine ⟨k1, Nat.lt_of_lt_of_le k2 (Below.size hu), fun k => ?_, k4, k5⟩
    rcases hK j k with k | k
    · exact k3 k
    · omega
  · rcases hK tb k with k | k
    · exact h4 k
    · omega
  · rcases hK g k with k | k
    · exact (h6 g hg).2 k
    · have := t2 g hg; omega
theorem Two.more (h : Two S w sb tb L1 L2 K W) (hu : Up W W') : Two S w sb tb L1 L2 K W' := h.box hC hu (fun _ k => .inl k)
theorem two_id (h : Two S w sb tb L1 L2 K W) {x : Array Value} (hx : IsS x) (hl : L1.length ≤ 1000000) (hK : ∀ j, K j → j < W.heap.size) :
    Calls Try.prog 8 #[ptr sb, .agg x] W fun e w' => e = .returned (.int .i64 (fI L1 x : Nat)) ∧ Two S w sb tb (addS L1 x) L2 K w' ∧ Turn (fun j => w.heap.size ≤ j ∧ ¬ K j) W w' := by
  obtain ⟨G, v, h1, h2, h3, h4, h5, h6⟩ := h.ex
  obtain ⟨t1, t2⟩ := own_ltRT h2
  have hsz := Below.size h.up
  refine (hC.id W sb G L1 x h1 hx hl).mono ?_
  rintro e w' ⟨k1, k2, k3⟩
  refine ⟨k1, ⟨⟨fun j => (G j ∨ W.heap.size ≤ j) ∧ j < w'.heap.size, v, hC.mono k2 (fun j hj k => ⟨k, hj⟩), h2.turn k3 (fun g => (h3 _ g).2.2.2.1 rfl) (fun g hg k => (h3 _ k).2.2.2.2 hg), fun j hj => ?_, h4, h5, h6⟩, h.up.trans' k3 (fun j hj => (h3 j hj).1)⟩, k3.mono (fun j _ hj => ⟨(h3 j hj).1, (h3 j hj).2.2.1⟩)⟩
  rcases hj.1 with k | k
  · obtain ⟨q1, q2, q3, q4, q5⟩ := h3 j k
    exact ⟨q1, hj.2, q3, q4, q5⟩
  · exact ⟨by omega, hj.2, fun q => by have := hK j q; omega, by omega, fun q => by have := t2 j q; omega⟩
theorem two_rid (h : Two S w sb tb L1 L2 K W) {x : Array Value} (hx : IsS x) (hl : L2.length ≤ 1000000) (hK : ∀ j, K j → j < W.heap.size) :
    Calls Try.prog 9 #[ptr tb, .agg x] W fun e w' => e = .returned (.int .i64 (fI L2 x : Nat)) ∧ Two S w sb tb L1 (addS L2 x) K w' ∧ Turn (fun j => w.heap.size ≤ j ∧ ¬ K j) W w' := by
  obtain ⟨G, v, h1, h2, h3, h4, h5, h6⟩ := h.ex
  obtain ⟨t1, t2⟩ := own_ltRT h2
  have hsz := Below.size h.up
  by_cases hin : fI L2 x < L2.length
  · refine (refId_in W 0 tb v L2 x h2 hx hl hin).mono ?_
    rintro e w' ⟨k1, k2⟩
    have e2 : addS L2 x = L2 := by unfold addS; rw [if_pos hin]
    rw [e2]
    exact ⟨k1, h.more hC k2, .of_up _ k2⟩
  · refine (refId_out W tb v L2 x h2 hx hl hin).mono ?_
    rintro e w' ⟨k1, v', k2, k3, k4⟩
    have e1 : fI L2 x = L2.length := by have := fI_le L2 x; omega
    have e2 : addS L2 x = L2 ++ [x] := by unfold addS; rw [if_neg hin]
    rw [e1, e2]
    have hF : ∀ j, (j = tb ∨ v.ownBlock = some j) → w.heap.size ≤ j ∧ ¬ K j := fun j hj => by
      rcases hj with rfl | hj
      · exact ⟨h5, h4⟩
      · exact h6 j hj
    refine ⟨k1, ⟨⟨G, v', hC.turn h1 k4 (fun j _ g k => ?_), k2, fun j hj => ?_, h4, h5, fun g hg => ?_⟩, h.up.trans' k4 (fun j hj => (hF j hj).1)⟩, k4.mono (fun j _ hj => hF j hj)⟩
    · rcases k with k | k
      · exact (h3 j g).2.2.2.1 k
      · exact (h3 j g).2.2.2.2 k
    · obtain ⟨q1, q2, q3, q4, q5⟩ := h3 j hj
      refine ⟨q1, Nat.lt_of_lt_of_le q2 k4.size, q3, q4, fun k => ?_⟩
      rcases k3 j k with k | k
      · exact q5 k
      · omega
    · rcases k3 g hg with k | k
      · exact h6 g k
      · exact ⟨by omega, fun q => by have := hK g q; omega⟩
theorem two_find (h : Two S w sb tb L1 L2 K W) {x : Array Value} (hx : IsS x) (hl : L1.length ≤ 1000000) :
    Calls Try.prog 10 #[ptr sb, .agg x] W fun e w' => e = .returned (.tuple #[.int .i64 (fE L1 x : Nat), .bool (fB L1 x)]) ∧ Up W w' := by
  obtain ⟨G, v, h1, -⟩ := h.ex
  exact hC.find W sb G L1 x h1 hx hl
theorem two_state (h : Two S w sb tb L1 L2 K W) {i : Int} (hl : L1.length ≤ 1000000) (hi : (Lit.int .i64 i).wf = true) :
    Calls Try.prog 12 #[ptr sb, .int .i64 i] W fun e w' => e = .returned (.tuple #[.agg (stT L1 i), .int .i64 (stE L1.length i)]) ∧ Up W w' := by
  obtain ⟨G, v, h1, -⟩ := h.ex
  exact hC.state W sb G L1 i h1 hl hi
theorem two_len (h : Two S w sb tb L1 L2 K W) :
    Calls Try.prog 14 #[ptr sb] W fun e w' => e = .returned (.int .i64 (L1.length : Nat)) ∧ Up W w' := by
  obtain ⟨G, v, h1, -⟩ := h.ex
  exact hC.len W sb G L1 h1
omit hC
theorem two_rfind (h : Two S w sb tb L1 L2 K W) {x : Array Value} (hx : IsS x) (hl : L2.length ≤ 1000000) :
    Calls Try.prog 11 #[ptr tb, .agg x] W fun e w' => e = .returned (.tuple #[.int .i64 (fE L2 x : Nat), .bool (fB L2 x)]) ∧ Up W w' := by
  obtain ⟨G, v, h1, h2, -⟩ := h.ex
  exact refFind_any W 0 tb v L2 x h2 hx hl
theorem two_rstate (h : Two S w sb tb L1 L2 K W) (i : Int) :
    Calls Try.prog 13 #[ptr tb, .int .i64 i] W fun e w' => e = .returned (.tuple #[.agg (stT L2 i), .int .i64 (stE L2.length i)]) ∧ Up W w' := by
  obtain ⟨G, v, h1, h2, -⟩ := h.ex
  unfold stT stE
  by_cases hi : 0 ≤ i ∧ i < L2.length
  · rw [if_pos hi, if_pos hi]
    obtain ⟨k, rfl⟩ : ∃ k : Nat, i = (k : Int) := ⟨i.toNat, by omega⟩
    have hk : k < L2.length := by omega
    rw [Int.toNat_natCast, List.getD_eq_getElem?_getD, List.getElem?_eq_getElem hk]
    exact refState_in W tb v L2 k h2 hk
  · rw [if_neg hi, if_neg hi]
    exact refState_out W tb v L2 i h2 hi
theorem two_cell (h : Two S w sb tb L1 L2 K W) : ∃ A cap, W.cell? ⟨tb, 0, none⟩ = some (.slice A L2.length cap) := by
  obtain ⟨G, v, h1, h2, -⟩ := h.ex
  obtain ⟨A, cap, rfl⟩ := none_form h2.own
  exact ⟨A, cap, cellOf h2.box rfl⟩
theorem stT_is {L : List (Array Value)} (h : ∀ x ∈ L, IsS x) (i : Int) : IsS (stT L i) := by
  unfold stT
  split
  · rename_i hi
    have hk : i.toNat < L.length := by omega
    rw [List.getD_eq_getElem?_getD, List.getElem?_eq_getElem hk]
    exact h _ (List.getElem_mem hk)
  · exact z0_is
end
end Go.Proofs.Ytjdcbbleefepoaa
