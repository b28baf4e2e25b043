/- Two rows of the same pieces are the same. -/
import Derived.Test.YtmeipmkiknekjaaDoorHLawA
import Derived.Deep.QuietTactic
import Derived.BigQuiet
namespace Go.Proofs.YtmeipmkiknekjaaDoor
open Go.RowKit
set_option linter.unusedVariables false
def RowQ (w : World) (B : Nat) (v : Value) (ps : List Pc) : Prop := w.ownsRow B 42 6 v ps.length (pcC ps)
theorem rowQ_cells {w : World} {B : Nat} {v : Value} {ps : List Pc} (h : RowQ w B v ps) (hn : ps ≠ []) : ∃ g c, v = .slice (some ⟨g, 0, none⟩) ps.length c ∧ B ≤ g ∧ g < w.heap.size ∧ ∀ (i : Nat) (hi : i < ps.length) (k : Nat) (u : Value), (pcV ps[i])[k]? = some u → w.cell? ⟨g, i * 6 + k, none⟩ = some u := by
  rcases h.2 with ⟨_, h0⟩ | ⟨g, cap, cur, rfl, hb, hg, rest⟩
  · exact absurd (List.eq_nil_of_length_eq_zero h0) hn
  · exact ⟨g, cap, rfl, hb, (Array.getElem?_eq_some_iff.1 hg).1, fun i hi k u hu => by
      have := h.cells (g := g) rfl _ u (pcC_at ps i hi k u hu)
      rwa [add_lit0] at this⟩
set_option maxRecDepth 100000 in
set_option maxHeartbeats 4000000 in
theorem same_any (W : World) {B1 B2 : Nat} {v1 v2 : Value} {PS : List Pc} (h1 : RowP W B1 v1 PS) (h2 : RowQ W B2 v2 PS) (hs : PS.length ≤ 1000000) : Calls Tryd.prog 11 #[v1, v2] W fun e w' => e = .returned (.bool true) ∧ Up W w' := by
  obtain ⟨A1, c1, rfl⟩ := own_slice h1
  obtain ⟨A2, c2, rfl⟩ := own_slice h2
  have H1 := Lib.hid h1
  have H2 := Lib.hid h2
  have HLEN := Lib.hid hs
  have n0 : ((PS.length : Int) != (PS.length : Int)) = false := by simp
  clear h1 h2 hs
  go_enter Tryd.func11, Tryd.ntmps11
  go_wp2
  clear n0
  go_loopg [5] PS.length (fun g iv wr => ∃ i : Nat, i ≤ PS.length ∧ g = PS.length - i ∧ iv = .int .i64 (i : Nat) ∧ Hid (Up W wr))
  case atStart => exact ⟨0, Nat.zero_le _, rfl, rfl, Lib.hid (Up.refl _)⟩
  case round =>
    obtain ⟨i, hi, hg, rfl, HUR⟩ := hrel
    have HG := Lib.hid hg
    clear hg
    by_cases hlt : i < PS.length
    · have hne : PS ≠ [] := fun e => by rw [e] at hlt; exact absurd hlt (Nat.not_lt_zero _)
      obtain ⟨g, cc, hv, -, -, hc⟩ := rowP_cells H1.out hne
      obtain ⟨g', cc', hv', -, -, hc'⟩ := rowQ_cells H2.out hne
      injection hv with hv1 hv2 hv3
      injection hv' with hv1' hv2' hv3'
      subst hv1
      subst hv1'
      have c0 := fun k u hk => cell_up HUR.out (hc i hlt k u hk)
      have d0 := fun k u hk => cell_up HUR.out (hc' i hlt k u hk)
      have x0 : wr.cell? ⟨g, i * 6, none⟩ = some (.int .u8 (PS[i].kind : Nat)) := c0 0 _ rfl
      have x1 : wr.cell? ⟨g, i * 6 + 1, none⟩ = some (.int .i64 (PS[i].a : Nat)) := c0 1 _ rfl
      have x2 : wr.cell? ⟨g, i * 6 + 2, none⟩ = some (.int .i64 (PS[i].b : Nat)) := c0 2 _ rfl
      have x3 : wr.cell? ⟨g, i * 6 + 3, none⟩ = some (.string (toB PS[i].text)) := c0 3 _ rfl
      have x4 : wr.cell? ⟨g, i * 6 + 4, none⟩ = some (.bool PS[i].raw) := c0 4 _ rfl
      have x5 : wr.cell? ⟨g, i * 6 + 5, none⟩ = some (.bool PS[i].whole) := c0 5 _ rfl
      have z0 : wr.cell? ⟨g', i * 6, none⟩ = some (.int .u8 (PS[i].kind : Nat)) := d0 0 _ rfl
      have z1 : wr.cell? ⟨g', i * 6 + 1, none⟩ = some (.int .i64 (PS[i].a : Nat)) := d0 1 _ rfl
      have z2 : wr.cell? ⟨g', i * 6 + 2, none⟩ = some (.int .i64 (PS[i].b : Nat)) := d0 2 _ rfl
      have z3 : wr.cell? ⟨g', i * 6 + 3, none⟩ = some (.string (toB PS[i].text)) := d0 3 _ rfl
      have z4 : wr.cell? ⟨g', i * 6 + 4, none⟩ = some (.bool PS[i].raw) := d0 4 _ rfl
      have z5 : wr.cell? ⟨g', i * 6 + 5, none⟩ = some (.bool PS[i].whole) := d0 5 _ rfl
      clear c0 d0
      generalize PS[i] = x at x0 x1 x2 x3 x4 x5 z0 z1 z2 z3 z4 z5
      obtain ⟨kd, xa, xb, tx, rw1, wh⟩ := x
      simp only [] at x0 x1 x2 x3 x4 x5 z0 z1 z2 z3 z4 z5
      generalize toB tx = X at x3 z3
      have b5 : (0 : Int) ≤ (i : Int) := by omega
      have b6 : (i : Int) < (PS.length : Int) := by omega
      have a6 : IntKind.i64.wrap ((i : Int) + 1) = (i : Int) + 1 := IntWalk.i64_in _ (by have := HLEN.out; omega)
      have HLT := Lib.hid hlt
      clear hne hc hc' hv2 hv3 hv2' hv3' hi
      go_wp2
      go_quiet (fail)
      go_wp2
      go_roundg (PS.length - (i + 1))
      case measure => rw [HG.out]; have := HLT.out; omega
      case rel => exact ⟨i + 1, HLT.out, rfl, by go_num, Lib.hid (HUR.out.trans (Up.drewN _ _))⟩
    · obtain rfl : i = PS.length := by omega
      have l1 : ¬ ((PS.length : Int) < (PS.length : Int)) := by omega
      clear hlt hi HG
      go_wp2
      go_ret
      exact ⟨rfl, HUR.out⟩
end Go.Proofs.YtmeipmkiknekjaaDoor
