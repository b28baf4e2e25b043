/- A list of its own: the statements' copy; the leaves: the document's. -/
import Derived.Test.YtidnldchdahgeaaDoorTLook
namespace Go.Proofs.YtidnldchdahgeaaDoor
open Go.RowKit

theorem nds_news {w : World} {ad : Addr} {n : Nat} {L : List Nd} (h : Nds w (some ad) n L) : ∀ (j : Nat) (u : Value), (ndCells L)[j]? = some u → w.cell? (ad.add j) = some u := by
  intro j u hj
  have hl : j < L.length * 4 := by
    rw [← ndCells_len]
    exact (List.getElem?_eq_some_iff.1 hj).1
  obtain ⟨b, o, hA, -, c0, c1, c2, c3⟩ := h.at_ (j / 4) (by omega)
  obtain rfl := Option.some.inj hA
  obtain ⟨g0, g1, g2, g3⟩ := ndCells_at L (j / 4) (by omega)
  rw [add_flat rfl]
  have h4 : j % 4 = 0 ∨ j % 4 = 1 ∨ j % 4 = 2 ∨ j % 4 = 3 := by omega
  rcases h4 with e | e | e | e
  · have ej : j / 4 * 4 = j := by omega
    rw [ej] at g0 c0
    rw [g0] at hj
    exact c0.trans hj
  · have ej : j / 4 * 4 + 1 = j := by omega
    rw [Nat.add_assoc, ej] at c1
    rw [ej] at g1
    rw [g1] at hj
    exact c1.trans hj
  · have ej : j / 4 * 4 + 2 = j := by omega
    rw [Nat.add_assoc, ej] at c2
    rw [ej] at g2
    rw [g2] at hj
    exact c2.trans hj
  · have ej : j / 4 * 4 + 3 = j := by omega
    rw [Nat.add_assoc, ej] at c3
    rw [ej] at g3
    rw [g3] at hj
    exact c3.trans hj
set_option maxRecDepth 100000 in
set_option maxHeartbeats 1000000 in
theorem nOwn_any (w : World) (A : Option Addr) (n c : Nat) (L : List Nd) (hL : Nds w A n L) (hA : A = none → n = 0 ∧ c = 0) (hn : n ≤ 1000000) :
    Calls Tryd.prog 13 #[.slice A n c] w fun e w' => ∃ v, e = .returned v ∧ RowN w' w.heap.size v L ∧ Up w w' := by
  obtain ⟨i0, hi0, hz0, hz1, hz2⟩ := info_parts infoNode
  have HN := Lib.hid hL.len
  cases A with
  | none =>
    obtain ⟨rfl, rfl⟩ := hA rfl
    obtain rfl : L = [] := List.eq_nil_of_length_eq_zero hL.len
    clear hA hL hn
    go_enter Tryd.func13, Tryd.ntmps13
    go_wp2_with (at_builtin; (refine wpList_append_own_none rfl _ _ 22 rfl w.heap.size 40 i0 4 Tryd.underlying22 hi0 _ _ _ rfl (World.ownsRow_nil _ _ _ _) rfl ?_))
    go_wp2
    go_ret
    exact ⟨_, rfl, World.ownsRow_nil _ _ _ _, Up.refl _⟩
  | some ad =>
    have HC := Lib.hid (nds_news hL)
    have HN2 := Lib.hid hn
    clear hA hL hn
    go_enter Tryd.func13, Tryd.ntmps13
    go_wp2_with (at_builtin; (refine wpList_append_own _ rfl _ _ 22 rfl w.heap.size 40 i0 (.agg #[.int .u8 0, .int .i64 0, .int .i64 0, .int .i64 0]) 4 32 Tryd.underlying22 hi0 hz0 hz1 hz2 rfl (by decide) _ _ _ rfl (World.ownsRow_nil _ _ _ _) _ n c (ndCells L) rfl ?c0 ?c1 ?c2 ?c3 ?c4 ?c5 ?_))
    case c0 => rw [ndCells_len, HN.out]
    case c1 => exact HC.out
    case c2 => exact ndCells_one L
    case c3 => have := HN2.out; unfold maxLen; omega
    case c4 => have := HN2.out; omega
    case c5 => exact Nat.le_refl _
    intro v' w1 hown hgrow _
    have HO := Lib.hid (show RowN w1 w.heap.size v' L by unfold RowN; rw [HN.out]; exact hown)
    have HU := Lib.hid (show Up w w1 from (Up.refl w).grown hgrow (Nat.le_refl _) (fun k hk => by cases hk))
    clear hown hgrow
    go_wp2
    go_ret
    exact ⟨_, rfl, HO.out, HU.out⟩
end Go.Proofs.YtidnldchdahgeaaDoor
