/- A list of its own: the statements' copy. -/
import Derived.Test.YtbgdphjjepbafaaSForm
import Derived.Laws.AppendOwnNone
namespace Go.Proofs.Ytbgdphjjepbafaa
open Go.RowKit

theorem infoRange : (Try.prog.info? 29).map (fun i => (i.zero, i.size, i.bytes)) = some (some (.agg #[.int .i64 0, .int .i64 0]), 2, 16) := by kernel_rfl
theorem own_base {W : World} {N z m : Nat} {v : Value} {xs : List Value} {e : TypeId} {k : Nat} (hr : W.ownsRow N e z v m xs) (hk : v.ownBlock = some k) : N ≤ k := by
  rcases hr.2 with ⟨rfl, _⟩ | ⟨g, cap, cur, rfl, h1, _⟩
  · cases hk
  · obtain rfl : g = k := by simpa [Value.ownBlock] using hk
    exact h1
theorem rgs_news {w : World} {ad : Addr} {n : Nat} {L : List Rng} (h : Rgs w (some ad) n L) : ∀ (j : Nat) (u : Value), (rgCells L)[j]? = some u → w.cell? (ad.add j) = some u := by
  intro j u hj
  have hl : j < L.length * 2 := by
    rw [← rgCells_len]
    exact (List.getElem?_eq_some_iff.1 hj).1
  obtain ⟨b, o, hA, -, c0, c1⟩ := h.at_ (j / 2) (by omega)
  obtain rfl := Option.some.inj hA
  obtain ⟨g0, g1⟩ := rgCells_at L (j / 2) (by omega)
  rw [add_flat rfl]
  by_cases e : j % 2 = 0
  · have ej : j / 2 * 2 = j := by omega
    rw [ej] at g0 c0
    rw [g0] at hj
    exact c0.trans hj
  · have ej : j / 2 * 2 + 1 = j := by omega
    rw [Nat.add_assoc, ej] at c1
    rw [ej] at g1
    rw [g1] at hj
    exact c1.trans hj
/-- A copy: a row of the call's own. -/
def RowR (w : World) (B : Nat) (v : Value) (L : List Rng) : Prop := w.ownsRow B 29 2 v L.length (rgCells L)
set_option maxRecDepth 100000 in
set_option maxHeartbeats 1000000 in
theorem own_any (w : World) (A : Option Addr) (n c : Nat) (L : List Rng) (hL : Rgs w A n L) (hA : A = none → n = 0 ∧ c = 0) (hn : n ≤ 1000000) :
    Calls Try.prog 9 #[.slice A n c] w fun e w' => ∃ v, e = .returned v ∧ RowR w' w.heap.size v L ∧ Up w w' := by
  obtain ⟨i0, hi0, hz0, hz1, hz2⟩ := info_parts infoRange
  have HN := Lib.hid hL.len
  cases A with
  | none =>
    obtain ⟨rfl, rfl⟩ := hA rfl
    obtain rfl : L = [] := List.eq_nil_of_length_eq_zero hL.len
    clear hA hL hn
    go_enter Try.func9, Try.ntmps9
    go_wp2_with (at_builtin; (refine wpList_append_own_none rfl _ _ 22 rfl w.heap.size 29 i0 2 Try.underlying22 hi0 _ _ _ rfl (World.ownsRow_nil _ _ _ _) rfl ?_))
    go_wp2
    go_ret
    exact ⟨_, rfl, World.ownsRow_nil _ _ _ _, Up.refl _⟩
  | some ad =>
    have HC := Lib.hid (rgs_news hL)
    have HN2 := Lib.hid hn
    clear hA hL hn
    go_enter Try.func9, Try.ntmps9
    go_wp2_with (at_builtin; (refine wpList_append_own _ rfl _ _ 22 rfl w.heap.size 29 i0 (.agg #[.int .i64 0, .int .i64 0]) 2 16 Try.underlying22 hi0 hz0 hz1 hz2 rfl (by decide) _ _ _ rfl (World.ownsRow_nil _ _ _ _) _ n c (rgCells L) rfl ?c0 ?c1 ?c2 ?c3 ?c4 ?c5 ?_))
    case c0 => rw [rgCells_len, HN.out]
    case c1 => exact HC.out
    case c2 => exact rgCells_one L
    case c3 => have := HN2.out; unfold maxLen; omega
    case c4 => have := HN2.out; omega
    case c5 => exact Nat.le_refl _
    intro v' w1 hown hgrow _
    have HO := Lib.hid (show RowR w1 w.heap.size v' L by unfold RowR; rw [HN.out]; exact hown)
    have HU := Lib.hid (show Up w w1 from (Up.refl w).grown hgrow (Nat.le_refl _) (fun k hk => by cases hk))
    clear hown hgrow
    go_wp2
    go_ret
    exact ⟨_, rfl, HO.out, HU.out⟩
end Go.Proofs.Ytbgdphjjepbafaa
