/- A list's copy; a number brought round: what BuildPieces calls besides. -/
import Derived.Test.YtkkefgbmdghklaaBWake
import Derived.Test.YtkkefgbmdghklaaBArgs
import Derived.Laws.AppendOwnNone
namespace Go.Proofs.Ytkkefgbmdghklaa
open Go.RowKit

theorem infoEv : (Try.prog.info? 42).map (fun i => (i.zero, i.size, i.bytes)) = some (some (.agg #[.int .u8 0, .int .u8 0, .int .i64 0, .int .i64 0]), 4, 24) := by kernel_rfl
theorem evs_news {w : World} {ad : Addr} {n : Nat} {L : List Ev} (h : Evs w (some ad) n L) : ∀ (j : Nat) (u : Value), (evCells L)[j]? = some u → w.cell? (ad.add j) = some u := by
  intro j u hj
  have hl : j < L.length * 4 := by
    rw [← evCells_len]
    exact (List.getElem?_eq_some_iff.1 hj).1
  obtain ⟨b, o, hA, -, c0, c1, c2, c3⟩ := h.at_ (j / 4) (by omega)
  obtain rfl := Option.some.inj hA
  obtain ⟨g0, g1, g2, g3⟩ := evCells_at L (j / 4) (by omega)
  rw [add_flat rfl]
  have h4 : j % 4 = 0 ∨ j % 4 = 1 ∨ j % 4 = 2 ∨ j % 4 = 3 := by omega
  rcases h4 with e | e | e | e
  · have ej : j / 4 * 4 = j := by omega
    rw [ej] at g0 c0
    rw [g0] at hj
    exact c0.trans hj
  · have ej : j / 4 * 4 + 1 = j := by omega
    rw [Nat.add_assoc, ej] at c1
    rw [ej] at g1
    rw [g1] at hj
    exact c1.trans hj
  · have ej : j / 4 * 4 + 2 = j := by omega
    rw [Nat.add_assoc, ej] at c2
    rw [ej] at g2
    rw [g2] at hj
    exact c2.trans hj
  · have ej : j / 4 * 4 + 3 = j := by omega
    rw [Nat.add_assoc, ej] at c3
    rw [ej] at g3
    rw [g3] at hj
    exact c3.trans hj
/-- A copy in new memory, at the operation. -/
theorem wpList_copy_evs {w : World} {ops : Array Oper} {rest : List Oper} {o : Oper} {a : Go.Act} {Q : Exit → Go.Act → World → Prop} (hgd : o.guard = none) (s x : Operand)
    (ho : o.op = .call { callee := .builtin .append, args := #[s, x], argTypes := #[22, 22] }) (hs : a.eval s = .slice none 0 0) (A : Option Addr) (n c : Nat) (L : List Ev) (hx : a.eval x = .slice A n c)
    (hL : Evs w A n L) (hA : A = none → n = 0 ∧ c = 0) (hn : n ≤ 1000000)
    (h : ∀ v' w', w'.ownsRow w.heap.size 42 4 v' n (evCells L) → Up w w' → wpList Try.prog ops Q rest (a.put o.dst v') w') : wpList Try.prog ops Q (o :: rest) a w := by
  obtain ⟨i0, hi0, hz0, hz1, hz2⟩ := info_parts infoEv
  cases A with
  | none =>
    obtain ⟨rfl, rfl⟩ := hA rfl
    obtain rfl : L = [] := List.eq_nil_of_length_eq_zero hL.len
    exact wpList_append_own_none hgd s x _ ho w.heap.size 42 i0 4 Try.underlying22 hi0 _ _ _ hs (World.ownsRow_nil _ _ _ _) hx (h _ _ (World.ownsRow_nil _ _ _ _) (Up.refl _))
  | some ad =>
    refine wpList_append_own w hgd s x _ ho w.heap.size 42 i0 (.agg #[.int .u8 0, .int .u8 0, .int .i64 0, .int .i64 0]) 4 24 Try.underlying22 hi0 hz0 hz1 hz2 rfl (by decide) _ _ _ hs (World.ownsRow_nil _ _ _ _) ad n c (evCells L) hx
      (by rw [evCells_len, hL.len]) (evs_news hL) (evCells_one L) (by unfold maxLen; omega) (by omega) (Nat.le_refl _) ?_
    intro v' w' hown hgrow _
    rw [Nat.zero_add, List.nil_append] at hown
    exact h v' w' hown ((Up.refl w).grown hgrow (Nat.le_refl _) (fun k hk => by cases hk))
theorem evs_row {w : World} {B : Nat} {v : Value} {n : Nat} {L : List Ev} (h : w.ownsRow B 42 4 v n (evCells L)) : ∃ A c, v = .slice A n c ∧ Evs w A n L ∧ n ≤ c ∧ (∀ a, A = some a → B ≤ a.block) ∧ (A = none → n = 0 ∧ c = 0) := by
  obtain ⟨A, c, rfl, h1, h2, h3⟩ := owns_evs h
  refine ⟨A, c, rfl, h1, ?_, fun a e => (h2 a e).1, fun e => ?_⟩
  · rcases h.2 with ⟨e, e2⟩ | ⟨g, cap, cur, e, -, -, h5, -⟩
    · omega
    · injection e with e1 e2 e3; omega
  · subst e
    rcases h.2 with ⟨e, e2⟩ | ⟨g, cap, cur, e, -⟩
    · injection e with e1 e2 e3; exact ⟨e2, e3⟩
    · injection e with e1; cases e1
theorem Evs.take {w : World} {A : Option Addr} {n k : Nat} {L : List Ev} (h : Evs w A n L) (hk : k ≤ n) : Evs w A k (L.take k) := by
  have hl := h.len
  refine ⟨by rw [List.length_take]; omega, fun i hi => ?_⟩
  rw [List.length_take] at hi
  obtain ⟨b, o, h1⟩ := h.at_ i (by omega)
  rw [List.getElem_take]
  exact ⟨b, o, h1⟩
set_option maxRecDepth 100000 in
set_option maxHeartbeats 1000000 in
theorem place_any (w : World) (x m : Int) (hm : 1 ≤ m ∧ m ≤ 1048577) : Calls Try.prog 15 #[.int .i64 x, .int .i64 m] w fun e w' => e = .returned (.int .i64 (if x.tmod m < 0 then x.tmod m + m else x.tmod m)) ∧ w = w' := by
  obtain ⟨r, hr⟩ : ∃ r, x.tmod m = r := ⟨_, rfl⟩
  have h1 : r < m := by rw [← hr]; exact Int.tmod_lt_of_pos x (by omega)
  have h2 : -m < r := by rw [← hr]; exact Int.lt_tmod_of_pos x (by omega)
  have q0 : IntKind.i64.wrap r = r := IntWalk.i64_in _ (by omega)
  have q1 : IntKind.i64.wrap (r + m) = r + m := IntWalk.i64_in _ (by omega)
  have f0 : ¬ m = 0 := by omega
  rw [hr]
  by_cases h3 : r < 0
  · rw [if_pos h3]
    clear hm h1 h2
    go_enter Try.func15, Try.ntmps15
    go_wp2
    go_ret
    exact ⟨rfl, rfl⟩
  · rw [if_neg h3]
    have f3 : decide (r < 0) = false := decide_eq_false h3
    clear hm h1 h2 h3
    go_enter Try.func15, Try.ntmps15
    go_wp2
    go_ret
    exact ⟨rfl, rfl⟩
end Go.Proofs.Ytkkefgbmdghklaa
