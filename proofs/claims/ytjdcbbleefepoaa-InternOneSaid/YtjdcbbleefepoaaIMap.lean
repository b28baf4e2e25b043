/- A map of states to numbers. -/
import Derived.Test.YtjdcbbleefepoaaITab
import Derived.Test.YtjdcbbleefepoaaITurn
import Derived.Maps.OwnSet
namespace Go.Proofs.Ytjdcbbleefepoaa
open Go.RowKit

theorem sKeyed : Maps.Keyed Try.prog TS := Maps.Keyed.of_law sLaw
theorem intZero (w : World) : (zeroValue 3).run Try.prog w = .ok (.int .i64 0) w := by kernel_rfl
theorem key_ne {x y : Array Value} {l m : Lit} (hx : keyOf Try.prog TS (.agg x) = some l) (hy : keyOf Try.prog TS (.agg y) = some m) (h : x ≠ y) : l ≠ m := fun e => by
  subst e
  have := sKeyed.inj hx hy
  injection this with this
  exact h this
/-- At the block mb stands the map of a list's states to their numbers. -/
def MapS (w : World) (mb : Nat) (L : List (Array Value)) : Prop := ∃ D : DataW Unit, w.ownsMap Try.prog TS (plainElem Try.prog 3) mb L.length D ∧ Maps.IsMap D ∧
  ∀ x l, keyOf Try.prog TS (.agg x) = some l → Maps.has D l = fB L x ∧ D.atKey l (.lit (.int .i64 0)) = .lit (.int .i64 (fE L x : Nat))
theorem fB_nil (x : Array Value) : fB [] x = false := by unfold fB; exact decide_eq_false (by simp)
theorem fE_nil (x : Array Value) : fE [] x = 0 := by unfold fE; rw [if_neg (by simp)]
theorem MapS.made (w : World) : MapS (w.alloc (.map #[] 0)) w.heap.size [] := ⟨.map [], World.ownsMap_made w _ _ _, Maps.isMap_empty, fun x l _ => by
  rw [fB_nil, fE_nil]
  exact ⟨rfl, rfl⟩⟩
theorem MapS.lt {w : World} {mb : Nat} {L : List (Array Value)} (h : MapS w mb L) : mb < w.heap.size := by
  obtain ⟨D, h1, -⟩ := h
  exact h1.lt
theorem MapS.turn {w w' : World} {mb : Nat} {L : List (Array Value)} {G : Nat → Prop} (h : MapS w mb L) (ht : Turn G w w') (hm : ¬ G mb) : MapS w' mb L := by
  obtain ⟨D, ⟨es, clock, hb, F, hs, hD⟩, h2, h3⟩ := h
  exact ⟨D, ⟨es, clock, (ht.block mb (Array.getElem?_eq_some_iff.1 hb).1 hm).trans hb, F, hs, hD⟩, h2, h3⟩
theorem MapS.up {w w' : World} {mb : Nat} {L : List (Array Value)} (h : MapS w mb L) (hu : Up w w') : MapS w' mb L := h.turn (.of_up (fun _ => False) hu) (fun k => k)
/-- 'v, ok := m[s]'. -/
theorem MapS.look {w : World} {mb : Nat} {L : List (Array Value)} (h : MapS w mb L) {x : Array Value} (hx : IsS x) : (Instr.lookup 51 (.map (some mb)) (.agg x) true).run Try.prog w = .ok (.tuple #[.int .i64 (fE L x : Nat), .bool (fB L x)]) w := by
  obtain ⟨D, h1, -, h3⟩ := h
  obtain ⟨⟨l, hl⟩, -⟩ := hx
  obtain ⟨k1, k2⟩ := h3 x l hl
  obtain ⟨v, ps, hrun, hv⟩ := h1.look_ok sKeyed Try.underlying51 (intZero w) (plainElem_int Try.underlying3 (by decide)) hl
  obtain ⟨c, rfl, hc, -⟩ := plainElem_int_inv Try.underlying3 hv
  rw [k2] at hc
  injection hc with hc
  injection hc with hc
  injection hc with _ hc
  rw [hrun, k1, hc]
/-- 'm[s]'. -/
theorem MapS.look1 {w : World} {mb : Nat} {L : List (Array Value)} (h : MapS w mb L) {x : Array Value} (hx : IsS x) : (Instr.lookup 51 (.map (some mb)) (.agg x) false).run Try.prog w = .ok (.int .i64 (fE L x : Nat)) w := by
  obtain ⟨D, h1, -, h3⟩ := h
  obtain ⟨⟨l, hl⟩, -⟩ := hx
  obtain ⟨k1, k2⟩ := h3 x l hl
  obtain ⟨c, hrun, hc, -⟩ := h1.lookup_int sKeyed Try.underlying51 Try.underlying3 (intZero w) hl
  rw [k2] at hc
  injection hc with hc
  injection hc with _ hc
  rw [hrun, hc]
/-- 'm[s] = number', of a state that is not there. -/
theorem MapS.store {w : World} {mb : Nat} {L : List (Array Value)} (h : MapS w mb L) {x : Array Value} (hx : IsS x) (hn : ¬ fI L x < L.length) (hl : L.length ≤ 1000000) :
    ∃ w', (Instr.mapUpdate 51 (.map (some mb)) (.agg x) (.int .i64 (L.length : Nat))).run Try.prog w = .ok () w' ∧ MapS w' mb (L ++ [x]) ∧ Turn (fun i => i = mb) w w' := by
  obtain ⟨D, h1, h2, h3⟩ := h
  obtain ⟨⟨l, hkl⟩, -⟩ := hx
  have hwf : (Lit.int .i64 (L.length : Nat)).wf = true := by simp [Lit.wf, IntKind.min, IntKind.max, IntKind.signed, IntKind.bits]; omega
  obtain ⟨w', hrun, k1, k2⟩ := h1.update sKeyed Try.underlying51 (by unfold maxLen; omega) hkl (plainElem_int Try.underlying3 hwf)
  have hnot := fI_not hn
  have e0 : fI L x = L.length := by have := fI_le L x; omega
  have eX : fI (L ++ [x]) x = L.length := fI_at (i := L.length) (by simp) (by simp [eqS_self]) (fun k hk => by
    rw [List.getElem_append_left hk]
    cases hq : eqS L[k] x with
    | false => rfl
    | true => exact absurd (eqS_true.1 hq) (hnot k hk))
  refine ⟨w', hrun, ⟨D.put l (.lit (.int .i64 (L.length : Nat))), by rw [List.length_append]; exact k1, h2.put _ _, fun y m hy => ?_⟩, Turn.grown k2 (fun r e _ => by injection e with e; exact e.symm)⟩
  have hll : (L ++ [x]).length = L.length + 1 := by simp
  by_cases hxy : y = x
  · subst hxy
    rw [hkl] at hy
    injection hy with hy
    subst hy
    have hk := sKeyed.key hkl
    refine ⟨?_, ?_⟩
    · rw [Maps.has_put_same h2 hk]; unfold fB; rw [eX]; exact (decide_eq_true (by omega)).symm
    · rw [Maps.atKey_put_same h2 hk]; unfold fE; rw [eX, if_pos (by omega)]
  · have hne := key_ne hy hkl hxy
    obtain ⟨q1, q2⟩ := h3 y m hy
    rw [Maps.has_put_other hne, Maps.atKey_put_other hne, q1, q2]
    have hfe : ∀ z, fI (L ++ [x]) y = z → (fI L y < L.length → z = fI L y) ∧ (¬ fI L y < L.length → z = L.length + 1) := fun z hz => by
      subst hz
      constructor
      · intro hlt
        refine fI_at (by omega) ?_ (fun k hk => ?_)
        · rw [List.getElem_append_left hlt]
          exact eqS_true.2 (fI_val hlt)
        · rw [List.getElem_append_left (by omega)]
          have := List.not_of_lt_findIdx (p := fun u => eqS u y) (xs := L) hk
          simpa using this
      · intro hge
        rw [← hll]
        refine fI_none fun k hk => ?_
        by_cases hkL : k < L.length
        · rw [List.getElem_append_left hkL]
          cases hq : eqS L[k] y with
          | false => rfl
          | true => exact absurd (eqS_true.1 hq) (fI_not hge k hkL)
        · have : k = L.length := by omega
          subst this
          have e : (L ++ [x])[L.length] = x := by simp
          rw [e]
          cases hq : eqS x y with
          | false => rfl
          | true => exact absurd (eqS_true.1 hq).symm hxy
    obtain ⟨a1, a2⟩ := hfe _ rfl
    unfold fB fE
    by_cases hlt : fI L y < L.length
    · rw [a1 hlt, if_pos hlt, if_pos (by omega)]
      exact ⟨by rw [decide_eq_true hlt, decide_eq_true (by omega)], rfl⟩
    · rw [a2 hlt, if_neg hlt, if_neg (by omega)]
      exact ⟨by rw [decide_eq_false hlt, decide_eq_false (by omega)], rfl⟩
end Go.Proofs.Ytjdcbbleefepoaa
