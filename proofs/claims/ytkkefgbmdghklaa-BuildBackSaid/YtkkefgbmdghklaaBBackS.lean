/- BuildBack: what stands between its rounds. -/
import Derived.Test.YtkkefgbmdghklaaBCopy
import Derived.Test.YtkkefgbmdghklaaBBack
namespace Go.Proofs.Ytkkefgbmdghklaa
open Go.RowKit

def opnL (L : List Nd) (p q : Nat) : List Nd := (((st L p).take (q + 1)).drop 1).map (nd L)
theorem opnL_len {L : List Nd} {p q : Nat} (h : q + 1 ≤ (st L p).length) : (opnL L p q).length = q := by
  unfold opnL
  rw [List.length_map, List.length_drop, List.length_take]
  omega
theorem opnL_pop {L : List Nd} {p q s : Nat} (h : q + 1 + 1 ≤ (st L p).length) (hs : (st L p)[q + 1]? = some s) : opnL L p (q + 1) = opnL L p q ++ [nd L s] := by
  unfold opnL
  have htk : (st L p).take (q + 1 + 1) = (st L p).take (q + 1) ++ [s] := by
    rw [List.take_succ_eq_append_getElem (by omega)]
    congr 2
    rw [List.getElem?_eq_getElem (by omega)] at hs
    exact Option.some.inj hs
  rw [htk, List.drop_append_of_le_length (by rw [List.length_take]; omega), List.map_append]
  rfl
theorem rows_apart {W : World} {B B' : Nat} {T T' : TypeId} {k k' n n' : Nat} {v v' : Value} {xs xs' : List Value} (h1 : W.ownsRow B T k v n xs) (h2 : W.ownsRow B' T' k' v' n' xs') (hne : T ≠ T') : v'.ownBlock = none ∨ v'.ownBlock ≠ v.ownBlock := by
  cases e : v'.ownBlock with
  | none => exact .inl rfl
  | some g =>
    right
    intro e2
    obtain ⟨-, c1, k1⟩ := own_lt h2 e
    obtain ⟨-, c2, k2⟩ := own_lt h1 e2.symm
    rw [k1] at k2
    injection k2 with k2
    injection k2 with _ k2
    exact hne k2.symm
/-- The nodes 1 to p are told, q of those around p are open; what has been laid in the two rows. -/
structure BackS (w : World) (L : List Nd) (p q : Nat) (E : List Ev) (vE vO : Value) (W : World) : Prop where
  rE : W.ownsRow w.heap.size 42 4 vE E.length (evCells E)
  rO : W.ownsRow w.heap.size 46 4 vO q (ndCells (opnL L p q))
  ask : asks 0 Bs.new.far Bs.new.O.length E = 0
  do_ : dos 0 Bs.new E = bk L p q
  ok : ∀ e ∈ E, EvOk e
  len : E.length + q ≤ 2 * p
  up : Up w W
  hq : q + 1 ≤ (st L p).length
  hp : p < L.length
  nx : p + 1 < L.length → dep L (p + 1) ≤ (q : Int) + 1
theorem BackS.start {w W : World} {L : List Nd} {m : Int} (h : IsT L m) (hu : Up w W) : BackS w L 0 0 [] (.slice none 0 0) (.slice none 0 0) W :=
  ⟨World.ownsRow_nil _ _ _ _, World.ownsRow_nil _ _ _ _, rfl, (bk_start h).symm, fun e h => (by cases h), Nat.le_refl _, hu, Nat.le_refl _, h.pos, fun h1 => by
    have := (h.ok 0 h1).2.1
    have h0 : dep L 0 = 0 := h.good.1
    omega⟩
/-- An event more. -/
theorem BackS.step {w W W5 : World} {L : List Nd} {p q p' q' : Nat} {E : List Ev} {vE vE' vO : Value} {e : Ev} (h : BackS w L p q E vE vO W) {o : Obj} (hown : W5.ownsRow w.heap.size 42 4 vE' (E.length + 1) (evCells E ++ evCells [e])) (hg : (W.alloc o).grownBy W5 vE.ownBlock)
    (ha : askE (bk L p q).far (bk L p q).O.length 0 e = 0) (hd : doE 0 (bk L p q) e = bk L p' q') (he : EvOk e) {vO' : Value} (hO : W5.ownsRow w.heap.size 46 4 vO' q' (ndCells (opnL L p' q'))) (hl : E.length + 1 + q' ≤ 2 * p')
    (hq' : q' + 1 ≤ (st L p').length) (hp' : p' < L.length) (hn : p' + 1 < L.length → dep L (p' + 1) ≤ (q' : Int) + 1) : BackS w L p' q' (E ++ [e]) vE' vO' W5 := by
  have hlen : (E ++ [e]).length = E.length + 1 := by rw [List.length_append]; rfl
  refine ⟨by rw [hlen, evCells_append]; exact hown, hO, asks_snoc h.ask (by rw [h.do_]; exact ha), by rw [dos_snoc, h.do_]; exact hd, fun x hx => ?_, by omega, grown_up h.up (Up.alloc W o) h.rE hg, hq', hp', hn⟩
  rcases List.mem_append.1 hx with hx | hx
  · exact h.ok x hx
  · rw [List.mem_singleton] at hx; subst hx; exact he
/-- The other row, behind the append. -/
theorem BackS.keepO {w W W5 : World} {L : List Nd} {p q : Nat} {E : List Ev} {vE vO : Value} (h : BackS w L p q E vE vO W) {o : Obj} (hg : (W.alloc o).grownBy W5 vE.ownBlock) : W5.ownsRow w.heap.size 46 4 vO q (ndCells (opnL L p q)) :=
  (h.rO.alloc o).kept hg (rows_apart h.rE h.rO (by decide))
theorem BackS.vO {w W : World} {L : List Nd} {p q : Nat} {E : List Ev} {vE vO : Value} (h : BackS w L p q E vE vO W) : ∃ A c, vO = .slice A q c ∧ q ≤ c := by
  rcases h.rO.2 with ⟨rfl, rfl⟩ | ⟨g, cap, cur, rfl, -, -, h5, -⟩
  · exact ⟨none, 0, rfl, Nat.le_refl _⟩
  · exact ⟨_, cap, rfl, h5⟩
theorem BackS.vE {w W : World} {L : List Nd} {p q : Nat} {E : List Ev} {vE vO : Value} (h : BackS w L p q E vE vO W) : ∃ A c, vE = .slice A E.length c := by
  obtain ⟨A, c, e, -⟩ := owns_evs h.rE
  exact ⟨A, c, e⟩
/-- The last one that is open. -/
theorem BackS.last {w W : World} {L : List Nd} {p q s : Nat} {E : List Ev} {vE : Value} {A : Option Addr} {c : Nat} (h : BackS w L p (q + 1) E vE (.slice A (q + 1) c) W) (hs : (st L p)[q + 1]? = some s) : ∃ g, A = some ⟨g, 0, none⟩ ∧ W.cell? ⟨g, q * 4 + 2, none⟩ = some (.int .i64 (nd L s).2.2.1) := by
  obtain ⟨A', c', e, h1, h2, h3⟩ := owns_nds h.rO
  injection e with e1 e2 e3
  subst e1 e3
  obtain ⟨b, o, hA, hb, -, -, k2, -⟩ := nds_nd h1 q (Nat.lt_succ_self q)
  have hz := (h2 _ hA).2
  injection hz with hz1 hz2
  subst hz2
  refine ⟨b, hA, ?_⟩
  rw [opnL_pop h.hq hs] at k2
  have hl := opnL_len (L := L) (p := p) (q := q) (by have := h.hq; omega)
  have := nd_pushed (L := opnL L p q) (x := nd L s)
  rw [hl] at this
  rw [this, Nat.zero_add] at k2
  exact k2
/-- The rows' beginnings. -/
theorem BackS.popO {w : World} {L : List Nd} {p q s : Nat} {g c : Nat} {W5 : World} (h : W5.ownsRow w.heap.size 46 4 (.slice (some ⟨g, 0, none⟩) (q + 1) c) (q + 1) (ndCells (opnL L p (q + 1)))) (hq : q + 1 + 1 ≤ (st L p).length) (hs : (st L p)[q + 1]? = some s) : W5.ownsRow w.heap.size 46 4 (.slice (some ⟨g, 0, none⟩) q c) q (ndCells (opnL L p q)) := by
  have hl := opnL_len hq
  have hl0 := opnL_len (L := L) (p := p) (q := q) (by omega)
  have h1 : W5.ownsRow w.heap.size 46 4 (.slice (some ⟨g, 0, none⟩) (q + 1) c) (opnL L p (q + 1)).length (ndCells (opnL L p (q + 1))) := by rw [hl]; exact h
  have h2 := RowN.take (k := q) h1 (by omega)
  have h3 : (opnL L p (q + 1)).take q = opnL L p q := by
    rw [opnL_pop hq hs, List.take_append_of_le_length (by omega), List.take_of_length_le (by omega)]
  rw [h3] at h2
  exact h2
theorem nds_newsB {w : World} {b o n : Nat} {L : List Nd} (h : Nds w (some ⟨b, o, none⟩) n L) : ∀ W, Up w W → ∀ (j : Nat) (u : Value), (ndCells L)[j]? = some u → W.cell? ((⟨b, o, none⟩ : Addr).add j) = some u := by
  intro W hu j u hj
  have hl : j < L.length * 4 := by
    rw [← ndCells_len]
    exact (List.getElem?_eq_some_iff.1 hj).1
  obtain ⟨b', o', hA, -, c0, c1, c2, c3⟩ := (h.up hu).at_ (j / 4) (by omega)
  obtain ⟨rfl, rfl⟩ : b = b' ∧ o = o' := by injection hA with e; injection e with e1 e2; exact ⟨e1, e2⟩
  obtain ⟨g0, g1, g2, g3⟩ := ndCells_at L (j / 4) (by omega)
  rw [add_flat rfl]
  have h4 : j % 4 = 0 ∨ j % 4 = 1 ∨ j % 4 = 2 ∨ j % 4 = 3 := by omega
  rcases h4 with e | e | e | e
  · have ej : j / 4 * 4 = j := by omega
    rw [ej] at g0 c0
    rw [g0] at hj
    exact c0.trans hj
  · have ej : j / 4 * 4 + 1 = j := by omega
    rw [Nat.add_assoc, ej] at c1
    rw [ej] at g1
    rw [g1] at hj
    exact c1.trans hj
  · have ej : j / 4 * 4 + 2 = j := by omega
    rw [Nat.add_assoc, ej] at c2
    rw [ej] at g2
    rw [g2] at hj
    exact c2.trans hj
  · have ej : j / 4 * 4 + 3 = j := by omega
    rw [Nat.add_assoc, ej] at c3
    rw [ej] at g3
    rw [g3] at hj
    exact c3.trans hj
theorem keepU {w W W' : World} {b o : Nat} {v : Value} (hu : Up W W') (h : W.cell? ⟨b, o, none⟩ = some v ∧ Up w W) : W'.cell? ⟨b, o, none⟩ = some v ∧ Up w W' := ⟨cell_up hu h.1, h.2.trans hu⟩
theorem grown_none {W W' : World} (h : W.grownBy W' (Value.ownBlock (.slice none 0 0))) : Up W W' := (Up.refl W).grown h (Nat.le_refl _) (fun k e => by cases e)
theorem row_zero {W : World} {B T k n g c : Nat} {xs : List Value} (h : W.ownsRow B T k (.slice (some ⟨g, 0, none⟩) (0 + n) c) (0 + n) ([] ++ xs)) : W.ownsRow B T k (.slice (some ⟨g, 0, none⟩) n c) n xs := by
  rw [Nat.zero_add, List.nil_append] at h
  exact h
/-- A row of nodes that is asked whether it is a tree. -/
theorem check_row {W : World} {B g n cp : Nat} {L : List Nd} (hr : W.ownsRow B 46 4 (.slice (some ⟨g, 0, none⟩) n cp) n (ndCells L)) (hl : L.length = n) (hok : ∀ x ∈ L, NdOk x) (hn : n ≤ 1000) (m : Int) (hm : -9223372036854775808 ≤ m ∧ m ≤ 9223372036854775807) :
    Calls Try.prog 14 #[.slice (some ⟨g, 0, none⟩) n cp, .int .i64 m] W fun e w' => ∃ z, e = .returned (.int .i64 z) ∧ ((z = 0 ∧ IsT L m) ∨ (z = 60 ∧ ¬ IsT L m)) ∧ Up W w' := by
  subst hl
  obtain ⟨h1, h2, h3, -, h5⟩ := RowN.nds hr
  refine (check_any W (some ⟨g, 0, none⟩) L.length cp L ⟨h1, fun a e => by injection e with e; subst e; exact h3, hok⟩ h5 (by omega) m hm).mono ?_
  rintro e w' ⟨⟨z, rfl, hz⟩, hu⟩
  exact ⟨z, rfl, hz, hu⟩
theorem check_no {W : World} {B g n cp : Nat} {L : List Nd} (hr : W.ownsRow B 46 4 (.slice (some ⟨g, 0, none⟩) n cp) n (ndCells L)) (hl : L.length = n) (hok : ∀ x ∈ L, NdOk x) (hn : n ≤ 1000) (m : Int) (hm : -9223372036854775808 ≤ m ∧ m ≤ 9223372036854775807) (hT : ¬ IsT L m) :
    Calls Try.prog 14 #[.slice (some ⟨g, 0, none⟩) n cp, .int .i64 m] W fun e w' => e = .returned (.int .i64 60) ∧ Up W w' :=
  (check_row hr hl hok hn m hm).mono fun e w' ⟨z, h1, h2, h3⟩ => by
    rcases h2 with ⟨-, h2⟩ | ⟨rfl, -⟩
    · exact absurd h2 hT
    · exact ⟨h1, h3⟩
theorem check_yes {W : World} {B g n cp : Nat} {L : List Nd} (hr : W.ownsRow B 46 4 (.slice (some ⟨g, 0, none⟩) n cp) n (ndCells L)) (hl : L.length = n) (hok : ∀ x ∈ L, NdOk x) (hn : n ≤ 1000) (m : Int) (hm : -9223372036854775808 ≤ m ∧ m ≤ 9223372036854775807) (hT : IsT L m) :
    Calls Try.prog 14 #[.slice (some ⟨g, 0, none⟩) n cp, .int .i64 m] W fun e w' => e = .returned (.int .i64 0) ∧ Up W w' :=
  (check_row hr hl hok hn m hm).mono fun e w' ⟨z, h1, h2, h3⟩ => by
    rcases h2 with ⟨rfl, -⟩ | ⟨-, h2⟩
    · exact ⟨h1, h3⟩
    · exact absurd hT h2
theorem BackS.up' {w W W' : World} {L : List Nd} {p q : Nat} {E : List Ev} {vE vO : Value} (h : BackS w L p q E vE vO W) (hu : Up W W') : BackS w L p q E vE vO W' :=
  ⟨ownsRow_turn h.rE (Turn.of_up (fun _ => False) hu) (fun _ _ h => h), ownsRow_turn h.rO (Turn.of_up (fun _ => False) hu) (fun _ _ h => h), h.ask, h.do_, h.ok, h.len, h.up.trans hu, h.hq, h.hp, h.nx⟩
/-- An event more, the rows as they are then. -/
theorem BackS.step2 {w W W5 : World} {L : List Nd} {p q p' q' : Nat} {E : List Ev} {vE vE' vO : Value} {e : Ev} (h : BackS w L p q E vE vO W) (hown : W5.ownsRow w.heap.size 42 4 vE' (E.length + 1) (evCells E ++ evCells [e]))
    (ha : askE (bk L p q).far (bk L p q).O.length 0 e = 0) (hd : doE 0 (bk L p q) e = bk L p' q') (he : EvOk e) {vO' : Value} (hO : W5.ownsRow w.heap.size 46 4 vO' q' (ndCells (opnL L p' q'))) (hu : Up w W5) (hl : E.length + 1 + q' ≤ 2 * p')
    (hq' : q' + 1 ≤ (st L p').length) (hp' : p' < L.length) (hn : p' + 1 < L.length → dep L (p' + 1) ≤ (q' : Int) + 1) : BackS w L p' q' (E ++ [e]) vE' vO' W5 := by
  have hlen : (E ++ [e]).length = E.length + 1 := by rw [List.length_append]; rfl
  refine ⟨by rw [hlen, evCells_append]; exact hown, hO, asks_snoc h.ask (by rw [h.do_]; exact ha), by rw [dos_snoc, h.do_]; exact hd, fun x hx => ?_, by omega, hu, hq', hp', hn⟩
  rcases List.mem_append.1 hx with hx | hx
  · exact h.ok x hx
  · rw [List.mem_singleton] at hx; subst hx; exact he
theorem opnL_open {L : List Nd} {p q : Nat} (hq : q + 1 ≤ (st L p).length) (hs : st L (p + 1) = (st L p).take (q + 1) ++ [p + 1]) : opnL L (p + 1) (q + 1) = opnL L p q ++ [nd L (p + 1)] ∧ q + 1 + 1 ≤ (st L (p + 1)).length := by
  have hlt : ((st L p).take (q + 1)).length = q + 1 := by rw [List.length_take]; omega
  refine ⟨?_, by rw [hs, List.length_append, hlt]; exact Nat.le_refl _⟩
  unfold opnL
  rw [hs, List.take_of_length_le (by rw [List.length_append, hlt]; simp), List.drop_append_of_le_length (by omega), List.map_append]
  rfl
theorem opnL_leaf {L : List Nd} {p q : Nat} (hq : q + 1 ≤ (st L p).length) (hs : st L (p + 1) = (st L p).take (q + 1) ++ [p + 1]) : opnL L (p + 1) q = opnL L p q ∧ q + 1 ≤ (st L (p + 1)).length := by
  have hlt : ((st L p).take (q + 1)).length = q + 1 := by rw [List.length_take]; omega
  refine ⟨?_, by rw [hs, List.length_append, hlt]; simp⟩
  unfold opnL
  rw [hs, List.take_append_of_le_length (by omega), List.take_of_length_le (by omega)]
theorem drew_grownB {w w' : World} {r : Option Nat} (h : w.drew.grownBy w' r) : w.grownBy w' r := ⟨h.os, h.tape, h.output, h.size, h.block⟩
theorem keepU4 {W W' : World} {b o : Nat} {v0 v1 v2 v3 : Value} (hu : ∀ (j : Nat) (v : Value), W.cell? ⟨b, j, none⟩ = some v → W'.cell? ⟨b, j, none⟩ = some v)
    (h : W.cell? ⟨b, o, none⟩ = some v0 ∧ W.cell? ⟨b, o + 1, none⟩ = some v1 ∧ W.cell? ⟨b, o + 2, none⟩ = some v2 ∧ W.cell? ⟨b, o + 3, none⟩ = some v3) : W'.cell? ⟨b, o, none⟩ = some v0 ∧ W'.cell? ⟨b, o + 1, none⟩ = some v1 ∧ W'.cell? ⟨b, o + 2, none⟩ = some v2 ∧ W'.cell? ⟨b, o + 3, none⟩ = some v3 :=
  ⟨hu _ _ h.1, hu _ _ h.2.1, hu _ _ h.2.2.1, hu _ _ h.2.2.2⟩
/-- Cells of a block that stood at the beginning, behind an append onto a row that is newer. -/
theorem old_cell {w W W5 : World} {b : Nat} {v : Value} {n : Nat} {xs : List Value} {T k : Nat} {row : Option Nat} (hb : b < w.heap.size) (hr : W.ownsRow w.heap.size T k v n xs) (e : row = v.ownBlock) (hg : W.grownBy W5 row) : ∀ (j : Nat) (u : Value), W.cell? ⟨b, j, none⟩ = some u → W5.cell? ⟨b, j, none⟩ = some u := by
  subst e
  intro j u hu
  refine (World.cell?_of_block (hg.block b (World.block_lt_of_cell? W ⟨b, j, none⟩ hu) (fun e => ?_))).trans hu
  rcases hr.2 with ⟨rfl, -⟩ | ⟨g, cap, cur, rfl, h1, -⟩
  · cases e
  · have e2 : b = g := Option.some.inj e
    omega
end Go.Proofs.Ytkkefgbmdghklaa
