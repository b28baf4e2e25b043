/- The document's word: what stands in memory, and what is said of it. -/
import Derived.Test.YtmeipmkiknekjaaDoorHRefC
import Derived.Test.YtmeipmkiknekjaaDoorHTell
namespace Go.Proofs.YtmeipmkiknekjaaDoor
open Go.RowKit

abbrev P42 : TypeId := 42
theorem info42 : (Tryd.prog.info? P42).map (fun i => (i.zero, i.size, i.bytes)) = some (some (.agg #[.int .u8 0, .int .i64 0, .int .i64 0, .string ⟨#[]⟩, .bool false, .bool false]), 6, 48) := by kernel_rfl
theorem ne_42U : P42 ≠ U8 := by decide +kernel
def wA (p b : Nat) (t : ByteArray) (r wh : Bool) : Array Value := #[.int .u8 51, .int .i64 (p : Nat), .int .i64 (b : Nat), .string t, .bool r, .bool wh]
def zA : Array Value := #[.int .u8 0, .int .i64 0, .int .i64 0, .string ⟨#[]⟩, .bool false, .bool false]
/-- The word's piece, the result's cells and the text. -/
structure WdS (w0 W : World) (pb rb : Nat) (ar : Array Value) (tv : Value) (l : List Nat) : Prop where
  pbox : W.heap[pb]? = some (.cells ar P42)
  rbox : W.heap[rb]? = some (.cells zA P42)
  trow : W.ownsRow w0.heap.size U8 1 tv l.length (nbC l)
  plo : w0.heap.size ≤ pb
  rlo : w0.heap.size ≤ rb
  ne : pb ≠ rb
  up : Up w0 W
variable {w0 W W' w2 : World} {pb rb : Nat} {ar : Array Value} {tv tv' : Value} {l l' : List Nat}
theorem WdS.more (h : WdS w0 W pb rb ar tv l) (hu : Up W W') : WdS w0 W' pb rb ar tv l :=
  ⟨box_up h.pbox hu, box_up h.rbox hu, row_up h.trow hu, h.plo, h.rlo, h.ne, h.up.trans hu⟩
theorem WdS.cell (h : WdS w0 W pb rb ar tv l) {k : Nat} {u : Value} (hk : ar[k]? = some u) : W.cell? ⟨pb, k, none⟩ = some u := cellOf h.pbox hk
theorem WdS.fr (h : WdS w0 W pb rb ar tv l) (k : Nat) : W.frozen? ⟨pb, k, none⟩ = false := frozenOf h.pbox
theorem WdS.rfr (h : WdS w0 W pb rb ar tv l) (k : Nat) : W.frozen? ⟨rb, k, none⟩ = false := frozenOf h.rbox
theorem WdS.set (h : WdS w0 W pb rb ar tv l) (k : Nat) (u : Value) : WdS w0 (W.setCell ⟨pb, k, none⟩ u) pb rb (ar.setIfInBounds k u) tv l := by
  refine ⟨heap_setCell_same W pb k _ _ u h.pbox, ?_, row_keep h.trow fun g e => setCell_far W pb k u g ?_, h.plo, h.rlo, h.ne, Below.setCell h.up (p := ⟨pb, k, none⟩) h.plo u⟩
  · rw [setCell_far W pb k u rb h.ne]; exact h.rbox
  · exact blk_ne ⟨_, _, h.pbox⟩ (row_blk h.trow e) ne_42U
theorem WdS.app (h : WdS w0 W pb rb ar tv l) (hu : Up W W') (hgrow : W'.grownBy w2 tv.ownBlock) (hown : w2.ownsRow w0.heap.size U8 1 tv' l'.length (nbC l')) : WdS w0 w2 pb rb ar tv' l' := by
  have hup : Up w0 w2 := (h.up.trans hu).grown hgrow (Nat.le_trans (Below.size h.up) (Below.size hu)) (fun q hq => own_base h.trow hq)
  have hk : ∀ g : Nat, (∃ cs fr, W.heap[g]? = some (.cells cs P42 fr)) → w2.heap[g]? = W.heap[g]? := fun g hx => by
    obtain ⟨cs, fr, hx⟩ := hx
    have hlt := (Array.getElem?_eq_some_iff.1 hx).1
    rw [hgrow.block g (Nat.lt_of_lt_of_le hlt (Below.size hu)) (fun e => blk_ne ⟨_, _, hx⟩ (row_blk h.trow e.symm) ne_42U rfl), Below.block hu g hlt]
  exact ⟨(hk pb ⟨_, _, h.pbox⟩).trans h.pbox, (hk rb ⟨_, _, h.rbox⟩).trans h.rbox, hown, h.plo, h.rlo, h.ne, hup⟩

theorem any_head {c n : Nat} {R : List Nat} (f : Nat → Bool) (h : f c = true) (hn : 1 ≤ n) : ((c :: R).take n).any f = true := by
  obtain ⟨n, rfl⟩ : ∃ k, n = k + 1 := ⟨n - 1, by omega⟩
  rw [List.take_succ_cons, List.any_cons, h, Bool.true_or]
theorem stp_sg {k : Nat} {L : List Nat} {x : Nat × List Nat × Nat} (hs : stp k L = some x) (hx : x.2.2 ≠ 0) : k ≠ 0 ∨ (L.take x.1).any sgB = true := by
  by_cases hk : k = 0
  · refine .inr ?_
    have h1 := (stp_con hs).2.1
    match L, hs with
    | [], hs => cases hs
    | c :: r, hs =>
      subst hk
      rw [stp_cons] at hs
      split at hs
      · cases hs
      rw [if_neg (by decide), if_neg (by decide)] at hs
      split at hs
      · cases hs
      injection hs with hs
      have hc : sgB c = true := by
        by_cases h39 : c = 39
        · subst h39; rfl
        · by_cases h34 : c = 34
          · subst h34; rfl
          · rw [if_neg h39, if_neg h34] at hs
            by_cases h92 : c = 92
            · subst h92; rfl
            · rw [if_neg h92] at hs
              subst hs
              exact absurd rfl hx
      exact any_head sgB hc h1
  · exact .inl hk
/-- What is said of the word from p on, with a mark, when one stands at q. -/
structure WInv (L : List Nat) (p m q k : Nat) (l : List Nat) (r : Bool) : Prop where
  pq : p ≤ q
  qn : q ≤ con L
  eq : wd m (L.drop p) = ((q - p) + (wd k (L.drop q)).1, l ++ (wd k (L.drop q)).2.1, (wd k (L.drop q)).2.2)
  rr : r = (decide (m ≠ 0) || ((L.drop p).take (q - p)).any sgB)
  kr : k ≠ 0 → r = true
  mrk : k = 0 ∨ k = 39 ∨ k = 34
  ll : l.length ≤ q - p
theorem WInv.start {L : List Nat} {p m : Nat} (hp : p ≤ con L) (hm : m = 0 ∨ m = 39 ∨ m = 34) : WInv L p m p m [] (decide (m ≠ 0)) :=
  ⟨Nat.le_refl _, hp, by simp, by simp, fun h => decide_eq_true h, hm, by simp⟩
theorem WInv.step {L : List Nat} {p m q k : Nat} {l : List Nat} {r r' : Bool} (h : WInv L p m q k l r) {x : Nat × List Nat × Nat} (hs : stp k (L.drop q) = some x) (hr : r' = (r || ((L.drop q).take x.1).any sgB)) : WInv L p m (q + x.1) x.2.2 (l ++ x.2.1) r' := by
  obtain ⟨s0, s1, s2, s3, s4⟩ := stp_con hs
  have hpq := h.pq
  have hqn := h.qn
  rw [con_drop q L hqn] at s2
  have hll := h.ll
  refine ⟨by omega, by omega, ?_, ?_, ?_, s4, by rw [List.length_append]; omega⟩
  · rw [h.eq, wd_step hs, List.drop_drop]
    simp only [List.append_assoc]
    rw [show q + x.1 - p + (wd x.2.2 (L.drop (q + x.1))).1 = q - p + (x.1 + (wd x.2.2 (L.drop (q + x.1))).1) from by omega]
  · have e : (L.drop p).take (q + x.1 - p) = (L.drop p).take (q - p) ++ (L.drop q).take x.1 := by
      rw [show q + x.1 - p = (q - p) + x.1 from by omega, List.take_add, List.drop_drop, show p + (q - p) = q from by omega]
    rw [e, List.any_append, ← Bool.or_assoc, ← h.rr, hr]
  · intro hx
    rcases stp_sg hs hx with h1 | h1
    · rw [hr, h.kr h1, Bool.true_or]
    · rw [hr, h1, Bool.or_true]
theorem WInv.last {L : List Nat} {p m q k : Nat} {l : List Nat} {r : Bool} (h : WInv L p m q k l r) (hs : stp k (L.drop q) = none) : wd m (L.drop p) = (q - p, l, k) ∧ r = (decide (m ≠ 0) || ((L.drop p).take (wd m (L.drop p)).1).any sgB) := by
  have e := h.eq
  rw [wd_stop hs] at e
  simp only [Nat.add_zero, List.append_nil] at e
  exact ⟨e, by rw [e]; exact h.rr⟩
/-- The result is laid into its cells. -/
theorem WdS.out (h : WdS w0 W pb rb ar tv l) (a0 a1 a2 a3 a4 a5 : Value) : (∀ (k : Nat) (u : Value), (#[a0, a1, a2, a3, a4, a5] : Array Value)[k]? = some u → ((((((W.setCell ⟨rb, 0, none⟩ a0).setCell ⟨rb, 1, none⟩ a1).setCell ⟨rb, 2, none⟩ a2).setCell ⟨rb, 3, none⟩ a3).setCell ⟨rb, 4, none⟩ a4).setCell ⟨rb, 5, none⟩ a5).cell? ⟨rb, k, none⟩ = some u) ∧
    Up w0 ((((((W.setCell ⟨rb, 0, none⟩ a0).setCell ⟨rb, 1, none⟩ a1).setCell ⟨rb, 2, none⟩ a2).setCell ⟨rb, 3, none⟩ a3).setCell ⟨rb, 4, none⟩ a4).setCell ⟨rb, 5, none⟩ a5) := by
  refine ⟨fun k u hu => ?_, ?_⟩
  · have h1 := heap_setCell_same _ rb 5 _ _ a5 (heap_setCell_same _ rb 4 _ _ a4 (heap_setCell_same _ rb 3 _ _ a3 (heap_setCell_same _ rb 2 _ _ a2 (heap_setCell_same _ rb 1 _ _ a1 (heap_setCell_same W rb 0 _ _ a0 h.rbox)))))
    exact cellOf h1 hu
  · exact Below.setCell (Below.setCell (Below.setCell (Below.setCell (Below.setCell (Below.setCell h.up (p := ⟨rb, 0, none⟩) h.rlo a0) (p := ⟨rb, 1, none⟩) h.rlo a1) (p := ⟨rb, 2, none⟩) h.rlo a2) (p := ⟨rb, 3, none⟩) h.rlo a3) (p := ⟨rb, 4, none⟩) h.rlo a4) (p := ⟨rb, 5, none⟩) h.rlo a5
theorem wpList_append_str {o : Oper} {a : Act} {w : World} {ops : Array Oper} {rest : List Oper} {Q : Exit → Act → World → Prop} (hgd : o.guard = none) (sl x : Operand) (t u : TypeId)
    (ho : o.op = .call { callee := .builtin .append, args := #[sl, x], argTypes := #[t, u] })
    (base : Nat) (e : TypeId) (i : TypeInfo) (ht : Tryd.prog.underlying t = some (.slice e)) (hu : Tryd.prog.underlying u = some .string) (hi : Tryd.prog.info? e = some i) (hz : i.zero = some (.int .u8 0))
    (hsize : i.size = 1) (hby : i.bytes = 1)
    (v : Value) (n : Nat) (xs : List Value) (hs : a.eval sl = v) (hown : w.ownsRow base e 1 v n xs) (s : ByteArray) (hx : a.eval x = .string s)
    (h63 : n + s.size ≤ maxLen) (hbytes : n + s.size ≤ 140737488355328) (hbase : base ≤ w.heap.size)
    (h : ∀ v' w', w'.ownsRow base e 1 v' (n + s.size) (xs ++ Lib.strCells s) → w.grownBy w' v.ownBlock → wpList Tryd.prog ops Q rest (a.put o.dst v') w') : wpList Tryd.prog ops Q (o :: rest) a w :=
  wpList_plain hgd fun _ hK => wp_append_str sl x t u ho base e i ht hu hi hz hsize hby v n xs hs hown s hx h63 hbytes hbase fun v' w' h2 h3 => hK _ _ (h v' w' h2 h3)
theorem wpc_fin0 {L : List Nat} {p m q : Nat} {l : List Nat} {r : Bool} (h : wd m (L.drop p) = (q - p, l, 0) ∧ r = (decide (m ≠ 0) || ((L.drop p).take (wd m (L.drop p)).1).any sgB)) (hpq : p ≤ q) : wpc L p m = ⟨51, p, q, l, r, decide (m = 0)⟩ := by
  unfold wpc
  rw [← h.2, h.1]
  simp only [if_true, List.append_nil, decide_true, Bool.and_true]
  rw [show p + (q - p) = q from by omega]
theorem wpc_fin1 {L : List Nat} {p m q k : Nat} {l : List Nat} {r : Bool} (h : wd m (L.drop p) = (q - p, l, k) ∧ r = (decide (m ≠ 0) || ((L.drop p).take (wd m (L.drop p)).1).any sgB)) (hk : k ≠ 0) : wpc L p m = ⟨51, p, L.length, l ++ L.drop (con L), r, false⟩ := by
  unfold wpc
  rw [← h.2, h.1]
  simp only [if_neg hk, decide_eq_false hk, Bool.and_false]
end Go.Proofs.YtmeipmkiknekjaaDoor
