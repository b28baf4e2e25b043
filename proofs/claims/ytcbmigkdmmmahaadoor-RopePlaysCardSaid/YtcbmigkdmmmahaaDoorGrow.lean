/- The program's grow: a tree of a text, of its pieces. -/
import Derived.RangeFuncBox
import Derived.RangeFuncFrom
import Derived.Maps.AppendAt
import Derived.Test.YtcbmigkdmmmahaaDoorPcs
import Derived.Test.YtcbmigkdmmmahaaDoorStack
namespace Go.Proofs.YtcbmigkdmmmahaaDoor
open Go.RowKit Go.Shelf
attribute [local go_sem] Oper.semAt_some

theorem infoNode : (Tryd.prog.info? 53).map (fun i => (i.zero, i.size, i.bytes)) = some (some (.pointer none), 1, 8) := by kernel_rfl

/-- append, as one step of a region in a round. -/
theorem stepIn_append {F : Fence} {n : Nat} {P : Program} {ops : Array Oper} {o : Oper} {a : Act} {w : World} {K : Act → World → Prop} {Q : Exit → Act → World → Prop} {E : Prop}
    (hg : o.guard = none) (s x : Operand) (t : TypeId) (hop : o.op = Op.call { callee := Callee.builtin Builtin.append, args := #[s, x], argTypes := #[t, t] })
    (base : Nat) (e : TypeId) (i : TypeInfo) (z : Value) (size bytes : Nat) (h1 : P.underlying t = some (.slice e)) (h2 : P.info? e = some i) (h3 : i.zero = some z) (h4 : i.size = size) (h5 : i.bytes = bytes) (h6 : z.cells.size = size) (h7 : 0 < size)
    (v : Value) (k : Nat) (xs : List Value) (hs : a.eval s = v) (hown : w.ownsRow base e size v k xs) (ad : Addr) (m c : Nat) (news : List Value) (hx : a.eval x = .slice (some ad) m c) (hn : news.length = m * size)
    (hc : ∀ j u, news[j]? = some u → w.cell? (ad.add j) = some u) (h1c : ∀ u ∈ news, u.oneCell' = true) (b1 : k + m ≤ maxLen) (b2 : (k + m) * bytes ≤ 140737488355328) (b3 : base ≤ w.heap.size)
    (hK : ∀ v' w', w'.ownsRow base e size v' (k + m) (xs ++ news) → w.grownBy w' v.ownBlock → K (a.put o.dst v') w') :
    if Region.wanted o (yielded ops a.tmps) = true then Oper.wpIn F n P o a w K Q else E := by
  rw [if_pos (by simp [Region.wanted, hg])]
  obtain ⟨v', w', hrun, r1, r2, _⟩ := run_append_own (P := P) w base t o.type e i z size bytes h1 h2 h3 h4 h5 h6 h7 v k xs hown ad m c news hn hc h1c b1 b2 b3
  unfold Oper.wpIn
  refine ⟨?_, ?_⟩
  · simp [Oper.about, hop, resolve, Target.leads, Sem.run_pure]
  · rw [Oper.semAt_plain F _ _ (by rw [hop]; intro c hc'; cases hc')]
    simp [execOp, hop, resolve, invoke, builtin, hs, hx, hrun, Result.andThen]
    exact hK v' w' r1 r2

/-- A leaf of the text x lies at block c. -/
def LeafAt (W : World) (x : ByteArray) (c : Nat) : Prop := W.heap[c]? = some (.cells (ncells x 1 (.pointer none) (.pointer none) x) 76)
def ptrs (cs : List Nat) : List Value := cs.map fun c => .pointer (some ⟨c, 0, none⟩)
/-- What has been collected. -/
def Coll (N : Nat) (s : ByteArray) (pre : List Pc) (W : World) : Prop := ∃ cs v, Boxed W N 77 v ∧ W.ownsRow N 53 1 v cs.length (ptrs cs) ∧ (v = .slice none 0 0 ↔ cs = []) ∧ cs.length = pre.length ∧ (∀ (i c : Nat) (x : Pc), cs[i]? = some c → pre[i]? = some x → LeafAt W x.1 c) ∧ Boxed W (N + 1) 9 (.string s)

theorem coll_own (N : Nat) (s : ByteArray) : Own (Coll N s) := by
  rintro pre X Y row ⟨cs, v, hv, hr, hnil, hlen, hleaf, hbs⟩ hg hrow
  obtain ⟨v', hv', hr', hG⟩ := holdsRow_own N N 77 53 1 (fun _ : Unit => cs.length) (fun _ => ptrs cs) (fun _ v => v = .slice none 0 0 ↔ cs = []) () X Y row ⟨v, hv, hr, hnil⟩ hg hrow
  exact ⟨cs, v', hv', hr', hG, hlen, fun i c x h1 h2 => (grownBy_keeps_cells hg hrow (hleaf i c x h1 h2) rfl).trans (hleaf i c x h1 h2), (grownBy_keeps_cells hg hrow hbs rfl).trans hbs⟩

/-- A round's end: the leaf is laid behind what has been collected. -/
theorem coll_step {N : Nat} {s : ByteArray} {pre : List Pc} {x : Pc} {W W1 w2 : World} {cs : List Nat} {v v' : Value} {c : Nat} {tmp : Obj}
    (hN : N ≤ W.heap.size) (hv : Boxed W N 77 v) (hr : W.ownsRow N 53 1 v cs.length (ptrs cs)) (hlen : cs.length = pre.length) (hleaf : ∀ (i c : Nat) (x : Pc), cs[i]? = some c → pre[i]? = some x → LeafAt W x.1 c) (hbs : Boxed W (N + 1) 9 (.string s))
    (hu : Up W W1) (hc : LeafAt W1 x.1 c) (hown : w2.ownsRow N 53 1 v' (cs.length + 1) (ptrs cs ++ [.pointer (some ⟨c, 0, none⟩)])) (hgrow : (W1.alloc tmp).grownBy w2 v.ownBlock) :
    Boxed w2 N 77 v ∧ KeepsOthers W (w2.setCell ⟨N, 0, none⟩ v') ∧ KpS N (N + 1) W (w2.setCell ⟨N, 0, none⟩ v') ∧ Coll N s (pre ++ [x]) (w2.setCell ⟨N, 0, none⟩ v') := by
  have up : ∀ {b : Nat} {o : Obj}, W.heap[b]? = some o → W1.heap[b]? = some o := fun {b o} h => (Below.block hu b (Array.getElem?_eq_some_iff.1 h).1).trans h
  have hv1 : Boxed W1 N 77 v := up hv
  have hbs1 : Boxed W1 (N + 1) 9 (.string s) := up hbs
  have hr1 : W1.ownsRow N 53 1 v cs.length (ptrs cs) := hr.kept hu.grownBy (by cases hv : v.ownBlock <;> simp)
  have hz : N ≤ W1.heap.size := Nat.le_trans hN (Below.size hu)
  obtain ⟨g1, g2, g3, g4, g5⟩ := hv1.appended (by decide) hr1 hz (Nat.le_refl _) hown hgrow
  have keep : ∀ {b : Nat} {cs' : Array Value} {T : TypeId}, W1.heap[b]? = some (.cells cs' T) → T ≠ 53 → b ≠ N → (w2.setCell ⟨N, 0, none⟩ v').heap[b]? = some (.cells cs' T) := fun {b cs' T} h hT hb => by
    have hlt := (Array.getElem?_eq_some_iff.1 h).1
    have e1 : (W1.alloc tmp).heap[b]? = some (.cells cs' T) := (Below.heap_alloc _ _ _ hlt).trans h
    have e2 := hgrow.block b (by simp; omega) (fun e => Lib.ownBlock_ne hr1 h hT e.symm)
    exact (Below.heap_setCell _ _ _ _ hb).trans (e2.trans e1)
  have hbs2 : Boxed (w2.setCell ⟨N, 0, none⟩ v') (N + 1) 9 (.string s) := keep hbs1 (by decide) (by omega)
  have leafNe : ∀ {b : Nat} {y : ByteArray}, LeafAt W1 y b → b ≠ N := fun {b y} h e => by
    subst e
    have := (show W1.heap[b]? = _ from h).symm.trans hv1
    simp at this
  refine ⟨g1, (KeepsOthers.of_grownBy hu.grownBy (fun j o e => by cases e)).trans g4, ⟨(Below.mono hu hN).trans g5, by rw [hbs2.cell, hbs.cell]⟩, cs ++ [c], v', g2, ?_, ?_, by simp [hlen], ?_, hbs2⟩
  · rw [List.length_append]; unfold ptrs at g3 ⊢; rw [List.map_append]; exact g3
  · constructor
    · rintro rfl
      have := g3.1
      rcases g3.2 with ⟨_, h0⟩ | ⟨g, cap, cur, h0, _⟩
      · omega
      · cases h0
    · intro h; simp at h
  · intro i d y h1 h2
    by_cases hi : i < cs.length
    · rw [List.getElem?_append_left hi] at h1
      rw [List.getElem?_append_left (by omega)] at h2
      have h3 : LeafAt W1 y.1 d := up (hleaf i d y h1 h2)
      exact keep h3 (by decide) (leafNe h3)
    · have e : i = cs.length := by
        have := (List.getElem?_eq_some_iff.1 h1).1
        rw [List.length_append] at this
        simp at this
        omega
      subst e
      rw [List.getElem?_append_right (Nat.le_refl _)] at h1
      rw [hlen, List.getElem?_append_right (Nat.le_refl _)] at h2
      simp at h1 h2
      subst h1 h2
      exact keep hc (by decide) (leafNe hc)
end Go.Proofs.YtcbmigkdmmmahaaDoor
