/- RopePlays: what is kept of the ropes and texts, whatever is appended. -/
import Derived.Test.YtcbmigkdmmmahaaDoorTells
import Derived.Test.YtcbmigkdmmmahaaDoorArgs
import Derived.Lib.Builder
namespace Go.Proofs.YtcbmigkdmmmahaaDoor
open Go.RowKit

/-- Blocks of nodes and of ropes are as they were. -/
def KeepsN (w w' : World) : Prop := ∀ (b : Nat) (cs : Array Value) (T : TypeId), w.heap[b]? = some (.cells cs T) → (T = 76 ∨ T = 56) → w'.heap[b]? = some (.cells cs T)
theorem NodeIn.keepN {B : Nat} {w w' : World} (hk : KeepsN w w') : ∀ {t : T} {b : Nat}, NodeIn B w t b → NodeIn B w' t b := by
  intro t
  induction t with
  | leaf s => intro b h; exact ⟨h.1, hk _ _ _ h.2 (.inl rfl)⟩
  | node l r hl hr =>
    intro b h
    obtain ⟨h1, bl, br, h2, h3, h4⟩ := h
    exact ⟨h1, bl, br, hk _ _ _ h2 (.inl rfl), hl h3, hr h4⟩
theorem RopeIs.keepN {w w' : World} {rb : Nat} {s : ByteArray} (h : RopeIs w rb s) (hk : KeepsN w w') (hz : w.heap.size ≤ w'.heap.size) : RopeIs w' rb s := by
  obtain ⟨v, o, h1, h2, h3, h4, h5⟩ := h
  refine ⟨v, o, hk _ _ _ h1 (.inr rfl), ?_, h3, h4, h5⟩
  cases o with
  | none => exact h2
  | some t => obtain ⟨b, e, hn⟩ := h2; exact ⟨b, e, NodeIn.mono hz (NodeIn.keepN hk hn)⟩
theorem keepsN_of {W W2 : World} {tmp : Obj} {base n : Nat} {e : TypeId} {v : Value} {xs : List Value} (h : W.ownsRow base e 1 v n xs) (he : 76 ≠ e ∧ 56 ≠ e) (hg : (W.alloc tmp).grownBy W2 v.ownBlock) : KeepsN W W2 := by
  intro b cs T hb hT
  have hlt := (Array.getElem?_eq_some_iff.1 hb).1
  have e1 : (W.alloc tmp).heap[b]? = some (.cells cs T) := (Below.heap_alloc _ _ _ hlt).trans hb
  have hne : T ≠ e := by rcases hT with rfl | rfl; exact he.1; exact he.2
  exact (hg.block b (by simp; omega) (fun e => Lib.ownBlock_ne h hb hne e.symm)).trans e1
theorem row_kept {W W2 : World} {tmp : Obj} {base n n' : Nat} {e e' : TypeId} {v v' : Value} {xs xs' : List Value} (h' : W.ownsRow base e' 1 v' n' xs') (h : W.ownsRow base e 1 v n xs) (hne : e' ≠ e) (hg : (W.alloc tmp).grownBy W2 v.ownBlock) : W2.ownsRow base e' 1 v' n' xs' := by
  refine (h'.alloc tmp).kept hg ?_
  rcases h'.2 with ⟨rfl, _⟩ | ⟨g, cap, cur, rfl, _, hgg, _⟩
  · exact .inl rfl
  · exact .inr (fun e => Lib.ownBlock_ne h hgg hne e.symm)

def rops (R : List Nat) : List Value := R.map fun b => .pointer (some ⟨b, 0, none⟩)
def txts (X : List ByteArray) : List Value := X.map fun t => .string t
/-- The ropes and the texts that have been collected. -/
structure PlayS (w : World) (R : List Nat) (X : List ByteArray) (v1 v2 : Value) (rb : Nat) (t : ByteArray) (W : World) : Prop where
  u : Up w W
  r : RopeIs W rb t
  all : ∀ (j b : Nat) (x : ByteArray), R[j]? = some b → X[j]? = some x → RopeIs W b x
  o1 : W.ownsRow w.heap.size 22 1 v1 R.length (rops R)
  o2 : W.ownsRow w.heap.size 9 1 v2 X.length (txts X)
section
variable {w W : World} {R : List Nat} {X : List ByteArray} {v1 v2 : Value} {rb : Nat} {t : ByteArray}
theorem PlayS.up {W' : World} (h : PlayS w R X v1 v2 rb t W) (hu : Up W W') : PlayS w R X v1 v2 rb t W' :=
  ⟨h.u.trans hu, h.r.up hu, fun j b x hb hx => (h.all j b x hb hx).up hu, h.o1.kept hu.grownBy (by cases v1.ownBlock <;> simp), h.o2.kept hu.grownBy (by cases v2.ownBlock <;> simp)⟩
theorem PlayS.now {rb' : Nat} {t' : ByteArray} (h : PlayS w R X v1 v2 rb t W) (hr : RopeIs W rb' t') : PlayS w R X v1 v2 rb' t' W := ⟨h.u, hr, h.all, h.o1, h.o2⟩
theorem PlayS.app1 {W2 : World} {tmp : Obj} {v' : Value} (h : PlayS w R X v1 v2 rb t W) (hl : X.length ≤ R.length) (hown : W2.ownsRow w.heap.size 22 1 v' (R.length + 1) (rops R ++ [.pointer (some ⟨rb, 0, none⟩)])) (hg : (W.alloc tmp).grownBy W2 v1.ownBlock) :
    PlayS w (R ++ [rb]) X v' v2 rb t W2 := by
  have hk := keepsN_of h.o1 ⟨by decide, by decide⟩ hg
  have hz : W.heap.size ≤ W2.heap.size := Nat.le_trans (by simp) hg.size
  refine ⟨?_, h.r.keepN hk hz, fun j b x hb hx => ?_, ?_, row_kept h.o2 h.o1 (by decide) hg⟩
  · exact (h.u.trans (Up.alloc W tmp)).grown hg (by have := Below.size h.u; simp; omega) fun k hk => own_base h.o1 hk
  · have hj : j < X.length := (List.getElem?_eq_some_iff.1 hx).1
    rw [List.getElem?_append_left (by omega)] at hb
    exact (h.all j b x hb hx).keepN hk hz
  · rw [List.length_append]
    unfold rops at hown ⊢
    rw [List.map_append]
    exact hown
theorem PlayS.app2 {W2 : World} {tmp : Obj} {v' : Value} (h : PlayS w (R ++ [rb]) X v1 v2 rb t W) (hl : X.length = R.length) (hown : W2.ownsRow w.heap.size 9 1 v' (X.length + 1) (txts X ++ [.string t])) (hg : (W.alloc tmp).grownBy W2 v2.ownBlock) :
    PlayS w (R ++ [rb]) (X ++ [t]) v1 v' rb t W2 := by
  have hk := keepsN_of h.o2 ⟨by decide, by decide⟩ hg
  have hz : W.heap.size ≤ W2.heap.size := Nat.le_trans (by simp) hg.size
  refine ⟨?_, h.r.keepN hk hz, fun j b x hb hx => ?_, row_kept h.o1 h.o2 (by decide) hg, ?_⟩
  · exact (h.u.trans (Up.alloc W tmp)).grown hg (by have := Below.size h.u; simp; omega) fun k hk => own_base h.o2 hk
  · by_cases hj : j < X.length
    · rw [List.getElem?_append_left hj] at hx
      exact (h.all j b x hb hx).keepN hk hz
    · have hj2 := (List.getElem?_eq_some_iff.1 hx).1
      rw [List.length_append] at hj2
      have hjx : j = X.length := by simp at hj2; omega
      subst hjx
      rw [List.getElem?_append_right (Nat.le_refl _)] at hx
      rw [hl, List.getElem?_append_right (Nat.le_refl _)] at hb
      simp at hx hb
      subst hx hb
      exact h.r.keepN hk hz
  · rw [List.length_append]
    unfold txts at hown ⊢
    rw [List.map_append]
    exact hown
theorem PlayS.start {W : World} {rb : Nat} {s : ByteArray} (hu : Up w W) (hr : RopeIs W rb s) :
    PlayS w [rb] [s] (.slice (some ⟨W.heap.size, 0, none⟩) 1 1) (.slice (some ⟨W.heap.size + 1, 0, none⟩) 1 1) rb s ((W.alloc (.cells #[.pointer (some ⟨rb, 0, none⟩)] 22)).alloc (.cells #[.string s] 9)) := by
  have hz := Below.size hu
  have u1 := Up.alloc W (.cells #[.pointer (some ⟨rb, 0, none⟩)] 22)
  have u2 := Up.alloc (W.alloc (.cells #[.pointer (some ⟨rb, 0, none⟩)] 22)) (.cells #[.string s] 9)
  have h1 := heap_alloc_new W (.cells #[.pointer (some ⟨rb, 0, none⟩)] 22)
  have h2 := heap_alloc_new (W.alloc (.cells #[.pointer (some ⟨rb, 0, none⟩)] 22)) (.cells #[.string s] 9)
  have hs : (W.alloc (.cells #[.pointer (some ⟨rb, 0, none⟩)] 22)).heap.size = W.heap.size + 1 := by simp
  rw [hs] at h2
  refine ⟨hu.trans (u1.trans u2), hr.up (u1.trans u2), fun j b x hb hx => ?_, ⟨rfl, .inr ⟨_, 1, _, rfl, hz, (Below.heap_alloc _ _ _ (by simp)).trans h1, Nat.le_refl _, by decide, rfl, rfl⟩⟩, ⟨rfl, .inr ⟨_, 1, _, rfl, by omega, h2, Nat.le_refl _, by decide, rfl, rfl⟩⟩⟩
  cases j with
  | zero => simp at hb hx; subst hb hx; exact hr.up (u1.trans u2)
  | succ j => simp at hb
theorem PlayS.at_ (h : PlayS w R X v1 v2 rb t W) (hl : R.length = X.length) {i : Nat} (hi : i < R.length) : ∃ b x g1 c1 g2 c2, v1 = .slice (some ⟨g1, 0, none⟩) R.length c1 ∧ v2 = .slice (some ⟨g2, 0, none⟩) X.length c2 ∧ RopeIs W b x ∧ W.cell? ⟨g1, i, none⟩ = some (.pointer (some ⟨b, 0, none⟩)) ∧ W.cell? ⟨g2, i, none⟩ = some (.string x) ∧ i < X.length := by
  obtain ⟨g1, c1, e1, -⟩ := h.o1.form (by omega)
  obtain ⟨g2, c2, e2, -⟩ := h.o2.form (by omega)
  subst e1 e2
  refine ⟨R[i], X[i]'(by omega), g1, c1, g2, c2, rfl, rfl, h.all i _ _ (List.getElem?_eq_getElem hi) (List.getElem?_eq_getElem (by omega)), ?_, ?_, by omega⟩
  · rw [h.o1.cellAt i (by omega)]
    unfold rops
    rw [List.getElem?_map, List.getElem?_eq_getElem hi]
    rfl
  · rw [h.o2.cellAt i (by omega)]
    unfold txts
    rw [List.getElem?_map, List.getElem?_eq_getElem (by omega)]
    rfl
theorem PlayS.cells_at {g1 c1 g2 c2 : Nat} (h : PlayS w R X (.slice (some ⟨g1, 0, none⟩) R.length c1) (.slice (some ⟨g2, 0, none⟩) X.length c2) rb t W) (hl : R.length = X.length) {i : Nat} (hi : i < R.length) :
    ∃ b x, RopeIs W b x ∧ W.cell? ⟨g1, i, none⟩ = some (.pointer (some ⟨b, 0, none⟩)) ∧ W.cell? ⟨g2, i, none⟩ = some (.string x) ∧ i < X.length := by
  refine ⟨R[i], X[i]'(by omega), h.all i _ _ (List.getElem?_eq_getElem hi) (List.getElem?_eq_getElem (by omega)), ?_, ?_, by omega⟩
  · rw [h.o1.cellAt i (by omega)]
    unfold rops
    rw [List.getElem?_map, List.getElem?_eq_getElem hi]
    rfl
  · rw [h.o2.cellAt i (by omega)]
    unfold txts
    rw [List.getElem?_map, List.getElem?_eq_getElem (by omega)]
    rfl
theorem keepP {W0 W W' : World} {b g1 g2 j : Nat} {x : ByteArray} {u1 u2 : Value} (hu : Up W W') (h : Up W0 W ∧ RopeIs W b x ∧ W.cell? ⟨g1, j, none⟩ = some u1 ∧ W.cell? ⟨g2, j, none⟩ = some u2) : Up W0 W' ∧ RopeIs W' b x ∧ W'.cell? ⟨g1, j, none⟩ = some u1 ∧ W'.cell? ⟨g2, j, none⟩ = some u2 :=
  ⟨h.1.trans hu, h.2.1.up hu, cell_up hu h.2.2.1, cell_up hu h.2.2.2⟩
end
end Go.Proofs.YtcbmigkdmmmahaaDoor
