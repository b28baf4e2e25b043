/- How a tree of a row lies in memory. -/
import Derived.Test.YthiiemjbigcinaaQTree
import Derived.Test.YthiiemjbigcinaaQRange
namespace Go.Proofs.Ythiiemjbigcinaa
open Go.RowKit

/-- What is counted of a tree. -/
def cnv (t : QT) : Value := .agg #[.int .i64 (t.cn : Nat), .int .i64 t.sm, .int .i64 (t.dp : Nat)]
def qcells (l : QT) (x : ByteArray × Int) (r : QT) (vl vr : Value) : Array Value :=
  #[.string x.1, .int .i64 x.2, .int .i64 ((QT.node l x r).cn : Nat), .int .i64 (QT.node l x r).sm, .int .i64 ((QT.node l x r).dp : Nat), vl, vr]
/-- The tree t lies at v, in blocks of G. -/
def Tr (G : Nat → Prop) (w : World) : QT → Value → Prop
  | .nil, v => v = .pointer none
  | .node l x r, v => ∃ b vl vr, v = ptr b ∧ G b ∧ w.heap[b]? = some (.cells (qcells l x r vl vr) 68) ∧ Tr G w l vl ∧ Tr G w r vr
section
variable {G G' : Nat → Prop} {w w' : World}
theorem Tr.turn (ht : Turn G' w w') (hG : ∀ i, i < w.heap.size → G i → ¬ G' i) : ∀ {t : QT} {v : Value}, Tr G w t v → Tr G w' t v
  | .nil, _, h => h
  | .node _ _ _, _, ⟨b, vl, vr, e, hg, hc, h1, h2⟩ => by
    have hb : b < w.heap.size := (Array.getElem?_eq_some_iff.1 hc).1
    exact ⟨b, vl, vr, e, hg, (ht.block b hb (hG b hb hg)).trans hc, Tr.turn ht hG h1, Tr.turn ht hG h2⟩
theorem Tr.up {t : QT} {v : Value} (h : Tr G w t v) (hu : Up w w') : Tr G w' t v := h.turn (.of_up (fun _ => False) hu) (fun _ _ _ k => k)
theorem Tr.mono (hG : ∀ i, i < w.heap.size → G i → G' i) : ∀ {t : QT} {v : Value}, Tr G w t v → Tr G' w t v
  | .nil, _, h => h
  | .node _ _ _, _, ⟨b, vl, vr, e, hg, hc, h1, h2⟩ => ⟨b, vl, vr, e, hG b (Array.getElem?_eq_some_iff.1 hc).1 hg, hc, Tr.mono hG h1, Tr.mono hG h2⟩
/-- What a round keeps of a tree. -/
theorem Tr.kept (hk : KpS G w w') : ∀ {t : QT} {v : Value}, Tr G w t v → Tr G w' t v
  | .nil, _, h => h
  | .node _ _ _, _, ⟨b, vl, vr, e, hg, hc, h1, h2⟩ => ⟨b, vl, vr, e, hg, hk b hg _ _ _ hc, Tr.kept hk h1, Tr.kept hk h2⟩
end
/-- A new tree, all of whose blocks are of G. -/
def NewQ (G : Nat → Prop) (t : QT) (w : World) (e : Ending) (w' : World) : Prop := ∃ v, e = .returned v ∧ Tr G w' t v ∧ Up w w'
end Go.Proofs.Ythiiemjbigcinaa
