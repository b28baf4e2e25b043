/- The program's rows keep the chapter: what the statements ask of them. -/
import Derived.Test.YthiiemjbigcinaaQAll
import Derived.Test.YthiiemjbigcinaaQLawB
namespace Go.Proofs.Ythiiemjbigcinaa
open Go.RowKit

theorem seqC : SeqC SRow where
  turn h ht hG := h.turn ht hG
  mono h hG := h.mono hG
  ok h := h.ok
  new w := srow_new w
  splice w sb G R i n A k c L B m d Z hS hi hn hA hB hk hm _ _ := (srow_splice w sb G R i n A k c L B m d Z hS hi hn hA hB hk hm).mono fun _ _ ⟨h1, h2, h3⟩ => ⟨h1, h2, h3.mono fun _ _ g => g.1⟩
  at_ _ _ _ _ i hS _ := hS.at_ i
  sum _ _ _ _ i hS _ := hS.sum i
  find _ _ _ _ off hS _ := hS.find off
  len w _ _ _ hS := hS.sln w (Up.refl w)
  size w _ _ R hS := by
    rw [tot_szs]
    exact hS.ssz w (Up.refl w)
end Go.Proofs.Ythiiemjbigcinaa
