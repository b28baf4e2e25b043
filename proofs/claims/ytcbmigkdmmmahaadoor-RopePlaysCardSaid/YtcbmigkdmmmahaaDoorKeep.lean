/- What a region keeps of the cells that it reads: one theorem for each number of cells. -/
import Derived.Test.YtcbmigkdmmmahaaDoorPair
namespace Go.Proofs.YtcbmigkdmmmahaaDoor
open Go.RowKit

theorem keep0 {w0 W w1 : World} (hu : Up W w1) (h : Up w0 W ∧ Tabs W) : Up w0 w1 ∧ Tabs w1 := ⟨h.1.trans hu, h.2.up hu⟩
theorem keep1 {w0 W w1 : World} {b1 o1 : Nat} {v1 : Value} (hu : Up W w1) (h : Up w0 W ∧ Tabs W ∧ W.cell? ⟨b1, o1, none⟩ = some v1) : Up w0 w1 ∧ Tabs w1 ∧ w1.cell? ⟨b1, o1, none⟩ = some v1 := by
  obtain ⟨h0, hT, h1⟩ := h
  exact ⟨h0.trans hu, hT.up hu, cell_up hu h1⟩
theorem keep2 {w0 W w1 : World} {b1 o1 b2 o2 : Nat} {v1 v2 : Value} (hu : Up W w1) (h : Up w0 W ∧ Tabs W ∧ W.cell? ⟨b1, o1, none⟩ = some v1 ∧ W.cell? ⟨b2, o2, none⟩ = some v2) : Up w0 w1 ∧ Tabs w1 ∧ w1.cell? ⟨b1, o1, none⟩ = some v1 ∧ w1.cell? ⟨b2, o2, none⟩ = some v2 := by
  obtain ⟨h0, hT, h1, h2⟩ := h
  exact ⟨h0.trans hu, hT.up hu, cell_up hu h1, cell_up hu h2⟩
theorem keep3 {w0 W w1 : World} {b1 o1 b2 o2 b3 o3 : Nat} {v1 v2 v3 : Value} (hu : Up W w1) (h : Up w0 W ∧ Tabs W ∧ W.cell? ⟨b1, o1, none⟩ = some v1 ∧ W.cell? ⟨b2, o2, none⟩ = some v2 ∧ W.cell? ⟨b3, o3, none⟩ = some v3) : Up w0 w1 ∧ Tabs w1 ∧ w1.cell? ⟨b1, o1, none⟩ = some v1 ∧ w1.cell? ⟨b2, o2, none⟩ = some v2 ∧ w1.cell? ⟨b3, o3, none⟩ = some v3 := by
  obtain ⟨h0, hT, h1, h2, h3⟩ := h
  exact ⟨h0.trans hu, hT.up hu, cell_up hu h1, cell_up hu h2, cell_up hu h3⟩
theorem keep4 {w0 W w1 : World} {b1 o1 b2 o2 b3 o3 b4 o4 : Nat} {v1 v2 v3 v4 : Value} (hu : Up W w1) (h : Up w0 W ∧ Tabs W ∧ W.cell? ⟨b1, o1, none⟩ = some v1 ∧ W.cell? ⟨b2, o2, none⟩ = some v2 ∧ W.cell? ⟨b3, o3, none⟩ = some v3 ∧ W.cell? ⟨b4, o4, none⟩ = some v4) : Up w0 w1 ∧ Tabs w1 ∧ w1.cell? ⟨b1, o1, none⟩ = some v1 ∧ w1.cell? ⟨b2, o2, none⟩ = some v2 ∧ w1.cell? ⟨b3, o3, none⟩ = some v3 ∧ w1.cell? ⟨b4, o4, none⟩ = some v4 := by
  obtain ⟨h0, hT, h1, h2, h3, h4⟩ := h
  exact ⟨h0.trans hu, hT.up hu, cell_up hu h1, cell_up hu h2, cell_up hu h3, cell_up hu h4⟩
theorem keep5 {w0 W w1 : World} {b1 o1 b2 o2 b3 o3 b4 o4 b5 o5 : Nat} {v1 v2 v3 v4 v5 : Value} (hu : Up W w1) (h : Up w0 W ∧ Tabs W ∧ W.cell? ⟨b1, o1, none⟩ = some v1 ∧ W.cell? ⟨b2, o2, none⟩ = some v2 ∧ W.cell? ⟨b3, o3, none⟩ = some v3 ∧ W.cell? ⟨b4, o4, none⟩ = some v4 ∧ W.cell? ⟨b5, o5, none⟩ = some v5) : Up w0 w1 ∧ Tabs w1 ∧ w1.cell? ⟨b1, o1, none⟩ = some v1 ∧ w1.cell? ⟨b2, o2, none⟩ = some v2 ∧ w1.cell? ⟨b3, o3, none⟩ = some v3 ∧ w1.cell? ⟨b4, o4, none⟩ = some v4 ∧ w1.cell? ⟨b5, o5, none⟩ = some v5 := by
  obtain ⟨h0, hT, h1, h2, h3, h4, h5⟩ := h
  exact ⟨h0.trans hu, hT.up hu, cell_up hu h1, cell_up hu h2, cell_up hu h3, cell_up hu h4, cell_up hu h5⟩
theorem keep6 {w0 W w1 : World} {b1 o1 b2 o2 b3 o3 b4 o4 b5 o5 b6 o6 : Nat} {v1 v2 v3 v4 v5 v6 : Value} (hu : Up W w1) (h : Up w0 W ∧ Tabs W ∧ W.cell? ⟨b1, o1, none⟩ = some v1 ∧ W.cell? ⟨b2, o2, none⟩ = some v2 ∧ W.cell? ⟨b3, o3, none⟩ = some v3 ∧ W.cell? ⟨b4, o4, none⟩ = some v4 ∧ W.cell? ⟨b5, o5, none⟩ = some v5 ∧ W.cell? ⟨b6, o6, none⟩ = some v6) : Up w0 w1 ∧ Tabs w1 ∧ w1.cell? ⟨b1, o1, none⟩ = some v1 ∧ w1.cell? ⟨b2, o2, none⟩ = some v2 ∧ w1.cell? ⟨b3, o3, none⟩ = some v3 ∧ w1.cell? ⟨b4, o4, none⟩ = some v4 ∧ w1.cell? ⟨b5, o5, none⟩ = some v5 ∧ w1.cell? ⟨b6, o6, none⟩ = some v6 := by
  obtain ⟨h0, hT, h1, h2, h3, h4, h5, h6⟩ := h
  exact ⟨h0.trans hu, hT.up hu, cell_up hu h1, cell_up hu h2, cell_up hu h3, cell_up hu h4, cell_up hu h5, cell_up hu h6⟩
theorem keep7 {w0 W w1 : World} {b1 o1 b2 o2 b3 o3 b4 o4 b5 o5 b6 o6 b7 o7 : Nat} {v1 v2 v3 v4 v5 v6 v7 : Value} (hu : Up W w1) (h : Up w0 W ∧ Tabs W ∧ W.cell? ⟨b1, o1, none⟩ = some v1 ∧ W.cell? ⟨b2, o2, none⟩ = some v2 ∧ W.cell? ⟨b3, o3, none⟩ = some v3 ∧ W.cell? ⟨b4, o4, none⟩ = some v4 ∧ W.cell? ⟨b5, o5, none⟩ = some v5 ∧ W.cell? ⟨b6, o6, none⟩ = some v6 ∧ W.cell? ⟨b7, o7, none⟩ = some v7) : Up w0 w1 ∧ Tabs w1 ∧ w1.cell? ⟨b1, o1, none⟩ = some v1 ∧ w1.cell? ⟨b2, o2, none⟩ = some v2 ∧ w1.cell? ⟨b3, o3, none⟩ = some v3 ∧ w1.cell? ⟨b4, o4, none⟩ = some v4 ∧ w1.cell? ⟨b5, o5, none⟩ = some v5 ∧ w1.cell? ⟨b6, o6, none⟩ = some v6 ∧ w1.cell? ⟨b7, o7, none⟩ = some v7 := by
  obtain ⟨h0, hT, h1, h2, h3, h4, h5, h6, h7⟩ := h
  exact ⟨h0.trans hu, hT.up hu, cell_up hu h1, cell_up hu h2, cell_up hu h3, cell_up hu h4, cell_up hu h5, cell_up hu h6, cell_up hu h7⟩
theorem keep8 {w0 W w1 : World} {b1 o1 b2 o2 b3 o3 b4 o4 b5 o5 b6 o6 b7 o7 b8 o8 : Nat} {v1 v2 v3 v4 v5 v6 v7 v8 : Value} (hu : Up W w1) (h : Up w0 W ∧ Tabs W ∧ W.cell? ⟨b1, o1, none⟩ = some v1 ∧ W.cell? ⟨b2, o2, none⟩ = some v2 ∧ W.cell? ⟨b3, o3, none⟩ = some v3 ∧ W.cell? ⟨b4, o4, none⟩ = some v4 ∧ W.cell? ⟨b5, o5, none⟩ = some v5 ∧ W.cell? ⟨b6, o6, none⟩ = some v6 ∧ W.cell? ⟨b7, o7, none⟩ = some v7 ∧ W.cell? ⟨b8, o8, none⟩ = some v8) : Up w0 w1 ∧ Tabs w1 ∧ w1.cell? ⟨b1, o1, none⟩ = some v1 ∧ w1.cell? ⟨b2, o2, none⟩ = some v2 ∧ w1.cell? ⟨b3, o3, none⟩ = some v3 ∧ w1.cell? ⟨b4, o4, none⟩ = some v4 ∧ w1.cell? ⟨b5, o5, none⟩ = some v5 ∧ w1.cell? ⟨b6, o6, none⟩ = some v6 ∧ w1.cell? ⟨b7, o7, none⟩ = some v7 ∧ w1.cell? ⟨b8, o8, none⟩ = some v8 := by
  obtain ⟨h0, hT, h1, h2, h3, h4, h5, h6, h7, h8⟩ := h
  exact ⟨h0.trans hu, hT.up hu, cell_up hu h1, cell_up hu h2, cell_up hu h3, cell_up hu h4, cell_up hu h5, cell_up hu h6, cell_up hu h7, cell_up hu h8⟩
end Go.Proofs.YtcbmigkdmmmahaaDoor
