/- What is counted of two texts put together: the program's with. -/
import Derived.Test.YtcbmigkdmmmahaaDoorTree
import Derived.Test.YtcbmigkdmmmahaaDoorShelf
import Derived.Deep.RegionHeld3
import Derived.Deep.DeepCutAuto
import Derived.IntWalk
namespace Go.Proofs.YtcbmigkdmmmahaaDoor
open Go.RowKit

theorem cellOf {w : World} {b j : Nat} {cs : Array Value} {T : TypeId} {fr : Nat × Nat} {v : Value} (h : w.heap[b]? = some (.cells cs T fr)) (hj : cs[j]? = some v) : w.cell? ⟨b, j, none⟩ = some v := by
  simp [World.cell?, h, hj]
theorem frozenOf {w : World} {b j : Nat} {cs : Array Value} {T : TypeId} (h : w.heap[b]? = some (.cells cs T)) : w.frozen? ⟨b, j, none⟩ = false := by
  simp [World.frozen?, h]
theorem alloc3 (w : World) (o1 o2 o3 : Obj) : (((w.alloc o1).alloc o2).alloc o3).heap[w.heap.size]? = some o1 ∧ (((w.alloc o1).alloc o2).alloc o3).heap[w.heap.size + 1]? = some o2 ∧ (((w.alloc o1).alloc o2).alloc o3).heap[w.heap.size + 1 + 1]? = some o3 := by
  have n1 := Go.heap_alloc_new w o1
  have n2 := Go.heap_alloc_new (w.alloc o1) o2
  have n3 := Go.heap_alloc_new ((w.alloc o1).alloc o2) o3
  rw [World.size_alloc] at n2
  rw [World.size_alloc, World.size_alloc] at n3
  exact ⟨(Below.heap_alloc _ _ _ (by simp; omega)).trans ((Below.heap_alloc _ _ _ (by simp)).trans n1), (Below.heap_alloc _ _ _ (by simp)).trans n2, n3⟩
theorem cell_up {W w1 : World} {b o : Nat} {v : Value} (hu : Up W w1) (h : W.cell? ⟨b, o, none⟩ = some v) : w1.cell? ⟨b, o, none⟩ = some v := by
  have hb : b < W.heap.size := by
    by_cases hlt : b < W.heap.size
    · exact hlt
    · have : W.heap[b]? = none := by simp; omega
      simp [World.cell?, this] at h
  exact (Below.cell hu (p := ⟨b, o, none⟩) hb).trans h
theorem frozen_up {W w1 : World} {b o : Nat} {v : Value} (hu : Up W w1) (h : W.cell? ⟨b, o, none⟩ = some v) {f : Bool} (hf : W.frozen? ⟨b, o, none⟩ = f) : w1.frozen? ⟨b, o, none⟩ = f := by
  have hb : b < W.heap.size := by
    by_cases hlt : b < W.heap.size
    · exact hlt
    · have : W.heap[b]? = none := by simp; omega
      simp [World.cell?, this] at h
  exact (Below.frozen hu (p := ⟨b, o, none⟩) hb).trans hf

def WithS (N an ae ast bn be bst : Nat) (ah al bh bl : ByteArray) (W : World) : Prop := (W.cell? ⟨N, 0, none⟩ = some (.int .i64 (an : Nat)) ∧ W.cell? ⟨N, 1, none⟩ = some (.int .i64 (ae : Nat)) ∧ W.cell? ⟨N, 2, none⟩ = some (.int .i64 (ast : Nat)) ∧ W.cell? ⟨N, 3, none⟩ = some (.string ah) ∧ W.cell? ⟨N, 4, none⟩ = some (.string al)) ∧ (W.cell? ⟨N + 1, 0, none⟩ = some (.int .i64 (bn : Nat)) ∧ W.cell? ⟨N + 1, 1, none⟩ = some (.int .i64 (be : Nat)) ∧ W.cell? ⟨N + 1, 2, none⟩ = some (.int .i64 (bst : Nat)) ∧ W.cell? ⟨N + 1, 3, none⟩ = some (.string bh) ∧ W.cell? ⟨N + 1, 4, none⟩ = some (.string bl)) ∧ Tabs W
def WithZ (N : Nat) (W : World) : Prop := (W.cell? ⟨N + 1 + 1, 0, none⟩ = some (.int .i64 0) ∧ W.cell? ⟨N + 1 + 1, 1, none⟩ = some (.int .i64 0) ∧ W.cell? ⟨N + 1 + 1, 2, none⟩ = some (.int .i64 0) ∧ W.cell? ⟨N + 1 + 1, 3, none⟩ = some (.string ⟨#[]⟩) ∧ W.cell? ⟨N + 1 + 1, 4, none⟩ = some (.string ⟨#[]⟩)) ∧ (W.frozen? ⟨N + 1 + 1, 0, none⟩ = false ∧ W.frozen? ⟨N + 1 + 1, 1, none⟩ = false ∧ W.frozen? ⟨N + 1 + 1, 2, none⟩ = false ∧ W.frozen? ⟨N + 1 + 1, 3, none⟩ = false ∧ W.frozen? ⟨N + 1 + 1, 4, none⟩ = false)
theorem withS_keep {N : Nat} {W w1 : World} {an ae ast bn be bst : Nat} {ah al bh bl : ByteArray} (hu : Up W w1)
   (h : (W.cell? ⟨N, 0, none⟩ = some (.int .i64 (an : Nat)) ∧ W.cell? ⟨N, 1, none⟩ = some (.int .i64 (ae : Nat)) ∧ W.cell? ⟨N, 2, none⟩ = some (.int .i64 (ast : Nat)) ∧ W.cell? ⟨N, 3, none⟩ = some (.string ah) ∧ W.cell? ⟨N, 4, none⟩ = some (.string al)) ∧ (W.cell? ⟨N + 1, 0, none⟩ = some (.int .i64 (bn : Nat)) ∧ W.cell? ⟨N + 1, 1, none⟩ = some (.int .i64 (be : Nat)) ∧ W.cell? ⟨N + 1, 2, none⟩ = some (.int .i64 (bst : Nat)) ∧ W.cell? ⟨N + 1, 3, none⟩ = some (.string bh) ∧ W.cell? ⟨N + 1, 4, none⟩ = some (.string bl)) ∧ Tabs W) :
   (w1.cell? ⟨N, 0, none⟩ = some (.int .i64 (an : Nat)) ∧ w1.cell? ⟨N, 1, none⟩ = some (.int .i64 (ae : Nat)) ∧ w1.cell? ⟨N, 2, none⟩ = some (.int .i64 (ast : Nat)) ∧ w1.cell? ⟨N, 3, none⟩ = some (.string ah) ∧ w1.cell? ⟨N, 4, none⟩ = some (.string al)) ∧ (w1.cell? ⟨N + 1, 0, none⟩ = some (.int .i64 (bn : Nat)) ∧ w1.cell? ⟨N + 1, 1, none⟩ = some (.int .i64 (be : Nat)) ∧ w1.cell? ⟨N + 1, 2, none⟩ = some (.int .i64 (bst : Nat)) ∧ w1.cell? ⟨N + 1, 3, none⟩ = some (.string bh) ∧ w1.cell? ⟨N + 1, 4, none⟩ = some (.string bl)) ∧ Tabs w1 := by
  obtain ⟨⟨h1, h2, h3, h4, h5⟩, ⟨h6, h7, h8, h9, h10⟩, hT⟩ := h
  exact ⟨⟨cell_up hu h1, cell_up hu h2, cell_up hu h3, cell_up hu h4, cell_up hu h5⟩, ⟨cell_up hu h6, cell_up hu h7, cell_up hu h8, cell_up hu h9, cell_up hu h10⟩, hT.up hu⟩
theorem withZ_keep {N : Nat} {W w1 : World} (hu : Up W w1) (h : WithZ N W) : WithZ N w1 := by
  obtain ⟨⟨h11, h12, h13, h14, h15⟩, ⟨f1, f2, f3, f4, f5⟩⟩ := h
  exact ⟨⟨cell_up hu h11, cell_up hu h12, cell_up hu h13, cell_up hu h14, cell_up hu h15⟩, ⟨frozen_up hu h11 f1, frozen_up hu h12 f2, frozen_up hu h13 f3, frozen_up hu h14 f4, frozen_up hu h15 f5⟩⟩
theorem cell_set {W : World} {p : Addr} {x v : Value} {b o : Nat} (hne : b ≠ p.block) (h : W.cell? ⟨b, o, none⟩ = some v) : (W.setCell p x).cell? ⟨b, o, none⟩ = some v := by
  rw [World.cell?_setCell_far _ _ _ _ (by show p.block ≠ b; omega)]; exact h
theorem withS_set {N : Nat} {W : World} {an ae ast bn be bst : Nat} {ah al bh bl : ByteArray} {i : Nat} {x : Value} (hN : 3 + 1 ≤ N)
   (h : (W.cell? ⟨N, 0, none⟩ = some (.int .i64 (an : Nat)) ∧ W.cell? ⟨N, 1, none⟩ = some (.int .i64 (ae : Nat)) ∧ W.cell? ⟨N, 2, none⟩ = some (.int .i64 (ast : Nat)) ∧ W.cell? ⟨N, 3, none⟩ = some (.string ah) ∧ W.cell? ⟨N, 4, none⟩ = some (.string al)) ∧ (W.cell? ⟨N + 1, 0, none⟩ = some (.int .i64 (bn : Nat)) ∧ W.cell? ⟨N + 1, 1, none⟩ = some (.int .i64 (be : Nat)) ∧ W.cell? ⟨N + 1, 2, none⟩ = some (.int .i64 (bst : Nat)) ∧ W.cell? ⟨N + 1, 3, none⟩ = some (.string bh) ∧ W.cell? ⟨N + 1, 4, none⟩ = some (.string bl)) ∧ Tabs W) :
   ((W.setCell ⟨N + 1 + 1, i, none⟩ x).cell? ⟨N, 0, none⟩ = some (.int .i64 (an : Nat)) ∧ (W.setCell ⟨N + 1 + 1, i, none⟩ x).cell? ⟨N, 1, none⟩ = some (.int .i64 (ae : Nat)) ∧ (W.setCell ⟨N + 1 + 1, i, none⟩ x).cell? ⟨N, 2, none⟩ = some (.int .i64 (ast : Nat)) ∧ (W.setCell ⟨N + 1 + 1, i, none⟩ x).cell? ⟨N, 3, none⟩ = some (.string ah) ∧ (W.setCell ⟨N + 1 + 1, i, none⟩ x).cell? ⟨N, 4, none⟩ = some (.string al)) ∧ ((W.setCell ⟨N + 1 + 1, i, none⟩ x).cell? ⟨N + 1, 0, none⟩ = some (.int .i64 (bn : Nat)) ∧ (W.setCell ⟨N + 1 + 1, i, none⟩ x).cell? ⟨N + 1, 1, none⟩ = some (.int .i64 (be : Nat)) ∧ (W.setCell ⟨N + 1 + 1, i, none⟩ x).cell? ⟨N + 1, 2, none⟩ = some (.int .i64 (bst : Nat)) ∧ (W.setCell ⟨N + 1 + 1, i, none⟩ x).cell? ⟨N + 1, 3, none⟩ = some (.string bh) ∧ (W.setCell ⟨N + 1 + 1, i, none⟩ x).cell? ⟨N + 1, 4, none⟩ = some (.string bl)) ∧ Tabs (W.setCell ⟨N + 1 + 1, i, none⟩ x) := by
  obtain ⟨⟨h1, h2, h3, h4, h5⟩, ⟨h6, h7, h8, h9, h10⟩, hT⟩ := h
  have e1 : N ≠ N + 1 + 1 := by omega
  have e2 : N + 1 ≠ N + 1 + 1 := by omega
  refine ⟨⟨cell_set e1 h1, cell_set e1 h2, cell_set e1 h3, cell_set e1 h4, cell_set e1 h5⟩, ⟨cell_set e2 h6, cell_set e2 h7, cell_set e2 h8, cell_set e2 h9, cell_set e2 h10⟩, ?_⟩
  exact hT.of_below hN ((Below.refl N W).setCell (p := ⟨N + 1 + 1, i, none⟩) (by show N ≤ N + 1 + 1; omega) x)
theorem set5 (w : World) (g : Nat) (x0 x1 x2 x3 x4 y0 y1 y2 y3 y4 : Value) (h0 : w.cell? ⟨g, 0, none⟩ = some y0) (h1 : w.cell? ⟨g, 1, none⟩ = some y1) (h2 : w.cell? ⟨g, 2, none⟩ = some y2) (h3 : w.cell? ⟨g, 3, none⟩ = some y3) (h4 : w.cell? ⟨g, 4, none⟩ = some y4) :
    (((((w.setCell ⟨g, 0, none⟩ x0).setCell ⟨g, 1, none⟩ x1).setCell ⟨g, 2, none⟩ x2).setCell ⟨g, 3, none⟩ x3).setCell ⟨g, 4, none⟩ x4).cell? ⟨g, 0, none⟩ = some x0 ∧
    (((((w.setCell ⟨g, 0, none⟩ x0).setCell ⟨g, 1, none⟩ x1).setCell ⟨g, 2, none⟩ x2).setCell ⟨g, 3, none⟩ x3).setCell ⟨g, 4, none⟩ x4).cell? ⟨g, 1, none⟩ = some x1 ∧
    (((((w.setCell ⟨g, 0, none⟩ x0).setCell ⟨g, 1, none⟩ x1).setCell ⟨g, 2, none⟩ x2).setCell ⟨g, 3, none⟩ x3).setCell ⟨g, 4, none⟩ x4).cell? ⟨g, 2, none⟩ = some x2 ∧
    (((((w.setCell ⟨g, 0, none⟩ x0).setCell ⟨g, 1, none⟩ x1).setCell ⟨g, 2, none⟩ x2).setCell ⟨g, 3, none⟩ x3).setCell ⟨g, 4, none⟩ x4).cell? ⟨g, 3, none⟩ = some x3 ∧
    (((((w.setCell ⟨g, 0, none⟩ x0).setCell ⟨g, 1, none⟩ x1).setCell ⟨g, 2, none⟩ x2).setCell ⟨g, 3, none⟩ x3).setCell ⟨g, 4, none⟩ x4).cell? ⟨g, 4, none⟩ = some x4 := by
  have o : ∀ (W : World) (i j : Nat) (v : Value), i ≠ j → (W.setCell ⟨g, i, none⟩ v).cell? ⟨g, j, none⟩ = W.cell? ⟨g, j, none⟩ := fun W i j v h => World.cell?_setCell_other W ⟨g, i, none⟩ ⟨g, j, none⟩ v (fun e => h (by injection e))
  have s : ∀ (W : World) (i : Nat) (v u : Value), W.cell? ⟨g, i, none⟩ = some u → (W.setCell ⟨g, i, none⟩ v).cell? ⟨g, i, none⟩ = some v := fun W i v u h => World.cell?_setCell_same' W _ v (by rw [h]; rfl)
  refine ⟨?_, ?_, ?_, ?_, ?_⟩
  · rw [o _ _ _ _ (by decide), o _ _ _ _ (by decide), o _ _ _ _ (by decide), o _ _ _ _ (by decide)]; exact s _ _ _ _ h0
  · rw [o _ _ _ _ (by decide), o _ _ _ _ (by decide), o _ _ _ _ (by decide)]; exact s _ _ _ y1 (by rw [o _ _ _ _ (by decide)]; exact h1)
  · rw [o _ _ _ _ (by decide), o _ _ _ _ (by decide)]; exact s _ _ _ y2 (by rw [o _ _ _ _ (by decide), o _ _ _ _ (by decide)]; exact h2)
  · rw [o _ _ _ _ (by decide)]; exact s _ _ _ y3 (by rw [o _ _ _ _ (by decide), o _ _ _ _ (by decide), o _ _ _ _ (by decide)]; exact h3)
  · exact s _ _ _ y4 (by rw [o _ _ _ _ (by decide), o _ _ _ _ (by decide), o _ _ _ _ (by decide), o _ _ _ _ (by decide)]; exact h4)
theorem withS_tabs {N : Nat} {W : World} {an ae ast bn be bst : Nat} {ah al bh bl : ByteArray} (h : (W.cell? ⟨N, 0, none⟩ = some (.int .i64 (an : Nat)) ∧ W.cell? ⟨N, 1, none⟩ = some (.int .i64 (ae : Nat)) ∧ W.cell? ⟨N, 2, none⟩ = some (.int .i64 (ast : Nat)) ∧ W.cell? ⟨N, 3, none⟩ = some (.string ah) ∧ W.cell? ⟨N, 4, none⟩ = some (.string al)) ∧ (W.cell? ⟨N + 1, 0, none⟩ = some (.int .i64 (bn : Nat)) ∧ W.cell? ⟨N + 1, 1, none⟩ = some (.int .i64 (be : Nat)) ∧ W.cell? ⟨N + 1, 2, none⟩ = some (.int .i64 (bst : Nat)) ∧ W.cell? ⟨N + 1, 3, none⟩ = some (.string bh) ∧ W.cell? ⟨N + 1, 4, none⟩ = some (.string bl)) ∧ Tabs W) : Tabs W := h.2.2

set_option maxRecDepth 100000 in
set_option maxHeartbeats 4000000 in
theorem with_walk (an ae ast bn be bst k : Nat) (ah al bh bl : ByteArray) (w : World) (h1 : al.size ≤ 3) (h2 : bh.size ≤ 3) (b1 : (an : Int) ≤ 1048576) (b2 : (ae : Int) ≤ 1048576) (b3 : (ast : Int) ≤ 1048576) (b4 : (bn : Int) ≤ 1048576) (b5 : (be : Int) ≤ 1048576) (b6 : (bst : Int) ≤ 1048576) (hk : k + (countS al + countS bh) = ast + bst + countS (al ++ bh)) (hT : Tabs w) :
    Calls Tryd.prog 56 #[.agg #[.int .i64 (an : Nat), .int .i64 (ae : Nat), .int .i64 (ast : Nat), .string ah, .string al], .agg #[.int .i64 (bn : Nat), .int .i64 (be : Nat), .int .i64 (bst : Nat), .string bh, .string bl]] w fun e w' => e = .returned (.agg #[.int .i64 (an + bn : Nat), .int .i64 (ae + be : Nat), .int .i64 (k : Nat), .string ah, .string bl]) ∧ Up w w' := by
  have hA : al.size ≤ maxLen := by unfold maxLen; omega
  have hB : bh.size ≤ maxLen := by unfold maxLen; omega
  have hC : (al ++ bh).size ≤ maxLen := by rw [ByteArray.size_append]; unfold maxLen; omega
  have CA := Lib.hid (fun w ht => count_any al hA w ht)
  have CB := Lib.hid (fun w ht => count_any bh hB w ht)
  have CC := Lib.hid (fun w ht => count_any (al ++ bh) hC w ht)
  obtain ⟨ka, hka⟩ : ∃ k, countS al = k := ⟨_, rfl⟩
  obtain ⟨kb, hkb⟩ : ∃ k, countS bh = k := ⟨_, rfl⟩
  obtain ⟨kc, hkc⟩ : ∃ k, countS (al ++ bh) = k := ⟨_, rfl⟩
  have lA := countS_le al
  have lB := countS_le bh
  have lC := countS_le (al ++ bh)
  rw [ByteArray.size_append] at lC
  rw [hka] at CA lA hk
  rw [hkb] at CB lB hk
  rw [hkc] at CC lC hk
  have e0 : IntKind.i64.wrap ((ka : Int) + kb) = (ka : Int) + kb := IntWalk.i64_in _ (by omega)
  have e1 : IntKind.i64.wrap ((an : Int) + bn) = (an + bn : Nat) := (IntWalk.i64_in _ (by omega)).trans (by omega)
  have e2 : IntKind.i64.wrap ((ae : Int) + be) = (ae + be : Nat) := (IntWalk.i64_in _ (by omega)).trans (by omega)
  have e3 : IntKind.i64.wrap ((ast : Int) + bst) = (ast : Int) + bst := IntWalk.i64_in _ (by omega)
  have e4 : IntKind.i64.wrap ((ast : Int) + bst - (ka + kb)) = (ast : Int) + bst - (ka + kb) := IntWalk.i64_in _ (by omega)
  have e5 : IntKind.i64.wrap ((ast : Int) + bst - (ka + kb) + kc) = (k : Int) := (IntWalk.i64_in _ (by omega)).trans (by omega)
  have hbig := hT.big
  have hadd : ∀ w, (Op.stringOp .add al bh).run Tryd.prog w = .ok (.string (al ++ bh)) w := fun w => run_string_add_sum w _ _ (by omega)
  clear hA hB hC hka hkb hkc hk lA lB lC b1 b2 b3 b4 b5 b6 h1 h2
  go_enter Tryd.func56, Tryd.ntmps56
  go_upto_region 1 with fail
  obtain ⟨N, hN⟩ : ∃ N, w.heap.size = N := ⟨_, rfl⟩
  obtain ⟨W, hW⟩ : ∃ W, (((w.alloc (.cells #[.int .i64 (an : Nat), .int .i64 (ae : Nat), .int .i64 (ast : Nat), .string ah, .string al] 63)).alloc (.cells #[.int .i64 (bn : Nat), .int .i64 (be : Nat), .int .i64 (bst : Nat), .string bh, .string bl] 63)).alloc (.cells #[.int .i64 0, .int .i64 0, .int .i64 0, .string ⟨#[]⟩, .string ⟨#[]⟩] 63)) = W := ⟨_, rfl⟩
  have hU : Below N w W := by
    subst hW hN
    exact (((Below.refl _ _).alloc (Nat.le_refl _) _).alloc (by simp) _).alloc (by simp; omega) _
  have hZ : N + 3 = W.heap.size := by subst hW hN; simp
  have hS : WithS N an ae ast bn be bst ah al bh bl W := by
    subst hW hN
    unfold WithS
    refine ⟨⟨?_, ?_, ?_, ?_, ?_⟩, ⟨?_, ?_, ?_, ?_, ?_⟩, ((hT.up (Up.alloc _ _)).up (Up.alloc _ _)).up (Up.alloc _ _)⟩
    all_goals first | exact cellOf (alloc3 _ _ _ _).1 rfl | exact cellOf (alloc3 _ _ _ _).2.1 rfl
  have hZ0 : WithZ N W := by
    subst hW hN
    unfold WithZ
    refine ⟨⟨?_, ?_, ?_, ?_, ?_⟩, ⟨?_, ?_, ?_, ?_, ?_⟩⟩
    all_goals first | exact cellOf (alloc3 _ _ _ _).2.2 rfl | exact frozenOf (alloc3 _ _ _ _).2.2
  rw [hW]
  simp only [hN]
  unfold WithS at hS
  clear hW
  have HZ0 := Lib.hid hZ0
  have HZ := Lib.hid hZ
  have HB : Hid (3 + 1 ≤ N) := Lib.hid (by omega)
  have HU := Lib.hid hU
  have HN := Lib.hid hN
  clear hZ hN hZ0 hbig hU hT
  go_cut [5] (fun s5 wx => s5 = .int .i64 ((ka : Int) + kb) ∧ WithS N an ae ast bn be bst ah al bh bl wx ∧ Up W wx)
  case first =>
    go_region_held3 (fun w' => (w'.cell? ⟨N, 0, none⟩ = some (.int .i64 (an : Nat)) ∧ w'.cell? ⟨N, 1, none⟩ = some (.int .i64 (ae : Nat)) ∧ w'.cell? ⟨N, 2, none⟩ = some (.int .i64 (ast : Nat)) ∧ w'.cell? ⟨N, 3, none⟩ = some (.string ah) ∧ w'.cell? ⟨N, 4, none⟩ = some (.string al)) ∧ (w'.cell? ⟨N + 1, 0, none⟩ = some (.int .i64 (bn : Nat)) ∧ w'.cell? ⟨N + 1, 1, none⟩ = some (.int .i64 (be : Nat)) ∧ w'.cell? ⟨N + 1, 2, none⟩ = some (.int .i64 (bst : Nat)) ∧ w'.cell? ⟨N + 1, 3, none⟩ = some (.string bh) ∧ w'.cell? ⟨N + 1, 4, none⟩ = some (.string bl)) ∧ Tabs w')
      (first | with_reducible exact withS_keep hu1 (by assumption) | with_reducible exact withS_keep hu2 (by assumption) | with_reducible exact withS_keep (Up.drew _) (by assumption))
      (first | (go_at_call 63; ((with_reducible refine (CA.out _ ?_).mono ?_); (exact withS_tabs (by assumption)); rintro e w1 ⟨rfl, hu1⟩)) | (go_at_call 63; ((with_reducible refine (CB.out _ ?_).mono ?_); (exact withS_tabs (by assumption)); rintro e w2 ⟨rfl, hu2⟩)))
    all_goals
      rename_i hS2
      have HU1 := Lib.hid (Up.trans (Up.drew W) (Up.trans hu1 hu2))
      go_wp2_with fail
      go_meet
      exact ⟨rfl, hS2, HU1.out⟩
  case rest =>
    obtain ⟨rfl, hS3, hU3⟩ := hcut
    have HU3 := Lib.hid hU3
    have HZ3 := Lib.hid (withZ_keep hU3 HZ0.out)
    unfold WithS at hS3
    go_wp2_with fail
    clear hS hU3 CA CB e0 HZ0
    go_region_held3 (fun w' => (w'.cell? ⟨N, 0, none⟩ = some (.int .i64 (an : Nat)) ∧ w'.cell? ⟨N, 1, none⟩ = some (.int .i64 (ae : Nat)) ∧ w'.cell? ⟨N, 2, none⟩ = some (.int .i64 (ast : Nat)) ∧ w'.cell? ⟨N, 3, none⟩ = some (.string ah) ∧ w'.cell? ⟨N, 4, none⟩ = some (.string al)) ∧ (w'.cell? ⟨N + 1, 0, none⟩ = some (.int .i64 (bn : Nat)) ∧ w'.cell? ⟨N + 1, 1, none⟩ = some (.int .i64 (be : Nat)) ∧ w'.cell? ⟨N + 1, 2, none⟩ = some (.int .i64 (bst : Nat)) ∧ w'.cell? ⟨N + 1, 3, none⟩ = some (.string bh) ∧ w'.cell? ⟨N + 1, 4, none⟩ = some (.string bl)) ∧ Tabs w')
      (first | with_reducible exact withS_keep hu3 (by assumption) | with_reducible exact withS_keep (Up.drew _) (by assumption) | with_reducible exact withS_set HB.out (withS_set HB.out (withS_set HB.out (withS_set HB.out (withS_set HB.out (by assumption))))))
      (first | (go_at_call 63; ((with_reducible refine (CC.out _ ?_).mono ?_); (exact withS_tabs (by assumption)); rintro e w3 ⟨rfl, hu3⟩; have hz3 := withZ_keep ((Up.drew _).trans hu3) HZ3.out; unfold WithZ at hz3)))
    have HU4 := Lib.hid ((Up.drew _).trans hu3)
    have hf := set5 w3 (N + 1 + 1) (.int .i64 ((an : Int) + bn)) (.int .i64 ((ae : Int) + be)) (.int .i64 (k : Int)) (.string ah) (.string bl) _ _ _ _ _ hz3.1.1 hz3.1.2.1 hz3.1.2.2.1 hz3.1.2.2.2.1 hz3.1.2.2.2.2
    clear hS3 hz3
    go_wp2
    refine bodyPost_ret (v := .agg #[.int .i64 ((an : Int) + bn), .int .i64 ((ae : Int) + be), .int .i64 (k : Nat), .string ah, .string bl]) (by simp [results, Tryd.results56, go_sem, hf]) rfl ⟨by simp, ?_⟩
    have z1 : N ≤ W.heap.size := by have := HZ.out; omega
    have z2 : N ≤ wc.heap.size := by have := Below.size HU3.out; omega
    have h1 : Below N w w3 := (HU.out.trans (Below.mono HU3.out z1)).trans (Below.mono HU4.out z2)
    unfold Up
    rw [HN.out]
    exact ((((h1.setCell (p := ⟨N + 1 + 1, 0, none⟩) (by show N ≤ N + 1 + 1; omega) _).setCell (p := ⟨N + 1 + 1, 1, none⟩) (by show N ≤ N + 1 + 1; omega) _).setCell (p := ⟨N + 1 + 1, 2, none⟩) (by show N ≤ N + 1 + 1; omega) _).setCell (p := ⟨N + 1 + 1, 3, none⟩) (by show N ≤ N + 1 + 1; omega) _).setCell (p := ⟨N + 1 + 1, 4, none⟩) (by show N ≤ N + 1 + 1; omega) _
end Go.Proofs.YtcbmigkdmmmahaaDoor
