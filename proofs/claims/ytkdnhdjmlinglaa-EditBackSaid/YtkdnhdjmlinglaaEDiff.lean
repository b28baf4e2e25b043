/- The edit from one text to another one: the program's Diff, and its closure that is handed an end. -/
import Derived.Test.YtkdnhdjmlinglaaERefDiff
namespace Go.Proofs.Ytkdnhdjmlinglaa
open Go.RowKit

set_option maxRecDepth 100000 in
set_option maxHeartbeats 2000000 in
theorem first_any (a b : ByteArray) (ba bb bc : Nat) (ha : a.size ≤ 140737488355328) (hb : b.size ≤ 140737488355328) (w : World) (c0 : w.cell? ⟨ba, 0, none⟩ = some (.string a)) (c1 : w.cell? ⟨bb, 0, none⟩ = some (.string b)) (c2 : w.cell? ⟨bc, 0, none⟩ = some (.int .i64 0)) :
    Calls Try.prog 22 #[.int .u8 0, .pointer (some ⟨ba, 0, none⟩), .pointer (some ⟨bb, 0, none⟩), .pointer (some ⟨bc, 0, none⟩)] w fun e w' => e = .returned (.int .i64 ((cp a b : Nat) : Int)) ∧ Up w w' := by
  have h1 := cp_le a b
  have h2 := cs_le a b
  obtain ⟨K, hK⟩ : ∃ K, cp a b = K := ⟨_, rfl⟩
  obtain ⟨M, hM⟩ : ∃ M, min a.size b.size = M := ⟨_, rfl⟩
  obtain ⟨N, hN⟩ : ∃ N, M = N := ⟨_, rfl⟩
  have hmin : min (a.size : Int) (b.size : Int) = (M : Nat) := by omega
  have e0 : wrap64 (M : Int) = (N : Nat) := (IntWalk.wrap64_in _ (by omega)).trans (by omega)
  rw [hK]
  rw [hK] at h1
  have HKN := Lib.hid (show K ≤ N by omega)
  have HA := Lib.hid ha
  have HB := Lib.hid hb
  have HM := Lib.hid hM
  have HN := Lib.hid hN
  have HK := Lib.hid hK
  have C := Lib.hid (And.intro c0 (And.intro c1 c2))
  clear ha hb h1 h2 hM hN hK c0 c1 c2
  go_enter Try.func22, Try.ntmps22
  go_wp2
  go_loopg [6] K (fun g nv wr => ∃ j : Nat, g = K - j ∧ nv = .int .i64 (j : Nat) ∧ j ≤ K ∧ Hid (Up w wr))
  case atStart => exact ⟨0, rfl, rfl, Nat.zero_le _, Lib.hid (Up.refl w)⟩
  case round =>
    obtain ⟨j, hg, rfl, hj, HU⟩ := hrel
    have HG := Lib.hid hg
    have HJ := Lib.hid hj
    clear hg hj
    have c0 := cell_up HU.out C.out.1
    have c1 := cell_up HU.out C.out.2.1
    have c2 := cell_up HU.out C.out.2.2
    by_cases g1 : j < N
    · obtain ⟨x, hx⟩ : ∃ x, j = x := ⟨_, rfl⟩
      obtain ⟨y, hy⟩ : ∃ y, j = y := ⟨_, rfl⟩
      have hxa : x < a.size := by have := HM.out; have := HN.out; omega
      have hyb : y < b.size := by have := HM.out; have := HN.out; omega
      have k3 : (x : Int) < (a.size : Nat) := by omega
      have k4 : (y : Int) < (b.size : Nat) := by omega
      have hi2 : (j : Int) ≤ 140737488355328 := by have := HA.out; have := HM.out; have := HN.out; omega
      have hq : decide (bt a x = bt b y) = decide (j < K) := by
        subst hx; subst hy; exact cp_dec HK.out HJ.out hxa hyb
      have hD := eqB hxa hyb
      rw [hq] at hD
      clear hq
      subst hx; subst hy
      by_cases hlt : j < K
      · rw [decide_eq_true hlt] at hD
        go_wp2
        go_quiet (fail)
        go_wp2
        go_roundg (K - (j + 1))
        case measure => rw [HG.out]; omega
        case rel => exact ⟨j + 1, rfl, by go_num, by omega, Lib.hid (by first | exact HU.out.trans (Up.drewN _ _) | exact (HU.out.trans (Up.drewN _ _)).trans (Up.drewN _ _))⟩
      · rw [decide_eq_false hlt] at hD
        obtain rfl : j = K := by have := HJ.out; omega
        clear hlt
        go_wp2
        go_quiet (fail)
        go_wp2
        go_ret
        exact ⟨rfl, (by first | exact HU.out.trans (Up.drewN _ _) | exact (HU.out.trans (Up.drewN _ _)).trans (Up.drewN _ _))⟩
    · obtain rfl : j = K := by have := HKN.out; have := HJ.out; omega
      have f1 : decide (j < N) = false := decide_eq_false g1
      clear g1
      go_wp2
      go_ret
      exact ⟨rfl, HU.out⟩
set_option maxRecDepth 100000 in
set_option maxHeartbeats 2000000 in
theorem last_any (a b : ByteArray) (ba bb bc : Nat) (P : Nat) (ha : a.size ≤ 140737488355328) (hb : b.size ≤ 140737488355328) (w : World) (c0 : w.cell? ⟨ba, 0, none⟩ = some (.string a)) (c1 : w.cell? ⟨bb, 0, none⟩ = some (.string b)) (c2 : w.cell? ⟨bc, 0, none⟩ = some (.int .i64 (P : Nat))) (hP : cp a b = P) :
    Calls Try.prog 22 #[.int .u8 1, .pointer (some ⟨ba, 0, none⟩), .pointer (some ⟨bb, 0, none⟩), .pointer (some ⟨bc, 0, none⟩)] w fun e w' => e = .returned (.int .i64 ((cs a b : Nat) : Int)) ∧ Up w w' := by
  have h1 := cp_le a b
  have h2 := cs_le a b
  obtain ⟨K, hK⟩ : ∃ K, cs a b = K := ⟨_, rfl⟩
  obtain ⟨M, hM⟩ : ∃ M, min a.size b.size = M := ⟨_, rfl⟩
  obtain ⟨N, hN⟩ : ∃ N, M - P = N := ⟨_, rfl⟩
  have hmin : min (a.size : Int) (b.size : Int) = (M : Nat) := by omega
  have e0 : IntKind.i64.wrap ((M : Int) - (P : Nat)) = (N : Nat) := (IntWalk.i64_in _ (by omega)).trans (by omega)
  rw [hK]
  rw [hP] at h1 h2
  rw [hK] at h2
  have HKN := Lib.hid (show K ≤ N by omega)
  have HA := Lib.hid ha
  have HB := Lib.hid hb
  have HM := Lib.hid hM
  have HN := Lib.hid hN
  have HK := Lib.hid hK
  have HP := Lib.hid hP
  have C := Lib.hid (And.intro c0 (And.intro c1 c2))
  clear ha hb h1 h2 hM hN hK c0 c1 c2 hP
  go_enter Try.func22, Try.ntmps22
  go_wp2
  go_loopg [6] K (fun g nv wr => ∃ j : Nat, g = K - j ∧ nv = .int .i64 (j : Nat) ∧ j ≤ K ∧ Hid (Up w wr))
  case atStart => exact ⟨0, rfl, rfl, Nat.zero_le _, Lib.hid (Up.refl w)⟩
  case round =>
    obtain ⟨j, hg, rfl, hj, HU⟩ := hrel
    have HG := Lib.hid hg
    have HJ := Lib.hid hj
    clear hg hj
    have c0 := cell_up HU.out C.out.1
    have c1 := cell_up HU.out C.out.2.1
    have c2 := cell_up HU.out C.out.2.2
    by_cases g1 : j < N
    · obtain ⟨x, hx⟩ : ∃ x, a.size - 1 - j = x := ⟨_, rfl⟩
      obtain ⟨y, hy⟩ : ∃ y, b.size - 1 - j = y := ⟨_, rfl⟩
      have hxa : x < a.size := by have := HM.out; have := HN.out; omega
      have hyb : y < b.size := by have := HM.out; have := HN.out; omega
      have k3 : (x : Int) < (a.size : Nat) := by omega
      have k4 : (y : Int) < (b.size : Nat) := by omega
      have hi2 : (j : Int) ≤ 140737488355328 := by have := HA.out; have := HM.out; have := HN.out; omega
      have hq : decide (bt a x = bt b y) = decide (j < K) := by
        exact cs_dec HP.out HK.out HJ.out (by have := HM.out; have := HN.out; omega) (by have := HM.out; have := HN.out; omega) hx.symm hy.symm
      have hD := eqB hxa hyb
      rw [hq] at hD
      clear hq
      have hja : j < a.size ∧ j < b.size := by have := HM.out; have := HN.out; omega
      obtain ⟨q1, q2, q3, q4⟩ : IntKind.i64.wrap ((a.size : Int) - 1) = (a.size : Int) - 1 ∧ IntKind.i64.wrap ((b.size : Int) - 1) = (b.size : Int) - 1 ∧ IntKind.i64.wrap ((a.size : Int) - 1 - (j : Nat)) = (x : Nat) ∧ IntKind.i64.wrap ((b.size : Int) - 1 - (j : Nat)) = (y : Nat) :=
        ⟨IntWalk.i64_in _ (by have := HA.out; omega), IntWalk.i64_in _ (by have := HB.out; omega), (IntWalk.i64_in _ (by have := HA.out; omega)).trans (by omega), (IntWalk.i64_in _ (by have := HB.out; omega)).trans (by omega)⟩
      clear hx hy hja
      by_cases hlt : j < K
      · rw [decide_eq_true hlt] at hD
        go_wp2
        go_quiet (fail)
        go_wp2
        go_quiet (fail)
        go_wp2
        go_roundg (K - (j + 1))
        case measure => rw [HG.out]; omega
        case rel => exact ⟨j + 1, rfl, by go_num, by omega, Lib.hid (by first | exact HU.out.trans (Up.drewN _ _) | exact (HU.out.trans (Up.drewN _ _)).trans (Up.drewN _ _))⟩
      · rw [decide_eq_false hlt] at hD
        obtain rfl : j = K := by have := HJ.out; omega
        clear hlt
        go_wp2
        go_quiet (fail)
        go_wp2
        go_quiet (fail)
        go_wp2
        go_ret
        exact ⟨rfl, (by first | exact HU.out.trans (Up.drewN _ _) | exact (HU.out.trans (Up.drewN _ _)).trans (Up.drewN _ _))⟩
    · obtain rfl : j = K := by have := HKN.out; have := HJ.out; omega
      have f1 : decide (j < N) = false := decide_eq_false g1
      clear g1
      go_wp2
      go_ret
      exact ⟨rfl, HU.out⟩
/-- What Diff knows of its world: the two texts, the place where the beginning's count lies, the answer's block. -/
structure DfW (w W : World) (a b : ByteArray) (N : Nat) (p : Int) : Prop where
  u : Up w W
  c0 : W.cell? ⟨N, 0, none⟩ = some (.string a)
  c1 : W.cell? ⟨N + 1, 0, none⟩ = some (.string b)
  c3 : W.cell? ⟨N + 3, 0, none⟩ = some (.int .i64 p)
  f3 : W.frozen? ⟨N + 3, 0, none⟩ = false
  res : Res W (N + 2)
theorem DfW.up {w W W' : World} {a b : ByteArray} {N : Nat} {p : Int} (h : DfW w W a b N p) (hu : Up W W') : DfW w W' a b N p :=
  ⟨h.u.trans hu, cell_up hu h.c0, cell_up hu h.c1, cell_up hu h.c3, frozen_up hu h.c3 h.f3, h.res.up hu⟩
theorem DfW.set {w W : World} {a b : ByteArray} {N : Nat} {p : Int} (h : DfW w W a b N p) (hN : w.heap.size = N) (q : Int) : DfW w (W.setCell ⟨N + 3, 0, none⟩ (.int .i64 q)) a b N q := by
  have o : ∀ (j k : Nat), j ≠ N + 3 → (W.setCell ⟨N + 3, 0, none⟩ (.int .i64 q)).cell? ⟨j, k, none⟩ = W.cell? ⟨j, k, none⟩ := fun j k hj => World.cell?_setCell_other W ⟨N + 3, 0, none⟩ ⟨j, k, none⟩ _ (fun e => by injection e with e1; omega)
  have fz : ∀ (j k : Nat), (W.setCell ⟨N + 3, 0, none⟩ (.int .i64 q)).frozen? ⟨j, k, none⟩ = W.frozen? ⟨j, k, none⟩ := fun j k => by simp
  obtain ⟨⟨v0, r0⟩, ⟨v1, r1⟩, ⟨v2, r2⟩, z0, z1, z2⟩ := h.res
  refine ⟨Below.setCell h.u (p := ⟨N + 3, 0, none⟩) (by show w.heap.size ≤ N + 3; omega) _, ?_, ?_, World.cell?_setCell_same' W _ _ (by rw [h.c3]; rfl), (fz _ _).trans h.f3, ⟨⟨v0, ?_⟩, ⟨v1, ?_⟩, ⟨v2, ?_⟩, (fz _ _).trans z0, (fz _ _).trans z1, (fz _ _).trans z2⟩⟩
  · rw [o _ _ (by omega)]; exact h.c0
  · rw [o _ _ (by omega)]; exact h.c1
  · rw [o _ _ (by omega)]; exact r0
  · rw [o _ _ (by omega)]; exact r1
  · rw [o _ _ (by omega)]; exact r2
/-- The world at Diff's beginning. -/
def dfW (w : World) (a b : ByteArray) : World := (((w.alloc (.cells #[.string a] 9)).alloc (.cells #[.string b] 9)).alloc (.cells #[.int .i64 0, .int .i64 0, .string ⟨#[]⟩] 23)).alloc (.cells #[.int .i64 0] 3)
theorem heap_old {w : World} {o : Obj} {k : Nat} {x : Obj} (h : w.heap[k]? = some x) : (w.alloc o).heap[k]? = some x := by
  have hk : k < w.heap.size := by
    rcases Nat.lt_or_ge k w.heap.size with g | g
    · exact g
    · rw [Array.getElem?_eq_none g] at h; cases h
  exact (Lib.alloc_old w o k hk).trans h
theorem DfW.new (w : World) (a b : ByteArray) : DfW w (dfW w a b) a b w.heap.size 0 := by
  unfold dfW
  have h0 := heap_old (o := .cells #[.int .i64 0] 3) (heap_old (o := .cells #[.int .i64 0, .int .i64 0, .string ⟨#[]⟩] 23) (heap_old (o := .cells #[.string b] 9) (Go.heap_alloc_new w (.cells #[.string a] 9))))
  have h1 := heap_old (o := .cells #[.int .i64 0] 3) (heap_old (o := .cells #[.int .i64 0, .int .i64 0, .string ⟨#[]⟩] 23) (Go.heap_alloc_new (w.alloc (.cells #[.string a] 9)) (.cells #[.string b] 9)))
  have h2 := heap_old (o := .cells #[.int .i64 0] 3) (Go.heap_alloc_new ((w.alloc (.cells #[.string a] 9)).alloc (.cells #[.string b] 9)) (.cells #[.int .i64 0, .int .i64 0, .string ⟨#[]⟩] 23))
  have h3 := Go.heap_alloc_new (((w.alloc (.cells #[.string a] 9)).alloc (.cells #[.string b] 9)).alloc (.cells #[.int .i64 0, .int .i64 0, .string ⟨#[]⟩] 23)) (.cells #[.int .i64 0] 3)
  simp only [World.size_alloc] at h1 h2 h3
  exact ⟨(((Up.alloc _ _).trans (Up.alloc _ _)).trans (Up.alloc _ _)).trans (Up.alloc _ _), cellOf h0 rfl, cellOf h1 rfl, cellOf h3 rfl, frozenOf h3, ⟨⟨_, cellOf h2 rfl⟩, ⟨_, cellOf h2 rfl⟩, ⟨_, cellOf h2 rfl⟩, frozenOf h2, frozenOf h2, frozenOf h2⟩⟩
theorem keepD {w : World} {N : Nat} {v0 v1 v2 : Value} {W W' : World} (hu : Up W W') (h : Up w W ∧ W.cell? ⟨N, 0, none⟩ = some v0 ∧ W.cell? ⟨N + 1, 0, none⟩ = some v1 ∧ W.cell? ⟨N + 3, 0, none⟩ = some v2) : Up w W' ∧ W'.cell? ⟨N, 0, none⟩ = some v0 ∧ W'.cell? ⟨N + 1, 0, none⟩ = some v1 ∧ W'.cell? ⟨N + 3, 0, none⟩ = some v2 :=
  ⟨h.1.trans hu, cell_up hu h.2.1, cell_up hu h.2.2.1, cell_up hu h.2.2.2⟩
theorem keepDSet {w : World} {N : Nat} {v0 v1 v2 : Value} {W : World} {x y z : Value} (hN : w.heap.size = N) (h : Up w W ∧ W.cell? ⟨N, 0, none⟩ = some v0 ∧ W.cell? ⟨N + 1, 0, none⟩ = some v1 ∧ W.cell? ⟨N + 3, 0, none⟩ = some v2) :
    Up w (((W.setCell ⟨N + 2, 0, none⟩ x).setCell ⟨N + 2, 1, none⟩ y).setCell ⟨N + 2, 2, none⟩ z) ∧ (((W.setCell ⟨N + 2, 0, none⟩ x).setCell ⟨N + 2, 1, none⟩ y).setCell ⟨N + 2, 2, none⟩ z).cell? ⟨N, 0, none⟩ = some v0 ∧ (((W.setCell ⟨N + 2, 0, none⟩ x).setCell ⟨N + 2, 1, none⟩ y).setCell ⟨N + 2, 2, none⟩ z).cell? ⟨N + 1, 0, none⟩ = some v1 ∧ (((W.setCell ⟨N + 2, 0, none⟩ x).setCell ⟨N + 2, 1, none⟩ y).setCell ⟨N + 2, 2, none⟩ z).cell? ⟨N + 3, 0, none⟩ = some v2 := by
  have o : ∀ (W : World) (k i j : Nat) (v : Value), k ≠ N + 2 → (W.setCell ⟨N + 2, i, none⟩ v).cell? ⟨k, j, none⟩ = W.cell? ⟨k, j, none⟩ := fun W k i j v hk => World.cell?_setCell_other W ⟨N + 2, i, none⟩ ⟨k, j, none⟩ v (fun e => by injection e with e1; omega)
  refine ⟨h.1.set3 _ _ _ _ (by omega), ?_, ?_, ?_⟩ <;> rw [o _ _ _ _ _ (by omega), o _ _ _ _ _ (by omega), o _ _ _ _ _ (by omega)]
  · exact h.2.1
  · exact h.2.2.1
  · exact h.2.2.2
set_option maxRecDepth 100000 in
set_option maxHeartbeats 1000000 in
theorem diff_any (a b : ByteArray) (ha : a.size ≤ 140737488355328) (hb : b.size ≤ 140737488355328) (w : World) :
    Calls Try.prog 18 #[.string a, .string b] w fun e w' => e = .returned (edV (dfE a b)) ∧ Up w w' := by
  have h1 := cp_le a b
  have h2 := cs_le a b
  have HF := Lib.hid (fun W (h : DfW w W a b w.heap.size 0) => first_any a b w.heap.size (w.heap.size + 1) (w.heap.size + 3) ha hb W h.c0 h.c1 h.c3)
  have HL := Lib.hid (fun W (h : DfW w W a b w.heap.size (cp a b : Nat)) => last_any a b w.heap.size (w.heap.size + 1) (w.heap.size + 3) (cp a b) ha hb W h.c0 h.c1 h.c3 rfl)
  have hW := DfW.new w a b
  unfold dfW at hW
  have HW := Lib.hid hW
  obtain ⟨P, hP⟩ : ∃ P, cp a b = P := ⟨_, rfl⟩
  obtain ⟨S, hSs⟩ : ∃ S, cs a b = S := ⟨_, rfl⟩
  rw [hP] at h1 h2 HF HL
  rw [hSs] at h2 HL
  obtain ⟨m, hm⟩ : ∃ m, b.extract P (b.size - S) = m := ⟨_, rfl⟩
  obtain ⟨d, hd⟩ : ∃ d, a.size - P - S = d := ⟨_, rfl⟩
  have hE : dfE a b = ((P : Int), (d : Int), m) := by unfold dfE; rw [hP, hSs, hm, hd]
  rw [hE]
  unfold edV
  have HJ := Lib.hid (fun W => join_one m (by rw [← hm, size_ext]; omega) W)
  have H2 := Lib.hid h2
  have HM := Lib.hid hm
  have HD := Lib.hid hd
  have HA := Lib.hid ha
  have HB := Lib.hid hb
  clear ha hb hP hSs h1 h2 hE hm hd hW
  go_enter Try.func18, Try.ntmps18
  go_wp2_with (first
    | (go_at_call 22; ((with_reducible refine (HF.out _ HW.out).mono ?_); rintro e w1 ⟨rfl, hu1⟩; have HW1 := Lib.hid (HW.out.up hu1); have c3 := HW1.out.c3; have f3 := HW1.out.f3; clear hu1))
    | (go_at_call 22; ((with_reducible refine (HL.out _ (HW1.out.set rfl _)).mono ?_); rintro e w2 ⟨rfl, hu2⟩; have HW2 := Lib.hid ((HW1.out.set rfl (P : Nat)).up hu2); clear hu2)))
  obtain ⟨N, hN⟩ : ∃ N, w.heap.size = N := ⟨_, rfl⟩
  obtain ⟨hs0, hs1, hs2, hs3, -, hsr⟩ := HW2.out
  rw [hN] at hs1 hs2 hs3 hsr
  simp only [hN]
  have HR2 := Lib.hid hsr
  have hS : Up w w2 ∧ w2.cell? ⟨N, 0, none⟩ = some (.string a) ∧ w2.cell? ⟨N + 1, 0, none⟩ = some (.string b) ∧ w2.cell? ⟨N + 3, 0, none⟩ = some (.int .i64 (P : Nat)) := ⟨hs0, hs1, hs2, hs3⟩
  have h2 := H2.out
  have ha := HA.out
  have hb := HB.out
  obtain ⟨v, hv⟩ : ∃ v, b.size - S = v := ⟨_, rfl⟩
  have hm : b.extract P v = m := by rw [← hv]; exact HM.out
  obtain ⟨e1, e3, e4⟩ : IntKind.i64.wrap ((a.size : Int) - (P : Nat)) = (a.size : Int) - (P : Nat) ∧ IntKind.i64.wrap ((a.size : Int) - (P : Nat) - (S : Nat)) = (d : Nat) ∧ IntKind.i64.wrap ((b.size : Int) - (S : Nat)) = (v : Nat) :=
    ⟨IntWalk.i64_in _ (by omega), (IntWalk.i64_in _ (by omega)).trans (by have := HD.out; omega), (IntWalk.i64_in _ (by omega)).trans (by omega)⟩
  have k1 : (0 : Int) ≤ (P : Nat) := Int.natCast_nonneg _
  have k2 : (P : Int) ≤ (v : Nat) := Int.ofNat_le.2 (by rw [← hv]; have := H2.out; clear e1 e3 e4; omega)
  have k3 : (v : Int) ≤ (b.size : Nat) := Int.ofNat_le.2 (by rw [← hv]; exact Nat.sub_le _ _)
  clear HW HW1 HW2 HF HL hs0 hs1 hs2 hs3 hsr h2 ha hb hv c3 f3
  go_region_held3 (fun w' => Up w w' ∧ w'.cell? ⟨N, 0, none⟩ = some (.string a) ∧ w'.cell? ⟨N + 1, 0, none⟩ = some (.string b) ∧ w'.cell? ⟨N + 3, 0, none⟩ = some (.int .i64 (P : Nat)))
    (first | assumption | with_reducible exact keepD hu3 (by assumption) | with_reducible exact keepD (Up.drew _) (by assumption) | with_reducible exact keepD (Up.alloc _ _) (by assumption) | with_reducible exact keepDSet hN (by assumption))
    (first | (go_at_call 20; ((with_reducible refine (HJ.out _).mono ?_); rintro e w3 ⟨rfl, hu3⟩; have HR3 := Lib.hid (HR2.out.up hu3); obtain ⟨⟨y0, r0⟩, ⟨y1, r1⟩, ⟨y2, r2⟩, f0, f1, f2⟩ := HR3.out)))
  go_wp2
  have hf := set3 HR3.out (.int .i64 (P : Nat)) (.int .i64 (d : Nat)) (.string m)
  refine bodyPost_ret (v := .agg #[.int .i64 (P : Nat), .int .i64 (d : Nat), .string m]) (by simp [results, Try.results18, go_sem, hf]) rfl ⟨rfl, (hS.1.trans hu3).set3 _ _ _ _ (by omega)⟩
end Go.Proofs.Ytkdnhdjmlinglaa
