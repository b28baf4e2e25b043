/- Whether a list is a tree: the document's Is. -/
import Derived.Test.YtidnldchdahgeaaDoorTInts
import Derived.Deep.AppendLies
import Derived.Deep.CutBlock
namespace Go.Proofs.YtidnldchdahgeaaDoor
open Go.RowKit

/-- How far the nodes that are open reach, of each depth; of the root none is asked. -/
def reach (L : List Nd) (i : Nat) : List Int := 0 :: ((st L i).drop 1).map fun k => (nd L k).2.2.1
def idx (L : List Nd) (i : Nat) : List Int := (st L i).map fun (k : Nat) => (k : Int)
theorem nds_nd {w : World} {A : Option Addr} {n : Nat} {L : List Nd} (h : Nds w A n L) (i : Nat) (hi : i < n) : ∃ b o, A = some ⟨b, o, none⟩ ∧ b < w.heap.size ∧ w.cell? ⟨b, o + i * 4, none⟩ = some (.int .u8 (nd L i).1) ∧ w.cell? ⟨b, o + i * 4 + 1, none⟩ = some (.int .i64 (nd L i).2.1) ∧ w.cell? ⟨b, o + i * 4 + 2, none⟩ = some (.int .i64 (nd L i).2.2.1) ∧ w.cell? ⟨b, o + i * 4 + 3, none⟩ = some (.int .i64 (nd L i).2.2.2) := by
  have hl := h.len
  obtain ⟨b, o, h1⟩ := h.at_ i (by omega)
  rw [nd_eq] at h1
  exact ⟨b, o, h1⟩
theorem nd_ok {L : List Nd} (h : ∀ x ∈ L, NdOk x) (i : Nat) : NdOk (nd L i) := by
  by_cases hi : i < L.length
  · rw [← nd_eq hi]
    exact h _ (List.getElem_mem hi)
  · have : nd L i = (0, 0, 0, 0) := by
      unfold nd
      rw [List.getD_eq_getElem?_getD, List.getElem?_eq_none (by omega)]
      rfl
    rw [this]
    exact ⟨by decide, by decide, by decide, by decide⟩
theorem heap_new2 (w : World) (x y : Obj) : ((w.alloc x).alloc y).heap[w.heap.size + 1]? = some y := by
  have := Go.heap_alloc_new (w.alloc x) y
  rwa [World.size_alloc] at this
theorem rowI_lit (w : World) (x : Int) : RowI (w.alloc (.cells #[.int .i64 x] 3)) w.heap.size (.slice (some ⟨w.heap.size, 0, none⟩) 1 1) [x] :=
  ⟨rfl, .inr ⟨w.heap.size, 1, #[.int .i64 x], rfl, Nat.le_refl _, Go.heap_alloc_new _ _, Nat.le_refl _, by unfold maxLen; omega, rfl, rfl⟩⟩
theorem rowI_cell {w : World} {B g m c : Nat} {o : List Int} (h : RowI w B (.slice (some ⟨g, 0, none⟩) m c) o) {j : Nat} {z : Int} (hj : o[j]? = some z) : w.cell? ⟨g, j, none⟩ = some (.int .i64 z) := by
  obtain ⟨A, c', e, h1⟩ := h.form
  obtain ⟨hlt, hz⟩ := List.getElem?_eq_some_iff.1 hj
  obtain ⟨g', hA, -, hc⟩ := h1 j hlt
  injection e with e1
  rw [hA] at e1
  injection e1 with e1
  injection e1 with e1
  subst e1
  rw [hz] at hc
  exact hc
theorem rowI_fz {w : World} {B g m c : Nat} {o : List Int} (h : RowI w B (.slice (some ⟨g, 0, none⟩) m c) o) (j : Nat) : w.frozen? ⟨g, j, none⟩ = false := by
  rcases h.2 with ⟨e, -⟩ | ⟨g', cap, cur, e, h1, h2, -⟩
  · cases e
  · injection e with e1
    injection e1 with e1
    injection e1 with e1
    subst e1
    exact frozenOf h2
theorem rowI_lt {w : World} {B g m c : Nat} {o : List Int} (h : RowI w B (.slice (some ⟨g, 0, none⟩) m c) o) : B ≤ g ∧ g < w.heap.size ∧ m = o.length ∧ m ≤ c := by
  rcases h.2 with ⟨e, -⟩ | ⟨g', cap, cur, e, h1, h2, h3, -⟩
  · cases e
  · injection e with e1 e2 e3
    injection e1 with e1
    injection e1 with e1
    subst e1
    exact ⟨h1, (Array.getElem?_eq_some_iff.1 h2).1, e2, by omega⟩
theorem st_first (L : List Nd) : ∀ i, (∀ q, q < i → okA L q) → ∃ P, st L i = 0 :: P
  | 0, _ => ⟨[], rfl⟩
  | i + 1, h => by
    obtain ⟨P, hP⟩ := st_first L i (fun q hq => h q (by omega))
    obtain ⟨h1, -⟩ := h i (by omega)
    obtain ⟨d, hd⟩ : ∃ d, (dep L (i + 1)).toNat = d + 1 := ⟨(dep L (i + 1)).toNat - 1, by omega⟩
    rw [st_succ, hd, hP]
    exact ⟨_, rfl⟩
theorem idx_len (L : List Nd) (i : Nat) : (idx L i).length = (st L i).length := List.length_map ..
theorem reach_len (L : List Nd) (i : Nat) : (reach L i).length = (st L i).length := by
  obtain ⟨P, hP⟩ := st_last L i
  unfold reach
  rw [List.length_cons, List.length_map, List.length_drop, hP, List.length_append, List.length_singleton]
  omega
theorem st_lenle (L : List Nd) : ∀ i, (st L i).length ≤ i + 1
  | 0 => Nat.le_refl _
  | i + 1 => by
    have := st_lenle L i
    rw [st_succ, List.length_append, List.length_take, List.length_singleton]
    omega
theorem idx_at {L : List Nd} {i k : Nat} (h : k < (st L i).length) : (idx L i)[k]? = some (((st L i).getD k 0 : Nat) : Int) := by
  unfold idx
  rw [List.getElem?_map, List.getD_eq_getElem?_getD, List.getElem?_eq_getElem h]
  rfl
theorem reach_at {L : List Nd} {i k : Nat} (h : k < (st L i).length) (h1 : 1 ≤ k) : (reach L i)[k]? = some (nd L ((st L i).getD k 0)).2.2.1 := by
  obtain ⟨q, rfl⟩ : ∃ q, k = q + 1 := ⟨k - 1, by omega⟩
  show (((st L i).drop 1).map fun k => (nd L k).2.2.1)[q]? = _
  rw [List.getElem?_map, List.getElem?_drop, Nat.add_comm 1 q, List.getD_eq_getElem?_getD, List.getElem?_eq_getElem h]
  rfl
theorem setCell_grown (w : World) (K j : Nat) (u : Value) : w.grownBy (w.setCell ⟨K, j, none⟩ u) (some K) := by
  have hb := Below.setCell (Below.refl K w) (p := ⟨K, j, none⟩) (Nat.le_refl _) u
  refine ⟨Below.os hb, Below.tape hb, Below.output hb, Below.size hb, fun k _ hne => ?_⟩
  have hk : K ≠ k := fun e => hne (by rw [e])
  simp [World.setCell, Array.getElem?_modify, hk]
theorem inCells_set (o : List Int) (k : Nat) (x : Int) : (inCells o).set k (.int .i64 x) = inCells (o.set k x) := by
  unfold inCells
  rw [List.map_set]
theorem take_set {o : List Int} {k : Nat} {x : Int} (h : k < o.length) : (o.take (k + 1)).set k x = o.take k ++ [x] := by
  rw [List.take_succ_eq_append_getElem h]
  rw [List.set_append_right _ _ (by rw [List.length_take]; omega)]
  rw [List.length_take, show k - min k o.length = 0 from by omega]
  rfl
theorem idx_next {L : List Nd} {j E : Nat} (hd : dep L (j + 1) = (E : Int) + 1) : idx L (j + 1) = (idx L j).take (E + 1) ++ [(j : Int) + 1] := by
  unfold idx
  rw [st_succ, hd, show ((E : Int) + 1).toNat = E + 1 from by omega, List.map_append, List.map_take]
  rfl
theorem reach_app {L : List Nd} {j E : Nat} {x0 x1 x2 x3 : Int} (hx : nd L (j + 1) = (x0, x1, x2, x3)) (hd : dep L (j + 1) = (E : Int) + 1) (hq : ∀ q, q < j → okA L q) : reach L (j + 1) = (reach L j).take (E + 1) ++ [x2] := by
  obtain ⟨P, hP⟩ : ∃ P, st L j = 0 :: P := st_first L j hq
  unfold reach
  rw [st_succ, hd, show ((E : Int) + 1).toNat = E + 1 from by omega, hP]
  show 0 :: ((0 :: P.take E ++ [j + 1]).drop 1).map _ = (0 :: ((0 :: P).drop 1).map _).take (E + 1) ++ [x2]
  simp [hx]
theorem reach_next {L : List Nd} {j E : Nat} {x0 x1 x2 x3 : Int} (hx : nd L (j + 1) = (x0, x1, x2, x3)) (hd : dep L (j + 1) = (E : Int) + 1) (hq : ∀ q, q < j → okA L q) (hk : E + 1 < (st L j).length) : reach L (j + 1) = ((reach L j).take (E + 1 + 1)).set (E + 1) x2 := by
  rw [reach_app hx hd hq, take_set (by rw [reach_len]; exact hk)]
/-- A call that tells whether something is so. -/
def SaysB (P : Prop) (w : World) (e : Ending) (w' : World) : Prop := (∃ b, e = .returned (.bool b) ∧ (b = true ↔ P)) ∧ Up w w'
theorem saysB_no {P : Prop} {w w' : World} (h : ¬ P) (hu : Up w w') : SaysB P w (.returned (.bool false)) w' := ⟨⟨_, rfl, ⟨fun h => by (cases h), fun k => absurd k h⟩⟩, hu⟩
theorem saysB_yes {P : Prop} {w w' : World} (h : P) (hu : Up w w') : SaysB P w (.returned (.bool true)) w' := ⟨⟨_, rfl, ⟨fun _ => h, fun _ => rfl⟩⟩, hu⟩
set_option maxRecDepth 100000 in
set_option maxHeartbeats 4000000 in
theorem refIs_any (w : World) (A : Option Addr) (n c : Nat) (L : List Nd) (hL : NArg w A n L) (hn : n ≤ 10000) (m : Int) (hm : -9223372036854775808 ≤ m ∧ m ≤ 9223372036854775807) :
    Calls Tryd.prog 14 #[.slice A n c, .int .i64 m] w (SaysB (IsT L m) w) := by
  have HL := Lib.hid hL.nds
  have HOk := Lib.hid (nd_ok hL.ok)
  have HN := Lib.hid hL.nds.len
  have HA := Lib.hid hL.lt
  clear hL
  by_cases h0 : m < 0
  · have HR := Lib.hid (show ¬ IsT L m from fun h => by have := h.lo; omega)
    clear hm
    go_enter Tryd.func14, Tryd.ntmps14
    go_wp2
    go_ret
    exact saysB_no HR.out (Up.refl _)
  have f0 : decide (m < 0) = false := decide_eq_false h0
  by_cases h1 : 1048576 < m
  · have HR := Lib.hid (show ¬ IsT L m from fun h => by have := h.hi; omega)
    clear hm h0
    go_enter Tryd.func14, Tryd.ntmps14
    go_wp2
    go_ret
    exact saysB_no HR.out (Up.refl _)
  have f1 : decide (1048576 < m) = false := decide_eq_false h1
  by_cases h2 : n = 0
  · have HR := Lib.hid (show ¬ IsT L m from fun h => by have := h.pos; have := HN.out; omega)
    subst h2
    clear hm h0 h1
    go_enter Tryd.func14, Tryd.ntmps14
    go_wp2
    go_ret
    exact saysB_no HR.out (Up.refl _)
  have f2 : ((n : Int) == 0) = false := beq_false_of_ne (by omega)
  obtain ⟨b, o, hA, hb, k0, k1, k2, k3⟩ := nds_nd HL.out 0 (by omega)
  subst hA
  obtain ⟨⟨a0, a1, a2, a3⟩, hr⟩ : ∃ r, nd L 0 = r := ⟨_, rfl⟩
  rw [hr] at k0 k1 k2 k3
  simp only [Nat.zero_mul, Nat.add_zero] at k0 k1 k2 k3
  have n0 : (0 : Int) < n := by omega
  by_cases h3 : a0 = 1 ∧ a1 = 0 ∧ a2 = m ∧ a3 = 0
  case neg =>
    have HR := Lib.hid (show ¬ IsT L m from fun h => h3 (by have := h.root; rw [hr] at this; cases this; exact ⟨rfl, rfl, rfl, rfl⟩))
    clear hm h0 h1 h2 hr
    go_enter Tryd.func14, Tryd.ntmps14
    go_wp2
    all_goals
      go_ret
      exact saysB_no HR.out (Up.refl _)
  obtain ⟨rfl, rfl, rfl, rfl⟩ := h3
  have HRt := Lib.hid hr
  have HM := Lib.hid (show 0 ≤ a2 ∧ a2 ≤ 1048576 by omega)
  have hn2 : 0 < n := by omega
  clear hm h0 h1 h2 hr hb
  go_enter Tryd.func14, Tryd.ntmps14
  go_wp2_with (at_builtin; (obtain ⟨i0, hi0, hz0, hz1, hz2⟩ := info_parts infoInt; refine wpList_append_lies _ rfl _ _ 30 rfl w.heap.size 3 i0 (.int .i64 0) 1 8 Tryd.underlying30 hi0 hz0 hz1 hz2 rfl (by decide) _ _ _ rfl (World.ownsRow_nil _ _ _ _) ⟨w.heap.size + 1, 0, none⟩ 1 1 [.int .i64 0] rfl rfl (World.news_of_block (cs := #[.int .i64 0]) (t := 3) (fr := (0, 0)) (heap_new2 w _ _)) (by simp [Value.oneCell']) (by omega) (by unfold maxLen; omega) (by omega) (by simp; omega) (w.heap.size + 1 + 1) (by simp) ?_; clear hi0 hz0 hz1 hz2; intro go c2 w1 hown1 hgrow1 hat1 _))
  have hu1 : Up w w1 := ((Up.alloc w _).trans (Up.alloc _ _)).grown hgrow1 (by simp; omega) (fun k hk => by cases hk)
  have hE : RowI w1 w.heap.size (.slice (some ⟨w.heap.size, 0, none⟩) 1 1) [0] := by
    have h1 := rowI_up (rowI_lit w 0) (Up.alloc _ (.cells #[.int .i64 0] 3))
    exact World.ownsRow.kept h1 hgrow1 (.inr (fun e => by cases e))
  have hO : RowI w1 w.heap.size (.slice (some ⟨go, 0, none⟩) 1 c2) [0] := hown1
  have hgo : go ≠ w.heap.size := by
    rcases hat1 with h | h
    · cases h
    · omega
  obtain ⟨B, hB⟩ : ∃ B, w.heap.size = B := ⟨_, rfl⟩
  rw [hB] at hE hO hgo
  have HE0 := Lib.hid (show RowI w1 B (.slice (some ⟨B, 0, none⟩) 1 1) (reach L 0) from hE)
  have HO0 := Lib.hid (show RowI w1 B (.slice (some ⟨go, 0, none⟩) 1 c2) (idx L 0) from hO)
  have HU1 := Lib.hid hu1
  have HB := Lib.hid hB
  have HG0 := Lib.hid (show B ≠ go from fun e => hgo e.symm)
  have HDp := Lib.hid (show dep L 0 = 0 by unfold dep; rw [HRt.out])
  simp only [hB]
  clear hE hO hu1 hB hgo hown1 hgrow1 hat1 k0 k1 k2 k3 f2
  go_loopg [5, 6, 7, 8, 9] (n - 1) (fun g ev ov iv _ _ wr => ∃ (j ge c1 go c2 kk : Nat), g = n - (j + 1) ∧ iv = .int .i64 ((j + 1 : Nat) : Int) ∧ j + 1 ≤ n ∧ ev = .slice (some ⟨ge, 0, none⟩) kk c1 ∧ ov = .slice (some ⟨go, 0, none⟩) kk c2 ∧ Hid ((st L j).length = kk) ∧ Hid (ge ≠ go) ∧ Hid (RowI wr B (.slice (some ⟨ge, 0, none⟩) kk c1) (reach L j)) ∧ Hid (RowI wr B (.slice (some ⟨go, 0, none⟩) kk c2) (idx L j)) ∧ Hid (Up w wr) ∧ Hid (∀ q, q < j → okA L q))
  case atStart => exact ⟨0, B, 1, go, c2, 1, rfl, rfl, by omega, rfl, rfl, Lib.hid rfl, HG0, HE0, HO0, HU1, Lib.hid (fun q hq => absurd hq (Nat.not_lt_zero _))⟩
  case round =>
    obtain ⟨j, ge, c1, go, c2, kk, hg, rfl, hj, rfl, rfl, HK, HGo, HE, HO, HU, HQ⟩ := hrel
    have HG := Lib.hid hg
    clear hg
    by_cases hlt : j + 1 < n
    · obtain ⟨b2, o2, hA2, hb2, d0, d1, d2, d3⟩ := nds_nd (HL.out.up HU.out) (j + 1) hlt
      obtain ⟨rfl, rfl⟩ : b2 = b ∧ o2 = o := by injection hA2 with e; injection e with e1 e2; exact ⟨e1.symm, e2.symm⟩
      obtain ⟨b3, o3, hA3, -, -, -, -, y3⟩ := nds_nd (HL.out.up HU.out) j (by omega)
      obtain ⟨rfl, rfl⟩ : b3 = b2 ∧ o3 = o2 := by injection hA3 with e; injection e with e1 e2; exact ⟨e1.symm, e2.symm⟩
      obtain ⟨ye, hy⟩ : ∃ ye, dep L j = ye := ⟨_, rfl⟩
      have HY := Lib.hid hy
      have hsl := st_len HDp.out HQ.out
      rw [hy] at hsl
      have hkk := HK.out
      obtain ⟨x, hx⟩ : ∃ x, nd L (j + 1) = x := ⟨_, rfl⟩
      have HX := Lib.hid hx
      rw [hx] at d0 d1 d2 d3
      obtain ⟨x0, x1, x2, x3⟩ := x
      dsimp only at d0 d1 d2 d3
      have hok : okA L j ↔ 1 ≤ x3 ∧ x3 ≤ ye + 1 ∧ (nd L ((st L j).getD (x3.toNat - 1) 0)).2.1 ≤ x1 ∧ x1 ≤ x2 ∧ x2 ≤ (nd L ((st L j).getD (x3.toNat - 1) 0)).2.2.1 ∧ (x3 ≤ ye → (nd L ((st L j).getD x3.toNat 0)).2.2.1 ≤ x1) := by
        unfold okA
        rw [hy, show dep L (j + 1) = x3 from by unfold dep; rw [hx], hx]
      have HOkj := Lib.hid hok
      have HNo := Lib.hid (show ¬ okA L j → ¬ IsT L a2 from fun hno h => hno (h.ok j (by have := HN.out; omega)))
      have hua := Up.alloc wr (.cells #[.int .u8 x0, .int .i64 x1, .int .i64 x2, .int .i64 x3] 40)
      have y3 := cell_up hua y3
      rw [show (nd L j).2.2.2 = ye from hy] at y3
      have HUa := Lib.hid hua
      have z1 : ((j : Int) + 1).toNat = j + 1 := by omega
      have q1 : IntKind.i64.wrap ((j : Int) + 1 - 1) = j := (IntWalk.i64_in _ (by omega)).trans (by omega)
      have q2 : IntKind.i64.wrap (j : Int) = j := IntWalk.i64_in _ (by omega)
      have j1 : (j : Int) + 1 < n := by omega
      have j2 : (j : Int) < n := by omega
      have hye : 0 ≤ ye ∧ ye ≤ 10000 := by
        have h1 := hsl.1
        have h2 := hkk
        have h3 : (st L j).length ≤ j + 1 := by
          have := st_lenle L j
          exact this
        omega
      have q3 : IntKind.i64.wrap (ye + 1) = ye + 1 := IntWalk.i64_in _ (by omega)
      clear hx hy hok hua
      by_cases c1 : x3 < 1
      · have HNo := Lib.hid (HNo.out (fun h => by have := (HOkj.out.1 h).1; omega))
        clear hsl hkk hye
        go_wp2
        go_quiet (fail)
        go_wp2
        go_ret
        exact saysB_no HNo.out (HU.out.trans (HUa.out.trans (Up.drewN _ _)))
      have f3 : decide (x3 < 1) = false := decide_eq_false c1
      by_cases c2 : ye + 1 < x3
      · have HNo := Lib.hid (HNo.out (fun h => by have := (HOkj.out.1 h).2.1; omega))
        clear hsl hkk hye
        go_wp2
        go_quiet (fail)
        go_wp2
        go_ret
        exact saysB_no HNo.out (HU.out.trans (HUa.out.trans (Up.drewN _ _)))
      have f4 : decide (ye + 1 < x3) = false := decide_eq_false c2
      obtain ⟨E, hE⟩ : ∃ E : Nat, x3 = (E : Int) + 1 := ⟨x3.toNat - 1, by omega⟩
      subst hE
      have hEk : E < kk := by omega
      obtain ⟨P, hP⟩ : ∃ P, (st L j).getD E 0 = P := ⟨_, rfl⟩
      have hPj : P ≤ j := by
        rw [← hP, List.getD_eq_getElem?_getD, List.getElem?_eq_getElem (by omega)]
        exact st_le L j _ (List.getElem_mem _)
      have hok2 := HOkj.out
      rw [show ((E : Int) + 1).toNat - 1 = E from by omega, show ((E : Int) + 1).toNat = E + 1 from by omega, hP] at hok2
      have HOkj := Lib.hid hok2
      have HKy := Lib.hid (show (kk : Int) = ye + 1 by omega)
      have hOc := idx_at (L := L) (i := j) (k := E) (by omega)
      rw [hP] at hOc
      have HOc := Lib.hid hOc
      have HP := Lib.hid hP
      clear hok2 hOc hP c1 c2
      go_wp2
      go_quiet (fail)
      have HU3 := Lib.hid (HUa.out.trans (Up.drewN _ nq))
      have n0 : (wr.alloc (.cells #[.int .u8 x0, .int .i64 x1, .int .i64 x2, .int .i64 ((E : Int) + 1)] 40)).cell? ⟨wr.heap.size, 0, none⟩ = some (.int .u8 x0) := cellOf (Go.heap_alloc_new _ _) rfl
      have n1 : (wr.alloc (.cells #[.int .u8 x0, .int .i64 x1, .int .i64 x2, .int .i64 ((E : Int) + 1)] 40)).cell? ⟨wr.heap.size, 1, none⟩ = some (.int .i64 x1) := cellOf (Go.heap_alloc_new _ _) rfl
      have n2 : (wr.alloc (.cells #[.int .u8 x0, .int .i64 x1, .int .i64 x2, .int .i64 ((E : Int) + 1)] 40)).cell? ⟨wr.heap.size, 2, none⟩ = some (.int .i64 x2) := cellOf (Go.heap_alloc_new _ _) rfl
      have n3 : (wr.alloc (.cells #[.int .u8 x0, .int .i64 x1, .int .i64 x2, .int .i64 ((E : Int) + 1)] 40)).cell? ⟨wr.heap.size, 3, none⟩ = some (.int .i64 ((E : Int) + 1)) := cellOf (Go.heap_alloc_new _ _) rfl
      replace n0 := cell_up (Up.drewN _ nq) n0
      replace n1 := cell_up (Up.drewN _ nq) n1
      replace n2 := cell_up (Up.drewN _ nq) n2
      replace n3 := cell_up (Up.drewN _ nq) n3
      obtain ⟨w3, hw3⟩ : ∃ w3, (wr.alloc (.cells #[.int .u8 x0, .int .i64 x1, .int .i64 x2, .int .i64 ((E : Int) + 1)] 40)).drewN nq = w3 := ⟨_, rfl⟩
      rw [hw3] at HU3 n0 n1 n2 n3
      obtain ⟨X, hX⟩ : ∃ X, wr.heap.size = X := ⟨_, rfl⟩
      rw [hX] at n0 n1 n2 n3
      simp only [hw3, hX]
      clear hw3 hX d0 d1 d2 d3 y3 f3 f4
      have HO3 := Lib.hid (rowI_up HO.out HU3.out)
      have HE3 := Lib.hid (rowI_up HE.out HU3.out)
      have HU4 := Lib.hid (HU.out.trans HU3.out)
      have oc := rowI_cell HO3.out HOc.out
      obtain ⟨b4, o4, hA4, -, p0, p1, p2, p3⟩ := nds_nd (HL.out.up HU4.out) P (by omega)
      obtain ⟨rfl, rfl⟩ : b4 = b3 ∧ o4 = o3 := by injection hA4 with e; injection e with e1 e2; exact ⟨e1.symm, e2.symm⟩
      obtain ⟨pv, hpv⟩ : ∃ pv, nd L P = pv := ⟨_, rfl⟩
      rw [hpv] at p0 p1 p2 p3
      have hok2 := HOkj.out
      rw [hpv] at hok2
      have HOkj := Lib.hid hok2
      obtain ⟨v0, v1, v2, v3⟩ := pv
      dsimp only at p0 p1 p2 p3
      have hup := Up.alloc w3 (.cells #[.int .u8 v0, .int .i64 v1, .int .i64 v2, .int .i64 v3] 40)
      have n0 := cell_up hup n0
      have n1 := cell_up hup n1
      have n2 := cell_up hup n2
      have n3' := cell_up hup n3
      have HUp := Lib.hid hup
      have q4 : IntKind.i64.wrap ((E : Int) + 1 - 1) = E := (IntWalk.i64_in _ (by omega)).trans (by omega)
      have q5 : IntKind.i64.wrap (E : Int) = E := IntWalk.i64_in _ (by omega)
      have e1 : (E : Int) < kk := by omega
      have e2 : (P : Int) < n := by omega
      clear hok2 hpv hup
      by_cases c3 : x1 < v1
      · have HNo := Lib.hid (HNo.out (fun h => by have := (HOkj.out.1 h).2.2.1; dsimp only at this; omega))
        go_wp2
        go_ret
        exact saysB_no HNo.out (HU4.out.trans HUp.out)
      have f5 : decide (x1 < v1) = false := decide_eq_false c3
      by_cases c4 : x2 < x1
      · have HNo := Lib.hid (HNo.out (fun h => by have := (HOkj.out.1 h).2.2.2.1; omega))
        go_wp2
        go_ret
        exact saysB_no HNo.out (HU4.out.trans HUp.out)
      have f6 : decide (x2 < x1) = false := decide_eq_false c4
      by_cases c5 : v2 < x2
      · have HNo := Lib.hid (HNo.out (fun h => by have := (HOkj.out.1 h).2.2.2.2.1; dsimp only at this; omega))
        go_wp2
        go_ret
        exact saysB_no HNo.out (HU4.out.trans HUp.out)
      have f7 : decide (v2 < x2) = false := decide_eq_false c5
      have g3 := Lib.hid (show v1 ≤ x1 ∧ x1 ≤ x2 ∧ x2 ≤ v2 by omega)
      have HO4 := Lib.hid (rowI_up HO3.out HUp.out)
      have HE4 := Lib.hid (rowI_up HE3.out HUp.out)
      have HU5 := Lib.hid (HU4.out.trans HUp.out)
      obtain ⟨lo1, lo2, -, lo4⟩ := rowI_lt HO4.out
      obtain ⟨le1, le2, -, le4⟩ := rowI_lt HE4.out
      have q6 : IntKind.i64.wrap ((E : Int) + 1 + 1) = (E : Int) + 1 + 1 := IntWalk.i64_in _ (by omega)
      clear c3 c4 c5
      go_upto_region 15 with fail
      obtain ⟨w4, hw4⟩ : ∃ w4, w3.alloc (.cells #[.int .u8 v0, .int .i64 v1, .int .i64 v2, .int .i64 v3] 40) = w4 := ⟨_, rfl⟩
      rw [hw4] at HO4 HE4 HU5 n0 n1 n2 n3' lo2 le2
      simp only [hw4]
      clear hw4 f5 f6 f7 oc p0 p1 p2 p3 n3 HO3 HE3 HUp
      by_cases c6 : E + 1 < kk
      · have g1 : (E : Int) + 1 + 1 ≤ kk := by omega
        have g2 : (E : Int) + 1 ≤ kk := by omega
        have g4 : (kk : Int) ≤ c1 := by omega
        have g5 : (kk : Int) ≤ c2 := by omega
        obtain ⟨z, hz⟩ : ∃ z, (nd L ((st L j).getD (E + 1) 0)).2.2.1 = z := ⟨_, rfl⟩
        have ec := rowI_cell HE4.out (reach_at (L := L) (i := j) (k := E + 1) (by have := HK.out; omega) (by omega))
        rw [hz] at ec
        have hok3 := HOkj.out
        rw [hz] at hok3
        have HOk3 := Lib.hid hok3
        have hz1 : ((E : Int) + 1).toNat = E + 1 := by omega
        have hz2 : ((E : Int) + 1 + 1).toNat = E + 1 + 1 := by omega
        clear hz hok3
        have g6 : (E : Int) + 1 < (E : Int) + 1 + 1 := by omega
        have hmin : (if (E : Int) + 1 + 1 < (kk : Int) then (E : Int) + 1 + 1 else (kk : Int)).toNat = E + 1 + 1 := by split <;> omega
        go_upto_region 17 with fail
        all_goals
          clear hmin
          by_cases c7 : x1 < z
          · have HNo := Lib.hid (HNo.out (fun h => by have := (HOk3.out.1 h).2.2.2.2.2 (by have := HKy.out; omega); omega))
            go_quiet (fail)
            go_wp2
            all_goals
              go_ret
              exact saysB_no HNo.out (HU5.out.trans (Up.drewN _ _))
          have f8 : decide (x1 < z) = false := decide_eq_false c7
          have HOK := Lib.hid (show okA L j from HOk3.out.2 ⟨by omega, by have := HKy.out; omega, g3.out.1, g3.out.2.1, g3.out.2.2, fun _ => by omega⟩)
          go_quiet (fail)
          replace n1 := cell_up (Up.drewN _ nq) n1
          replace n2 := cell_up (Up.drewN _ nq) n2
          replace n3' := cell_up (Up.drewN _ nq) n3'
          replace ec := cell_up (Up.drewN _ nq) ec
          have HO5 := Lib.hid (rowI_up HO4.out (Up.drewN _ nq))
          have HE5 := Lib.hid (rowI_up HE4.out (Up.drewN _ nq))
          have HU6 := Lib.hid (HU5.out.trans (Up.drewN _ nq))
          obtain ⟨w5, hw5⟩ : ∃ w5, w4.drewN nq = w5 := ⟨_, rfl⟩
          rw [hw5] at n1 n2 n3' ec HO5 HE5 HU6
          simp only [hw5]
          clear hw5 f8 c7 n0
          have fz := rowI_fz HE5.out (E + 1)
          go_upto_region 22 with fail
          have hgs := setCell_grown w5 ge (E + 1) (.int .i64 x2)
          have he6 : (w5.setCell ⟨ge, E + 1, none⟩ (.int .i64 x2)).ownsRow B 3 1 (.slice (some ⟨ge, 0, none⟩) (E + 1 + 1) c1) (E + 1 + 1) (inCells (reach L (j + 1))) := by
            have h1 := HE5.out.take (k := E + 1 + 1) (by rw [reach_len, HK.out]; omega)
            have hl : ((reach L j).take (E + 1 + 1)).length = E + 1 + 1 := by rw [List.length_take, reach_len, HK.out]; omega
            unfold RowI at h1
            rw [hl] at h1
            have h2 := owns_set (u := .int .i64 x2) h1 (j := E + 1) (by rw [inCells_len, hl]; omega)
            rw [reach_next HX.out (show dep L (j + 1) = (E : Int) + 1 by unfold dep; rw [HX.out]) HQ.out (by rw [HK.out]; omega)]
            rw [inCells_set] at h2
            exact h2
          have ho6 : (w5.setCell ⟨ge, E + 1, none⟩ (.int .i64 x2)).ownsRow B 3 1 (.slice (some ⟨go, 0, none⟩) (E + 1) c2) (E + 1) (inCells ((idx L j).take (E + 1))) := by
            have h1 := HO5.out.take (k := E + 1) (by rw [idx_len, HK.out]; omega)
            have hl : ((idx L j).take (E + 1)).length = E + 1 := by rw [List.length_take, idx_len, HK.out]; omega
            unfold RowI at h1
            rw [hl] at h1
            exact World.ownsRow.kept h1 hgs (.inr (fun e => HGo.out (by simpa [Value.ownBlock] using e.symm)))
          have HU7 := Lib.hid (show Up w (w5.setCell ⟨ge, E + 1, none⟩ (.int .i64 x2)) from HU6.out.setCell (p := ⟨ge, E + 1, none⟩) (by rw [HB.out]; exact le1) _)
          have hw6s : B ≤ (w5.setCell ⟨ge, E + 1, none⟩ (.int .i64 x2)).heap.size := by have := Below.size HU7.out; rw [HB.out] at this; exact this
          have hgl : ge < (w5.setCell ⟨ge, E + 1, none⟩ (.int .i64 x2)).heap.size := (rowI_lt (o := reach L (j + 1)) (by unfold RowI; rw [show (reach L (j + 1)).length = E + 1 + 1 from by have := he6.1; rw [inCells_len] at this; omega]; exact he6)).2.1
          obtain ⟨w6, hw6⟩ : ∃ w6, w5.setCell ⟨ge, E + 1, none⟩ (.int .i64 x2) = w6 := ⟨_, rfl⟩
          rw [hw6] at he6 ho6 HU7 hw6s hgl
          simp only [hw6]
          have hE9 : E ≤ 10000 := by have := HKy.out; omega
          clear hw6 hgs fz ec n1 n2 n3'
          go_wp2_with (at_builtin; (obtain ⟨i0, hi0, hz0, hz1, hz2⟩ := info_parts infoInt; refine wpList_append_lies _ rfl _ _ 30 rfl B 3 i0 (.int .i64 0) 1 8 Tryd.underlying30 hi0 hz0 hz1 hz2 rfl (by decide) (.slice (some ⟨go, 0, none⟩) (E + 1) c2) (E + 1) _ rfl (ho6.alloc _) ⟨w6.heap.size, 0, none⟩ 1 1 [.int .i64 ((j : Int) + 1)] rfl rfl (cell_one_new _ _ _) (by simp [Value.oneCell']) (by omega) (by unfold maxLen; omega) (by omega) (by simp; omega) (w6.heap.size + 1) (by simp) ?_; clear hi0 hz0 hz1 hz2; intro go7 c7' w7 hown7 hgrow7 hat7 hlt7))
          all_goals
            have HO7 := Lib.hid (show w7.ownsRow B 3 1 (.slice (some ⟨go7, 0, none⟩) (E + 1 + 1) c7') (E + 1 + 1) (inCells (idx L (j + 1))) by
              rw [idx_next (show dep L (j + 1) = (E : Int) + 1 by unfold dep; rw [HX.out]), inCells_append]
              exact hown7)
            have HE7 := Lib.hid (World.ownsRow.kept (he6.alloc (.cells #[.int .i64 ((j : Int) + 1)] 3)) hgrow7 (.inr (fun e => HGo.out (by simpa [Value.ownBlock] using e))))
            have HU8 := Lib.hid (show Up w w7 from (HU7.out.trans (Up.alloc w6 _)).grown hgrow7 (by rw [HB.out]; simp; omega) (fun q hq => by
              have : go = q := by simpa [Value.ownBlock] using hq
              rw [HB.out]
              omega))
            have HG7 := Lib.hid (show ge ≠ go7 from by
              rcases hat7 with h | h
              · have : go = go7 := by simpa [Value.ownBlock] using h
                have := HGo.out
                omega
              · omega)
            have HK7 := Lib.hid (show (st L (j + 1)).length = E + 1 + 1 by
              have := HO7.out.1
              rw [inCells_len, idx_len] at this
              omega)
            have HQ7 := Lib.hid (show ∀ q, q < j + 1 → okA L q from fun q hq => by
              by_cases e : q = j
              · subst e; exact HOK.out
              · exact HQ.out q (by omega))
            clear hown7 hgrow7 hat7 he6 ho6
            go_roundg (n - (j + 1 + 1))
            case measure => rw [HG.out]; omega
            case rel => exact ⟨j + 1, ge, c1, go7, c7', E + 1 + 1, rfl, by go_num, by omega, rfl, rfl, HK7, HG7, Lib.hid (by unfold RowI; rw [reach_len, HK7.out]; exact HE7.out), Lib.hid (by unfold RowI; rw [idx_len, HK7.out]; exact HO7.out), HU8, HQ7⟩
      · obtain rfl : kk = E + 1 := by omega
        have HOK := Lib.hid (show okA L j from HOkj.out.2 ⟨by omega, by have := HKy.out; omega, g3.out.1, g3.out.2.1, g3.out.2.2, fun h => by have := HKy.out; omega⟩)
        have g4 : (E : Int) + 1 ≤ c1 := by omega
        have g5 : (E : Int) + 1 ≤ c2 := by omega
        have hz1 : ((E : Int) + 1).toNat = E + 1 := by omega
        have hmin : (if (E : Int) + 1 + 1 < (E : Int) + 1 then (E : Int) + 1 + 1 else (E : Int) + 1).toNat = E + 1 := by split <;> omega
        go_upto_region 17 with fail
        clear hmin
        go_quiet (fail)
        replace n1 := cell_up (Up.drewN _ nq) n1
        replace n2 := cell_up (Up.drewN _ nq) n2
        replace n3' := cell_up (Up.drewN _ nq) n3'
        have HO5 := Lib.hid (rowI_up HO4.out (Up.drewN _ nq))
        have HE5 := Lib.hid (rowI_up HE4.out (Up.drewN _ nq))
        have HU6 := Lib.hid (HU5.out.trans (Up.drewN _ nq))
        obtain ⟨w5, hw5⟩ : ∃ w5, w4.drewN nq = w5 := ⟨_, rfl⟩
        rw [hw5] at n1 n2 n3' HO5 HE5 HU6
        simp only [hw5]
        clear hw5 n0
        have hE9 : E ≤ 10000 := by have := HKy.out; omega
        have he5 : w5.ownsRow B 3 1 (.slice (some ⟨ge, 0, none⟩) (E + 1) c1) (E + 1) (inCells (reach L j)) := by
          have h1 := HE5.out
          unfold RowI at h1
          rw [reach_len, HK.out] at h1
          exact h1
        have hw5s : B ≤ w5.heap.size := by have := Below.size HU6.out; rw [HB.out] at this; exact this
        have hgo5 := (rowI_lt HO5.out).2.1
        go_upto_region 22 with (at_builtin; (obtain ⟨i0, hi0, hz0, hz1, hz2⟩ := info_parts infoInt; refine wpList_append_lies _ rfl _ _ 30 rfl B 3 i0 (.int .i64 0) 1 8 Tryd.underlying30 hi0 hz0 hz1 hz2 rfl (by decide) (.slice (some ⟨ge, 0, none⟩) (E + 1) c1) (E + 1) _ rfl (he5.alloc _) ⟨w5.heap.size, 0, none⟩ 1 1 [.int .i64 x2] rfl rfl (cell_one_new _ _ _) (by simp [Value.oneCell']) (by omega) (by unfold maxLen; omega) (by omega) (by simp; omega) (w5.heap.size + 1) (by simp) ?_; clear hi0 hz0 hz1 hz2; intro ge7 c6' w6 hown6 hgrow6 hat6 hlt6))
        have hne : go ≠ ge7 := by
          rcases hat6 with h | h
          · have : ge = ge7 := by simpa [Value.ownBlock] using h
            have := HGo.out
            omega
          · omega
        have ho6 : w6.ownsRow B 3 1 (.slice (some ⟨go, 0, none⟩) (E + 1) c2) (E + 1) (inCells (idx L j)) := by
          have h1 := HO5.out
          unfold RowI at h1
          rw [idx_len, HK.out] at h1
          exact World.ownsRow.kept (h1.alloc _) hgrow6 (.inr (fun e => HGo.out (by simpa [Value.ownBlock] using e.symm)))
        have he6 : w6.ownsRow B 3 1 (.slice (some ⟨ge7, 0, none⟩) (E + 1 + 1) c6') (E + 1 + 1) (inCells (reach L (j + 1))) := by
          rw [reach_app HX.out (show dep L (j + 1) = (E : Int) + 1 by unfold dep; rw [HX.out]) HQ.out, List.take_of_length_le (by rw [reach_len, HK.out]; exact Nat.le_refl _), inCells_append]
          exact hown6
        have HU7 := Lib.hid (show Up w w6 from (HU6.out.trans (Up.alloc w5 _)).grown hgrow6 (by rw [HB.out]; simp; omega) (fun q hq => by
          have : ge = q := by simpa [Value.ownBlock] using hq
          rw [HB.out]
          omega))
        have hw6s : B ≤ w6.heap.size := by have := Below.size HU7.out; rw [HB.out] at this; exact this
        have hgl : ge7 < w6.heap.size := hlt6
        clear hown6 hgrow6 hat6 he5 n1 n2 n3' hgo5
        go_wp2_with (at_builtin; (obtain ⟨i0, hi0, hz0, hz1, hz2⟩ := info_parts infoInt; refine wpList_append_lies _ rfl _ _ 30 rfl B 3 i0 (.int .i64 0) 1 8 Tryd.underlying30 hi0 hz0 hz1 hz2 rfl (by decide) (.slice (some ⟨go, 0, none⟩) (E + 1) c2) (E + 1) _ rfl (ho6.alloc _) ⟨w6.heap.size, 0, none⟩ 1 1 [.int .i64 ((j : Int) + 1)] rfl rfl (cell_one_new _ _ _) (by simp [Value.oneCell']) (by omega) (by unfold maxLen; omega) (by omega) (by simp; omega) (w6.heap.size + 1) (by simp) ?_; clear hi0 hz0 hz1 hz2; intro go7 c7' w7 hown7 hgrow7 hat7 hlt7))
        all_goals
          have HO7 := Lib.hid (show w7.ownsRow B 3 1 (.slice (some ⟨go7, 0, none⟩) (E + 1 + 1) c7') (E + 1 + 1) (inCells (idx L (j + 1))) by
            rw [idx_next (show dep L (j + 1) = (E : Int) + 1 by unfold dep; rw [HX.out]), List.take_of_length_le (by rw [idx_len, HK.out]; exact Nat.le_refl _), inCells_append]
            exact hown7)
          have HE7 := Lib.hid (World.ownsRow.kept (he6.alloc (.cells #[.int .i64 ((j : Int) + 1)] 3)) hgrow7 (.inr (fun e => hne (by simpa [Value.ownBlock] using e.symm))))
          have HU8 := Lib.hid (show Up w w7 from (HU7.out.trans (Up.alloc w6 _)).grown hgrow7 (by rw [HB.out]; simp; omega) (fun q hq => by
            have : go = q := by simpa [Value.ownBlock] using hq
            rw [HB.out]
            omega))
          have HG7 := Lib.hid (show ge7 ≠ go7 from by
            rcases hat7 with h | h
            · have : go = go7 := by simpa [Value.ownBlock] using h
              omega
            · omega)
          have HK7 := Lib.hid (show (st L (j + 1)).length = E + 1 + 1 by
            have := HO7.out.1
            rw [inCells_len, idx_len] at this
            omega)
          have HQ7 := Lib.hid (show ∀ q, q < j + 1 → okA L q from fun q hq => by
            by_cases e : q = j
            · subst e; exact HOK.out
            · exact HQ.out q (by omega))
          clear hown7 hgrow7 hat7 he6 ho6
          go_roundg (n - (j + 1 + 1))
          case measure => rw [HG.out]; omega
          case rel => exact ⟨j + 1, ge7, c6', go7, c7', E + 1 + 1, rfl, by go_num, by omega, rfl, rfl, HK7, HG7, Lib.hid (by unfold RowI; rw [reach_len, HK7.out]; exact HE7.out), Lib.hid (by unfold RowI; rw [idx_len, HK7.out]; exact HO7.out), HU8, HQ7⟩
    · have hIs := Lib.hid (show IsT L a2 from ⟨HM.out.1, HM.out.2, by have := HN.out; omega, HRt.out, fun q hq => HQ.out q (by have := HN.out; omega)⟩)
      have f3 : decide ((j : Int) + 1 < n) = false := decide_eq_false (by omega)
      have f4 : decide (j + 1 < n) = false := decide_eq_false hlt
      clear hlt
      go_wp2
      go_ret
      exact saysB_yes hIs.out HU.out
end Go.Proofs.YtidnldchdahgeaaDoor
