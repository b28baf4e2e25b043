/- Whether a list is a tree: the program's Check, check and checkNode. -/
import Derived.Test.YtkkefgbmdghklaaBFits
namespace Go.Proofs.Ytkkefgbmdghklaa
open Go.RowKit

/-- A call that tells whether something is so by an error's number. -/
def SaysE (P : Prop) (w : World) (e : Ending) (w' : World) : Prop := (∃ z, e = .returned (.int .i64 z) ∧ ((z = 0 ∧ P) ∨ (z = 60 ∧ ¬ P))) ∧ Up w w'
theorem saysE_no {P : Prop} {w w' : World} (h : ¬ P) (hu : Up w w') : SaysE P w (.returned (.int .i64 60)) w' := ⟨⟨_, rfl, .inr ⟨rfl, h⟩⟩, hu⟩
theorem saysE_yes {P : Prop} {w w' : World} (h : P) (hu : Up w w') : SaysE P w (.returned (.int .i64 0)) w' := ⟨⟨_, rfl, .inl ⟨rfl, h⟩⟩, hu⟩
theorem RowN.nds {w : World} {B m c : Nat} {g : Nat} {o : List Nd} (h : w.ownsRow B 46 4 (.slice (some ⟨g, 0, none⟩) m c) o.length (ndCells o)) : Nds w (some ⟨g, 0, none⟩) m o ∧ B ≤ g ∧ g < w.heap.size ∧ m = o.length ∧ m ≤ c := by
  obtain ⟨A, c', e, h1, h2, h3⟩ := owns_nds h
  injection e with e1 e2 e3
  subst e1 e2 e3
  have h5 := h2 _ rfl
  refine ⟨h1, h5.1, h3 _ rfl, rfl, owns_cap h⟩
theorem RowN.take {w : World} {B g m c k : Nat} {o : List Nd} (h : w.ownsRow B 46 4 (.slice (some ⟨g, 0, none⟩) m c) o.length (ndCells o)) (hk : k ≤ o.length) : w.ownsRow B 46 4 (.slice (some ⟨g, 0, none⟩) k c) k (ndCells (o.take k)) := by
  have hl : (o.take k).length = k := by rw [List.length_take]; omega
  refine ⟨by rw [ndCells_len, hl], ?_⟩
  rcases h.2 with ⟨e, -⟩ | ⟨g', cap, cur, e, h1, h2, h3, h4, h5, h6⟩
  · cases e
  · injection e with e1 e2 e3
    injection e1 with e1
    injection e1 with e1
    subst e1 e3
    refine .inr ⟨g, c, cur, rfl, h1, h2, by omega, h4, h5, ?_⟩
    have e6 : (cur.toList.take (o.length * 4)).take (k * 4) = (ndCells o).take (k * 4) := by rw [h6]
    rw [List.take_take, show min (k * 4) (o.length * 4) = k * 4 from by omega] at e6
    rw [e6]
    have e7 : ndCells o = ndCells (o.take k) ++ ndCells (o.drop k) := by rw [← ndCells_append, List.take_append_drop]
    rw [e7, List.take_append_of_le_length (by rw [ndCells_len, hl]; exact Nat.le_refl _), List.take_of_length_le (by rw [ndCells_len, hl]; exact Nat.le_refl _)]
theorem opn_next {L : List Nd} {j E : Nat} (hd : dep L (j + 1) = (E : Int) + 1) : opn L (j + 1) = (opn L j).take (E + 1) ++ [nd L (j + 1)] := by
  unfold opn
  rw [st_succ, hd, show ((E : Int) + 1).toNat = E + 1 from by omega, List.map_append, List.map_take]
  rfl
theorem keepN {w w1 w2 : World} {b : Nat} {v0 v1 v2 v3 : Value} (hu : Up w1 w2) (h : Up w w1 ∧ w1.cell? ⟨b, 0, none⟩ = some v0 ∧ w1.cell? ⟨b, 1, none⟩ = some v1 ∧ w1.cell? ⟨b, 2, none⟩ = some v2 ∧ w1.cell? ⟨b, 3, none⟩ = some v3) :
    Up w w2 ∧ w2.cell? ⟨b, 0, none⟩ = some v0 ∧ w2.cell? ⟨b, 1, none⟩ = some v1 ∧ w2.cell? ⟨b, 2, none⟩ = some v2 ∧ w2.cell? ⟨b, 3, none⟩ = some v3 :=
  ⟨h.1.trans hu, cell_up hu h.2.1, cell_up hu h.2.2.1, cell_up hu h.2.2.2.1, cell_up hu h.2.2.2.2⟩
theorem keepA {w W W' : World} {b go : Nat} {tmp : Obj} {v0 v1 v2 v3 : Value} (hg : (W.alloc tmp).drew.grownBy W' (some go)) (hne : go ≠ b) (hB : w.heap.size ≤ go) (h : Up w W ∧ W.cell? ⟨b, 0, none⟩ = some v0 ∧ W.cell? ⟨b, 1, none⟩ = some v1 ∧ W.cell? ⟨b, 2, none⟩ = some v2 ∧ W.cell? ⟨b, 3, none⟩ = some v3) :
    Up w W' ∧ W'.cell? ⟨b, 0, none⟩ = some v0 ∧ W'.cell? ⟨b, 1, none⟩ = some v1 ∧ W'.cell? ⟨b, 2, none⟩ = some v2 ∧ W'.cell? ⟨b, 3, none⟩ = some v3 := by
  have hk := keepN ((Up.alloc W tmp).trans (Up.drew _)) h
  have hb : b < (W.alloc tmp).drew.heap.size := by
    by_cases hlt : b < (W.alloc tmp).drew.heap.size
    · exact hlt
    · have h1 := hk.2.1
      have : (W.alloc tmp).drew.heap[b]? = none := by simpa using hlt
      simp [World.cell?, this] at h1
  have hc : ∀ o, W'.cell? ⟨b, o, none⟩ = (W.alloc tmp).drew.cell? ⟨b, o, none⟩ := fun o => World.cell?_of_block (hg.block b hb (fun e => hne (by injection e with e; exact e.symm)))
  refine ⟨hk.1.grown hg (Below.size hk.1) (fun q hq => by injection hq with hq; omega), ?_, ?_, ?_, ?_⟩
  · rw [hc]; exact hk.2.1
  · rw [hc]; exact hk.2.2.1
  · rw [hc]; exact hk.2.2.2.1
  · rw [hc]; exact hk.2.2.2.2
set_option maxRecDepth 100000 in
set_option maxHeartbeats 4000000 in
theorem check_any (w : World) (A : Option Addr) (n c : Nat) (L : List Nd) (hL : NArg w A n L) (hc : n ≤ c) (hn : n ≤ 10000) (m : Int) (hm : -9223372036854775808 ≤ m ∧ m ≤ 9223372036854775807) :
    Calls Try.prog 14 #[.slice A n c, .int .i64 m] w (SaysE (IsT L m) w) := by
  have HL := Lib.hid hL.nds
  have HOk := Lib.hid (nd_ok hL.ok)
  have HN := Lib.hid hL.nds.len
  clear hL
  by_cases h0 : m < 0
  · have HR := Lib.hid (show ¬ IsT L m from fun h => by have := h.lo; omega)
    clear hm
    go_enter Try.func14, Try.ntmps14
    go_wp2
    go_ret
    exact saysE_no HR.out (Up.refl _)
  have f0 : decide (m < 0) = false := decide_eq_false h0
  by_cases h1 : 1048576 < m
  · have HR := Lib.hid (show ¬ IsT L m from fun h => by have := h.hi; omega)
    clear hm h0
    go_enter Try.func14, Try.ntmps14
    go_wp2
    go_ret
    exact saysE_no HR.out (Up.refl _)
  have f1 : decide (1048576 < m) = false := decide_eq_false h1
  by_cases h2 : n = 0
  · have HR := Lib.hid (show ¬ IsT L m from fun h => by have := h.pos; have := HN.out; omega)
    subst h2
    clear hm h0 h1
    go_enter Try.func14, Try.ntmps14
    go_wp2
    go_ret
    exact saysE_no HR.out (Up.refl _)
  have f2 : ((n : Int) == 0) = false := beq_false_of_ne (by omega)
  obtain ⟨b, o, hA, hb, k0, k1, k2, k3⟩ := nds_nd HL.out 0 (by omega)
  subst hA
  obtain ⟨⟨a0, a1, a2, a3⟩, hr⟩ : ∃ r, nd L 0 = r := ⟨_, rfl⟩
  rw [hr] at k0 k1 k2 k3
  simp only [Nat.zero_mul, Nat.add_zero] at k0 k1 k2 k3
  have n0 : (0 : Int) < n := by omega
  by_cases h3 : a0 = 1 ∧ a1 = 0 ∧ a2 = m ∧ a3 = 0
  case neg =>
    have HR := Lib.hid (show ¬ IsT L m from fun h => h3 (by have := h.root; rw [hr] at this; cases this; exact ⟨rfl, rfl, rfl, rfl⟩))
    clear hm h0 h1 h2 hr
    go_enter Try.func14, Try.ntmps14
    go_wp2
    all_goals
      go_ret
      exact saysE_no HR.out (Up.refl _)
  obtain ⟨rfl, rfl, rfl, rfl⟩ := h3
  have HRt := Lib.hid hr
  have HM := Lib.hid (show 0 ≤ a2 ∧ a2 ≤ 1048576 by omega)
  have hn2 : 0 < n := by omega
  have n1 : (1 : Int) ≤ n := by omega
  have hN0 := Up.alloc w (.cells #[.int .u8 1, .int .i64 0, .int .i64 a2, .int .i64 0] 46)
  have HU1 := Lib.hid hN0
  have HDp := Lib.hid (show dep L 0 = 0 by unfold dep; rw [hr])
  have HO0 := Lib.hid (show (w.alloc (.cells #[.int .u8 1, .int .i64 0, .int .i64 a2, .int .i64 0] 46)).ownsRow w.heap.size 46 4 (.slice (some ⟨w.heap.size, 0, none⟩) 1 1) (opn L 0).length (ndCells (opn L 0)) by
    have e : opn L 0 = [(1, 0, a2, 0)] := by show [nd L 0] = _; rw [hr]
    rw [e]
    exact ⟨rfl, .inr ⟨w.heap.size, 1, #[.int .u8 1, .int .i64 0, .int .i64 a2, .int .i64 0], rfl, Nat.le_refl _, Go.heap_alloc_new _ _, Nat.le_refl _, by unfold maxLen; omega, rfl, rfl⟩⟩)
  have HF : Hid (∀ i, i < n → (∀ q, q < i → okA L q) → Good L (i + 1)) := Lib.hid fun i _ hq => ⟨HDp.out, fun j hj => hq j (by omega)⟩
  have HFit := Lib.hid (fun W A k c O (h : Nds W A k O) (hk : k ≤ 20000) x0 x1 x2 x3 hx => fits_any W A k c O h hk x0 x1 x2 x3 hx)
  clear hm h0 h1 h2 hr hb hN0
  by_cases hn1 : n = 1
  · have hIs := Lib.hid (show IsT L a2 from ⟨HM.out.1, HM.out.2, by have := HN.out; omega, HRt.out, fun q hq => by have := HN.out; omega⟩)
    subst hn1
    clear HF
    go_enter Try.func14, Try.ntmps14
    go_wp2
    all_goals
      go_loopg [34] 0 (fun _ iv wr => iv = .int .i64 0 ∧ Hid (Up w wr))
      case atStart => exact ⟨rfl, HU1⟩
      case round =>
        obtain ⟨rfl, HU⟩ := hrel
        go_wp2
        go_ret
        exact saysE_yes hIs.out HU.out
  have hc1 : ¬ c = 1 := by omega
  have hn3 : 1 ≤ n := by omega
  have hnc : ((n - 1 : Nat) : Int) = (n : Int) - 1 := by omega
  have HC := Lib.hid hc
  clear hc
  go_enter Try.func14, Try.ntmps14
  go_wp2
  clear k0 k1 k2 k3 f2 hc1
  go_loopg [5, 7, 34] (n - 1) (fun g ov _ iv wr => ∃ (j go c2 kk : Nat), g = n - (j + 1) ∧ iv = .int .i64 (j : Nat) ∧ j + 1 ≤ n ∧ ov = .slice (some ⟨go, 0, none⟩) kk c2 ∧ Hid ((opn L j).length = kk) ∧ Hid (wr.ownsRow w.heap.size 46 4 (.slice (some ⟨go, 0, none⟩) kk c2) (opn L j).length (ndCells (opn L j))) ∧ Hid (Up w wr) ∧ Hid (∀ q, q < j → okA L q))
  case atStart => exact ⟨0, w.heap.size, 1, 1, rfl, rfl, by omega, rfl, Lib.hid rfl, HO0, HU1, Lib.hid (fun q hq => absurd hq (Nat.not_lt_zero _))⟩
  case round =>
    obtain ⟨j, go, c2, kk, hg, rfl, hj, rfl, HK, HO, HU, HQ⟩ := hrel
    have HG := Lib.hid hg
    clear hg
    by_cases hlt : j + 1 < n
    · obtain ⟨b2, o2, hA2, hb2, d0, d1, d2, d3⟩ := nds_nd (HL.out.up HU.out) (j + 1) hlt
      obtain ⟨rfl, rfl⟩ : b2 = b ∧ o2 = o := by injection hA2 with e; injection e with e1 e2; exact ⟨e1.symm, e2.symm⟩
      obtain ⟨x, hx⟩ : ∃ x, nd L (j + 1) = x := ⟨_, rfl⟩
      have HX := Lib.hid hx
      have hxo := HOk.out (j + 1)
      rw [hx] at d0 d1 d2 d3 hxo
      obtain ⟨x0, x1, x2, x3⟩ := x
      have hx3 := wf64 hxo.2.2.2
      dsimp only at d0 d1 d2 d3 hx3
      rw [show o2 + (j + 1) * 4 = o2 + 4 + j * 4 from by omega] at d0 d1 d2 d3
      obtain ⟨hO1, hO2, hO3, -, hO5⟩ := RowN.nds HO.out
      have hkk := st_lenle L j
      have hko := HK.out
      rw [opn_len] at hko
      have hua := Up.alloc wr (.cells #[.int .u8 x0, .int .i64 x1, .int .i64 x2, .int .i64 x3] 46)
      have HFi := Lib.hid (HFit.out (wr.alloc (.cells #[.int .u8 x0, .int .i64 x1, .int .i64 x2, .int .i64 x3] 46)) (some ⟨go, 0, none⟩) kk c2 (opn L j) (hO1.up hua) (by omega) x0 x1 x2 x3 hx3)
      have n0 : (wr.alloc (.cells #[.int .u8 x0, .int .i64 x1, .int .i64 x2, .int .i64 x3] 46)).cell? ⟨wr.heap.size, 0, none⟩ = some (.int .u8 x0) := cellOf (Go.heap_alloc_new _ _) rfl
      have n1' : (wr.alloc (.cells #[.int .u8 x0, .int .i64 x1, .int .i64 x2, .int .i64 x3] 46)).cell? ⟨wr.heap.size, 1, none⟩ = some (.int .i64 x1) := cellOf (Go.heap_alloc_new _ _) rfl
      have n2 : (wr.alloc (.cells #[.int .u8 x0, .int .i64 x1, .int .i64 x2, .int .i64 x3] 46)).cell? ⟨wr.heap.size, 2, none⟩ = some (.int .i64 x2) := cellOf (Go.heap_alloc_new _ _) rfl
      have n3 : (wr.alloc (.cells #[.int .u8 x0, .int .i64 x1, .int .i64 x2, .int .i64 x3] 46)).cell? ⟨wr.heap.size, 3, none⟩ = some (.int .i64 x3) := cellOf (Go.heap_alloc_new _ _) rfl
      have HUa := Lib.hid hua
      have hji : (j : Int) < (n : Int) - 1 := by omega
      have hgd := HF.out j (by omega) HQ.out
      have HOkj := Lib.hid (fits_ok (L := L) (i := j) hgd (by omega))
      rw [hx] at HOkj
      clear hx hxo hO1 hua hA2 hb2 hgd hx3
      go_wp2_with (go_at_call 19; ((with_reducible refine HFi.out.mono ?_); rintro e w1 ⟨⟨q, rfl, hq⟩, hu1⟩; have HQb := Lib.hid hq; have HU2 := Lib.hid hu1; clear hq hu1; cases q))
      · have HNo := Lib.hid (show ¬ IsT L a2 from fun h => by
          have h1 := h.ok j (by have := HN.out; omega)
          have h2 := HQb.out.2 (HOkj.out.2 h1)
          cases h2)
        go_ret
        exact saysE_no HNo.out (HU.out.trans (HUa.out.trans HU2.out))
      · have HOK := Lib.hid (show okA L j from HOkj.out.1 (HQb.out.1 trivial))
        obtain ⟨E, hE⟩ : ∃ E : Nat, x3 = (E : Int) + 1 := ⟨x3.toNat - 1, by
          have h1 := HOK.out.1
          unfold dep at h1
          rw [HX.out] at h1
          dsimp only at h1
          omega⟩
        have HDE := Lib.hid (show dep L (j + 1) = (E : Int) + 1 by unfold dep; rw [HX.out]; exact hE)
        have hEk : E + 1 ≤ kk := by
          have h1 := HOK.out.2.1
          have h2 := (HF.out j (by omega) HQ.out).len (show j < j + 1 by omega)
          have h3 := HDE.out
          omega
        replace n0 := cell_up HU2.out n0
        replace n1' := cell_up HU2.out n1'
        replace n2 := cell_up HU2.out n2
        replace n3 := cell_up HU2.out n3
        have HO1 := Lib.hid (rowN_up (o := opn L j) (B := w.heap.size) HO.out (HUa.out.trans HU2.out))
        have HW1 := Lib.hid (HU.out.trans (HUa.out.trans HU2.out))
        have HOT : w1.ownsRow w.heap.size 46 4 (.slice (some ⟨go, 0, none⟩) (E + 1) c2) (E + 1) (ndCells ((opn L j).take (E + 1))) := RowN.take HO1.out (by rw [HK.out]; exact hEk)
        have HX1 : w.heap.size ≤ wr.heap.size := Below.size HU.out
        have HX2 : wr.heap.size < w1.heap.size := Nat.lt_of_lt_of_le (by rw [World.size_alloc]; exact Nat.lt_succ_self _) (Below.size HU2.out)
        subst hE
        have g1 : (E : Int) + 1 ≤ c2 := by omega
        have g2 : ((E : Int) + 1).toNat = E + 1 := by omega
        have g3 : (0 : Int) ≤ (E : Int) + 1 := by omega
        obtain ⟨X, hX⟩ : ∃ X, wr.heap.size = X := ⟨_, rfl⟩
        rw [hX] at n0 n1' n2 n3 HX1 HX2
        simp only [hX]
        have hbs : w.heap.size ≤ w1.heap.size := by omega
        have hbz : E + 1 + 1 ≤ maxLen := by unfold maxLen; omega
        have hbb : (E + 1 + 1) * 32 ≤ 140737488355328 := by omega
        have hS : Up w w1 ∧ w1.cell? ⟨X, 0, none⟩ = some (.int .u8 x0) ∧ w1.cell? ⟨X, 1, none⟩ = some (.int .i64 x1) ∧ w1.cell? ⟨X, 2, none⟩ = some (.int .i64 x2) ∧ w1.cell? ⟨X, 3, none⟩ = some (.int .i64 ((E : Int) + 1)) := ⟨HW1.out, n0, n1', n2, n3⟩
        obtain ⟨i0, hi0, hz0, hz1, hz2⟩ := info_parts infoNode
        have HKK := Lib.hid hEk
        have hne : go ≠ X := by omega
        have hgo : w.heap.size ≤ go := hO2
        have HLT := Lib.hid (And.intro hlt hn)
        clear hX hlt hj hn hEk hko hkk d0 d1 d2 d3 hO2 hO3 hO5 hn1 hn2 hn3
        go_region_held3 (fun w' => Up w w' ∧ w'.cell? ⟨X, 0, none⟩ = some (.int .u8 x0) ∧ w'.cell? ⟨X, 1, none⟩ = some (.int .i64 x1) ∧ w'.cell? ⟨X, 2, none⟩ = some (.int .i64 x2) ∧ w'.cell? ⟨X, 3, none⟩ = some (.int .i64 ((E : Int) + 1)))
          (first | assumption | with_reducible exact keepN (Up.drew _) (by assumption) | with_reducible exact keepN (Up.alloc _ _) (by assumption) | exact keepA hgrow hne hgo hS)
          ((refine step_append_lies _ (by rfl) _ _ _ (by rfl) w.heap.size 46 i0 _ 4 32 Try.underlying24 hi0 hz0 hz1 hz2 rfl (by omega) _ (E + 1) (ndCells ((opn L j).take (E + 1))) (by rfl) ((HOT.alloc _).drew)
              ⟨w1.heap.size, 0, none⟩ 1 1 [.int .u8 x0, .int .i64 x1, .int .i64 x2, .int .i64 ((E : Int) + 1)] (by rfl) (by rfl) (World.news_of_block (cs := #[.int .u8 x0, .int .i64 x1, .int .i64 x2, .int .i64 ((E : Int) + 1)]) (t := 46) (fr := (0, 0)) (heap_alloc_new w1 _)) (by simp [Value.oneCell'])
              (by omega) hbz hbb (by simp; omega) (w1.heap.size + 1) (by simp) ?_; intro g5 cap5 w5 hown5 hgrow _ _))
        have hH : Up w w5 ∧ w5.cell? ⟨X, 0, none⟩ = some (.int .u8 x0) ∧ w5.cell? ⟨X, 1, none⟩ = some (.int .i64 x1) ∧ w5.cell? ⟨X, 2, none⟩ = some (.int .i64 x2) ∧ w5.cell? ⟨X, 3, none⟩ = some (.int .i64 ((E : Int) + 1)) := by assumption
        have HW5 := Lib.hid hH.1
        have HKN := Lib.hid (show (opn L (j + 1)).length = E + 1 + 1 by
          rw [opn_len, st_succ, HDE.out, List.length_append, List.length_take, List.length_singleton]
          have h1 := HK.out
          rw [opn_len] at h1
          have h2 := HKK.out
          omega)
        have HO5 := Lib.hid (show w5.ownsRow w.heap.size 46 4 (.slice (some ⟨g5, 0, none⟩) (E + 1 + 1) cap5) (opn L (j + 1)).length (ndCells (opn L (j + 1))) by
          rw [HKN.out, opn_next HDE.out, ndCells_append, HX.out]
          exact hown5)
        have HQ5 := Lib.hid (show ∀ q, q < j + 1 → okA L q from fun q hq => by
          by_cases e : q = j
          · subst e; exact HOK.out
          · exact HQ.out q (by omega))
        clear hH hown5 hgrow hS
        obtain ⟨hlt, hn⟩ := HLT.out
        go_wp2
        go_roundg (n - (j + 1 + 1))
        case measure => rw [HG.out]; have := HLT.out.1; omega
        case rel =>
          exact ⟨j + 1, g5, cap5, E + 1 + 1, rfl, by go_num, by omega, rfl, HKN, HO5, HW5, HQ5⟩
    · have hIs := Lib.hid (show IsT L a2 from ⟨HM.out.1, HM.out.2, by have := HN.out; omega, HRt.out, fun q hq => HQ.out q (by have := HN.out; omega)⟩)
      have f3 : decide ((j : Int) < (n : Int) - 1) = false := decide_eq_false (by omega)
      clear hlt
      go_wp2
      go_ret
      exact saysE_yes hIs.out HU.out
end Go.Proofs.Ytkkefgbmdghklaa
