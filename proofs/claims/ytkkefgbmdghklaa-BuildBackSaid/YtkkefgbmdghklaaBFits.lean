/- Whether a node may stand behind the open ones: the program's fits. -/
import Derived.Test.YtkkefgbmdghklaaBIs
namespace Go.Proofs.Ytkkefgbmdghklaa
open Go.RowKit

/-- A node fits behind the open ones. -/
def FitsP (O : List Nd) (x : Nd) : Prop :=
  1 ≤ x.2.2.2 ∧ x.2.2.2 ≤ O.length ∧ (if x.2.2.2 < O.length then (nd O x.2.2.2.toNat).2.2.1 else (nd O (x.2.2.2.toNat - 1)).2.1) ≤ x.2.1 ∧ x.2.1 ≤ x.2.2.1 ∧ x.2.2.1 ≤ (nd O (x.2.2.2.toNat - 1)).2.2.1
set_option maxRecDepth 100000 in
set_option maxHeartbeats 4000000 in
theorem fits_any (w : World) (A : Option Addr) (k c : Nat) (O : List Nd) (hO : Nds w A k O) (hk : k ≤ 20000) (x0 x1 x2 x3 : Int) (hx : -9223372036854775808 ≤ x3 ∧ x3 ≤ 9223372036854775807) :
    Calls Try.prog 19 #[.slice A k c, .agg #[.int .u8 x0, .int .i64 x1, .int .i64 x2, .int .i64 x3]] w (SaysB (FitsP O (x0, x1, x2, x3)) w) := by
  have hl := hO.len
  have HP := Lib.hid (show FitsP O (x0, x1, x2, x3) ↔ (1 ≤ x3 ∧ x3 ≤ k ∧ (if x3 < (k : Int) then (nd O x3.toNat).2.2.1 else (nd O (x3.toNat - 1)).2.1) ≤ x1 ∧ x1 ≤ x2 ∧ x2 ≤ (nd O (x3.toNat - 1)).2.2.1) by unfold FitsP; rw [hl])
  have hu := Up.alloc w (.cells #[.int .u8 x0, .int .i64 x1, .int .i64 x2, .int .i64 x3] 46)
  have n0 : (w.alloc (.cells #[.int .u8 x0, .int .i64 x1, .int .i64 x2, .int .i64 x3] 46)).cell? ⟨w.heap.size, 0, none⟩ = some (.int .u8 x0) := cellOf (Go.heap_alloc_new _ _) rfl
  have n1 : (w.alloc (.cells #[.int .u8 x0, .int .i64 x1, .int .i64 x2, .int .i64 x3] 46)).cell? ⟨w.heap.size, 1, none⟩ = some (.int .i64 x1) := cellOf (Go.heap_alloc_new _ _) rfl
  have n2 : (w.alloc (.cells #[.int .u8 x0, .int .i64 x1, .int .i64 x2, .int .i64 x3] 46)).cell? ⟨w.heap.size, 2, none⟩ = some (.int .i64 x2) := cellOf (Go.heap_alloc_new _ _) rfl
  have n3 : (w.alloc (.cells #[.int .u8 x0, .int .i64 x1, .int .i64 x2, .int .i64 x3] 46)).cell? ⟨w.heap.size, 3, none⟩ = some (.int .i64 x3) := cellOf (Go.heap_alloc_new _ _) rfl
  have HU := Lib.hid hu
  have HL := Lib.hid (hO.up hu)
  clear hO hl hu
  by_cases c1 : x3 < 1
  · have HNo := Lib.hid (show ¬ FitsP O (x0, x1, x2, x3) from fun h => by have := (HP.out.1 h).1; omega)
    go_enter Try.func19, Try.ntmps19
    go_wp2
    go_ret
    exact saysB_no HNo.out HU.out
  have f1 : decide (x3 < 1) = false := decide_eq_false c1
  by_cases c2 : (k : Int) < x3
  · have HNo := Lib.hid (show ¬ FitsP O (x0, x1, x2, x3) from fun h => by have := (HP.out.1 h).2.1; omega)
    go_enter Try.func19, Try.ntmps19
    go_wp2
    go_ret
    exact saysB_no HNo.out HU.out
  have f2 : decide ((k : Int) < x3) = false := decide_eq_false c2
  obtain ⟨E, rfl⟩ : ∃ E : Nat, x3 = (E : Int) + 1 := ⟨x3.toNat - 1, by omega⟩
  have hEk : E < k := by omega
  obtain ⟨b, o, rfl, hb, p0, p1, p2, p3⟩ := nds_nd HL.out E hEk
  have hp2 := HP.out
  rw [show ((E : Int) + 1).toNat - 1 = E from by omega, show ((E : Int) + 1).toNat = E + 1 from by omega] at hp2
  obtain ⟨pv, hpv⟩ : ∃ pv, nd O E = pv := ⟨_, rfl⟩
  rw [hpv] at p0 p1 p2 p3 hp2
  obtain ⟨v0, v1, v2, v3⟩ := pv
  dsimp only at p0 p1 p2 p3 hp2
  have q4 : IntKind.i64.wrap ((E : Int) + 1 - 1) = E := (IntWalk.i64_in _ (by omega)).trans (by omega)
  have q5 : IntKind.i64.wrap (E : Int) = E := IntWalk.i64_in _ (by omega)
  have e1 : (E : Int) < k := by omega
  by_cases c3 : E + 1 < k
  · obtain ⟨b2, o2, hA2, -, r0, r1, r2, r3⟩ := nds_nd HL.out (E + 1) c3
    obtain ⟨rfl, rfl⟩ : b2 = b ∧ o2 = o := by injection hA2 with e; injection e with e1 e2; exact ⟨e1.symm, e2.symm⟩
    obtain ⟨z, hz⟩ : ∃ z, (nd O (E + 1)).2.2.1 = z := ⟨_, rfl⟩
    rw [if_pos (by omega), hz] at hp2
    rw [hz] at r2
    have HP2 := Lib.hid hp2
    have e2 : (E : Int) + 1 < k := by omega
    have hz1 : ((E : Int) + 1).toNat = E + 1 := by omega
    have hua := Up.alloc (w.alloc (.cells #[.int .u8 x0, .int .i64 x1, .int .i64 x2, .int .i64 ((E : Int) + 1)] 46)) (.cells #[.int .u8 v0, .int .i64 v1, .int .i64 v2, .int .i64 v3] 46)
    have m1 := cell_up hua n1
    have m2 := cell_up hua n2
    have m3 := cell_up hua n3
    have s2 := cell_up hua r2
    have HUa := Lib.hid (HU.out.trans hua)
    clear hp2 hz c1 c2 r0 r1 r3 hb hua hpv HP
    by_cases d1 : z ≤ x1
    · by_cases d2 : x1 ≤ x2
      · by_cases d3 : x2 ≤ v2
        · have HYes := Lib.hid (show FitsP O (x0, x1, x2, (E : Int) + 1) from HP2.out.2 ⟨by omega, by omega, by omega, by omega, by omega⟩)
          go_enter Try.func19, Try.ntmps19
          go_wp2
          go_ret
          exact saysB_yes HYes.out HUa.out
        · have HNo := Lib.hid (show ¬ FitsP O (x0, x1, x2, (E : Int) + 1) from fun h => by have := HP2.out.1 h; omega)
          have f3 : decide (x2 ≤ v2) = false := decide_eq_false d3
          clear d3
          go_enter Try.func19, Try.ntmps19
          go_wp2
          go_ret
          exact saysB_no HNo.out HUa.out
      · have HNo := Lib.hid (show ¬ FitsP O (x0, x1, x2, (E : Int) + 1) from fun h => by have := HP2.out.1 h; omega)
        have f3 : decide (x1 ≤ x2) = false := decide_eq_false d2
        clear d2
        go_enter Try.func19, Try.ntmps19
        go_wp2
        go_ret
        exact saysB_no HNo.out HUa.out
    · have HNo := Lib.hid (show ¬ FitsP O (x0, x1, x2, (E : Int) + 1) from fun h => by have := HP2.out.1 h; omega)
      have f3 : decide (z ≤ x1) = false := decide_eq_false d1
      clear d1
      go_enter Try.func19, Try.ntmps19
      go_wp2
      go_ret
      exact saysB_no HNo.out HUa.out
  · obtain rfl : k = E + 1 := by omega
    rw [if_neg (by omega)] at hp2
    have HP2 := Lib.hid hp2
    have f0 : decide ((E : Int) + 1 < (E : Int) + 1) = false := decide_eq_false (by omega)
    have hua := Up.alloc (w.alloc (.cells #[.int .u8 x0, .int .i64 x1, .int .i64 x2, .int .i64 ((E : Int) + 1)] 46)) (.cells #[.int .u8 v0, .int .i64 v1, .int .i64 v2, .int .i64 v3] 46)
    have m1 := cell_up hua n1
    have m2 := cell_up hua n2
    have m3 := cell_up hua n3
    have HUa := Lib.hid (HU.out.trans hua)
    clear hp2 c1 c2 hb hua hpv HP
    by_cases d1 : v1 ≤ x1
    · by_cases d2 : x1 ≤ x2
      · by_cases d3 : x2 ≤ v2
        · have HYes := Lib.hid (show FitsP O (x0, x1, x2, (E : Int) + 1) from HP2.out.2 ⟨by omega, by omega, by omega, by omega, by omega⟩)
          go_enter Try.func19, Try.ntmps19
          go_wp2
          go_ret
          exact saysB_yes HYes.out HUa.out
        · have HNo := Lib.hid (show ¬ FitsP O (x0, x1, x2, (E : Int) + 1) from fun h => by have := HP2.out.1 h; omega)
          have f3 : decide (x2 ≤ v2) = false := decide_eq_false d3
          clear d3
          go_enter Try.func19, Try.ntmps19
          go_wp2
          go_ret
          exact saysB_no HNo.out HUa.out
      · have HNo := Lib.hid (show ¬ FitsP O (x0, x1, x2, (E : Int) + 1) from fun h => by have := HP2.out.1 h; omega)
        have f3 : decide (x1 ≤ x2) = false := decide_eq_false d2
        clear d2
        go_enter Try.func19, Try.ntmps19
        go_wp2
        go_ret
        exact saysB_no HNo.out HUa.out
    · have HNo := Lib.hid (show ¬ FitsP O (x0, x1, x2, (E : Int) + 1) from fun h => by have := HP2.out.1 h; omega)
      have f3 : decide (v1 ≤ x1) = false := decide_eq_false d1
      clear d1
      go_enter Try.func19, Try.ntmps19
      go_wp2
      go_ret
      exact saysB_no HNo.out HUa.out
/-- What the program asks is what makes the next node one of a tree. -/
def opn (L : List Nd) (i : Nat) : List Nd := (st L i).map (nd L)
theorem opn_len (L : List Nd) (i : Nat) : (opn L i).length = (st L i).length := List.length_map ..
theorem opn_nd {L : List Nd} {i k : Nat} (h : k < (st L i).length) : nd (opn L i) k = nd L ((st L i).getD k 0) := by
  unfold nd opn
  rw [List.getD_eq_getElem?_getD, List.getElem?_map, List.getD_eq_getElem?_getD (l := st L i), List.getElem?_eq_getElem h]
  rfl
theorem sib_from {L : List Nd} {n i d : Nat} (h : Good L n) (hi : i < n) (h1 : 1 ≤ d) (hd : d < (st L i).length) : (nd L ((st L i).getD (d - 1) 0)).2.1 ≤ (nd L ((st L i).getD d 0)).2.2.1 := by
  obtain ⟨s, hs⟩ : ∃ s, (st L i)[d]? = some s := ⟨_, List.getElem?_eq_getElem hd⟩
  have hd1 : d - 1 < (st L i).length := by omega
  obtain ⟨p, hp⟩ : ∃ p, (st L i)[d - 1]? = some p := ⟨_, List.getElem?_eq_getElem hd1⟩
  obtain ⟨e1, e2, e3⟩ := st_sub h hi d s hs
  have e4 := st_dep h.1 (h.ok hi) d s hs
  rw [List.getD_eq_getElem?_getD, hp, List.getD_eq_getElem?_getD, hs]
  show (nd L p).2.1 ≤ (nd L s).2.2.1
  cases s with
  | zero =>
    have := h.1
    omega
  | succ j =>
    obtain ⟨o1, o2, o3, o4, -⟩ := h.2 j (by omega)
    obtain ⟨k1, k2⟩ := h.len (show j < n by omega)
    rw [e4] at o3
    have e5 : (st L j).getD ((d : Int).toNat - 1) 0 = p := by
      have e6 : (st L (j + 1))[d - 1]? = some p := by rw [e1, List.getElem?_take, if_pos (by omega), hp]
      rw [st_succ, List.getElem?_append, List.length_take, if_pos (by omega), List.getElem?_take, if_pos (by omega)] at e6
      rw [show (d : Int).toNat - 1 = d - 1 from by omega, List.getD_eq_getElem?_getD, e6]
      rfl
    rw [e5] at o3
    omega
theorem fits_ok {L : List Nd} {n i : Nat} (h : Good L n) (hi : i < n) : FitsP (opn L i) (nd L (i + 1)) ↔ okA L i := by
  obtain ⟨k1, k2⟩ := h.len hi
  unfold FitsP okA
  rw [opn_len]
  show (1 ≤ dep L (i + 1) ∧ dep L (i + 1) ≤ ((st L i).length : Int) ∧ (if dep L (i + 1) < ((st L i).length : Int) then (nd (opn L i) (dep L (i + 1)).toNat).2.2.1 else (nd (opn L i) ((dep L (i + 1)).toNat - 1)).2.1) ≤ (nd L (i + 1)).2.1 ∧ (nd L (i + 1)).2.1 ≤ (nd L (i + 1)).2.2.1 ∧ (nd L (i + 1)).2.2.1 ≤ (nd (opn L i) ((dep L (i + 1)).toNat - 1)).2.2.1) ↔ _
  by_cases h0 : 1 ≤ dep L (i + 1) ∧ dep L (i + 1) ≤ ((st L i).length : Int)
  · rw [opn_nd (show (dep L (i + 1)).toNat - 1 < (st L i).length by omega)]
    by_cases h1 : dep L (i + 1) < ((st L i).length : Int)
    · rw [if_pos h1, opn_nd (show (dep L (i + 1)).toNat < (st L i).length by omega)]
      have h2 := sib_from h hi (d := (dep L (i + 1)).toNat) (by omega) (by omega)
      constructor
      · rintro ⟨a, b, c, d, e⟩
        exact ⟨a, by omega, by omega, d, e, fun _ => c⟩
      · rintro ⟨a, b, c, d, e, f⟩
        exact ⟨a, by omega, f (by omega), d, e⟩
    · rw [if_neg h1]
      constructor
      · rintro ⟨a, b, c, d, e⟩
        exact ⟨a, by omega, c, d, e, fun _ => by omega⟩
      · rintro ⟨a, b, c, d, e, f⟩
        exact ⟨a, by omega, c, d, e⟩
  · constructor
    · rintro ⟨a, b, -⟩
      exact absurd ⟨a, b⟩ h0
    · rintro ⟨a, b, -⟩
      exact absurd ⟨a, by omega⟩ h0
end Go.Proofs.Ytkkefgbmdghklaa
