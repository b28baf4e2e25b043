/- All ends of lists, rising, each once: the document's ends. -/
import Derived.Test.YtbgdphjjepbafaaSOwn
import Derived.Test.YtbgdphjjepbafaaSMath2
import Derived.Maps.AppendAt
namespace Go.Proofs.Ytbgdphjjepbafaa
open Go.RowKit

/-- What stands when a side's end has been put in. -/
def stp (r1 r2 : Int) (o : List Int) (s : Nat) : List Int := if s = 0 then o else if s = 1 then ins (clp r1) o else ins (clp r2) (ins (clp r1) o)
def sid (r1 r2 : Int) (s : Nat) : Int := if s = 1 then clp r2 else clp r1
theorem stp_succ {r1 r2 : Int} {o : List Int} {s : Nat} (h : s < 2) : stp r1 r2 o (s + 1) = ins (sid r1 r2 s) (stp r1 r2 o s) := by
  have : s = 0 ∨ s = 1 := by omega
  rcases this with rfl | rfl <;> rfl
theorem stp_len {r1 r2 : Int} {o : List Int} (s : Nat) : (stp r1 r2 o s).length ≤ o.length + 2 := by
  have h1 := ins_len (clp r1) o
  have h2 := ins_len (clp r2) (ins (clp r1) o)
  unfold stp
  split
  · omega
  · split <;> omega
theorem infoInt : (Try.prog.info? 3).map (fun i => (i.zero, i.size, i.bytes)) = some (some (.int .i64 0), 1, 8) := by kernel_rfl
/-- A list of places in a row that lies at B or above. -/
def RowI (w : World) (B : Nat) (v : Value) (o : List Int) : Prop := w.ownsRow B 3 1 v o.length (inCells o)
theorem inCells_at {o : List Int} {j : Nat} (h : j < o.length) : (inCells o)[j]? = some (.int .i64 o[j]) := by
  unfold inCells
  rw [List.getElem?_map, List.getElem?_eq_getElem h]
  rfl
theorem inCells_one (o : List Int) : ∀ u ∈ inCells o, u.oneCell' = true := by
  intro u hu
  unfold inCells at hu
  rw [List.mem_map] at hu
  obtain ⟨x, -, rfl⟩ := hu
  rfl
theorem RowI.form {w : World} {B : Nat} {v : Value} {o : List Int} (h : RowI w B v o) : ∃ A c, v = .slice A o.length c ∧ ∀ j (hj : j < o.length), ∃ g, A = some ⟨g, 0, none⟩ ∧ B ≤ g ∧ w.cell? ⟨g, j, none⟩ = some (.int .i64 o[j]) := by
  rcases owns_cell h with ⟨rfl, hz⟩ | ⟨g, c, rfl, hg, hw, hc⟩
  · exact ⟨none, 0, by rw [hz], fun j hj => absurd hj (by omega)⟩
  · exact ⟨_, c, rfl, fun j hj => ⟨g, rfl, hg, hc _ _ (inCells_at hj)⟩⟩
theorem RowI.take {w : World} {B g m c k : Nat} {o : List Int} (h : RowI w B (.slice (some ⟨g, 0, none⟩) m c) o) (hk : k ≤ o.length) : w.ownsRow B 3 1 (.slice (some ⟨g, 0, none⟩) k c) k (inCells (o.take k)) := by
  unfold RowI at h
  refine ⟨by unfold inCells; simp; omega, ?_⟩
  rcases h.2 with ⟨e, -⟩ | ⟨g', cap, cur, e, h1, h2, h3, h4, h5, h6⟩
  · cases e
  · injection e with e1 e2 e3
    injection e1 with e1
    injection e1 with e1
    subst e1 e3
    refine .inr ⟨g, c, cur, rfl, h1, h2, by omega, h4, h5, ?_⟩
    have e6 : (cur.toList.take (o.length * 1)).take k = (inCells o).take k := by rw [h6]
    rw [List.take_take, show min k (o.length * 1) = k * 1 from by omega] at e6
    rw [e6]
    unfold inCells
    rw [List.map_take]
theorem inCells_append (a b : List Int) : inCells (a ++ b) = inCells a ++ inCells b := by unfold inCells; rw [List.map_append]
theorem owns_cap {w : World} {B m c : Nat} {a : Addr} {k n : Nat} {xs : List Value} {T : TypeId} (h : w.ownsRow B T k (.slice (some a) m c) n xs) : n ≤ c := by
  rcases h.2 with ⟨e, -⟩ | ⟨g', cap, cur, e, h1, h2, h3, h4, h5, h6⟩
  · cases e
  · injection e with e1 e2 e3
    subst e3
    exact h3
set_option maxRecDepth 100000 in
set_option maxHeartbeats 2000000 in
theorem ends_any (w : World) (B : Nat) (A : Option Addr) (n c : Nat) (L : List Rng) (v : Value) (o : List Int) (hL : Rgs w A n L) (hA : ∀ a, A = some a → a.block < B) (hB : B ≤ w.heap.size) (ho : RowI w B v o) (hn : o.length + 2 * n ≤ 100000) :
    Calls Try.prog 30 #[.slice A n c, v] w fun e w' => ∃ v', e = .returned v' ∧ RowI w' B v' (endsL L o) ∧ Below B w w' := by
  obtain ⟨i0, hi0, hz0, hz1, hz2⟩ := info_parts infoInt
  have HI := Lib.hid (And.intro hi0 (And.intro hz0 (And.intro hz1 hz2)))
  have HL := Lib.hid hL
  have HA := Lib.hid hA
  have HN := Lib.hid hL.len
  have HB := Lib.hid hB
  have HC := Lib.hid (fun x W => clip_any x W)
  have HO := Lib.hid ho
  have hn2 : n ≤ 100000 := by omega
  have HZ := Lib.hid hn
  clear hL hA hB ho hn hi0 hz0 hz1 hz2
  go_enter Try.func30, Try.ntmps30
  go_wp2
  go_loopg [1, 5] n (fun g ov iv wr => ∃ i : Nat, g = n - i ∧ iv = .int .i64 (i : Nat) ∧ i ≤ n ∧ Hid (RowI wr B ov (endsL (L.take i) o)) ∧ Hid (Below B w wr))
  case atStart => exact ⟨0, rfl, rfl, Nat.zero_le _, HO, Lib.hid (Below.refl _ _)⟩
  case round =>
    obtain ⟨i, hg, rfl, hi, HO, HU⟩ := hrel
    have HG := Lib.hid hg
    clear hg
    by_cases hlt : i < n
    · have hiL : i < L.length := by have := HN.out; omega
      obtain ⟨b, f, hA, hb, c0, c1⟩ := (HL.out.keep HU.out HA.out).at_ i hiL
      subst hA
      obtain ⟨⟨r1, r2⟩, hr⟩ : ∃ r, L[i] = r := ⟨_, rfl⟩
      rw [hr] at c0 c1
      dsimp only at c0 c1
      have hbB : b < B := HA.out _ rfl
      have C := Lib.hid (And.intro c0 c1)
      have HR := Lib.hid hr
      have HBb := Lib.hid hbB
      have hii : (i : Int) < n := by omega
      obtain ⟨o1, ho1⟩ : ∃ o1, endsL (L.take i) o = o1 := ⟨_, rfl⟩
      have HE := Lib.hid ho1
      have HO1 := Lib.hid (show RowI wr B u1 o1 from ho1 ▸ HO.out)
      have ZO1 := Lib.hid (show o1.length + 2 ≤ 100000 by
        have h1 := endsL_len (L.take i) o
        rw [ho1, List.length_take] at h1
        have h2 := HZ.out
        omega)
      clear hr hbB ho1 hb
      go_wp2
      go_loopg [1, 6] 2 (fun g ov sv wr2 => ∃ (s : Nat) (o2 : List Int), g = 2 - s ∧ sv = .int .i64 (s : Nat) ∧ s ≤ 2 ∧ Hid (stp r1 r2 o1 s = o2) ∧ Hid (RowI wr2 B ov o2) ∧ Hid (Below B wr wr2))
      case atStart => exact ⟨0, o1, rfl, rfl, by omega, Lib.hid rfl, HO1, Lib.hid (Below.refl _ _)⟩
      case round =>
        obtain ⟨s, o2, hg, rfl, hs, HS, HO2, HU2⟩ := hrel
        have HG2 := Lib.hid hg
        clear hg
        by_cases hs2 : s < 2
        · obtain ⟨c0, c1⟩ : _ ∧ _ := ⟨(Below.cell HU2.out (p := ⟨b, f + i * 2, none⟩) HBb.out).trans C.out.1, (Below.cell HU2.out (p := ⟨b, f + i * 2 + 1, none⟩) HBb.out).trans C.out.2⟩
          have hss : (s : Int) < 2 := by omega
          obtain ⟨x1, hx1⟩ : ∃ x1, clp r1 = x1 := ⟨_, rfl⟩
          obtain ⟨x2, hx2⟩ : ∃ x2, clp r2 = x2 := ⟨_, rfl⟩
          have hC1 := fun W => HC.out r1 W
          have hC2 := fun W => HC.out r2 W
          rw [hx1] at hC1
          rw [hx2] at hC2
          have H1 := Lib.hid hC1
          have H2 := Lib.hid hC2
          have HX1 := Lib.hid hx1
          have HX2 := Lib.hid hx2
          clear hC1 hC2 hx1 hx2
          obtain ⟨x, hx⟩ : ∃ x, sid r1 r2 s = x := ⟨_, rfl⟩
          go_upto_if 27 with (go_at_call 34; ((with_reducible refine (H1.out _).mono ?_); rintro e w1 ⟨rfl, rfl⟩))
          go_cut [7] (fun xv wx => xv = .int .i64 x ∧ wx = wr)
          case first =>
            have HX := Lib.hid hx
            clear hx
            by_cases h1 : s = 1
            · have HX' := Lib.hid (show x2 = x by have := HX.out; unfold sid at this; rw [if_pos h1] at this; exact HX2.out.symm.trans this)
              obtain rfl := h1
              go_wp2_with (first
                | (go_at_call 34; ((with_reducible refine (H1.out _).mono ?_); rintro e w1 ⟨rfl, rfl⟩))
                | (go_at_call 34; ((with_reducible refine (H2.out _).mono ?_); rintro e w1 ⟨rfl, rfl⟩)))
              go_meet
              case rel => exact ⟨by rw [HX'.out], rfl⟩
            · have HX' := Lib.hid (show x1 = x by have := HX.out; unfold sid at this; rw [if_neg h1] at this; exact HX1.out.symm.trans this)
              obtain rfl : s = 0 := by omega
              go_wp2_with (first
                | (go_at_call 34; ((with_reducible refine (H1.out _).mono ?_); rintro e w1 ⟨rfl, rfl⟩))
                | (go_at_call 34; ((with_reducible refine (H2.out _).mono ?_); rintro e w1 ⟨rfl, rfl⟩)))
              go_meet
              case rel => exact ⟨by rw [HX'.out], rfl⟩
          case rest =>
            obtain ⟨rfl, rfl⟩ := hcut
            have HX := Lib.hid hx
            clear hx c0 c1 H1 H2
            have ZO2 := Lib.hid (show o2.length ≤ 100000 by have h1 := stp_len (r1 := r1) (r2 := r2) (o := o1) s; rw [HS.out] at h1; have := ZO1.out; omega)
            rcases owns_cell HO2.out with ⟨e, hz⟩ | ⟨g, cc, e, hg, hgw, hc⟩
            · subst e
              obtain rfl : o2 = [] := List.eq_nil_of_length_eq_zero hz
              have HBC := Lib.hid (show B ≤ wc.heap.size from Nat.le_trans HB.out (Below.size (Below.trans HU.out HU2.out)))
              have HI9 := HI.out
              obtain ⟨hi0, hz0, hz1, hz2⟩ := HI9
              clear hz
              go_wp2
              go_loopg [8] 0 (fun g3 kv w3 => g3 = 0 ∧ kv = .int .i64 0 ∧ wc = w3)
              case atStart => exact ⟨rfl, rfl, rfl⟩
              case round =>
                obtain ⟨-, rfl, rfl⟩ := hrel
                go_wp2_with (at_builtin; (refine wpList_append_own _ rfl _ _ 42 rfl B 3 i0 (.int .i64 0) 1 8 Try.underlying42 hi0 hz0 hz1 hz2 rfl (by decide) _ _ _ rfl (World.ownsRow_nil _ _ _ _) ⟨wc.heap.size, 0, none⟩ 1 1 [.int .i64 x] rfl rfl ?c1 ?c2 ?c3 ?c4 ?c5 ?_))
                case c1 => exact cell_one_new _ _ _
                case c2 => intro u hu; simp at hu; subst hu; rfl
                case c3 => unfold maxLen; omega
                case c4 => omega
                case c5 => exact Nat.le_trans HBC.out (Below.size (Up.alloc _ _))
                intro v5 w5 hown5 hgrow5 _
                have HW5 := Lib.hid (show RowI w5 B v5 (ins x []) from hown5)
                have HU5 := Lib.hid (show Below B wc w5 from (Below.mono (Up.alloc wc _) HBC.out).grown hgrow5 (Nat.le_trans HBC.out (Below.size (Up.alloc _ _))) (fun q hq => by cases hq))
                have hown6 := hown5
                clear hgrow5
                go_wp2_with (at_builtin; (refine wpList_append_own_none rfl _ _ 42 rfl B 3 i0 1 Try.underlying42 hi0 _ _ _ rfl hown6 rfl ?_))
                go_wp2
                go_roundg (2 - (s + 1))
                case measure => rw [HG2.out]; omega
                case rel => exact ⟨s + 1, ins x [], rfl, by go_num, by omega, Lib.hid (by rw [stp_succ hs2, HX.out, HS.out]), HW5, Lib.hid (Below.trans HU2.out HU5.out)⟩
            · subst e
              obtain ⟨m, hm⟩ : ∃ m, o2.length = m := ⟨_, rfl⟩
              have hcap := owns_cap HO2.out
              rw [hm] at hcap
              have HMl := Lib.hid hm
              have HBC := Lib.hid (show B ≤ wc.heap.size from Nat.le_trans HB.out (Below.size (Below.trans HU.out HU2.out)))
              have HCC := Lib.hid hc
              have HGB := Lib.hid hg
              have hmb : m ≤ 100000 := by have := ZO2.out; omega
              rw [hm] at HO2
              simp only [hm]
              have HGW := Lib.hid hgw
              clear hm hc hg hgw
              go_wp2
              go_loopg [8] m (fun g3 kv w3 => wc = w3 ∧ ∃ k : Nat, g3 = m - k ∧ kv = .int .i64 (k : Nat) ∧ k ≤ m ∧ Hid (∀ j (_ : j < k) (h : j < o2.length), o2[j] < x))
              case atStart => exact ⟨rfl, 0, rfl, rfl, Nat.zero_le _, Lib.hid (fun j h _ => absurd h (Nat.not_lt_zero _))⟩
              case round =>
                obtain ⟨rfl, k, hg3, rfl, hk, HF⟩ := hrel
                have HG3 := Lib.hid hg3
                clear hg3
                by_cases hkm : k < m
                · have hko : k < o2.length := by have := HMl.out; omega
                  have ck := HCC.out k _ (inCells_at hko)
                  obtain ⟨y, hy⟩ : ∃ y, o2[k] = y := ⟨_, rfl⟩
                  rw [hy] at ck
                  have HY := Lib.hid hy
                  have hkk : (k : Int) < m := by omega
                  clear hy
                  by_cases hyx : y < x
                  · go_wp2
                    go_roundg (m - (k + 1))
                    case measure => rw [HG3.out]; omega
                    case rel => exact ⟨rfl, k + 1, rfl, by go_num, by omega, Lib.hid (fun j h1 h2 => by
                      by_cases e : j = k
                      · subst e
                        rw [HY.out]
                        exact hyx
                      · exact HF.out j (by omega) h2)⟩
                  · have f1 : decide (y < x) = false := decide_eq_false hyx
                    by_cases e : y = x
                    · subst e
                      clear hyx
                      go_wp2
                      go_roundg (2 - (s + 1))
                      case measure => rw [HG2.out]; omega
                      case rel => exact ⟨s + 1, o2, rfl, by go_num, by omega, Lib.hid (by rw [stp_succ hs2, HX.out, HS.out]; exact ins_here o2 k hko (fun j hj => HF.out j hj (by omega)) HY.out), HO2, HU2⟩
                    · have f2 : (y == x) = false := beq_false_of_ne e
                      have HE := Lib.hid (show x < y by omega)
                      clear hyx e
                      have HI9 := HI.out
                      obtain ⟨hi0, hz0, hz1, hz2⟩ := HI9
                      have kc : (k : Int) ≤ (cc : Nat) := by omega
                      have hck2 : k < cc := by omega
                      have hmk : (inCells (o2.drop k)).length = m - k := by unfold inCells; rw [List.length_map, List.length_drop, HMl.out]
                      have HMK := Lib.hid hmk
                      clear hmk
                      go_wp2_with (at_builtin; (refine wpList_append_own _ rfl _ _ 42 rfl wc.heap.size 3 i0 (.int .i64 0) 1 8 Try.underlying42 hi0 hz0 hz1 hz2 rfl (by decide) _ _ _ rfl (World.ownsRow_nil _ _ _ _) ⟨g, k, none⟩ (m - k) (cc - k) (inCells (o2.drop k)) rfl ?c0 ?c1 ?c2 ?c3 ?c4 ?c5 ?_))
                      case c0 => rw [HMK.out, Nat.mul_one]
                      case c1 =>
                        intro j u hj
                        rw [add_flat rfl]
                        refine HCC.out (k + j) u ?_
                        unfold inCells at hj ⊢
                        rw [List.getElem?_map, List.getElem?_drop] at hj
                        rw [List.getElem?_map]
                        exact hj
                      case c2 => exact inCells_one _
                      case c3 => unfold maxLen; omega
                      case c4 => omega
                      case c5 => exact Nat.le_refl _
                      intro v9 w9 hown9 hgrow9 _
                      have HO9 := Lib.hid (show RowI w9 B (.slice (some ⟨g, 0, none⟩) m cc) o2 from World.ownsRow.kept HO2.out hgrow9 (.inr (fun e => by cases e)))
                      have HU9 := Lib.hid (show Below B wc w9 from (Below.refl B wc).grown hgrow9 HBC.out (fun q hq => by cases hq))
                      rcases owns_cell hown9 with ⟨-, hz⟩ | ⟨g9, c9, e9, hg9, hw9, hc9⟩
                      · exact absurd hz (by omega)
                      subst e9
                      have HR9 := Lib.hid hown9
                      have HG9 := Lib.hid hg9
                      have HT := Lib.hid (HO9.out.take (k := k) (by have := HMl.out; omega))
                      clear hown9 hgrow9 hg9 hw9 hc9
                      go_wp2_with (at_builtin; (refine wpList_append_own _ rfl _ _ 42 rfl B 3 i0 (.int .i64 0) 1 8 Try.underlying42 hi0 hz0 hz1 hz2 rfl (by decide) _ _ _ rfl (HT.out.alloc _) _ 1 1 [.int .i64 x] rfl rfl ?c1 ?c2 ?c3 ?c4 ?c5 ?_))
                      case c1 => exact cell_one_new _ _ _
                      case c2 => intro u hu; simp at hu; subst hu; rfl
                      case c3 => unfold maxLen; omega
                      case c4 => omega
                      case c5 => exact Nat.le_trans HBC.out (Nat.le_trans (Below.size HU9.out) (Below.size (Up.alloc _ _)))
                      intro v5 w5 hown5 hgrow5 _
                      have HR5 := Lib.hid (World.ownsRow.kept (HR9.out.alloc (.cells #[.int .i64 x] 3)) hgrow5 (.inr (fun e => by
                        have e2 : some g9 = some g := e
                        have := HG9.out
                        have := HGW.out
                        injection e2 with e2
                        omega)))
                      have HW5 := Lib.hid hown5
                      have HU5 := Lib.hid (show Below B wc w5 from Below.trans HU9.out ((Below.mono (Up.alloc w9 _) (Nat.le_trans HBC.out (Below.size HU9.out))).grown hgrow5 (Nat.le_trans HBC.out (Nat.le_trans (Below.size HU9.out) (Below.size (Up.alloc _ _)))) (fun q hq => by cases hq; exact HGB.out)))
                      clear hown5 hgrow5
                      go_wp2_with (at_builtin; (refine wpList_append_own _ rfl _ _ 42 rfl B 3 i0 (.int .i64 0) 1 8 Try.underlying42 hi0 hz0 hz1 hz2 rfl (by decide) _ _ _ rfl HW5.out ⟨g9, 0, none⟩ (m - k) c9 (inCells (o2.drop k)) rfl ?d0 ?d1 ?d2 ?d3 ?d4 ?d5 ?_))
                      case d0 => rw [HMK.out, Nat.mul_one]
                      case d1 =>
                        intro j u hj
                        rw [add_flat rfl]
                        rcases owns_cell HR5.out with ⟨e, -⟩ | ⟨g', c', e, -, -, hcc⟩
                        · cases e
                        · injection e with e1 e2 e3
                          injection e1 with e1
                          injection e1 with e1
                          subst e1
                          have := hcc j u hj
                          rw [Nat.zero_add]
                          exact this
                      case d2 => exact inCells_one _
                      case d3 => unfold maxLen; omega
                      case d4 => omega
                      case d5 => exact Nat.le_trans HBC.out (Below.size HU5.out)
                      intro v6 w6 hown6 hgrow6 _
                      have HW6 := Lib.hid (show RowI w6 B v6 (ins x o2) by
                        rw [ins_new o2 k (by have := HMl.out; omega) (fun j h1 h2 => HF.out j h1 h2) (fun h => by rw [HY.out]; exact HE.out)]
                        unfold RowI
                        rw [show o2.take k ++ x :: o2.drop k = (o2.take k ++ [x]) ++ o2.drop k from by simp, inCells_append, inCells_append]
                        rw [show (o2.take k ++ [x] ++ o2.drop k).length = k + 1 + (m - k) from by
                          rw [List.length_append, List.length_append, List.length_take, List.length_drop, HMl.out, Nat.min_eq_left (by omega)]
                          rfl, List.append_assoc]
                        exact hown6)
                      have HU6 := Lib.hid (show Below B wc w6 from HU5.out.grown hgrow6 (Nat.le_trans HBC.out (Below.size HU5.out)) (fun q hq => own_base HW5.out hq))
                      clear hown6 hgrow6
                      go_wp2
                      go_roundg (2 - (s + 1))
                      case measure => rw [HG2.out]; omega
                      case rel => exact ⟨s + 1, ins x o2, rfl, by go_num, by omega, Lib.hid (by rw [stp_succ hs2, HX.out, HS.out]), HW6, Lib.hid (Below.trans HU2.out HU6.out)⟩
                · obtain rfl : k = m := by omega
                  have f1 : decide (k < k) = false := decide_eq_false hkm
                  have HI9 := HI.out
                  obtain ⟨hi0, hz0, hz1, hz2⟩ := HI9
                  have kc : (k : Int) ≤ (cc : Nat) := by omega
                  clear hkm
                  by_cases hck : cc = k
                  · subst hck
                    have hT := HO2.out.take (k := cc) (by have := HMl.out; omega)
                    have HT := Lib.hid hT
                    clear hT
                    go_wp2_with (at_builtin; (refine wpList_append_own _ rfl _ _ 42 rfl B 3 i0 (.int .i64 0) 1 8 Try.underlying42 hi0 hz0 hz1 hz2 rfl (by decide) _ _ _ rfl (HT.out.alloc _) _ 1 1 [.int .i64 x] rfl rfl ?c1 ?c2 ?c3 ?c4 ?c5 ?_))
                    case c1 => exact cell_one_new _ _ _
                    case c2 => intro u hu; simp at hu; subst hu; rfl
                    case c3 => unfold maxLen; omega
                    case c4 => omega
                    case c5 => exact Nat.le_trans HBC.out (Below.size (Up.alloc _ _))
                    intro v5 w5 hown5 hgrow5 _
                    have HW5 := Lib.hid (show RowI w5 B v5 (ins x o2) by
                      rw [ins_new o2 cc (by have := HMl.out; omega) (fun j h1 h2 => HF.out j h1 h2) (fun h => absurd h (by have := HMl.out; omega)), List.drop_eq_nil_of_le (by have := HMl.out; omega)]
                      unfold RowI
                      rw [inCells_append, List.length_append, List.length_take, Nat.min_eq_left (by have := HMl.out; omega)]
                      exact hown5)
                    have HU5 := Lib.hid (show Below B wc w5 from (Below.mono (Up.alloc wc _) HBC.out).grown hgrow5 (Nat.le_trans HBC.out (Below.size (Up.alloc _ _))) (fun q hq => by cases hq; exact HGB.out))
                    have hown6 := hown5
                    clear hgrow5
                    go_wp2_with (at_builtin; (refine wpList_append_own_none rfl _ _ 42 rfl B 3 i0 1 Try.underlying42 hi0 _ _ _ rfl hown6 rfl ?_))
                    go_wp2
                    go_roundg (2 - (s + 1))
                    case measure => rw [HG2.out]; omega
                    case rel => exact ⟨s + 1, ins x o2, rfl, by go_num, by omega, Lib.hid (by rw [stp_succ hs2, HX.out, HS.out]), HW5, Lib.hid (Below.trans HU2.out HU5.out)⟩
                  · have hck2 : k < cc := by omega
                    have hT := HO2.out.take (k := k) (by have := HMl.out; omega)
                    have HT := Lib.hid hT
                    clear hT
                    go_wp2_with (at_builtin; (refine wpList_append_own _ rfl _ _ 42 rfl B 3 i0 (.int .i64 0) 1 8 Try.underlying42 hi0 hz0 hz1 hz2 rfl (by decide) _ _ _ rfl (HT.out.alloc _) _ 1 1 [.int .i64 x] rfl rfl ?c1 ?c2 ?c3 ?c4 ?c5 ?_))
                    case c1 => exact cell_one_new _ _ _
                    case c2 => intro u hu; simp at hu; subst hu; rfl
                    case c3 => unfold maxLen; omega
                    case c4 => omega
                    case c5 => exact Nat.le_trans HBC.out (Below.size (Up.alloc _ _))
                    intro v5 w5 hown5 hgrow5 _
                    have HW5 := Lib.hid (show RowI w5 B v5 (ins x o2) by
                      rw [ins_new o2 k (by have := HMl.out; omega) (fun j h1 h2 => HF.out j h1 h2) (fun h => absurd h (by have := HMl.out; omega)), List.drop_eq_nil_of_le (by have := HMl.out; omega)]
                      unfold RowI
                      rw [inCells_append, List.length_append, List.length_take, Nat.min_eq_left (by have := HMl.out; omega)]
                      exact hown5)
                    have HU5 := Lib.hid (show Below B wc w5 from (Below.mono (Up.alloc wc _) HBC.out).grown hgrow5 (Nat.le_trans HBC.out (Below.size (Up.alloc _ _))) (fun q hq => by cases hq; exact HGB.out))
                    have hown6 := hown5
                    clear hgrow5
                    go_wp2_with (at_builtin; (refine wpList_append_own_none rfl _ _ 42 rfl B 3 i0 1 Try.underlying42 hi0 _ _ _ rfl hown6 rfl ?_))
                    go_wp2
                    go_roundg (2 - (s + 1))
                    case measure => rw [HG2.out]; omega
                    case rel => exact ⟨s + 1, ins x o2, rfl, by go_num, by omega, Lib.hid (by rw [stp_succ hs2, HX.out, HS.out]), HW5, Lib.hid (Below.trans HU2.out HU5.out)⟩
        · obtain rfl : s = 2 := by omega
          have HS2 := Lib.hid (show endsL (L.take (i + 1)) o = o2 by
            rw [List.take_succ_eq_append_getElem hiL, endsL_snoc, HE.out, HR.out, ← HS.out]
            rfl)
          have HUU := Lib.hid (Below.trans HU.out HU2.out)
          clear hs hs2
          go_wp2
          go_roundg (n - (i + 1))
          case measure => rw [HG.out]; omega
          case rel => exact ⟨i + 1, rfl, by go_num, by omega, Lib.hid (by rw [HS2.out]; exact HO2.out), HUU⟩
    · obtain rfl : i = n := by omega
      have f0 : decide (i < i) = false := decide_eq_false hlt
      have HO3 := Lib.hid (show RowI wr B u1 (endsL L o) by
        have := HO.out
        rwa [List.take_of_length_le (by have := HN.out; omega)] at this)
      clear hlt
      go_wp2
      go_ret
      exact ⟨_, rfl, HO3.out, HU.out⟩
end Go.Proofs.Ytbgdphjjepbafaa
