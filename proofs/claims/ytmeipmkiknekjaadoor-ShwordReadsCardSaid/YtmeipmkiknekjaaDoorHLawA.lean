/- ShwordOps; what the laws of shword share: blanks, the known line; the document's Op. -/
import Derived.Test.YtmeipmkiknekjaaDoorHRead
namespace Go.Proofs.YtmeipmkiknekjaaDoor
open Go.RowKit
set_option linter.unusedVariables false

/-! What Read answers, as one contract. -/
theorem rdE_eq (L : List Nat) (p m : Nat) (hp : p ≤ con L) : rdE L (p : Int) m = if sgM m = true then (wpc L p m :: (rd L (wd m (L.drop p)).2.2 (wpc L p m).b).1, (rd L (wd m (L.drop p)).2.2 (wpc L p m).b).2) else rd L 0 p := by
  unfold rdE
  rw [if_neg (by omega), Int.toNat_natCast]
theorem read_any (W : World) (hT : TabH W) (line : ByteArray) (a : Int) (m : Nat) (hs : (line.size : Int) ≤ 500000) :
    Calls Tryd.prog 9 #[.string line, .int .i64 a, .int .u8 (m : Nat)] W fun e w' => (∃ v, e = .returned (.tuple #[v, .int .u8 ((rdE (bl line) a m).2 : Nat)]) ∧ RowP w' W.heap.size v (rdE (bl line) a m).1) ∧ Up W w' := by
  by_cases ho : a < 0 ∨ (con (bl line) : Int) < a
  · have e : rdE (bl line) a m = ([], 0) := by unfold rdE; rw [if_pos ho]
    rw [e]
    refine (read_out W line a (m : Nat) (by omega) ho).mono ?_
    rintro e w' ⟨rfl, hu⟩
    exact ⟨⟨_, rfl, World.ownsRow_nil _ _ _ _⟩, hu⟩
  · obtain ⟨p, rfl⟩ : ∃ p : Nat, a = (p : Int) := ⟨a.toNat, by omega⟩
    have hp : p ≤ con (bl line) := by omega
    rw [rdE_eq _ _ _ hp]
    by_cases hm : sgM m = true
    · rw [if_pos hm]
      have hm2 : m = 39 ∨ m = 34 := by unfold sgM at hm; simpa using hm
      exact read_sgn W hT line p m hm2 hs hp
    · rw [if_neg hm]
      have h1 : m ≠ 39 ∧ m ≠ 34 := by unfold sgM at hm; simpa using hm
      exact read_bare W hT line p (m : Nat) (by omega) (by omega) hs hp
set_option maxRecDepth 100000 in
set_option maxHeartbeats 4000000 in
theorem blank_any (s : ByteArray) (w : World) (hs : (s.size : Int) ≤ 1000000) : Calls Tryd.prog 14 #[.string s] w fun e w' => e = .returned (.bool ((bl s).all isW)) ∧ w = w' := by
  obtain ⟨K, hK⟩ : ∃ K, (bl s).all isW = K := ⟨_, rfl⟩
  rw [hK]
  have HK := Lib.hid (show ((bl s).drop 0).all isW = K from hK)
  have HS := Lib.hid hs
  clear hK hs
  go_enter Tryd.func14, Tryd.ntmps14
  go_wp2
  go_loopg [3] s.size (fun g iv wr => w = wr ∧ ∃ i : Nat, i ≤ s.size ∧ g = s.size - i ∧ iv = .int .i64 (i : Nat) ∧ Hid (((bl s).drop i).all isW = K))
  case atStart => exact ⟨rfl, 0, Nat.zero_le _, rfl, rfl, HK⟩
  case round =>
    clear HK
    obtain ⟨rfl, i, hi, hg, rfl, HK⟩ := hrel
    have HG := Lib.hid hg
    clear hg
    by_cases hlt : i < s.size
    · obtain ⟨c, hc⟩ : ∃ c, bt s i = c := ⟨_, rfl⟩
      have hx : s[i].toNat = c := by rw [bt_eq hlt]; exact hc
      have p0 : (0 : Int) ≤ (i : Int) := by omega
      have p1 : (i : Int) < s.size := by omega
      have e1 : IntKind.i64.wrap ((i : Int) + 1) = (i : Int) + 1 := IntWalk.i64_in _ (by have := HS.out; omega)
      have hK := HK.out
      rw [bl_drop hlt, hc, List.all_cons] at hK
      have HLT := Lib.hid hlt
      cases hw : isW c with
      | true =>
        rw [hw, Bool.true_and] at hK
        have HK2 := Lib.hid hK
        have h2 : c = 32 ∨ c = 9 := by unfold isW at hw; simpa using hw
        clear hK hw hc HK
        rcases h2 with rfl | rfl
        all_goals
          go_wp2
          go_roundg (s.size - (i + 1))
          case measure => rw [HG.out]; have := HLT.out; omega
          case rel => exact ⟨rfl, i + 1, HLT.out, rfl, by go_num, HK2⟩
      | false =>
        rw [hw, Bool.false_and] at hK
        subst hK
        have h2 : c ≠ 32 ∧ c ≠ 9 := by unfold isW at hw; simpa using hw
        have n1 : ((c : Int) == 32) = false := beq_eq_false_iff_ne.2 (by omega)
        have n2 : ((c : Int) == 9) = false := beq_eq_false_iff_ne.2 (by omega)
        have m1 : ((c : Int) != 32) = true := by rw [bne, n1]; rfl
        have m2 : ((c : Int) != 9) = true := by rw [bne, n2]; rfl
        clear hw hc HK h2
        go_wp2
        go_ret
        exact ⟨rfl, rfl⟩
    · obtain rfl : i = s.size := by omega
      have hK := HK.out
      rw [bl_end (Nat.le_refl _)] at hK
      have hK2 : true = K := hK
      subst hK2
      clear hlt hK HK
      go_wp2
      go_ret
      exact ⟨rfl, rfl⟩
/-- The known line: what Read answers of it. -/
def wkS : ByteArray := ⟨#[97, 32, 62, 39, 98, 32, 99, 39, 10]⟩
theorem wk_rd : rdE (bl wkS) 0 0 = ([⟨51, 0, 1, [97], false, true⟩, ⟨52, 2, 3, [], false, false⟩, ⟨51, 3, 8, [98, 32, 99], true, true⟩], 0) := by rfl
theorem add_lit0 (g j : Nat) : (⟨g, 0, none⟩ : Addr).add j = ⟨g, j, none⟩ := by unfold Addr.add; split <;> simp_all
theorem rowP_cells {w : World} {B : Nat} {v : Value} {ps : List Pc} (h : RowP w B v ps) (hn : ps ≠ []) : ∃ g c, v = .slice (some ⟨g, 0, none⟩) ps.length c ∧ B ≤ g ∧ g < w.heap.size ∧ ∀ (i : Nat) (hi : i < ps.length) (k : Nat) (u : Value), (pcV ps[i])[k]? = some u → w.cell? ⟨g, i * 6 + k, none⟩ = some u := by
  rcases h.2 with ⟨_, h0⟩ | ⟨g, cap, cur, rfl, hb, hg, rest⟩
  · exact absurd (List.eq_nil_of_length_eq_zero h0) hn
  · exact ⟨g, cap, rfl, hb, (Array.getElem?_eq_some_iff.1 hg).1, fun i hi k u hu => by
      have := h.cells (g := g) rfl _ u (pcC_at ps i hi k u hu)
      rwa [add_lit0] at this⟩
set_option maxRecDepth 100000 in
set_option maxHeartbeats 4000000 in
theorem wakes_any (W : World) (hT : TabH W) : Calls Tryd.prog 8 #[] W fun e w' => e = .returned (.bool true) ∧ Up W w' := by
  have HR := Lib.hid (show Calls Tryd.prog 9 #[.string ⟨#[97, 32, 62, 39, 98, 32, 99, 39, 10]⟩, .int .i64 0, .int .u8 0] W fun e w' => (∃ v, e = .returned (.tuple #[v, .int .u8 0]) ∧ RowP w' W.heap.size v [⟨51, 0, 1, [97], false, true⟩, ⟨52, 2, 3, [], false, false⟩, ⟨51, 3, 8, [98, 32, 99], true, true⟩]) ∧ Up W w' from by
    have h := read_any W hT wkS 0 0 (by decide)
    rw [wk_rd] at h
    exact h)
  have HO := Lib.hid (fun W (h : TabH W) => (show Calls Tryd.prog 12 #[.string ⟨#[60, 60, 45]⟩, .int .i64 0] W fun e w' => e = .returned (.int .i64 3) ∧ DrN W w' from op_any W h ⟨#[60, 60, 45]⟩ 0))
  have HT := Lib.hid hT
  clear hT
  go_enter Tryd.func8, Tryd.ntmps8
  go_wp2_with (first
    | (go_at_call 9; ((with_reducible refine (HR.out).mono ?_); rintro e w1 ⟨⟨v, rfl, hrow⟩, hu⟩; obtain ⟨g, c, rfl, hg0, hg1, hc⟩ := rowP_cells hrow (by simp); have c0 : w1.cell? ⟨g, 0, none⟩ = some (.int .u8 51) := hc 0 (by decide) 0 _ rfl; have c1 : w1.cell? ⟨g, 1, none⟩ = some (.int .i64 0) := hc 0 (by decide) 1 _ rfl; have c2 : w1.cell? ⟨g, 2, none⟩ = some (.int .i64 1) := hc 0 (by decide) 2 _ rfl; have c3 : w1.cell? ⟨g, 3, none⟩ = some (.string ⟨#[97]⟩) := hc 0 (by decide) 3 _ rfl; have c4 : w1.cell? ⟨g, 4, none⟩ = some (.bool false) := hc 0 (by decide) 4 _ rfl; have c5 : w1.cell? ⟨g, 5, none⟩ = some (.bool true) := hc 0 (by decide) 5 _ rfl; have c6 : w1.cell? ⟨g, 6, none⟩ = some (.int .u8 52) := hc 1 (by decide) 0 _ rfl; have c7 : w1.cell? ⟨g, 15, none⟩ = some (.string ⟨#[98, 32, 99]⟩) := hc 2 (by decide) 3 _ rfl; have c8 : w1.cell? ⟨g, 16, none⟩ = some (.bool true) := hc 2 (by decide) 4 _ rfl; have HU := Lib.hid hu; clear hrow hu hc))
    | (go_at_call 12; ((with_reducible refine (HO.out _ (HT.out.up HU.out)).mono ?_); rintro e w2 ⟨rfl, hd⟩; have HD := Lib.hid hd; clear hd)))
  go_ret
  exact ⟨rfl, HU.out.trans HD.out.up⟩
end Go.Proofs.YtmeipmkiknekjaaDoor
