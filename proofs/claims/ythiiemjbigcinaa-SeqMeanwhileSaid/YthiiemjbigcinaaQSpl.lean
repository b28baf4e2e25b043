/- The program's Splice, at any row. -/
import Derived.Test.YthiiemjbigcinaaQRow
namespace Go.Proofs.Ythiiemjbigcinaa
open Go.RowKit

theorem szs_zip {L : List ByteArray} {Z : List Int} (h : L.length = Z.length) : szs (L.zip Z) = Z.sum := by
  unfold szs
  rw [List.map_snd_zip (by omega)]
theorem szs_drop {R : Row} {j : Nat} (h : j ≤ R.length) : szs (R.drop j) = szs R - plc R j := by
  have h1 : szs R = szs (R.take j) + szs (R.drop j) := by rw [← szs_append, List.take_append_drop]
  rw [plc_take R j h]
  omega
theorem tot_cut {R M : Row} {i n : Nat} (h : i + n ≤ R.length) : tot (cutIn R M i n) = plc R i + szs M + (szs R - plc R (i + n)) := by
  rw [tot_szs]
  unfold cutIn
  rw [szs_append, szs_append, ← plc_take R i (by omega), szs_drop h]
theorem len_cut {R M : Row} {i n : Nat} (h : i + n ≤ R.length) : (cutIn R M i n).length = M.length + R.length - n := by
  unfold cutIn
  rw [List.length_append, List.length_append, List.length_take, List.length_drop]
  omega
/-- What a splice leaves. -/
def SPost (w : World) (sb : Nat) (G : Nat → Prop) (R : Row) (i n : Int) (L : List ByteArray) (Z : List Int) (e : Ending) (w' : World) : Prop :=
  e = .returned (.int .i64 (splE R i n L Z)) ∧ SRow w' sb (fun j => G j ∨ w.heap.size ≤ j) (splR R i n L Z) ∧ Turn (fun j => G j ∧ j = sb) w w'
theorem spost_not {w w' : World} {sb : Nat} {G : Nat → Prop} {R : Row} {i n : Int} {L : List ByteArray} {Z : List Int} {e : Ending} {x : Int} (h : SRow w sb G R) (hx : splE R i n L Z = x) (h0 : x ≠ 0) (he : e = .returned (.int .i64 x) ∧ Up w w') : SPost w sb G R i n L Z e w' := by
  refine ⟨by rw [hx]; exact he.1, ?_, .of_up _ he.2⟩
  unfold splR
  rw [if_neg (by omega)]
  exact (h.up he.2).mono (fun _ _ g => .inl g)
theorem srow_splice (w : World) (sb : Nat) (G : Nat → Prop) (R : Row) (i n : Int) (A : Option Addr) (k c : Nat) (L : List ByteArray) (B : Option Addr) (m d : Nat) (Z : List Int) (hS : SRow w sb G R) (hi : I64 i) (hn : I64 n) (hA : XArg w A k c L) (hB : ZArg w B m d Z) (hk : k ≤ 1000000) (hm : m ≤ 1000000) :
    Calls Try.prog 11 #[ptr sb, .int .i64 i, .int .i64 n, .slice A k c, .slice B m d] w (SPost w sb G R i n L Z) := by
  unfold I64 at hi hn
  have hlen := hS.ok.len
  by_cases h0 : i < 0
  · exact (splice_r1 w sb i n A k c B m d h0).mono fun e w' h => spost_not hS (by unfold splE; rw [if_pos (by omega)]) (by decide) h
  by_cases h1 : n < 0
  · exact (splice_r2 w sb i n A k c B m d (decide_eq_false h0) h1).mono fun e w' h => spost_not hS (by unfold splE; rw [if_pos (by omega)]) (by decide) h
  by_cases h2 : (R.length : Int) < i
  · exact (splice_r3 w sb R.length i n A k c B m d hS.sln (decide_eq_false h0) (decide_eq_false h1) h2).mono fun e w' h => spost_not hS (by unfold splE; rw [if_pos (by omega)]) (by decide) h
  have e1 : IntKind.i64.wrap ((R.length : Int) - i) = (R.length : Int) - i := IntWalk.i64_in _ (by omega)
  by_cases h3 : (R.length : Int) - i < n
  · exact (splice_r4 w sb R.length i n A k c B m d hS.sln (decide_eq_false h0) (decide_eq_false h1) (decide_eq_false h2) e1 h3).mono fun e w' h => spost_not hS (by unfold splE; rw [if_pos (by omega)]) (by decide) h
  have hE : splE R i n L Z = if L.length ≠ Z.length ∨ szBad Z then 1 else if 2097152 < (cutIn R (L.zip Z) i.toNat n.toNat).length ∨ 1099511627776 < tot (cutIn R (L.zip Z) i.toNat n.toNat) then 2 else 0 := by
    unfold splE
    rw [if_neg (by omega)]
  have hlx := hA.txs.len
  have hlz := hB.nums.len
  by_cases h4 : k = m
  case neg =>
    exact (splice_a1 w sb R.length i n A k c B m d hS.sln (decide_eq_false h0) (decide_eq_false h1) (decide_eq_false h2) e1 (decide_eq_false h3) h4).mono fun e w' h => spost_not hS (by rw [hE, if_pos (.inl (by omega))]) (by decide) h
  subst h4
  have PCO : ∀ W, Up w W → Calls Try.prog 23 #[.slice B k d, .func (.func 24) #[] #[]] W fun e w' => e = .returned (.bool (decide (szBad Z))) ∧ Up W w' := fun W hu => qcontains_any W B k d Z (hB.nums.up hu) hm
  by_cases h5 : szBad Z
  · rw [decide_eq_true h5] at PCO
    exact (splice_a2 w sb R.length i n A k c B d hS.sln (decide_eq_false h0) (decide_eq_false h1) (decide_eq_false h2) e1 (decide_eq_false h3) PCO).mono fun e w' h => spost_not hS (by rw [hE, if_pos (.inr h5)]) (by decide) h
  rw [decide_eq_false h5] at PCO
  have hzz : ∀ z ∈ Z, 0 ≤ z := fun z hz => by
    by_cases hh : z < 0
    · exact absurd ⟨z, hz, .inl hh⟩ h5
    · omega
  obtain ⟨i, rfl⟩ : ∃ j : Nat, i = (j : Int) := ⟨i.toNat, by omega⟩
  obtain ⟨n, rfl⟩ : ∃ j : Nat, n = (j : Int) := ⟨n.toNat, by omega⟩
  rw [Int.toNat_natCast, Int.toNat_natCast] at hE
  have hin : i + n ≤ R.length := by omega
  rw [tot_cut hin, len_cut hin, szs_zip (by omega), List.length_zip] at hE
  obtain ⟨t, p, g1, g2, g3, g4, g5⟩ := hS.ex
  have hs : sb < w.heap.size := (Array.getElem?_eq_some_iff.1 g2).1
  have q1 := plc_mono hS.ok.nn (i := i) (j := i + n) (by omega)
  have q2 := hS.ok.plc0 i
  have q3 := hS.ok.plcT (i := i + n) hin
  have q4 := hS.ok.all
  rw [tot_szs] at q3 q4
  have hcn : t.cn = R.length := by unfold QT.cn; rw [g5]
  have sumP : ∀ j, j ≤ R.length → ∀ W, Up w W → Calls Try.prog 19 #[.pointer p, .int .i64 (j : Nat)] W fun e w' => e = .returned (.int .i64 (plc R j)) ∧ Up W w' := fun j hj W hu => by
    have := sum_any t _ j W (g3.up hu) (by omega) (g5 ▸ hS.ok)
    rwa [g5] at this
  have PRO : ∀ W, Up w W → Calls Try.prog 25 #[ptr sb, .int .i64 (i : Nat), .int .i64 (n : Nat), .slice B k d] W fun e w' => e = .returned (.bool (decide (Z.sum ≤ 1099511627776 - (szs R - (plc R (i + n) - plc R i)) ∧ (k : Int) ≤ 2097152 - ((R.length : Int) - n)))) ∧ Up W w' := fun W hu =>
    room_walk W sb p i n (i + n) R.length k d (szs R) (plc R (i + n)) (plc R i) (szs R - (plc R (i + n) - plc R i)) (1099511627776 - (szs R - (plc R (i + n) - plc R i))) ((R.length : Int) - n) (2097152 - ((R.length : Int) - n)) B Z
      (hS.up hu).sln (hS.up hu).ssz (cell_up hu (cellOf g2 rfl)) (fun W' hu' => sumP (i + n) hin W' (hu.trans hu')) (fun W' hu' => sumP i (by omega) W' (hu.trans hu'))
      ((IntWalk.i64_in _ (by omega)).trans (by omega)) (IntWalk.i64_in _ (by omega)) (IntWalk.i64_in _ (by omega)) (IntWalk.i64_in _ (by omega)) (IntWalk.i64_in _ (by omega)) (IntWalk.i64_in _ (by omega)) (by omega) (by omega) (hB.nums.up hu) hzz hm
  by_cases h6 : Z.sum ≤ 1099511627776 - (szs R - (plc R (i + n) - plc R i)) ∧ (k : Int) ≤ 2097152 - ((R.length : Int) - n)
  case neg =>
    rw [decide_eq_false h6] at PRO
    exact (splice_lo w sb R.length i n A k c B d hS.sln (decide_eq_false h0) (decide_eq_false h1) (decide_eq_false h2) e1 (decide_eq_false h3) PCO PRO).mono fun e w' h => spost_not hS (by
      rw [hE, if_neg (by rintro (h | h); exact h (by omega); exact h5 h), if_pos]
      omega) (by decide) h
  rw [decide_eq_true h6] at PRO
  have hE0 : splE R (i : Int) n L Z = 0 := by
    rw [hE, if_neg (by rintro (h | h); exact h (by omega); exact h5 h), if_neg]
    omega
  have hR : splR R (i : Int) n L Z = R.take i ++ L.zip Z ++ (R.drop i).drop n := by
    unfold splR cutIn
    rw [if_pos hE0, Int.toNat_natCast, Int.toNat_natCast, List.drop_drop]
  have hok2 : ROk (R.take i ++ L.zip Z ++ (R.drop i).drop n) := by rw [← hR]; exact hS.ok.spl _ _ _ _
  have hokR := hS.ok
  have hG0 : ∀ j, w.heap.size ≤ j → (G j ∧ j ≠ sb) ∨ w.heap.size ≤ j := fun j hj => .inr hj
  have h3' := g3.mono (G' := fun j => (G j ∧ j ≠ sb) ∨ w.heap.size ≤ j) (fun _ _ g => .inl g)
  refine (splice_ok (G := fun j => (G j ∧ j ≠ sb) ∨ w.heap.size ≤ j) w sb R.length i n A k c B d p (R.take i) (R.drop i) ((R.drop i).drop n) (L.zip Z) (R.take i ++ L.zip Z) (R.take i ++ L.zip Z ++ (R.drop i).drop n) hS.sln (decide_eq_false h0) (decide_eq_false h1) (decide_eq_false h2) e1 (decide_eq_false h3) g2 PCO PRO
    (fun W hu => ?_) (fun W t' v' hu ht => ?_) (fun W hu => ?_) (fun W t1 v1 t2 v2 hu k1 k2 => ?_) (fun W t1 v1 t2 v2 hu k1 k2 => ?_)).mono ?_
  · have := cut_any t _ (i : Int) W (h3'.up hu) (gUp hG0 hu) g4 (g5 ▸ hS.ok)
    rwa [g5, Int.toNat_natCast] at this
  · obtain ⟨y1, y2, y3⟩ := ht
    have hokd : ROk t'.row := by rw [y3]; exact ROk.right (A := R.take i) (by rw [List.take_append_drop]; exact hokR)
    refine (cut_any t' v' (n : Int) W y1 (gUp hG0 hu) y2 hokd).mono ?_
    rintro e w' ⟨ta, tb, va, vb, rfl, z1, z2, z3, z4, z5, z6, z7⟩
    exact ⟨ta, tb, va, vb, rfl, z1, z2, z3, z4, rfl, by rw [z6, y3, Int.toNat_natCast], z7⟩
  · exact grow_any k W A B c d L Z (hA.txs.up hu) (hB.nums.up hu) hA.cap hB.cap (by omega) (gUp hG0 hu) (ROk.right (A := R.take i) hok2.left)
  · have := link_any k1.1 k2.1 (gUp hG0 hu) k1.2.1 k2.2.1 (by rw [k1.2.2, k2.2.2]; exact hok2.left)
    rwa [k1.2.2, k2.2.2] at this
  · have := link_any k1.1 k2.1 (gUp hG0 hu) k1.2.1 k2.2.1 (by rw [k1.2.2, k2.2.2]; exact hok2)
    rwa [k1.2.2, k2.2.2] at this
  · rintro e w' ⟨rfl, t', v, w1, rfl, hu, z1, z2, z3⟩
    obtain ⟨p', rfl⟩ := z1.isPtr
    have hb1 : w1.heap[sb]? = some (.cells #[.pointer p] 50) := boxD g2 hu
    have ht : Turn (fun j => j = sb) w1 (w1.setCell ⟨sb, 0, none⟩ (.pointer p')) := Turn.set w1 (G := fun j => j = sb) rfl 0 _
    refine ⟨by rw [hE0], ⟨⟨t', p', .inl g1, by simp [World.setCell, Array.getElem?_modify, hb1], (z1.mono (G' := fun j => (G j ∨ w.heap.size ≤ j) ∧ j ≠ sb) (fun j _ g => ?_)).turn ht (fun j _ g e => g.2 e), z2, by rw [hR]; exact z3⟩, hR ▸ hok2⟩, (Turn.of_up _ hu).trans (ht.mono (fun j _ e => ⟨e ▸ g1, e⟩))⟩
    rcases g with g | g
    · exact ⟨.inl g.1, g.2⟩
    · exact ⟨.inr g, by omega⟩
end Go.Proofs.Ythiiemjbigcinaa
