/- The program's rows: how a row lies in memory; all that is asked of it. -/
import Derived.Test.YthiiemjbigcinaaQSplice
namespace Go.Proofs.Ythiiemjbigcinaa
open Go.RowKit

/-- At the block sb stands a row of these items, all of whose blocks are of G. -/
structure SRow (w : World) (sb : Nat) (G : Nat → Prop) (R : Row) : Prop where
  ex : ∃ t p, G sb ∧ w.heap[sb]? = some (.cells #[.pointer p] 50) ∧ Tr (fun i => G i ∧ i ≠ sb) w t (.pointer p) ∧ Av t ∧ t.row = R
  ok : ROk R
section
variable {w w' : World} {sb : Nat} {G G' : Nat → Prop} {R : Row}
theorem SRow.turn (h : SRow w sb G R) (ht : Turn G' w w') (hG : ∀ i, i < w.heap.size → G i → ¬ G' i) : SRow w' sb G R := by
  obtain ⟨t, p, h1, h2, h3, h4, h5⟩ := h.ex
  have hs : sb < w.heap.size := (Array.getElem?_eq_some_iff.1 h2).1
  exact ⟨⟨t, p, h1, (ht.block sb hs (hG sb hs h1)).trans h2, h3.turn ht (fun i hi g => hG i hi g.1), h4, h5⟩, h.ok⟩
theorem SRow.up (h : SRow w sb G R) (hu : Up w w') : SRow w' sb G R := h.turn (.of_up (fun _ => False) hu) (fun _ _ _ k => k)
theorem SRow.mono (h : SRow w sb G R) (hG : ∀ i, i < w.heap.size → G i → G' i) : SRow w sb G' R := by
  obtain ⟨t, p, h1, h2, h3, h4, h5⟩ := h.ex
  have hs : sb < w.heap.size := (Array.getElem?_eq_some_iff.1 h2).1
  exact ⟨⟨t, p, hG sb hs h1, h2, h3.mono (fun i hi g => ⟨hG i hi g.1, g.2⟩), h4, h5⟩, h.ok⟩
/-- What a row's head tells. -/
theorem SRow.cnt (h : SRow w sb G R) : ∃ d, SCnt w (ptr sb) R.length (szs R) d := by
  obtain ⟨t, p, h1, h2, h3, h4, h5⟩ := h.ex
  refine ⟨t.dp, fun W hu => ?_⟩
  have := scnt_row W sb p t.cn t.dp t.sm (cell_up hu (cellOf h2 rfl)) (cnt_of (h3.up hu))
  unfold QT.cn QT.sm at this
  rwa [h5] at this
theorem SRow.sln (h : SRow w sb G R) : SLn w (ptr sb) R.length := fun W hu => by
  obtain ⟨d, hd⟩ := (h.up hu).cnt
  exact slen_of W _ _ d _ hd
theorem SRow.ssz (h : SRow w sb G R) : SSz w (ptr sb) (szs R) := fun W hu => by
  obtain ⟨d, hd⟩ := (h.up hu).cnt
  exact ssize_of W _ _ d _ hd
theorem SRow.at_ (h : SRow w sb G R) (i : Int) : Calls Try.prog 7 #[ptr sb, .int .i64 i] w fun e w' =>
    ((∃ k : Nat, i = k ∧ k < R.length ∧ e = .returned (.tuple #[.string (nt R k), .int .i64 (sz R k), .int .i64 0])) ∨ (¬ (0 ≤ i ∧ i < R.length) ∧ e = .returned (.tuple #[.string ⟨#[]⟩, .int .i64 0, .int .i64 5]))) ∧ Up w w' := by
  by_cases h0 : i < 0
  · exact (at_low w sb i h0).mono fun e w' ⟨h1, h2⟩ => ⟨.inr ⟨by omega, h1⟩, h2⟩
  by_cases hh : (R.length : Int) ≤ i
  · exact (at_high w sb R.length h.sln i (decide_eq_false h0) hh).mono fun e w' ⟨h1, h2⟩ => ⟨.inr ⟨by omega, h1⟩, h2⟩
  obtain ⟨k, rfl⟩ : ∃ k : Nat, i = (k : Int) := ⟨i.toNat, by omega⟩
  obtain ⟨t, p, h1, h2, h3, h4, h5⟩ := h.ex
  have hk : k < t.cn := by unfold QT.cn; rw [h5]; omega
  refine (at_ok w sb p R.length k (it R k) h.sln (by omega) (cellOf h2 rfl) (fun W hu => ?_)).mono fun e w' ⟨h1, h2⟩ => ⟨.inl ⟨k, rfl, by omega, h1⟩, h2⟩
  have := at_any t _ k W (h3.up hu) hk (h5 ▸ h.ok)
  rwa [h5] at this
theorem SRow.sum (h : SRow w sb G R) (i : Int) : Calls Try.prog 8 #[ptr sb, .int .i64 i] w fun e w' =>
    ((∃ k : Nat, i = k ∧ k ≤ R.length ∧ e = .returned (.tuple #[.int .i64 (plc R k), .int .i64 0])) ∨ (¬ (0 ≤ i ∧ i ≤ R.length) ∧ e = .returned (.tuple #[.int .i64 0, .int .i64 5]))) ∧ Up w w' := by
  by_cases h0 : i < 0
  · exact (sum_low w sb i h0).mono fun e w' ⟨h1, h2⟩ => ⟨.inr ⟨by omega, h1⟩, h2⟩
  by_cases hh : (R.length : Int) < i
  · exact (sum_high w sb R.length h.sln i (decide_eq_false h0) hh).mono fun e w' ⟨h1, h2⟩ => ⟨.inr ⟨by omega, h1⟩, h2⟩
  obtain ⟨k, rfl⟩ : ∃ k : Nat, i = (k : Int) := ⟨i.toNat, by omega⟩
  obtain ⟨t, p, h1, h2, h3, h4, h5⟩ := h.ex
  have hk : k ≤ t.cn := by unfold QT.cn; rw [h5]; omega
  refine (sum_ok w sb p R.length k (plc R k) h.sln (by omega) (cellOf h2 rfl) (fun W hu => ?_)).mono fun e w' ⟨h1, h2⟩ => ⟨.inl ⟨k, rfl, by omega, h1⟩, h2⟩
  have := sum_any t _ k W (h3.up hu) hk (h5 ▸ h.ok)
  rwa [h5] at this
theorem SRow.find (h : SRow w sb G R) (off : Int) : Calls Try.prog 9 #[ptr sb, .int .i64 off] w fun e w' => FindP R off e ∧ Up w w' := by
  by_cases h0 : off < 0
  · exact (find_low w sb off h0).mono fun e w' ⟨h1, h2⟩ => ⟨.inr ⟨by omega, h1⟩, h2⟩
  by_cases hh : szs R ≤ off
  · exact (find_high w sb (szs R) h.ssz off (decide_eq_false h0) hh).mono fun e w' ⟨h1, h2⟩ => ⟨.inr ⟨by rw [tot_szs]; omega, h1⟩, h2⟩
  obtain ⟨t, p, h1, h2, h3, h4, h5⟩ := h.ex
  refine (find_ok w sb p (szs R) off (fun i r => i < R.length ∧ plc R i ≤ off ∧ off < plc R i + sz R i ∧ r = off - plc R i) h.ssz (decide_eq_false h0) (decide_eq_false hh) (cellOf h2 rfl) (fun W hu => ?_)).mono ?_
  · have := find_any t _ off W (h3.up hu) (by omega) (by unfold QT.sm; rw [h5]; omega) (h5 ▸ h.ok)
    unfold QT.cn at this
    rw [h5] at this
    refine this.mono ?_
    rintro e w' ⟨⟨i, k1, k2, k3, k4⟩, k5⟩
    exact ⟨i, _, k4, ⟨k1, k2, k3, rfl⟩, k5⟩
  · rintro e w' ⟨⟨i, r, k1, k2, k3, k4, rfl⟩, k5⟩
    exact ⟨.inl ⟨by omega, by rw [tot_szs]; omega, i, k2, k3, k4, k1⟩, k5⟩
end
theorem srow_new (w : World) : Calls Try.prog 17 #[] w fun e w' => ∃ sb, e = .returned (ptr sb) ∧ SRow w' sb (fun i => w.heap.size ≤ i) [] ∧ Up w w' := by
  refine (new_any w).mono ?_
  rintro e w' ⟨rfl, rfl⟩
  exact ⟨_, rfl, ⟨⟨.nil, none, Nat.le_refl _, Go.heap_alloc_new _ _, rfl, trivial, rfl⟩, ROk.nil⟩, Up.alloc _ _⟩
end Go.Proofs.Ythiiemjbigcinaa
