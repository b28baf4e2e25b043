/- Rows changed by pieces, in plain mathematics. -/
import Derived.Test.YthiiemjbigcinaaQMath
namespace Go.Proofs.Ythiiemjbigcinaa

def szs (R : Row) : Int := (R.map (·.2)).sum
theorem szs_append (A B : Row) : szs (A ++ B) = szs A + szs B := by unfold szs; rw [List.map_append, List.sum_append]
theorem szs_nn {R : Row} (h : ∀ x ∈ R, 0 ≤ x.2) : 0 ≤ szs R := by
  induction R with
  | nil => exact Int.le_refl 0
  | cons x t ih =>
    have h1 := h x (List.mem_cons_self ..)
    have h2 := ih fun y hy => h y (List.mem_cons_of_mem _ hy)
    show 0 ≤ x.2 + szs t
    omega
theorem plc_take (R : Row) : ∀ i, i ≤ R.length → plc R i = szs (R.take i)
  | 0, _ => rfl
  | i + 1, h => by
    have hi : i < R.length := h
    rw [List.take_succ_eq_append_getElem hi, szs_append, ← plc_take R i (by omega)]
    show plc R i + sz R i = _
    unfold sz szs
    rw [List.getD_eq_getElem?_getD, List.getElem?_eq_getElem hi]
    simp
theorem tot_szs (R : Row) : tot R = szs R := by unfold tot; rw [plc_take R _ (Nat.le_refl _), List.take_length]
/-- A part of a row is a row. -/
theorem ROk.part {A B C : Row} (h : ROk (A ++ B ++ C)) : ROk (A ++ C) := by
  have h0 := h.all
  have h1 := h.len
  rw [tot_szs, szs_append, szs_append] at h0
  rw [List.length_append, List.length_append] at h1
  have hB : 0 ≤ szs B := szs_nn fun x hx => (h.one x (by simp [hx])).1
  refine ⟨fun x hx => h.one x (by simp at hx ⊢; rcases hx with hx | hx <;> simp [hx]), ?_, by rw [List.length_append]; omega⟩
  rw [tot_szs, szs_append]
  omega
theorem splE_ok {R M : Row} {i n : Nat} {L : List ByteArray} {Z : List Int} (h1 : i + n ≤ R.length) (h2 : L.length = Z.length) (h3 : L.zip Z = M) (h4 : ROk (cutIn R M i n)) : splE R i n L Z = 0 ∧ splR R i n L Z = cutIn R M i n := by
  have hE : splE R i n L Z = 0 := by
    unfold splE
    rw [if_neg (by omega), if_neg, if_neg]
    · rw [Int.toNat_natCast, Int.toNat_natCast, h3]
      have := h4.len
      have := h4.all
      omega
    · rintro (h | ⟨z, hz, h⟩)
      · exact h h2
      · obtain ⟨k, hk, rfl⟩ := List.getElem_of_mem hz
        have hm : (L[k]'(by omega), Z[k]) ∈ M := by
          rw [← h3]
          have : (L.zip Z)[k]'(by rw [List.length_zip]; omega) = (L[k]'(by omega), Z[k]) := by simp
          rw [← this]
          exact List.getElem_mem _
        have := h4.one _ (show (L[k]'(by omega), Z[k]) ∈ cutIn R M i n by unfold cutIn; simp [hm])
        dsimp only at this
        omega
  refine ⟨hE, ?_⟩
  unfold splR
  rw [if_pos hE, Int.toNat_natCast, Int.toNat_natCast, h3]
/-- The row when the first k of the n items are gone. -/
def goneR (R : Row) (i k : Nat) : Row := R.take i ++ R.drop (i + k)
theorem gone_zero (R : Row) (i : Nat) : goneR R i 0 = R := by unfold goneR; rw [Nat.add_zero, List.take_append_drop]
theorem gone_len {R : Row} {i k : Nat} (h : i + k ≤ R.length) : (goneR R i k).length = R.length - k := by
  unfold goneR
  rw [List.length_append, List.length_take, List.length_drop]
  omega
theorem gone_ok {R : Row} (h : ROk R) (i k : Nat) : ROk (goneR R i k) := by
  unfold goneR
  refine ROk.part (B := (R.drop i).take k) ?_
  rw [List.append_assoc, show (R.drop i).take k ++ R.drop (i + k) = R.drop i from by rw [← List.drop_drop]; exact List.take_append_drop k _, List.take_append_drop]
  exact h
theorem gone_cut {R : Row} {i k : Nat} (h : i + k + 1 ≤ R.length) : cutIn (goneR R i k) [] i 1 = goneR R i (k + 1) := by
  unfold cutIn goneR
  have hl : (R.take i).length = i := by rw [List.length_take]; omega
  rw [List.append_nil, List.take_append_of_le_length (by omega), List.take_of_length_le (by omega), List.drop_append, List.drop_eq_nil_of_le (by omega), List.nil_append, hl, List.drop_drop]
  congr 2
  omega
theorem gone_splice {R : Row} (h : ROk R) {i k : Nat} (hk : i + k + 1 ≤ R.length) : splE (goneR R i k) i 1 [] [] = 0 ∧ splR (goneR R i k) i 1 [] [] = goneR R i (k + 1) := by
  have := splE_ok (R := goneR R i k) (M := []) (i := i) (n := 1) (L := []) (Z := []) (by rw [gone_len (by omega)]; omega) rfl rfl (by rw [gone_cut hk]; exact gone_ok h _ _)
  rw [gone_cut hk] at this
  exact this
/-- The row when the items from the k-th on have come. -/
def comeR (R M : Row) (i n k : Nat) : Row := R.take i ++ M.drop k ++ R.drop (i + n)
theorem come_all (R M : Row) (i n : Nat) : comeR R M i n 0 = cutIn R M i n := rfl
theorem come_none (R M : Row) (i n : Nat) : comeR R M i n M.length = goneR R i n := by unfold comeR goneR; rw [List.drop_length, List.append_nil]
theorem come_ok {R M : Row} {i n : Nat} (h : ROk (cutIn R M i n)) (k : Nat) : ROk (comeR R M i n k) := by
  unfold comeR
  rw [List.append_assoc]
  refine ROk.part (B := M.take k) ?_
  rw [List.append_assoc, ← List.append_assoc (M.take k), List.take_append_drop, ← List.append_assoc]
  exact h
theorem cut_in (A B M : Row) : cutIn (A ++ B) M A.length 0 = A ++ M ++ B := by
  unfold cutIn
  rw [Nat.add_zero, List.take_left, List.drop_left]
theorem come_cut {R M : Row} {i n k : Nat} (h : i ≤ R.length) (hk : k < M.length) : cutIn (comeR R M i n (k + 1)) [M[k]] i 0 = comeR R M i n k := by
  have hl : (R.take i).length = i := by rw [List.length_take]; omega
  have := cut_in (R.take i) (M.drop (k + 1) ++ R.drop (i + n)) [M[k]]
  rw [hl] at this
  unfold comeR
  rw [List.append_assoc, this, List.drop_eq_getElem_cons hk, List.append_assoc, List.append_assoc]
  rfl
theorem come_splice {R : Row} {L : List ByteArray} {Z : List Int} {i n k : Nat} (h : ROk (cutIn R (L.zip Z) i n)) (hl : L.length = Z.length) (hi : i + n ≤ R.length) (hk : k < L.length) :
    splE (comeR R (L.zip Z) i n (k + 1)) i 0 [L[k]] [Z[k]'(by omega)] = 0 ∧ splR (comeR R (L.zip Z) i n (k + 1)) i 0 [L[k]] [Z[k]'(by omega)] = comeR R (L.zip Z) i n k := by
  have hz : k < (L.zip Z).length := by rw [List.length_zip]; omega
  have he : [L[k]].zip [Z[k]'(by omega)] = [(L.zip Z)[k]] := by simp
  have hc := come_cut (R := R) (M := L.zip Z) (i := i) (n := n) (k := k) (by omega) hz
  have := splE_ok (R := comeR R (L.zip Z) i n (k + 1)) (M := [(L.zip Z)[k]]) (i := i) (n := 0) (L := [L[k]]) (Z := [Z[k]'(by omega)]) (by unfold comeR; rw [List.length_append, List.length_append, List.length_take]; omega) rfl he (by rw [hc]; exact come_ok h _)
  rw [hc] at this
  exact this
end Go.Proofs.Ythiiemjbigcinaa
