/- Rows: what is asked of Splice, At, Sum, Find, in plain mathematics. -/
import Derived.Test.YthiiemjbigcinaaBase
namespace Go.Proofs.Ythiiemjbigcinaa

abbrev Row := List (ByteArray × Int)
def nt (R : Row) (i : Nat) : ByteArray := (R.getD i (⟨#[]⟩, 0)).1
def sz (R : Row) (i : Nat) : Int := (R.getD i (⟨#[]⟩, 0)).2
/-- The sum of the first i sizes: the place of the item i. -/
def plc (R : Row) : Nat → Int
  | 0 => 0
  | i + 1 => plc R i + sz R i
def tot (R : Row) : Int := plc R R.length
/-- What holds of any row. -/
structure ROk (R : Row) : Prop where
  one : ∀ x ∈ R, 0 ≤ x.2 ∧ x.2 ≤ 1099511627776
  all : tot R ≤ 1099511627776
  len : R.length ≤ 2097152
theorem sz_nn {R : Row} (h : ∀ x ∈ R, 0 ≤ x.2) (i : Nat) : 0 ≤ sz R i := by
  unfold sz
  rw [List.getD_eq_getElem?_getD]
  by_cases hi : i < R.length
  · rw [List.getElem?_eq_getElem hi]; exact h _ (List.getElem_mem hi)
  · rw [List.getElem?_eq_none (by omega)]; exact Int.le_refl 0
theorem ROk.nn {R : Row} (h : ROk R) (i : Nat) : 0 ≤ sz R i := sz_nn (fun x hx => (h.one x hx).1) i
theorem plc_mono {R : Row} (h : ∀ i, 0 ≤ sz R i) : ∀ {i j : Nat}, i ≤ j → plc R i ≤ plc R j := by
  intro i j hij
  induction hij with
  | refl => exact Int.le_refl _
  | @step m _ ih => exact Int.le_trans ih (by show plc R m ≤ plc R m + sz R m; have := h m; omega)
theorem ROk.plc0 {R : Row} (h : ROk R) (i : Nat) : 0 ≤ plc R i := plc_mono (i := 0) h.nn (Nat.zero_le i)
theorem ROk.plcT {R : Row} (h : ROk R) {i : Nat} (hi : i ≤ R.length) : plc R i ≤ tot R := plc_mono h.nn hi
theorem ROk.nil : ROk [] := ⟨fun _ h => by (cases h), by decide, by decide⟩
/-- The item within which a place lies, from the item k on. -/
theorem plc_find {R : Row} (h : ∀ i, 0 ≤ sz R i) {off : Int} (h0 : 0 ≤ off) : ∀ n, off < plc R n → ∃ i, i < n ∧ plc R i ≤ off ∧ off < plc R (i + 1)
  | 0, hh => absurd hh (by show ¬ off < 0; omega)
  | n + 1, hh => by
    by_cases hn : off < plc R n
    · obtain ⟨i, h1, h2⟩ := plc_find h h0 n hn
      exact ⟨i, by omega, h2⟩
    · exact ⟨n, by omega, by omega, hh⟩
theorem plc_one {R : Row} (h : ∀ i, 0 ≤ sz R i) {off : Int} {i j : Nat} (h1 : plc R i ≤ off) (h2 : off < plc R (i + 1)) (h3 : plc R j ≤ off) (h4 : off < plc R (j + 1)) : i = j := by
  have k1 : ¬ i + 1 ≤ j := fun k => by have := plc_mono h k; omega
  have k2 : ¬ j + 1 ≤ i := fun k => by have := plc_mono h k; omega
  omega
/-- The first error, from item k on, of sizes. -/
def szBad (Z : List Int) : Prop := ∃ z ∈ Z, z < 0 ∨ 1099511627776 < z
instance (Z : List Int) : Decidable (szBad Z) := by unfold szBad; infer_instance
def sumZ (Z : List Int) : Int := Z.sum
def cutIn (R M : Row) (i n : Nat) : Row := R.take i ++ M ++ R.drop (i + n)
/-- What Splice answers, and what it leaves. -/
def splE (R : Row) (i n : Int) (L : List ByteArray) (Z : List Int) : Int :=
  if i < 0 ∨ n < 0 ∨ R.length < i ∨ R.length - i < n then 5
  else if L.length ≠ Z.length ∨ szBad Z then 1
  else if 2097152 < (cutIn R (L.zip Z) i.toNat n.toNat).length ∨ 1099511627776 < tot (cutIn R (L.zip Z) i.toNat n.toNat) then 2
  else 0
def splR (R : Row) (i n : Int) (L : List ByteArray) (Z : List Int) : Row := if splE R i n L Z = 0 then cutIn R (L.zip Z) i.toNat n.toNat else R
theorem mem_cutIn {R M : Row} {i n : Nat} {x : ByteArray × Int} (h : x ∈ cutIn R M i n) : x ∈ R ∨ x ∈ M := by
  unfold cutIn at h
  rcases List.mem_append.1 h with h | h
  · rcases List.mem_append.1 h with h | h
    · exact .inl (List.mem_of_mem_take h)
    · exact .inr h
  · exact .inl (List.mem_of_mem_drop h)
theorem cutIn_len {R M : Row} {i n : Nat} : (cutIn R M i n).length ≤ R.length + M.length := by
  unfold cutIn
  rw [List.length_append, List.length_append, List.length_take, List.length_drop]
  omega
theorem splE_nn {R : Row} {i n : Int} {L : List ByteArray} {Z : List Int} (h : splE R i n L Z = 0) : ¬ (i < 0 ∨ n < 0 ∨ R.length < i ∨ R.length - i < n) ∧ L.length = Z.length ∧ ¬ szBad Z ∧ ¬ (2097152 < (cutIn R (L.zip Z) i.toNat n.toNat).length ∨ 1099511627776 < tot (cutIn R (L.zip Z) i.toNat n.toNat)) := by
  unfold splE at h
  split at h
  · cases h
  split at h
  · cases h
  split at h
  · cases h
  rename_i h1 h2 h3
  exact ⟨h1, Classical.not_not.1 (fun k => h2 (.inl k)), fun k => h2 (.inr k), h3⟩
theorem ROk.spl {R : Row} (h : ROk R) (i n : Int) (L : List ByteArray) (Z : List Int) : ROk (splR R i n L Z) := by
  unfold splR
  split
  · rename_i h0
    obtain ⟨-, -, h2, h3⟩ := splE_nn h0
    refine ⟨fun x hx => ?_, by omega, by omega⟩
    rcases mem_cutIn hx with hx | hx
    · exact h.one x hx
    · have hz : x.2 ∈ Z := (List.of_mem_zip (a := x.1) (b := x.2) hx).2
      constructor
      · by_cases k : x.2 < 0
        · exact absurd ⟨_, hz, .inl k⟩ h2
        · omega
      · by_cases k : 1099511627776 < x.2
        · exact absurd ⟨_, hz, .inr k⟩ h2
        · omega
  · exact h
theorem splR_len {R : Row} {i n : Int} {L : List ByteArray} {Z : List Int} : (splR R i n L Z).length ≤ R.length + L.length := by
  unfold splR
  split
  · exact Nat.le_trans cutIn_len (by rw [List.length_zip]; omega)
  · omega
end Go.Proofs.Ythiiemjbigcinaa
