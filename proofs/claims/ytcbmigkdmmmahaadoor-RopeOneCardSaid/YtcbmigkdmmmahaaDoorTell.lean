/- What a rope tells, whatever is asked: one contract for each call, with answers that are functions of the text and of what is asked. -/
import Derived.Test.YtcbmigkdmmmahaaDoorLine
namespace Go.Proofs.YtcbmigkdmmmahaaDoor
open Go.RowKit

def byV (s : ByteArray) (i : Int) : Int := if 0 ≤ i ∧ i < s.size then (bt s i.toNat : Nat) else 0
def byE (s : ByteArray) (i : Int) : Int := if 0 ≤ i ∧ i < s.size then 0 else 5
theorem byteT {w : World} {rb : Nat} {s : ByteArray} (hr : RopeIs w rb s) (i : Int) : Calls Tryd.prog 18 #[.pointer (some ⟨rb, 0, none⟩), .int .i64 i] w fun e w' => e = .returned (.tuple #[.int .u8 (byV s i), .int .i64 (byE s i)]) ∧ Up w w' := by
  unfold byV byE
  by_cases h : 0 ≤ i ∧ i < s.size
  · obtain ⟨k, rfl⟩ := Int.eq_ofNat_of_zero_le h.1
    rw [if_pos h, if_pos h, Int.toNat_natCast]
    exact byte_in hr k (by omega)
  · rw [if_neg h, if_neg h]
    exact byte_out hr i h
def slV (s : ByteArray) (f u : Int) : ByteArray := if 0 ≤ f ∧ f ≤ u ∧ u ≤ s.size then s.extract f.toNat u.toNat else ⟨#[]⟩
def slE (s : ByteArray) (f u : Int) : Int := if 0 ≤ f ∧ f ≤ u ∧ u ≤ s.size then 0 else 5
theorem sliceT {w : World} {rb : Nat} {s : ByteArray} (hr : RopeIs w rb s) (f u : Int) : Calls Tryd.prog 19 #[.pointer (some ⟨rb, 0, none⟩), .int .i64 f, .int .i64 u] w fun e w' => e = .returned (.tuple #[.string (slV s f u), .int .i64 (slE s f u)]) ∧ Up w w' := by
  unfold slV slE
  by_cases h : 0 ≤ f ∧ f ≤ u ∧ u ≤ s.size
  · obtain ⟨k, rfl⟩ := Int.eq_ofNat_of_zero_le h.1
    obtain ⟨j, rfl⟩ := Int.eq_ofNat_of_zero_le (show 0 ≤ u by omega)
    rw [if_pos h, if_pos h, Int.toNat_natCast, Int.toNat_natCast]
    exact slice_in hr k j (by omega) (by omega)
  · rw [if_neg h, if_neg h]
    exact slice_out hr f u h
def lnF (s : ByteArray) (k : Int) : Int := if 0 ≤ k ∧ k ≤ nl s then (bh s k.toNat : Nat) else 0
def lnT (s : ByteArray) (k : Int) : Int := if 0 ≤ k ∧ k ≤ nl s then (lineEnd s k.toNat : Nat) else 0
def lnE (s : ByteArray) (k : Int) : Int := if 0 ≤ k ∧ k ≤ nl s then 0 else 5
theorem lineT {w : World} {rb : Nat} {s : ByteArray} (hr : RopeIs w rb s) (k : Int) : Calls Tryd.prog 20 #[.pointer (some ⟨rb, 0, none⟩), .int .i64 k] w fun e w' => e = .returned (.tuple #[.agg #[.int .i64 (lnF s k), .int .i64 (lnT s k)], .int .i64 (lnE s k)]) ∧ Up w w' := by
  unfold lnF lnT lnE
  by_cases h : 0 ≤ k ∧ k ≤ nl s
  · obtain ⟨j, rfl⟩ := Int.eq_ofNat_of_zero_le h.1
    rw [if_pos h, if_pos h, if_pos h, Int.toNat_natCast]
    exact line_in hr j (by omega)
  · rw [if_neg h, if_neg h, if_neg h]
    exact line_out hr k h
def fdV (s : ByteArray) (i : Int) : Int := if 0 ≤ i ∧ i ≤ s.size then (na s i.toNat : Nat) else 0
def fdE (s : ByteArray) (i : Int) : Int := if 0 ≤ i ∧ i ≤ s.size then 0 else 5
theorem findT {w : World} {rb : Nat} {s : ByteArray} (hr : RopeIs w rb s) (i : Int) : Calls Tryd.prog 21 #[.pointer (some ⟨rb, 0, none⟩), .int .i64 i] w fun e w' => e = .returned (.tuple #[.int .i64 (fdV s i), .int .i64 (fdE s i)]) ∧ Up w w' := by
  unfold fdV fdE
  by_cases h : 0 ≤ i ∧ i ≤ s.size
  · obtain ⟨k, rfl⟩ := Int.eq_ofNat_of_zero_le h.1
    rw [if_pos h, if_pos h, Int.toNat_natCast]
    exact find_in hr k (by omega)
  · rw [if_neg h, if_neg h]
    exact find_out hr i h

/-- What an edit comes to: the code of it, and the text where it may be. -/
def spE (s : ByteArray) (p d : Int) (i : ByteArray) : Int := if 0 ≤ p ∧ 0 ≤ d ∧ p + d ≤ s.size then (if (s.size : Int) - d + i.size ≤ 1048576 then 0 else 2) else 5
def spT (s : ByteArray) (p d : Int) (i : ByteArray) : ByteArray := edited s p.toNat d.toNat i
theorem spE_cases (s : ByteArray) (p d : Int) (i : ByteArray) : spE s p d i = 0 ∨ spE s p d i = 2 ∨ spE s p d i = 5 := by
  unfold spE; split
  · split
    · exact .inl rfl
    · exact .inr (.inl rfl)
  · exact .inr (.inr rfl)
theorem spliceT_ok {w : World} {rb : Nat} {s : ByteArray} (hr : RopeIs w rb s) (hT : Tabs w) (p d : Int) (i : ByteArray) (h : spE s p d i = 0) : Calls Tryd.prog 14 #[.pointer (some ⟨rb, 0, none⟩), .agg #[.int .i64 p, .int .i64 d, .string i]] w fun e w' => ∃ rb', e = .returned (.tuple #[.pointer (some ⟨rb', 0, none⟩), .int .i64 0]) ∧ RopeIs w' rb' (spT s p d i) ∧ Up w w' := by
  unfold spE at h
  split at h
  · rename_i h1
    split at h
    · obtain ⟨k, rfl⟩ := Int.eq_ofNat_of_zero_le h1.1
      obtain ⟨j, rfl⟩ := Int.eq_ofNat_of_zero_le h1.2.1
      unfold spT
      rw [Int.toNat_natCast, Int.toNat_natCast]
      exact splice_in hr hT k j i (by omega) (by assumption)
    · cases h
  · cases h
theorem spliceT_no {w : World} {rb : Nat} {s : ByteArray} (hr : RopeIs w rb s) (p d : Int) (i : ByteArray) (h : spE s p d i ≠ 0) : Calls Tryd.prog 14 #[.pointer (some ⟨rb, 0, none⟩), .agg #[.int .i64 p, .int .i64 d, .string i]] w fun e w' => e = .returned (.tuple #[.pointer none, .int .i64 (spE s p d i)]) ∧ Up w w' := by
  unfold spE at h ⊢
  by_cases h1 : 0 ≤ p ∧ 0 ≤ d ∧ p + d ≤ s.size
  · rw [if_pos h1] at h ⊢
    by_cases h2 : (s.size : Int) - d + i.size ≤ 1048576
    · rw [if_pos h2] at h; exact absurd rfl h
    · rw [if_neg h2]
      obtain ⟨k, rfl⟩ := Int.eq_ofNat_of_zero_le h1.1
      obtain ⟨j, rfl⟩ := Int.eq_ofNat_of_zero_le h1.2.1
      exact splice_long hr k j i (by omega) (by omega)
  · rw [if_neg h1]
    exact splice_out hr p d i h1
end Go.Proofs.YtcbmigkdmmmahaaDoor
