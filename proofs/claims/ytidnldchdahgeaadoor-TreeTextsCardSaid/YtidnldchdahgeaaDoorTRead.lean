/- Numbers at a place of a text, in plain words. -/
import Derived.Test.YtidnldchdahgeaaDoorBase
import Derived.Test.YtidnldchdahgeaaDoorTText
namespace Go.Proofs.YtidnldchdahgeaaDoor

/-- What stands from a place on. -/
def rest (s : ByteArray) (p : Nat) : List UInt8 := s.data.toList.drop p
theorem rest_len (s : ByteArray) (p : Nat) : (rest s p).length = s.size - p := by unfold rest; rw [List.length_drop]; rfl
theorem rest_nil {s : ByteArray} {p : Nat} (h : s.size ≤ p) : rest s p = [] := List.drop_eq_nil_of_le h
theorem rest_cons {s : ByteArray} {p : Nat} (h : p < s.size) : rest s p = s[p] :: rest s (p + 1) := List.drop_eq_getElem_cons (l := s.data.toList) (show p < s.data.toList.length from h)
theorem rest_zero (s : ByteArray) : rest s 0 = s.data.toList := rfl
theorem rest_ne {s : ByteArray} {p : Nat} (h : p < s.size) : rest s p ≠ [] := by rw [rest_cons h]; simp
theorem isD_iff {c : UInt8} : isD c = true ↔ (48 ≤ c.toNat ∧ c.toNat ≤ 57) := by unfold isD; rw [Bool.and_eq_true, decide_eq_true_iff, decide_eq_true_iff]
theorem rd_step {s : ByteArray} {p v : Nat} (h : p < s.size) (h1 : 48 ≤ s[p].toNat) (h2 : s[p].toNat ≤ 57) : rdN v (rest s p) = rdN (10 * v + (s[p].toNat - 48)) (rest s (p + 1)) := by
  rw [rest_cons h, rdN_dig (isD_iff.2 ⟨h1, h2⟩)]
theorem rd_stop {s : ByteArray} {p v : Nat} (h : p < s.size) (h1 : ¬ (48 ≤ s[p].toNat ∧ s[p].toNat ≤ 57)) : rdN v (rest s p) = (v, rest s p) := by
  rw [rest_cons h, rdN_end]
  cases hq : isD s[p] with
  | false => rfl
  | true => exact absurd (isD_iff.1 hq) h1
theorem rd_over {s : ByteArray} {p v : Nat} (h : s.size ≤ p) : rdN v (rest s p) = (v, rest s p) := by rw [rest_nil h]; rfl
/-- A number that is too great. -/
theorem num_bail {lim v : Nat} {e : UInt8} {l l' : List UInt8} (h : rdN 0 l = rdN v l') (hv : lim < v) : numT lim e l = none := by
  unfold numT
  rw [if_neg]
  rintro ⟨-, h2, -⟩
  rw [h] at h2
  have := (rdN_le l' v).1
  omega
/-- A number that has come to its end. -/
theorem num_exit {s : ByteArray} {at_ q v lim : Nat} {e : UInt8} (h : rdN 0 (rest s at_) = (v, rest s q)) (h1 : at_ ≤ q) (h2 : q ≤ s.size) (hv : v ≤ lim) :
    numT lim e (rest s at_) = if at_ < q ∧ (bt s at_ = 48 → q = at_ + 1) ∧ q < s.size ∧ bt s q = e.toNat then some (v, rest s (q + 1)) else none := by
  unfold numT
  rw [h]
  dsimp only
  rw [rest_len, rest_len]
  by_cases hq : q < s.size
  · have ht : (rest s q).tail = rest s (q + 1) := by rw [rest_cons hq]; rfl
    have hh : (rest s q).head? = some e ↔ bt s q = e.toNat := by
      rw [rest_cons hq, ← bt_eq hq]
      show some s[q] = some e ↔ _
      constructor
      · intro h; rw [Option.some.inj h]
      · intro h; rw [UInt8.toNat_inj.1 h]
    have ha : (rest s at_).head? = some 48 ↔ bt s at_ = 48 := by
      rw [rest_cons (show at_ < s.size by omega), ← bt_eq (show at_ < s.size by omega)]
      show some s[at_] = some 48 ↔ _
      constructor
      · intro h; rw [Option.some.inj h]; rfl
      · intro h; rw [UInt8.toNat_inj.1 (show s[at_].toNat = (48 : UInt8).toNat from h)]
    rw [ht]
    by_cases hc : at_ < q ∧ (bt s at_ = 48 → q = at_ + 1) ∧ q < s.size ∧ bt s q = e.toNat
    · rw [if_pos hc, if_pos]
      exact ⟨by omega, hv, fun h => by have := hc.2.1 (ha.1 h); omega, hh.2 hc.2.2.2⟩
    · rw [if_neg hc, if_neg]
      rintro ⟨c1, -, c3, c4⟩
      exact hc ⟨by omega, fun h => by have := c3 (ha.2 h); omega, hq, hh.1 c4⟩
  · rw [if_neg, if_neg]
    · rintro ⟨-, -, c3, -⟩; exact hq c3
    · rintro ⟨-, -, -, c4⟩
      rw [rest_nil (by omega)] at c4
      cases c4
end Go.Proofs.YtidnldchdahgeaaDoor
