/- The statement UtfBack, walked: what was written is read as it was, both ways. -/
import Derived.Test.YtibodioapkmgkaaDoorWakes
namespace Go.Proofs.YtibodioapkmgkaaDoor
open Go.RowKit

theorem dec_encS {c : Nat} (hc : isC c = true) : dec (encS c) 0 = (c, need c) := by
  refine dec_some (stands_of_at hc ⟨by rw [encS_size]; omega, fun i hi => ?_⟩)
  rw [Nat.zero_add]
  exact bt_encS hc hi
theorem put_read {c : Int} (hc : isCI c = true) : lenI (putS c) ((0 : Nat) : Int) = ((putS c).size : Nat) ∧ okI (putS c) ((0 : Nat) : Int) = true ∧ chI (putS c) ((0 : Nat) : Int) = c ∧ (putS c).size ≤ maxLen := by
  have h0 : 0 ≤ c := by unfold isCI at hc; simp at hc; omega
  obtain ⟨k, rfl⟩ := Int.eq_ofNat_of_zero_le h0
  have hk : isC k = true := by rw [← isCI_nat]; exact hc
  have hd := dec_encS hk
  have hp : putS k = encS k := by unfold putS; rw [if_pos hc]; rfl
  have hsz := encS_size k
  have h1 := need_pos k
  have h4 := need_le k
  have hd' : dec (encS k) (((0 : Nat) : Int)).toNat = (k, need k) := hd
  rw [hp]
  unfold lenI okI chI maxLen
  rw [hd', hsz]
  refine ⟨?_, ?_, ?_, by omega⟩
  · rw [if_pos ⟨by omega, by omega⟩, if_pos h1]
  · rw [decide_eq_true (⟨by omega, by omega⟩ : (0 : Int) ≤ ((0 : Nat) : Int) ∧ ((0 : Nat) : Int) < (need k : Nat)), decide_eq_true h1]; rfl
  · rw [if_pos ⟨by omega, by omega⟩]
theorem read_put {s : ByteArray} {x : Int} (h : okI s x = true) : ∃ k n : Nat, x = k ∧ lenI s x = n ∧ k + n ≤ s.size ∧ isCI (chI s x) = true ∧ putS (chI s x) = s.extract k (k + n) ∧ (s.extract k (k + n)).size = n := by
  unfold okI at h
  simp only [Bool.and_eq_true, decide_eq_true_eq] at h
  obtain ⟨⟨h0, h1⟩, h2⟩ := h
  obtain ⟨k, rfl⟩ := Int.eq_ofNat_of_zero_le h0
  have h2' : 0 < (dec s k).2 := h2
  obtain ⟨hc, hn, hat, _⟩ := dec_facts h2'
  have ha := (at_iff hc).1 hat
  have e1 : lenI s k = ((dec s k).2 : Nat) := by unfold lenI; rw [if_pos ⟨h0, h1⟩, if_pos h2]; rfl
  have e2 : chI s k = ((dec s k).1 : Nat) := by unfold chI; rw [if_pos ⟨h0, h1⟩]; rfl
  refine ⟨k, (dec s k).2, rfl, e1, by rw [hn]; exact ha.1, by rw [e2, isCI_nat]; exact hc, ?_, ?_⟩
  · rw [e2]; unfold putS; rw [if_pos (by rw [isCI_nat]; exact hc), hn]; exact ha.2
  · rw [ByteArray.size_extract, hn]; have := ha.1; omega
theorem isCI_parts (c : Int) : (isCI c = true ∧ 0 ≤ c ∧ c ≤ 1114111 ∧ c < 55296) ∨ (isCI c = true ∧ 0 ≤ c ∧ c ≤ 1114111 ∧ 57343 < c) ∨ (isCI c = false ∧ c < 0) ∨ (isCI c = false ∧ 0 ≤ c ∧ 1114111 < c) ∨ (isCI c = false ∧ 0 ≤ c ∧ c ≤ 1114111 ∧ 55296 ≤ c ∧ c ≤ 57343) := by
  unfold isCI
  by_cases h0 : 0 ≤ c
  · by_cases h1 : c ≤ 1114111
    · by_cases h2 : c < 55296
      · exact .inl ⟨by simp; omega, h0, h1, h2⟩
      · by_cases h3 : 57343 < c
        · exact .inr (.inl ⟨by simp; omega, h0, h1, h3⟩)
        · exact .inr (.inr (.inr (.inr ⟨by simp; omega, h0, h1, by omega, by omega⟩)))
    · exact .inr (.inr (.inr (.inl ⟨by simp; omega, h0, by omega⟩)))
  · exact .inr (.inr (.inl ⟨by simp; omega, by omega⟩))

/-- What the walk asks of the string at the place. -/
def Reads (s : ByteArray) (x n : Int) (ok : Bool) (d : Int) : Prop := ∀ w, Tabs w →
  (Calls Tryd.prog 9 #[.string s, .int .i64 x] w fun e w' => e = .returned (.tuple #[.int .i64 n, .bool ok]) ∧ Up w w') ∧
  (Calls Tryd.prog 11 #[.string s, .int .i64 x] w fun e w' => e = .returned (.tuple #[.int .i32 d, .bool ok]) ∧ Up w w')
theorem reads_any (s : ByteArray) (x : Int) (hs : s.size ≤ maxLen) : Reads s x (lenI s x) (okI s x) (chI s x) := fun w ht => ⟨len_any s x hs w ht, char_any s x hs w ht⟩
def Puts (c : Int) (t : ByteArray) (b : Bool) : Prop := ∀ w, Tabs w → Calls Tryd.prog 14 #[.int .i32 c] w fun e w' => e = .returned (.tuple #[.string t, .bool b]) ∧ Up w w'
theorem puts_any (c : Int) : Puts c (putS c) (isCI c) := fun w ht => put_any c w ht
def Wakes : Prop := ∀ w, Tabs w → Calls Tryd.prog 13 #[] w fun e w' => e = .returned (.bool true) ∧ Up w w'
theorem wakes_all : Wakes := fun w ht => wakes_any w ht
theorem Puts.at {c : Int} {t : ByteArray} {b : Bool} (h : Hid (Puts c t b)) (w : World) (ht : Tabs w) : Calls Tryd.prog 14 #[.int .i32 c] w fun e w' => e = .returned (.tuple #[.string t, .bool b]) ∧ Up w w' := h w ht
theorem Reads.len {s : ByteArray} {x n : Int} {ok : Bool} {d : Int} (h : Hid (Reads s x n ok d)) (w : World) (ht : Tabs w) : Calls Tryd.prog 9 #[.string s, .int .i64 x] w fun e w' => e = .returned (.tuple #[.int .i64 n, .bool ok]) ∧ Up w w' := (h w ht).1
theorem Reads.char {s : ByteArray} {x n : Int} {ok : Bool} {d : Int} (h : Hid (Reads s x n ok d)) (w : World) (ht : Tabs w) : Calls Tryd.prog 11 #[.string s, .int .i64 x] w fun e w' => e = .returned (.tuple #[.int .i32 d, .bool ok]) ∧ Up w w' := (h w ht).2
theorem Wakes.at (h : Hid Wakes) (w : World) (ht : Tabs w) : Calls Tryd.prog 13 #[] w fun e w' => e = .returned (.bool true) ∧ Up w w' := h w ht
end Go.Proofs.YtibodioapkmgkaaDoor
