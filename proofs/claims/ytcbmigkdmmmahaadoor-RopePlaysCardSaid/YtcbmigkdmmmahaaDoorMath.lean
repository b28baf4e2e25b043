/- Plain facts on characters and their bytes: what a lead byte says, what the bytes of a character are, and that reading and writing are each other's. Nothing of the program stands here. -/
import Derived.Below
namespace Go.Proofs.YtcbmigkdmmmahaaDoor

/-- The byte at a place; 0 where there is none. -/
def bt (s : ByteArray) (i : Nat) : Nat := if h : i < s.size then s[i].toNat else 0
theorem bt_eq {s : ByteArray} {i : Nat} (h : i < s.size) : s[i].toNat = bt s i := by simp [bt, h]
theorem bt_lt (s : ByteArray) (i : Nat) : bt s i < 256 := by
  unfold bt; split
  · exact UInt8.toNat_lt _
  · omega

def isC (c : Nat) : Bool := decide (c ≤ 1114111 ∧ (c < 55296 ∨ 57343 < c))
theorem isC_iff (c : Nat) : isC c = true ↔ c ≤ 1114111 ∧ (c < 55296 ∨ 57343 < c) := by simp [isC]

/-- How many bytes a character has that begins with byte b; 0: none does. -/
def szOf (b : Nat) : Nat := if b < 128 then 1 else if b < 192 then 0 else if b < 224 then 2 else if b < 240 then 3 else if b < 248 then 4 else 0
def leadOf (n : Nat) : Nat := if n = 2 then 192 else if n = 3 then 224 else if n = 4 then 240 else 0
def leastOf (n : Nat) : Nat := if n = 2 then 128 else if n = 3 then 2048 else if n = 4 then 65536 else 0

/-- What the first j bytes say, the lead's bits taken off. -/
def acc (s : ByteArray) (a n : Nat) : Nat → Nat
  | 0 => 0
  | 1 => bt s a - leadOf n
  | j + 2 => acc s a n (j + 1) * 64 + bt s (a + (j + 1)) % 64

/-- The bytes behind the first, up to j, are all later bytes. -/
def conts (s : ByteArray) (a j : Nat) : Prop := ∀ i, 1 ≤ i → i < j → 128 ≤ bt s (a + i) ∧ bt s (a + i) < 192

/-- A character of n bytes stands at a, and it is c. -/
def Stands (s : ByteArray) (a c n : Nat) : Prop :=
  szOf (bt s a) = n ∧ 0 < n ∧ a + n ≤ s.size ∧ conts s a n ∧ acc s a n n = c ∧ leastOf n ≤ c ∧ isC c = true

/-- The bytes of the character c. -/
def enc (c : Nat) : List Nat :=
  if c < 128 then [c] else if c < 2048 then [192 + c / 64, 128 + c % 64]
  else if c < 65536 then [224 + c / 4096, 128 + c / 64 % 64, 128 + c % 64]
  else [240 + c / 262144, 128 + c / 4096 % 64, 128 + c / 64 % 64, 128 + c % 64]
def need (c : Nat) : Nat := if c < 128 then 1 else if c < 2048 then 2 else if c < 65536 then 3 else 4

theorem enc_length (c : Nat) : (enc c).length = need c := by
  unfold enc need; split <;> (try split) <;> (try split) <;> rfl
theorem need_pos (c : Nat) : 0 < need c := by unfold need; split <;> (try split) <;> (try split) <;> omega
theorem need_le (c : Nat) : need c ≤ 4 := by unfold need; split <;> (try split) <;> (try split) <;> omega

/-- The bytes of c stand at a. -/
def At (s : ByteArray) (a c : Nat) : Prop := a + need c ≤ s.size ∧ ∀ i, i < need c → bt s (a + i) = (enc c).getD i 0

theorem at_of_stands {s : ByteArray} {a c n : Nat} (h : Stands s a c n) : n = need c ∧ At s a c := by
  obtain ⟨hz, hp, hs, hc, ha, hl, hi⟩ := h
  rw [isC_iff] at hi
  have hb := bt_lt s a
  have hcases : (n = 1 ∧ bt s a < 128) ∨ (n = 2 ∧ 192 ≤ bt s a ∧ bt s a < 224) ∨ (n = 3 ∧ 224 ≤ bt s a ∧ bt s a < 240) ∨ (n = 4 ∧ 240 ≤ bt s a ∧ bt s a < 248) := by
    unfold szOf at hz
    split at hz
    · omega
    split at hz
    · omega
    split at hz
    · omega
    split at hz
    · omega
    split at hz <;> omega
  rcases hcases with ⟨rfl, h1⟩ | ⟨rfl, h1, h2⟩ | ⟨rfl, h1, h2⟩ | ⟨rfl, h1, h2⟩
  · simp only [acc, leadOf] at ha
    have e : need c = 1 := by unfold need; simp at ha; rw [if_pos (by omega)]
    refine ⟨e.symm, by omega, ?_⟩
    intro i hi'
    obtain rfl : i = 0 := by omega
    unfold enc; simp at ha; rw [if_pos (by omega)]; simp; omega
  · have c1 := hc 1 (by omega) (by omega)
    simp [acc, leadOf, leastOf] at ha hl
    have e : need c = 2 := by unfold need; rw [if_neg (by omega), if_pos (by omega)]
    refine ⟨e.symm, by omega, ?_⟩
    intro i hi'
    unfold enc; rw [if_neg (by omega), if_pos (by omega)]
    have : i = 0 ∨ i = 1 := by omega
    rcases this with rfl | rfl <;> simp <;> omega
  · have c1 := hc 1 (by omega) (by omega)
    have c2 := hc 2 (by omega) (by omega)
    simp [acc, leadOf, leastOf] at ha hl
    have e : need c = 3 := by unfold need; rw [if_neg (by omega), if_neg (by omega), if_pos (by omega)]
    refine ⟨e.symm, by omega, ?_⟩
    intro i hi'
    unfold enc; rw [if_neg (by omega), if_neg (by omega), if_pos (by omega)]
    have : i = 0 ∨ i = 1 ∨ i = 2 := by omega
    rcases this with rfl | rfl | rfl <;> simp <;> omega
  · have c1 := hc 1 (by omega) (by omega)
    have c2 := hc 2 (by omega) (by omega)
    have c3 := hc 3 (by omega) (by omega)
    simp [acc, leadOf, leastOf] at ha hl
    have e : need c = 4 := by unfold need; rw [if_neg (by omega), if_neg (by omega), if_neg (by omega)]
    refine ⟨e.symm, by omega, ?_⟩
    intro i hi'
    unfold enc; rw [if_neg (by omega), if_neg (by omega), if_neg (by omega)]
    have : i = 0 ∨ i = 1 ∨ i = 2 ∨ i = 3 := by omega
    rcases this with rfl | rfl | rfl | rfl <;> simp <;> omega

theorem stands_of_at {s : ByteArray} {a c : Nat} (hi : isC c = true) (h : At s a c) : Stands s a c (need c) := by
  obtain ⟨hs, hb⟩ := h
  have hi' := (isC_iff c).1 hi
  by_cases h1 : c < 128
  · have e : need c = 1 := by unfold need; rw [if_pos h1]
    have b0 := hb 0 (by omega)
    unfold enc at b0; rw [if_pos h1] at b0; simp at b0
    rw [e] at hs ⊢
    refine ⟨by unfold szOf; rw [if_pos (by omega)], by omega, hs, fun i _ _ => by omega, by simp [acc, leadOf]; omega, by simp [leastOf], hi⟩
  by_cases h2 : c < 2048
  · have e : need c = 2 := by unfold need; rw [if_neg h1, if_pos h2]
    have b0 := hb 0 (by omega)
    have b1 := hb 1 (by omega)
    unfold enc at b0 b1; rw [if_neg h1, if_pos h2] at b0 b1; simp at b0 b1
    rw [e] at hs ⊢
    refine ⟨by unfold szOf; rw [if_neg (by omega), if_neg (by omega), if_pos (by omega)], by omega, hs, fun i _ _ => ?_, by simp [acc, leadOf]; omega, by simp [leastOf]; omega, hi⟩
    obtain rfl : i = 1 := by omega
    omega
  by_cases h3 : c < 65536
  · have e : need c = 3 := by unfold need; rw [if_neg h1, if_neg h2, if_pos h3]
    have b0 := hb 0 (by omega)
    have b1 := hb 1 (by omega)
    have b2 := hb 2 (by omega)
    unfold enc at b0 b1 b2; rw [if_neg h1, if_neg h2, if_pos h3] at b0 b1 b2; simp at b0 b1 b2
    rw [e] at hs ⊢
    refine ⟨by unfold szOf; rw [if_neg (by omega), if_neg (by omega), if_neg (by omega), if_pos (by omega)], by omega, hs, fun i _ _ => ?_, by simp [acc, leadOf]; omega, by simp [leastOf]; omega, hi⟩
    have : i = 1 ∨ i = 2 := by omega
    rcases this with rfl | rfl <;> omega
  · have e : need c = 4 := by unfold need; rw [if_neg h1, if_neg h2, if_neg h3]
    have b0 := hb 0 (by omega)
    have b1 := hb 1 (by omega)
    have b2 := hb 2 (by omega)
    have b3 := hb 3 (by omega)
    unfold enc at b0 b1 b2 b3; rw [if_neg h1, if_neg h2, if_neg h3] at b0 b1 b2 b3; simp at b0 b1 b2 b3
    rw [e] at hs ⊢
    refine ⟨by unfold szOf; rw [if_neg (by omega), if_neg (by omega), if_neg (by omega), if_neg (by omega), if_pos (by omega)], by omega, hs, fun i _ _ => ?_, by simp [acc, leadOf]; omega, by simp [leastOf]; omega, hi⟩
    have : i = 1 ∨ i = 2 ∨ i = 3 := by omega
    rcases this with rfl | rfl | rfl <;> omega

theorem stands_unique {s : ByteArray} {a c n c' n' : Nat} (h : Stands s a c n) (h' : Stands s a c' n') : c = c' ∧ n = n' := by
  have e : n = n' := h.1.symm.trans h'.1
  subst e
  exact ⟨h.2.2.2.2.1.symm.trans h'.2.2.2.2.1, rfl⟩

/-- What stands at a: the character and how many bytes; 0 and 0 where none does. -/
noncomputable def dec (s : ByteArray) (a : Nat) : Nat × Nat := by
  classical exact if h : ∃ p : Nat × Nat, Stands s a p.1 p.2 then Classical.choose h else (0, 0)
theorem dec_some {s : ByteArray} {a c n : Nat} (h : Stands s a c n) : dec s a = (c, n) := by
  have hx : ∃ p : Nat × Nat, Stands s a p.1 p.2 := ⟨(c, n), h⟩
  unfold dec
  rw [dif_pos hx]
  obtain ⟨e1, e2⟩ := stands_unique (Classical.choose_spec hx) h
  exact Prod.ext e1 e2
theorem dec_none {s : ByteArray} {a : Nat} (h : ∀ c n, ¬ Stands s a c n) : dec s a = (0, 0) := by
  unfold dec
  rw [dif_neg (fun ⟨p, hp⟩ => h _ _ hp)]
theorem dec_cases (s : ByteArray) (a : Nat) : (dec s a = (0, 0) ∧ ∀ c n, ¬ Stands s a c n) ∨ (Stands s a (dec s a).1 (dec s a).2) := by
  by_cases h : ∃ p : Nat × Nat, Stands s a p.1 p.2
  · right
    unfold dec
    rw [dif_pos h]
    exact Classical.choose_spec h
  · left
    exact ⟨dec_none (fun c n hs => h ⟨(c, n), hs⟩), fun c n hs => h ⟨(c, n), hs⟩⟩
theorem dec_facts {s : ByteArray} {a : Nat} (h : 0 < (dec s a).2) : isC (dec s a).1 = true ∧ (dec s a).2 = need (dec s a).1 ∧ At s a (dec s a).1 ∧ Stands s a (dec s a).1 (dec s a).2 := by
  rcases dec_cases s a with ⟨e, _⟩ | hs
  · rw [e] at h; simp at h
  · obtain ⟨e, hat⟩ := at_of_stands hs
    exact ⟨hs.2.2.2.2.2.2, e, hat, hs⟩
theorem dec_le4 (s : ByteArray) (a : Nat) : (dec s a).2 ≤ 4 := by
  rcases dec_cases s a with ⟨e, _⟩ | hs
  · rw [e]; simp
  · rw [(at_of_stands hs).1]; exact need_le _
theorem dec_zero {s : ByteArray} {a : Nat} (h : szOf (bt s a) = 0) : dec s a = (0, 0) := dec_none fun c n hs => by have := hs.1; have := hs.2.1; omega
theorem dec_short {s : ByteArray} {a : Nat} (h : s.size < a + szOf (bt s a)) : dec s a = (0, 0) := dec_none fun c n hs => by have := hs.1; have := hs.2.2.1; omega
theorem dec_cont {s : ByteArray} {a i : Nat} (h1 : 1 ≤ i) (h2 : i < szOf (bt s a)) (h : ¬ (128 ≤ bt s (a + i) ∧ bt s (a + i) < 192)) : dec s a = (0, 0) :=
  dec_none fun c n hs => h (hs.2.2.2.1 i h1 (by have := hs.1; omega))
theorem dec_low {s : ByteArray} {a n : Nat} (hn : szOf (bt s a) = n) (h : acc s a n n < leastOf n ∨ isC (acc s a n n) = false) : dec s a = (0, 0) :=
  dec_none fun c m hs => by
    obtain ⟨e, _, _, _, ha, hl, hc⟩ := hs
    obtain rfl : n = m := hn.symm.trans e
    rw [ha] at h
    rcases h with h | h
    · omega
    · rw [h] at hc; cases hc
theorem dec_yes {s : ByteArray} {a n : Nat} (hn : szOf (bt s a) = n) (h0 : 0 < n) (hs : a + n ≤ s.size) (hc : conts s a n) (h1 : leastOf n ≤ acc s a n n) (h2 : isC (acc s a n n) = true) : dec s a = (acc s a n n, n) :=
  dec_some ⟨hn, h0, hs, hc, rfl, h1, h2⟩

theorem conts_one (s : ByteArray) (a : Nat) : conts s a 1 := fun i h1 h2 => by omega
theorem conts_succ {s : ByteArray} {a j : Nat} (h : conts s a j) (hj : 128 ≤ bt s (a + j) ∧ bt s (a + j) < 192) : conts s a (j + 1) := fun i h1 h2 => by
  by_cases e : i = j
  · rw [e]; exact hj
  · exact h i h1 (by omega)
theorem acc_succ (s : ByteArray) (a n j : Nat) (h : 1 ≤ j) : acc s a n (j + 1) = acc s a n j * 64 + bt s (a + j) % 64 := by
  cases j with
  | zero => omega
  | succ j => rfl
theorem acc_lt (s : ByteArray) (a n : Nat) : ∀ j, 1 ≤ j → j ≤ 4 → acc s a n j < 256 * 64 ^ (j - 1)
  | 0, h, _ => by omega
  | 1, _, _ => by have := bt_lt s a; simp [acc]; omega
  | 2, _, _ => by have := acc_lt s a n 1 (by omega) (by omega); rw [acc_succ _ _ _ _ (by omega)]; simp at *; omega
  | 3, _, _ => by have := acc_lt s a n 2 (by omega) (by omega); rw [acc_succ _ _ _ _ (by omega)]; simp at *; omega
  | 4, _, _ => by have := acc_lt s a n 3 (by omega) (by omega); rw [acc_succ _ _ _ _ (by omega)]; simp at *; omega
  | j + 5, _, h => by omega
theorem szOf_le (b : Nat) : szOf b ≤ 4 := by
  unfold szOf
  repeat' split
  all_goals omega
end Go.Proofs.YtcbmigkdmmmahaaDoor
