/- What the document says of edits, in plain words: whether one may be, what comes of it, where a place goes, the edit back, the edit from one text to another one. Nothing of the program stands here. -/
import Derived.Test.YtbgdphjjepbafaaEditArgB
namespace Go.Proofs.Ytbgdphjjepbafaa
open Go.RowKit

/-- Where an edit that is handed to a call lies: in a block of the call's own. -/
def edW (w : World) (a : Int × Int × ByteArray) : World := w.alloc (.cells #[.int .i64 a.1, .int .i64 a.2.1, .string a.2.2] 33)
/-- Whether an edit may be of a text of n bytes: the error's number. -/
def edErr (n : Int) (a : Int × Int × ByteArray) : Int :=
  if a.1 < 0 ∨ a.2.1 < 0 ∨ n < a.1 ∨ n - a.1 < a.2.1 then 5 else if 1048576 < n - a.2.1 + a.2.2.size then 2 else 0
theorem edErr_zero {n : Int} {a : Int × Int × ByteArray} (h : edErr n a = 0) : 0 ≤ a.1 ∧ 0 ≤ a.2.1 ∧ a.1 ≤ n ∧ a.2.1 ≤ n - a.1 ∧ n - a.2.1 + a.2.2.size ≤ 1048576 := by
  unfold edErr at h
  split at h
  · cases h
  · split at h
    · cases h
    · omega
theorem edErr_ok {n : Int} {a : Int × Int × ByteArray} (h0 : 0 ≤ a.1) (h1 : 0 ≤ a.2.1) (h2 : a.1 ≤ n) (h3 : a.2.1 ≤ n - a.1) (h4 : n - a.2.1 + a.2.2.size ≤ 1048576) : edErr n a = 0 := by
  unfold edErr
  rw [if_neg (by omega), if_neg (by omega)]
/-- What an edit makes of a text. -/
def edS (s : ByteArray) (a : Int × Int × ByteArray) : ByteArray := s.extract 0 a.1.toNat ++ a.2.2 ++ s.extract (a.1 + a.2.1).toNat s.size
def edT (s : ByteArray) (a : Int × Int × ByteArray) : ByteArray := if edErr s.size a = 0 then edS s a else ⟨#[]⟩
/-- Where a place goes. -/
def mvP (a : Int × Int × ByteArray) (i : Int) : Int :=
  if a.1 < 0 ∨ 1048576 < a.1 ∨ a.2.1 < 0 ∨ 1048576 < a.2.1 ∨ 1048576 < (a.2.2.size : Int) ∨ i < 0 ∨ 1099511627776 < i ∨ i < a.1 then i
  else if i < a.1 + a.2.1 then a.1 + a.2.2.size else i - a.2.1 + a.2.2.size
/-- The edit back. -/
def bkS (s : ByteArray) (a : Int × Int × ByteArray) : Int × Int × ByteArray := (a.1, (a.2.2.size : Int), s.extract a.1.toNat (a.1 + a.2.1).toNat)
def bkE (s : ByteArray) (a : Int × Int × ByteArray) : Int × Int × ByteArray := if edErr s.size a = 0 then bkS s a else (0, 0, ⟨#[]⟩)
/-- How many of the first n are so. -/
def leadF (f : Nat → Bool) : Nat → Nat → Nat
  | 0, k => k
  | m + 1, k => match f k with | true => leadF f m (k + 1) | false => k
def lead (f : Nat → Bool) (n : Nat) : Nat := leadF f n 0
theorem leadF_is (f : Nat → Bool) : ∀ m k, k ≤ leadF f m k ∧ leadF f m k ≤ k + m ∧ (∀ j, k ≤ j → j < leadF f m k → f j = true) ∧ (leadF f m k = k + m ∨ f (leadF f m k) = false)
  | 0, k => ⟨Nat.le_refl _, Nat.le_refl _, fun j h1 h2 => absurd h2 (by unfold leadF; omega), .inl rfl⟩
  | m + 1, k => by
    cases hk : f k with
    | true =>
      have e : leadF f (m + 1) k = leadF f m (k + 1) := by simp [leadF, hk]
      rw [e]
      obtain ⟨h1, h2, h3, h4⟩ := leadF_is f m (k + 1)
      refine ⟨by omega, by omega, fun j g1 g2 => ?_, ?_⟩
      · by_cases e : j = k
        · exact e ▸ hk
        · exact h3 j (by omega) g2
      · rcases h4 with h4 | h4
        · exact .inl (by omega)
        · exact .inr h4
    | false =>
      have e : leadF f (m + 1) k = k := by simp [leadF, hk]
      rw [e]
      exact ⟨Nat.le_refl _, by omega, fun j g1 g2 => absurd g2 (by omega), .inr hk⟩
theorem lead_le (f : Nat → Bool) (n : Nat) : lead f n ≤ n := by
  have := (leadF_is f n 0).2.1
  unfold lead; omega
theorem lead_yes {f : Nat → Bool} {n j : Nat} (h : j < lead f n) : f j = true := (leadF_is f n 0).2.2.1 j (Nat.zero_le _) h
theorem lead_no (f : Nat → Bool) (n : Nat) : lead f n = n ∨ f (lead f n) = false := by
  have := (leadF_is f n 0).2.2.2
  rwa [Nat.zero_add] at this
theorem lead_eq {f : Nat → Bool} {n p : Nat} (h1 : p ≤ n) (h2 : ∀ j, j < p → f j = true) (h3 : p = n ∨ f p = false) : lead f n = p := by
  have a1 := lead_le f n
  rcases Nat.lt_trichotomy (lead f n) p with h | h | h
  · rcases lead_no f n with g | g
    · omega
    · rw [h2 _ h] at g; cases g
  · exact h
  · rcases h3 with g | g
    · omega
    · rw [lead_yes h] at g; cases g
/-- How many bytes two texts have in common at their beginning; at their end, behind the first p. -/
def cpB (a b : ByteArray) (i : Nat) : Bool := decide (bt a i = bt b i)
def csB (a b : ByteArray) (i : Nat) : Bool := decide (bt a (a.size - 1 - i) = bt b (b.size - 1 - i))
def cp (a b : ByteArray) : Nat := lead (cpB a b) (min a.size b.size)
def cs (a b : ByteArray) : Nat := lead (csB a b) (min a.size b.size - cp a b)
/-- The edit from one text to another one. -/
def dfE (a b : ByteArray) : Int × Int × ByteArray := (((cp a b : Nat) : Int), ((a.size - cp a b - cs a b : Nat) : Int), b.extract (cp a b) (b.size - cs a b))
theorem cp_le (a b : ByteArray) : cp a b ≤ a.size ∧ cp a b ≤ b.size := by
  have := lead_le (cpB a b) (min a.size b.size)
  unfold cp; omega
theorem cs_le (a b : ByteArray) : cp a b + cs a b ≤ a.size ∧ cp a b + cs a b ≤ b.size := by
  have := lead_le (csB a b) (min a.size b.size - cp a b)
  have := cp_le a b
  unfold cs; omega
theorem cp_same {a b : ByteArray} {i : Nat} (h : i < cp a b) : bt a i = bt b i := of_decide_eq_true (lead_yes (f := cpB a b) h)
theorem cs_same {a b : ByteArray} {i : Nat} (h : i < cs a b) : bt a (a.size - 1 - i) = bt b (b.size - 1 - i) := of_decide_eq_true (lead_yes (f := csB a b) h)
theorem cp_end (a b : ByteArray) : cp a b = a.size ∨ cp a b = b.size ∨ bt a (cp a b) ≠ bt b (cp a b) := by
  rcases lead_no (cpB a b) (min a.size b.size) with h | h
  · have h' : cp a b = min a.size b.size := h
    omega
  · exact .inr (.inr (of_decide_eq_false h))
theorem cs_end (a b : ByteArray) : cp a b + cs a b = a.size ∨ cp a b + cs a b = b.size ∨ bt a (a.size - 1 - cs a b) ≠ bt b (b.size - 1 - cs a b) := by
  rcases lead_no (csB a b) (min a.size b.size - cp a b) with h | h
  · have h' : cs a b = min a.size b.size - cp a b := h
    have := cp_le a b
    omega
  · exact .inr (.inr (of_decide_eq_false h))

theorem size_ext (s : ByteArray) (i j : Nat) : (s.extract i j).size = min j s.size - i := by rw [ByteArray.size_extract]
theorem edS_size {s : ByteArray} {a : Int × Int × ByteArray} (h : edErr s.size a = 0) : (edS s a).size = a.1.toNat + a.2.2.size + (s.size - (a.1 + a.2.1).toNat) := by
  obtain ⟨h0, h1, h2, h3, h4⟩ := edErr_zero h
  unfold edS
  rw [ByteArray.size_append, ByteArray.size_append, size_ext, size_ext]
  omega
/-- The three pieces of what comes. -/
theorem edS_ahead {s : ByteArray} {a : Int × Int × ByteArray} (h : edErr s.size a = 0) {i : Nat} (hi : (i : Int) < a.1) : bt (edS s a) i = bt s i := by
  obtain ⟨h0, h1, h2, h3, h4⟩ := edErr_zero h
  unfold edS
  rw [bt_append_left (by rw [ByteArray.size_append, size_ext]; omega), bt_append_left (by rw [size_ext]; omega), bt_ext_in (by omega) (by omega), Nat.zero_add]
theorem edS_put {s : ByteArray} {a : Int × Int × ByteArray} (h : edErr s.size a = 0) {i : Nat} (hi : i < a.2.2.size) : bt (edS s a) (a.1.toNat + i) = bt a.2.2 i := by
  obtain ⟨h0, h1, h2, h3, h4⟩ := edErr_zero h
  unfold edS
  have hz : (s.extract 0 a.1.toNat).size = a.1.toNat := by rw [size_ext]; omega
  rw [bt_append_left (by rw [ByteArray.size_append, size_ext]; omega)]
  have := bt_append_right (a := s.extract 0 a.1.toNat) (b := a.2.2) hi
  rwa [hz] at this
theorem edS_behind {s : ByteArray} {a : Int × Int × ByteArray} (h : edErr s.size a = 0) {i : Nat} (hi : (a.1 + a.2.1).toNat + i < s.size) : bt (edS s a) (a.1.toNat + a.2.2.size + i) = bt s ((a.1 + a.2.1).toNat + i) := by
  obtain ⟨h0, h1, h2, h3, h4⟩ := edErr_zero h
  unfold edS
  have hz : (s.extract 0 a.1.toNat ++ a.2.2).size = a.1.toNat + a.2.2.size := by rw [ByteArray.size_append, size_ext]; omega
  have := bt_append_right (a := s.extract 0 a.1.toNat ++ a.2.2) (b := s.extract (a.1 + a.2.1).toNat s.size) (i := i) (by rw [size_ext]; omega)
  rw [hz] at this
  rw [this, bt_ext_in (by omega) (by omega)]
/-- What an edit did is taken back. -/
theorem bk_ok {s : ByteArray} {a : Int × Int × ByteArray} (h : edErr s.size a = 0) (hs : s.size ≤ 1048576) : edErr (edS s a).size (bkS s a) = 0 := by
  obtain ⟨h0, h1, h2, h3, h4⟩ := edErr_zero h
  have hz := edS_size h
  have hk : (s.extract a.1.toNat (a.1 + a.2.1).toNat).size = a.2.1.toNat := by rw [size_ext]; omega
  refine edErr_ok ?_ ?_ ?_ ?_ ?_ <;> simp only [bkS] <;> omega
theorem bk_text {s : ByteArray} {a : Int × Int × ByteArray} (h : edErr s.size a = 0) (hs : s.size ≤ 1048576) : edS (edS s a) (bkS s a) = s := by
  obtain ⟨h0, h1, h2, h3, h4⟩ := edErr_zero h
  have hz := edS_size h
  have hb := bk_ok h hs
  have hk : (s.extract a.1.toNat (a.1 + a.2.1).toNat).size = a.2.1.toNat := by rw [size_ext]; omega
  have hn : (edS (edS s a) (bkS s a)).size = s.size := by
    rw [edS_size hb]
    simp only [bkS]
    omega
  refine ext_bt hn fun i hi => ?_
  by_cases g1 : (i : Int) < a.1
  · rw [edS_ahead hb (by simpa only [bkS] using g1), edS_ahead h g1]
  · by_cases g2 : (i : Int) < a.1 + a.2.1
    · have e := edS_put hb (i := i - a.1.toNat) (by simp only [bkS]; omega)
      simp only [bkS] at e
      rw [show a.1.toNat + (i - a.1.toNat) = i from by omega] at e
      have e1 : bt (edS (edS s a) (bkS s a)) i = bt (s.extract a.1.toNat (a.1 + a.2.1).toNat) (i - a.1.toNat) := e
      rw [e1, bt_ext_in (by omega) (by omega), show a.1.toNat + (i - a.1.toNat) = i from by omega]
    · have e := edS_behind hb (i := i - (a.1 + a.2.1).toNat) (by simp only [bkS]; omega)
      simp only [bkS] at e
      rw [hk, show a.1.toNat + a.2.1.toNat + (i - (a.1 + a.2.1).toNat) = i from by omega] at e
      have e1 : bt (edS (edS s a) (bkS s a)) i = bt (edS s a) ((a.1 + (a.2.2.size : Int)).toNat + (i - (a.1 + a.2.1).toNat)) := e
      rw [e1, show (a.1 + (a.2.2.size : Int)).toNat + (i - (a.1 + a.2.1).toNat) = a.1.toNat + a.2.2.size + (i - (a.1 + a.2.1).toNat) from by omega, edS_behind h (by omega), show (a.1 + a.2.1).toNat + (i - (a.1 + a.2.1).toNat) = i from by omega]
theorem bk_back {s : ByteArray} {a : Int × Int × ByteArray} (h : edErr s.size a = 0) : bkS (edS s a) (bkS s a) = a := by
  obtain ⟨h0, h1, h2, h3, h4⟩ := edErr_zero h
  have hz := edS_size h
  have hk : (s.extract a.1.toNat (a.1 + a.2.1).toNat).size = a.2.1.toNat := by rw [size_ext]; omega
  have e : (edS s a).extract a.1.toNat (a.1 + (a.2.2.size : Int)).toNat = a.2.2 := by
    refine ext_bt (by rw [size_ext]; omega) fun i hi => ?_
    rw [size_ext] at hi
    rw [bt_ext_in (by omega) (by omega), edS_put h (by omega)]
  obtain ⟨p, d, x⟩ := a
  simp only [bkS] at *
  rw [e, hk]
  congr 2
  omega
/-- Diff's edit makes the second text of the first. -/
theorem df_ok {a b : ByteArray} (hb : b.size ≤ 1048576) : edErr a.size (dfE a b) = 0 := by
  have h1 := cs_le a b
  have hk : (b.extract (cp a b) (b.size - cs a b)).size = b.size - cs a b - cp a b := by rw [size_ext]; omega
  refine edErr_ok ?_ ?_ ?_ ?_ ?_ <;> simp only [dfE] <;> omega
theorem df_text {a b : ByteArray} (hb : b.size ≤ 1048576) : edS a (dfE a b) = b := by
  have h1 := cs_le a b
  have h := df_ok (a := a) hb
  have hk : (b.extract (cp a b) (b.size - cs a b)).size = b.size - cs a b - cp a b := by rw [size_ext]; omega
  have hn : (edS a (dfE a b)).size = b.size := by
    rw [edS_size h]
    simp only [dfE]
    omega
  refine ext_bt hn fun i hi => ?_
  rw [hn] at hi
  by_cases g1 : i < cp a b
  · rw [edS_ahead h (by simp only [dfE]; omega), cp_same g1]
  · by_cases g2 : i < b.size - cs a b
    · have e := edS_put h (i := i - cp a b) (by simp only [dfE]; omega)
      have e1 : bt (edS a (dfE a b)) (cp a b + (i - cp a b)) = bt (b.extract (cp a b) (b.size - cs a b)) (i - cp a b) := e
      rw [show cp a b + (i - cp a b) = i from by omega] at e1
      rw [e1, bt_ext_in (by omega) (by omega), show cp a b + (i - cp a b) = i from by omega]
    · have e := edS_behind h (i := i - (b.size - cs a b)) (by simp only [dfE]; omega)
      have z1 : (dfE a b).1.toNat + (dfE a b).2.2.size + (i - (b.size - cs a b)) = i := by simp only [dfE]; omega
      have z2 : ((dfE a b).1 + (dfE a b).2.1).toNat + (i - (b.size - cs a b)) = a.size - 1 - (b.size - 1 - i) := by simp only [dfE]; omega
      rw [z1, z2] at e
      rw [e, cs_same (a := a) (b := b) (i := b.size - 1 - i) (by omega), show b.size - 1 - (b.size - 1 - i) = i from by omega]
theorem df_first {a b : ByteArray} (h1 : 0 < (dfE a b).2.1) (h2 : 0 < (dfE a b).2.2.size) : bt a (dfE a b).1.toNat ≠ bt (dfE a b).2.2 0 := by
  have h := cs_le a b
  simp only [dfE] at *
  rw [size_ext] at h2
  rw [bt_ext_in (by omega) (by omega), Int.toNat_natCast, Nat.add_zero]
  have := cp_end a b
  omega
theorem df_last {a b : ByteArray} (h1 : 0 < (dfE a b).2.1) (h2 : 0 < (dfE a b).2.2.size) : bt a ((dfE a b).1 + (dfE a b).2.1 - 1).toNat ≠ bt (dfE a b).2.2 ((dfE a b).2.2.size - 1) := by
  have h := cs_le a b
  have z1 : ((dfE a b).1 + (dfE a b).2.1 - 1).toNat = a.size - 1 - cs a b := by simp only [dfE]; omega
  rw [z1]
  simp only [dfE] at *
  rw [size_ext] at h2
  rw [bt_ext_in (by rw [size_ext]; omega) (by omega), size_ext, show cp a b + (min (b.size - cs a b) b.size - cp a b - 1) = b.size - 1 - cs a b from by omega]
  have := cs_end a b
  omega
theorem df_self (a : ByteArray) : dfE a a = ((a.size : Int), 0, ⟨#[]⟩) := by
  have h1 : cp a a = a.size := by
    have := cp_end a a
    omega
  have h2 := cs_le a a
  have h3 : cs a a = 0 := by omega
  unfold dfE
  rw [h1, h3, Nat.sub_zero, Nat.sub_zero, Nat.sub_self]
  congr 2
  refine ext_bt (by rw [size_ext]; show _ = 0; omega) fun i hi => ?_
  rw [size_ext] at hi
  omega
end Go.Proofs.Ytbgdphjjepbafaa
