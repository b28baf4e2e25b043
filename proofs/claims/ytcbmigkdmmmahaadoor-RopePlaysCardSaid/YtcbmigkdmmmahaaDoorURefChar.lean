/- The document's own Char and Len, at every input: they say what the program's say. -/
import Derived.Test.YtcbmigkdmmmahaaDoorURefPut
namespace Go.Proofs.YtcbmigkdmmmahaaDoor
open Go.RowKit
def lm (n : Nat) : Nat := if n = 1 then 256 else if n = 2 then 32 else if n = 3 then 16 else 8
/-- What the document takes out of the first j bytes. -/
def racc (s : ByteArray) (a n : Nat) : Nat → Nat
  | 0 => 0
  | 1 => bt s a % lm n
  | j + 2 => racc s a n (j + 1) * 64 + bt s (a + (j + 1)) % 64
def OKat (s : ByteArray) (a n : Nat) : Prop := isC (racc s a n n) = true ∧ encS (racc s a n n) = s.extract a (a + n)

theorem encS_toList (c : Nat) : (encS c).data.toList = (enc c).map UInt8.ofNat := by
  unfold encS
  rw [strOfNums_data, List.map_map]
  rfl
theorem encS_size (c : Nat) : (encS c).size = need c := by
  unfold encS
  rw [strOfNums_size, List.length_map, enc_length]
theorem enc_lt {c : Nat} (hc : isC c = true) : ∀ x ∈ enc c, x < 256 := by
  have h := (isC_iff c).1 hc
  intro x hx
  unfold enc at hx
  split at hx
  · simp at hx; omega
  split at hx
  · simp at hx; omega
  split at hx
  · simp at hx; omega
  · simp at hx; omega
theorem bt_list (s : ByteArray) (i : Nat) (h : i < s.size) : bt s i = (s.data.toList[i]'(by simpa using h)).toNat := by
  rw [← bt_eq h]; rfl
theorem bt_encS {c i : Nat} (hc : isC c = true) (hi : i < need c) : bt (encS c) i = (enc c).getD i 0 := by
  have hs : i < (encS c).size := by rw [encS_size]; exact hi
  have hl : i < (enc c).length := by rw [enc_length]; exact hi
  rw [bt_list _ _ hs]
  simp only [encS_toList, List.getElem_map]
  have hx := enc_lt hc (enc c)[i] (List.getElem_mem hl)
  rw [UInt8.toNat_ofNat']
  simp [List.getD, hl]
  omega
theorem bt_extract {s : ByteArray} {a n i : Nat} (h : a + n ≤ s.size) (hi : i < n) : bt (s.extract a (a + n)) i = bt s (a + i) := by
  have h1 : i < (s.extract a (a + n)).size := by rw [ByteArray.size_extract]; omega
  rw [← bt_eq h1, ← bt_eq (show a + i < s.size by omega)]
  simp [ByteArray.getElem_extract]
theorem ext_bt {s t : ByteArray} (hs : s.size = t.size) (h : ∀ i, i < s.size → bt s i = bt t i) : s = t := by
  apply ByteArray.ext
  apply Array.ext (by simpa using hs)
  intro i h1 h2
  have h1' : i < s.size := h1
  have h2' : i < t.size := h2
  have e := h i h1'
  rw [← bt_eq h1', ← bt_eq h2'] at e
  exact UInt8.toNat_inj.1 e
/-- The bytes of c stand at a, said of strings. -/
theorem at_iff {s : ByteArray} {a c : Nat} (hc : isC c = true) : At s a c ↔ a + need c ≤ s.size ∧ encS c = s.extract a (a + need c) := by
  constructor
  · rintro ⟨h1, h2⟩
    refine ⟨h1, ext_bt (by rw [encS_size, ByteArray.size_extract]; omega) fun i hi => ?_⟩
    rw [encS_size] at hi
    rw [bt_encS hc hi, bt_extract h1 hi, h2 i hi]
  · rintro ⟨h1, h2⟩
    refine ⟨h1, fun i hi => ?_⟩
    rw [← bt_encS hc hi, h2, bt_extract h1 hi]

theorem racc_of_at {s : ByteArray} {a c : Nat} (hc : isC c = true) (h : At s a c) : racc s a (need c) (need c) = c := by
  obtain ⟨hs, hb⟩ := h
  have hi := (isC_iff c).1 hc
  rcases need_at c with ⟨h1, e⟩ | ⟨h0, h1, e⟩ | ⟨h0, h1, e⟩ | ⟨h0, e⟩
  · have b0 := hb 0 (by omega)
    unfold enc at b0; rw [if_pos h1] at b0; simp at b0
    rw [e]; simp [racc, lm]; omega
  · have b0 := hb 0 (by omega)
    have b1 := hb 1 (by omega)
    unfold enc at b0 b1; rw [if_neg (by omega), if_pos h1] at b0 b1; simp at b0 b1
    rw [e]; simp [racc, lm]; omega
  · have b0 := hb 0 (by omega)
    have b1 := hb 1 (by omega)
    have b2 := hb 2 (by omega)
    unfold enc at b0 b1 b2; rw [if_neg (by omega), if_neg (by omega), if_pos h1] at b0 b1 b2; simp at b0 b1 b2
    rw [e]; simp [racc, lm]; omega
  · have b0 := hb 0 (by omega)
    have b1 := hb 1 (by omega)
    have b2 := hb 2 (by omega)
    have b3 := hb 3 (by omega)
    unfold enc at b0 b1 b2 b3; rw [if_neg (by omega), if_neg (by omega), if_neg (by omega)] at b0 b1 b2 b3; simp at b0 b1 b2 b3
    rw [e]; simp [racc, lm]; omega
theorem dec_of_ok {s : ByteArray} {a n : Nat} (hn : 1 ≤ n) (hs : a + n ≤ s.size) (h : OKat s a n) : dec s a = (racc s a n n, n) := by
  obtain ⟨hc, he⟩ := h
  have e : need (racc s a n n) = n := by
    have := congrArg ByteArray.size he
    rw [encS_size, ByteArray.size_extract] at this
    omega
  have hat : At s a (racc s a n n) := (at_iff hc).2 ⟨by omega, by rw [e]; exact he⟩
  have hst := stands_of_at hc hat
  rw [e] at hst
  exact dec_some hst
theorem dec_of_none {s : ByteArray} {a : Nat} (h : ∀ m, 1 ≤ m → m ≤ 4 → a + m ≤ s.size → ¬ OKat s a m) : dec s a = (0, 0) := by
  refine dec_none fun c n hs => ?_
  obtain ⟨e, hat⟩ := at_of_stands hs
  have hc := hs.2.2.2.2.2.2
  have hr := racc_of_at hc hat
  subst e
  exact h (need c) (need_pos c) (need_le c) hat.1 ⟨by rw [hr]; exact hc, by rw [hr]; exact ((at_iff hc).1 hat).2⟩

theorem racc_succ (s : ByteArray) (a n j : Nat) (h : 1 ≤ j) : racc s a n (j + 1) = racc s a n j * 64 + bt s (a + j) % 64 := by
  cases j with
  | zero => omega
  | succ j => rfl
theorem racc_lt (s : ByteArray) (a n : Nat) : ∀ j, j ≤ 3 → racc s a n j < 1048576
  | 0, _ => by simp [racc]
  | 1, _ => by have := bt_lt s a; have := Nat.mod_le (bt s a) (lm n); simp only [racc]; omega
  | 2, _ => by have := bt_lt s a; have h := Nat.mod_le (bt s a) (lm n); simp only [racc]; omega
  | 3, _ => by have := bt_lt s a; have h := Nat.mod_le (bt s a) (lm n); simp only [racc]; omega
  | j + 4, h => by omega
theorem wref (c x : Nat) (hc : c < 1048576) (h : x < 256) : wrap32 (wrap32 ((c : Int) * 64) + (wrap32 (x : Int)).tmod 64) = ((c * 64 + x % 64 : Nat) : Int) := by
  have e1 : wrap32 (x : Int) = x := by unfold wrap32; omega
  have e2 : wrap32 ((c : Int) * 64) = (c : Int) * 64 := by unfold wrap32; omega
  rw [e1, e2, Int.tmod_eq_emod_of_nonneg (by omega)]
  unfold wrap32; omega
theorem wref0 (x m : Nat) (h : x < 256) : (wrap32 (x : Int)).tmod (m : Nat) = ((x % m : Nat) : Int) := by
  have e1 : wrap32 (x : Int) = x := by unfold wrap32; omega
  rw [e1, Int.tmod_eq_emod_of_nonneg (by omega)]
  rfl
end Go.Proofs.YtcbmigkdmmmahaaDoor
