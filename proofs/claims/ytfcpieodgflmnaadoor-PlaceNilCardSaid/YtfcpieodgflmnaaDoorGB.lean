/- How many steps a text has that is put together of two: what goes over the seam is lone bytes on both of its sides. Nothing of the program stands here. Trees of a text: what a node of the rope is, as a plain tree, and how it lies in memory. What is counted of two texts put together: the program's with. What is counted of a text, and a leaf of it: the program's count, leaf and Clone, at every text that is not too long. How trees are paired, levelled and joined, in plain words: texts, depths, and that they stay in form. Two trees paired: the program's pair. What a region keeps of the cells that it reads: one theorem for each number of cells. -/
import Derived.Test.YtfcpieodgflmnaaDoorGA
import Derived.Test.YtfcpieodgflmnaaDoorShelf
import Derived.Deep.RegionHeld3
import Derived.Deep.DeepCutAuto
import Derived.IntWalk
import Derived.WalkSpells
import Derived.WalkLawsBesides
namespace Go.Proofs.YtfcpieodgflmnaaDoor
open Go.RowKit

theorem dec_within {a b : ByteArray} {p : Nat} (h : 0 < (dec (a ++ b) p).2) (hp : p + (dec (a ++ b) p).2 ≤ a.size) : dec a p = dec (a ++ b) p := by
  obtain ⟨hc, e, hat, _⟩ := dec_facts h
  have h2 := dec_some (stands_of_at hc (s := a) (a := p) ⟨by omega, fun i hi => by rw [← bt_append_left (b := b) (by omega)]; exact hat.2 i hi⟩)
  rw [h2, ← e]
theorem dec_same {a b : ByteArray} {p : Nat} (hp : p + stepLen (a ++ b) p ≤ a.size) : dec (a ++ b) p = dec a p := by
  by_cases h : 0 < (dec (a ++ b) p).2
  · exact (dec_within h (by unfold stepLen at hp; rw [if_pos h] at hp; exact hp)).symm
  · rcases dec_cases (a ++ b) p with ⟨e, _⟩ | hs
    · by_cases h2 : 0 < (dec a p).2
      · exact dec_left h2
      · rcases dec_cases a p with ⟨e2, _⟩ | hs2
        · rw [e, e2]
        · have := hs2.2.1; omega
    · have := hs.2.1; omega
theorem steps_until {a b : ByteArray} (hB : Bd (a ++ b) a.size) : ∀ m p, a.size - p ≤ m → p ≤ a.size → Bd (a ++ b) p →
    (stepsFrom (a ++ b) p).length = (stepsFrom a p).length + (stepsFrom (a ++ b) a.size).length := by
  intro m
  induction m with
  | zero =>
    intro p h1 h2 _
    obtain rfl : p = a.size := by omega
    rw [stepsFrom_nil (s := a) (by omega)]
    simp
  | succ m ih =>
    intro p h1 h2 hb
    by_cases hlt : p < a.size
    · have hst := hb.step hB hlt
      obtain ⟨e1, e2⟩ := stepLen_of (dec_same hst)
      have hp := stepLen_pos (a ++ b) p
      have hlt2 : p < (a ++ b).size := by rw [ByteArray.size_append]; omega
      have e3 := ih (p + stepLen (a ++ b) p) (by omega) hst (hb.next hlt2)
      rw [stepsFrom_cons hlt2, stepsFrom_cons hlt, List.length_cons, List.length_cons, e3, e1]
      omega
    · obtain rfl : p = a.size := by omega
      rw [stepsFrom_nil (s := a) hlt]
      simp
/-- Where a step begins at the seam, the counts add up. -/
theorem count_cut {a b : ByteArray} (hB : Bd (a ++ b) a.size) : countS (a ++ b) = countS a + countS b := by
  have e1 := steps_until hB a.size 0 (by omega) (by omega) (Bd.zero _)
  obtain ⟨e4, _⟩ := steps_right (a := a) (b := b) b.size 0 (by omega) (by omega)
  rw [Nat.add_zero] at e4
  unfold countS; rw [e1, e4]

/-- Bytes that begin no character are a step each. -/
theorem count_lone {s : ByteArray} (h : ∀ i, i < s.size → dec s i = (0, 0)) : ∀ m p, s.size - p = m → p ≤ s.size → (stepsFrom s p).length = m := by
  intro m
  induction m with
  | zero => intro p h1 h2; rw [stepsFrom_nil (by omega)]; rfl
  | succ m ih =>
    intro p h1 h2
    have hL : stepLen s p = 1 := by unfold stepLen; rw [h p (by omega)]; rfl
    rw [stepsFrom_cons (by omega), List.length_cons, hL, ih (p + 1) (by omega) (by omega)]
theorem count_lone0 {s : ByteArray} (h : ∀ i, i < s.size → dec s i = (0, 0)) : countS s = s.size := count_lone h s.size 0 (by omega) (by omega)
theorem dec_later {s : ByteArray} {i : Nat} (h : 128 ≤ bt s i ∧ bt s i < 192) : dec s i = (0, 0) := dec_zero (by unfold szOf; rw [if_neg (by omega), if_pos (by omega)])

theorem cut_at {s : ByteArray} {k : Nat} (h : k ≤ s.size) : ∃ a b, s = a ++ b ∧ a.size = k := by
  refine ⟨s.extract 0 k, s.extract k s.size, ?_, by rw [ByteArray.size_extract]; omega⟩
  refine ext_bt (by rw [ByteArray.size_append, ByteArray.size_extract, ByteArray.size_extract]; omega) fun i hi => ?_
  by_cases h1 : i < k
  · rw [bt_append_left (by rw [ByteArray.size_extract]; omega)]
    have := bt_extract (s := s) (a := 0) (n := k) (i := i) (by omega) h1
    rw [Nat.zero_add, Nat.zero_add] at this
    exact this.symm
  · have hs : (s.extract 0 k).size = k := by rw [ByteArray.size_extract]; omega
    have h2 := bt_append_right (a := s.extract 0 k) (b := s.extract k s.size) (i := i - k) (by rw [ByteArray.size_extract]; omega)
    rw [hs, show k + (i - k) = i from by omega] at h2
    rw [h2]
    have h3 := bt_extract (s := s) (a := k) (n := s.size - k) (i := i - k) (by omega) (by omega)
    rw [show k + (s.size - k) = s.size from by omega, show k + (i - k) = i from by omega] at h3
    exact h3.symm

/-- Where a character goes over the seam, its bytes are one step in place of as many. -/
theorem count_over {a b : ByteArray} {j : Nat} (hc : Covers (a ++ b) a.size j) : countS (a ++ b) + (dec (a ++ b) (a.size - j)).2 = countS a + countS b + 1 := by
  obtain ⟨h1, h2, h3, h4⟩ := hc
  obtain ⟨n, hn⟩ : ∃ n, (dec (a ++ b) (a.size - j)).2 = n := ⟨_, rfl⟩
  obtain ⟨a1, a2, rfl, ha1⟩ := cut_at (s := a) (k := a.size - j) (by omega)
  have hsz : (a1 ++ a2).size = a1.size + a2.size := ByteArray.size_append
  have ha2 : a2.size = j := by omega
  rw [hn] at h4 ⊢
  have hpos : 0 < (dec ((a1 ++ a2) ++ b) ((a1 ++ a2).size - j)).2 := by omega
  obtain ⟨_, _, _, hst⟩ := dec_facts hpos
  rw [hn, show (a1 ++ a2).size - j = a1.size from by omega] at hst
  have hnb : n - j ≤ b.size := by
    have := hst.2.2.1
    rw [ByteArray.size_append, hsz] at this
    omega
  obtain ⟨b1, b2, rfl, hb1⟩ := cut_at hnb
  have hx : ((a1 ++ a2) ++ (b1 ++ b2)) = a1 ++ ((a2 ++ b1) ++ b2) := by rw [ByteArray.append_assoc, ByteArray.append_assoc]
  have hy : ((a1 ++ a2) ++ (b1 ++ b2)) = (a1 ++ (a2 ++ b1)) ++ b2 := by simp only [ByteArray.append_assoc]
  have hcs : (a2 ++ b1).size = n := by rw [ByteArray.size_append]; omega
  have hd0 : dec ((a1 ++ a2) ++ (b1 ++ b2)) a1.size = dec ((a2 ++ b1) ++ b2) 0 := by rw [hx]; exact dec_right 0
  have hn' : (dec ((a1 ++ a2) ++ (b1 ++ b2)) a1.size).2 = n := by rw [← hn, show (a1 ++ a2).size - j = a1.size from by omega]
  have hdc : dec (a2 ++ b1) 0 = dec ((a2 ++ b1) ++ b2) 0 := dec_within (by rw [← hd0, hn']; omega) (by rw [← hd0, hn', hcs]; omega)
  have hdcn : (dec (a2 ++ b1) 0).2 = n := by rw [hdc, ← hd0, hn']
  -- the whole
  have hB1 : Bd ((a1 ++ (a2 ++ b1)) ++ b2) (a1 ++ (a2 ++ b1)).size := by
    rw [← hy]
    have hb : Bd ((a1 ++ a2) ++ (b1 ++ b2)) a1.size := bd_of_char (by rw [ByteArray.size_append, hsz]; omega) (by rw [hn']; omega)
    have hnx := hb.next (by rw [ByteArray.size_append, ByteArray.size_append (a := b1), hsz]; omega)
    unfold stepLen at hnx
    rw [if_pos (by rw [hn']; omega), hn'] at hnx
    rw [ByteArray.size_append, hcs]
    exact hnx
  have hB2 : Bd (a1 ++ (a2 ++ b1)) a1.size := by
    have := dec_right (a := a1) (b := a2 ++ b1) 0
    rw [Nat.add_zero] at this
    exact bd_of_char (by rw [ByteArray.size_append]; omega) (by rw [this, hdcn]; omega)
  have hone : countS (a2 ++ b1) = 1 := by
    have hL : stepLen (a2 ++ b1) 0 = n := by unfold stepLen; rw [if_pos (by omega), hdcn]
    unfold countS
    rw [stepsFrom_cons (by omega), hL, stepsFrom_nil (by omega)]
    rfl
  have e1 : countS ((a1 ++ a2) ++ (b1 ++ b2)) = countS a1 + 1 + countS b2 := by rw [hy, count_cut hB1, count_cut hB2, hone]
  -- inside bytes
  have hin : ∀ i, 1 ≤ i → i < n → 128 ≤ bt (a2 ++ b1) i ∧ bt (a2 ++ b1) i < 192 := fun i hi1 hi2 => by
    obtain ⟨_, _, _, hs2⟩ := dec_facts (s := a2 ++ b1) (a := 0) (by omega)
    have := hs2.2.2.2.1 i hi1 (by omega)
    rw [Nat.zero_add] at this
    exact this
  -- the first text
  have hB3 : Bd (a1 ++ a2) a1.size := by
    refine (covers_iff (by omega)).1 fun q hq => ?_
    obtain ⟨q1, q2, q3, q4⟩ := hq
    have hdl := dec_left (b := b1 ++ b2) (show 0 < (dec (a1 ++ a2) (a1.size - q)).2 by omega)
    rw [show a1.size = a1.size - q + q from by omega] at hst
    exact inside_none q1 (by rw [hdl]; exact q4) hst
  have hl2 : ∀ i, i < a2.size → dec a2 i = (0, 0) := fun i hi => by
    by_cases e : i = 0
    · subst e
      rcases dec_cases a2 0 with ⟨e, _⟩ | hs2
      · exact e
      · have hp2 := hs2.2.1
        have hle := hs2.2.2.1
        have := dec_left (b := b1) hp2
        rw [this] at hdcn
        omega
    · have := hin i (by omega) (by omega)
      rw [bt_append_left hi] at this
      exact dec_later this
  have e2 : countS (a1 ++ a2) = countS a1 + j := by rw [count_cut hB3, count_lone0 hl2, ha2]
  -- the second text
  have hlb : ∀ i, i < b1.size → 128 ≤ bt b1 i ∧ bt b1 i < 192 := fun i hi => by
    have := hin (a2.size + i) (by omega) (by omega)
    rw [bt_append_right hi] at this
    exact this
  have hB4 : Bd (b1 ++ b2) b1.size := by
    refine (covers_iff (by rw [ByteArray.size_append]; omega)).1 fun q hq => ?_
    obtain ⟨q1, q2, q3, q4⟩ := hq
    have h5 := hlb (b1.size - q) (by omega)
    rw [← bt_append_left (b := b2) (by omega)] at h5
    rw [dec_later h5] at q4
    simp at q4
  have e3 : countS (b1 ++ b2) = (n - j) + countS b2 := by rw [count_cut hB4, count_lone0 (fun i hi => dec_later (hlb i hi)), hb1]
  rw [e1, e2, e3]
  omega

def hd (s : ByteArray) : ByteArray := s.extract 0 (min 3 s.size)
def tl (s : ByteArray) : ByteArray := s.extract (s.size - min 3 s.size) s.size

theorem extract_zero_append {a b : ByteArray} {n : Nat} (h : n ≤ a.size) : (a ++ b).extract 0 n = a.extract 0 n := by
  refine ext_bt (by rw [ByteArray.size_extract, ByteArray.size_extract, ByteArray.size_append]; omega) fun i hi => ?_
  rw [ByteArray.size_extract, ByteArray.size_append] at hi
  have h1 := bt_extract (s := a ++ b) (a := 0) (n := n) (i := i) (by rw [ByteArray.size_append]; omega) (by omega)
  have h2 := bt_extract (s := a) (a := 0) (n := n) (i := i) (by omega) (by omega)
  rw [Nat.zero_add, Nat.zero_add] at h1 h2
  rw [h1, h2, bt_append_left (by omega)]
theorem extract_all_left {a b : ByteArray} : (a ++ b).extract 0 a.size = a := by
  rw [extract_zero_append (Nat.le_refl _)]
  simp
theorem extract_right {a b : ByteArray} {m n : Nat} (h1 : a.size ≤ m) (h : n ≤ a.size + b.size) : (a ++ b).extract m n = b.extract (m - a.size) (n - a.size) := by
  by_cases hmn : m ≤ n
  · refine ext_bt (by rw [ByteArray.size_extract, ByteArray.size_extract, ByteArray.size_append]; omega) fun i hi => ?_
    rw [ByteArray.size_extract, ByteArray.size_append] at hi
    have e1 := bt_extract (s := a ++ b) (a := m) (n := n - m) (i := i) (by rw [ByteArray.size_append]; omega) (by omega)
    have e2 := bt_extract (s := b) (a := m - a.size) (n := n - m) (i := i) (by omega) (by omega)
    rw [show m + (n - m) = n from by omega] at e1
    rw [show m - a.size + (n - m) = n - a.size from by omega] at e2
    rw [e1, e2, show m + i = a.size + (m - a.size + i) from by omega, bt_append_right (by omega)]
  · refine ext_bt (by rw [ByteArray.size_extract, ByteArray.size_extract, ByteArray.size_append]; omega) fun i hi => ?_
    rw [ByteArray.size_extract, ByteArray.size_append] at hi
    omega
theorem hd_append {a b : ByteArray} (h : 3 ≤ a.size) : hd (a ++ b) = hd a := by
  unfold hd
  rw [ByteArray.size_append, show min 3 (a.size + b.size) = 3 from by omega, show min 3 a.size = 3 from by omega, extract_zero_append h]
theorem tl_append {a b : ByteArray} (h : 3 ≤ b.size) : tl (a ++ b) = tl b := by
  unfold tl
  rw [ByteArray.size_append, show min 3 (a.size + b.size) = 3 from by omega, show min 3 b.size = 3 from by omega, extract_right (by omega) (by omega)]
  congr 1 <;> omega
theorem tl_split {a : ByteArray} : ∃ a0, a = a0 ++ tl a := by
  obtain ⟨a0, a1, e, hs⟩ := cut_at (s := a) (k := a.size - min 3 a.size) (by omega)
  refine ⟨a0, ?_⟩
  have h : a.size = a0.size + a1.size := by rw [e, ByteArray.size_append]
  have : tl a = a1 := by
    unfold tl
    rw [show a.size - min 3 a.size = a0.size from hs.symm, h]
    conv => lhs; rw [e]
    rw [extract_right (by omega) (by omega)]
    simp
  rw [this]; exact e
theorem hd_split {b : ByteArray} : ∃ b0, b = hd b ++ b0 := by
  obtain ⟨b1, b0, e, hs⟩ := cut_at (s := b) (k := min 3 b.size) (by omega)
  refine ⟨b0, ?_⟩
  have : hd b = b1 := by
    unfold hd
    rw [← hs]
    conv => lhs; rw [e]
    exact extract_all_left
  rw [this]; exact e
theorem hd_size (s : ByteArray) : (hd s).size = min 3 s.size := by unfold hd; rw [ByteArray.size_extract]; omega
theorem tl_size (s : ByteArray) : (tl s).size = min 3 s.size := by unfold tl; rw [ByteArray.size_extract]; omega

/-- What stands ahead of the seam and goes over it stands so in the rims, too. -/
theorem dec_rim {a b : ByteArray} (ha : 3 ≤ a.size) (hb : 3 ≤ b.size) {j : Nat} (h1 : 1 ≤ j) (h2 : j ≤ 3) : dec (a ++ b) (a.size - j) = dec (tl a ++ hd b) (3 - j) := by
  obtain ⟨a0, ea⟩ := tl_split (a := a)
  obtain ⟨b0, eb⟩ := hd_split (b := b)
  have hta := tl_size a
  have hhb := hd_size b
  have hsz : a.size = a0.size + (tl a).size := by conv => lhs; rw [ea, ByteArray.size_append]
  have e1 : a ++ b = a0 ++ ((tl a ++ hd b) ++ b0) := by
    conv => lhs; rw [ea, eb]
    rw [ByteArray.append_assoc, ByteArray.append_assoc]
  have hm : (tl a ++ hd b).size = 6 := by rw [ByteArray.size_append]; omega
  rw [e1, show a.size - j = a0.size + (3 - j) from by omega, dec_right]
  have h4 := dec_le4 ((tl a ++ hd b) ++ b0) (3 - j)
  refine dec_same ?_
  rw [hm]
  unfold stepLen
  split <;> omega
theorem covers_rim {a b : ByteArray} (ha : 3 ≤ a.size) (hb : 3 ≤ b.size) {j : Nat} : Covers (a ++ b) a.size j ↔ Covers (tl a ++ hd b) (tl a).size j := by
  have hta := tl_size a
  constructor
  · rintro ⟨h1, h2, h3, h4⟩
    refine ⟨h1, h2, by omega, ?_⟩
    rw [show (tl a).size - j = 3 - j from by omega, ← dec_rim ha hb h1 h2]; exact h4
  · rintro ⟨h1, h2, h3, h4⟩
    refine ⟨h1, h2, by omega, ?_⟩
    rw [show (tl a).size - j = 3 - j from by omega] at h4
    rw [dec_rim ha hb h1 h2]; exact h4
/-- The whole's steps by its parts' and the rims'. -/
theorem seam {a b : ByteArray} (ha : 3 ≤ a.size) (hb : 3 ≤ b.size) : countS (a ++ b) + (countS (tl a) + countS (hd b)) = countS a + countS b + countS (tl a ++ hd b) := by
  have hta := tl_size a
  by_cases h : ∃ j, Covers (a ++ b) a.size j
  · obtain ⟨j, hj⟩ := h
    have e1 := count_over hj
    have e2 := count_over ((covers_rim ha hb).1 hj)
    have e3 := dec_rim ha hb hj.1 hj.2.1
    rw [show (tl a).size - j = 3 - j from by omega, ← e3] at e2
    omega
  · have hB : Bd (a ++ b) a.size := (covers_iff (by rw [ByteArray.size_append]; omega)).1 fun j hj => h ⟨j, hj⟩
    have hB2 : Bd (tl a ++ hd b) (tl a).size := (covers_iff (by rw [ByteArray.size_append]; omega)).1 fun j hj => h ⟨j, (covers_rim ha hb).2 hj⟩
    rw [count_cut hB, count_cut hB2]
end Go.Proofs.YtfcpieodgflmnaaDoor

namespace Go.Proofs.YtfcpieodgflmnaaDoor
open Go.RowKit

inductive T where
  | leaf (s : ByteArray)
  | node (l r : T)
def T.text : T → ByteArray
  | .leaf s => s
  | .node l r => l.text ++ r.text
def T.dp : T → Nat
  | .leaf _ => 1
  | .node l r => 1 + max l.dp r.dp
def T.own : T → ByteArray
  | .leaf s => s
  | .node _ _ => ⟨#[]⟩
/-- Every leaf has from 256 to 512 bytes, and depths differ by one at most. -/
def Big : T → Prop
  | .leaf s => 256 ≤ s.size ∧ s.size ≤ 512
  | .node l r => Big l ∧ Big r ∧ l.dp ≤ r.dp + 1 ∧ r.dp ≤ l.dp + 1
def Ok : T → Prop
  | .leaf s => 1 ≤ s.size ∧ s.size ≤ 512
  | .node l r => Big (.node l r)
theorem Big.ok {t : T} (h : Big t) : Ok t := by
  cases t with
  | leaf s => exact ⟨by have := h.1; omega, h.2⟩
  | node l r => exact h
theorem Big.size {t : T} (h : Big t) : 256 ≤ t.text.size := by
  induction t with
  | leaf s => exact h.1
  | node l r hl hr => have := hl h.1; show 256 ≤ (l.text ++ r.text).size; rw [ByteArray.size_append]; omega
theorem Ok.size {t : T} (h : Ok t) : 1 ≤ t.text.size := by
  cases t with
  | leaf s => exact h.1
  | node l r => have := Big.size h; omega
theorem T.dp_pos (t : T) : 1 ≤ t.dp := by cases t <;> simp [T.dp]

/-- How many LFs a text has. -/
def nl (s : ByteArray) : Nat := s.data.toList.count 10
theorem nl_append (a b : ByteArray) : nl (a ++ b) = nl a + nl b := by
  unfold nl
  rw [ByteArray.data_append]
  simp
theorem nl_le (s : ByteArray) : nl s ≤ s.size := by
  unfold nl
  have := List.count_le_length (a := (10 : UInt8)) (l := s.data.toList)
  simpa using this

/-- What is counted of a text. -/
noncomputable def cv (s : ByteArray) : Value := .agg #[.int .i64 (s.size : Nat), .int .i64 (nl s : Nat), .int .i64 (countS s : Nat), .string (hd s), .string (tl s)]
noncomputable def ncells (s : ByteArray) (d : Nat) (l r : Value) (own : ByteArray) : Array Value :=
  #[.int .i64 (s.size : Nat), .int .i64 (nl s : Nat), .int .i64 (countS s : Nat), .string (hd s), .string (tl s), .int .i64 (d : Nat), l, r, .string own]

/-- The tree t lies at block b of w, all of it below B. -/
def NodeIn (B : Nat) (w : World) : T → Nat → Prop
  | .leaf s, b => b < B ∧ w.heap[b]? = some (.cells (ncells s 1 (.pointer none) (.pointer none) s) 92)
  | .node l r, b => b < B ∧ ∃ bl br, w.heap[b]? = some (.cells (ncells (l.text ++ r.text) (1 + max l.dp r.dp) (.pointer (some ⟨bl, 0, none⟩)) (.pointer (some ⟨br, 0, none⟩)) ⟨#[]⟩) 92) ∧ NodeIn B w l bl ∧ NodeIn B w r br
theorem NodeIn.lt {B : Nat} {w : World} {t : T} {b : Nat} (h : NodeIn B w t b) : b < B := by
  cases t <;> exact h.1
theorem NodeIn.keep {B C : Nat} {w w' : World} (hb : Below C w w') (hBC : B ≤ C) : ∀ {t : T} {b : Nat}, NodeIn B w t b → NodeIn B w' t b := by
  intro t
  induction t with
  | leaf s => intro b h; exact ⟨h.1, (hb.block b (by have := h.1; omega)).trans h.2⟩
  | node l r hl hr =>
    intro b h
    obtain ⟨h1, bl, br, h2, h3, h4⟩ := h
    exact ⟨h1, bl, br, (hb.block b (by omega)).trans h2, hl h3, hr h4⟩
theorem NodeIn.mono {B C : Nat} {w : World} (hBC : B ≤ C) : ∀ {t : T} {b : Nat}, NodeIn B w t b → NodeIn C w t b := by
  intro t
  induction t with
  | leaf s => intro b h; exact ⟨by have := h.1; omega, h.2⟩
  | node l r hl hr =>
    intro b h
    obtain ⟨h1, bl, br, h2, h3, h4⟩ := h
    exact ⟨by omega, bl, br, h2, hl h3, hr h4⟩
/-- .. below all that lies in w. -/
def Node (w : World) (t : T) (b : Nat) : Prop := NodeIn w.heap.size w t b
theorem Node.up {w w' : World} {t : T} {b : Nat} (h : Node w t b) (hu : Up w w') : Node w' t b :=
  NodeIn.mono (Below.size hu) (NodeIn.keep hu (Nat.le_refl _) h)
/-- What a cell of a node holds. -/
theorem node_cell {B : Nat} {w : World} {t : T} {b : Nat} (h : NodeIn B w t b) : ∃ l r, w.heap[b]? = some (.cells (ncells t.text t.dp l r t.own) 92) := by
  cases t with
  | leaf s => exact ⟨_, _, h.2⟩
  | node l r => obtain ⟨_, bl, br, h2, _⟩ := h; exact ⟨_, _, h2⟩

/-- A pointer to a tree, or nil. -/
def Ptr (w : World) (v : Value) : Option T → Prop
  | none => v = .pointer none
  | some t => ∃ b, v = .pointer (some ⟨b, 0, none⟩) ∧ Node w t b
def otext : Option T → ByteArray
  | none => ⟨#[]⟩
  | some t => t.text
def OkO : Option T → Prop
  | none => True
  | some t => Ok t
theorem Ptr.up {w w' : World} {v : Value} {o : Option T} (h : Ptr w v o) (hu : Up w w') : Ptr w' v o := by
  cases o with
  | none => exact h
  | some t => obtain ⟨b, e, hn⟩ := h; exact ⟨b, e, hn.up hu⟩
end Go.Proofs.YtfcpieodgflmnaaDoor

namespace Go.Proofs.YtfcpieodgflmnaaDoor
open Go.RowKit

theorem cellOf {w : World} {b j : Nat} {cs : Array Value} {T : TypeId} {fr : Nat × Nat} {v : Value} (h : w.heap[b]? = some (.cells cs T fr)) (hj : cs[j]? = some v) : w.cell? ⟨b, j, none⟩ = some v := by
  simp [World.cell?, h, hj]
theorem frozenOf {w : World} {b j : Nat} {cs : Array Value} {T : TypeId} (h : w.heap[b]? = some (.cells cs T)) : w.frozen? ⟨b, j, none⟩ = false := by
  simp [World.frozen?, h]
theorem alloc3 (w : World) (o1 o2 o3 : Obj) : (((w.alloc o1).alloc o2).alloc o3).heap[w.heap.size]? = some o1 ∧ (((w.alloc o1).alloc o2).alloc o3).heap[w.heap.size + 1]? = some o2 ∧ (((w.alloc o1).alloc o2).alloc o3).heap[w.heap.size + 1 + 1]? = some o3 := by
  have n1 := Go.heap_alloc_new w o1
  have n2 := Go.heap_alloc_new (w.alloc o1) o2
  have n3 := Go.heap_alloc_new ((w.alloc o1).alloc o2) o3
  rw [World.size_alloc] at n2
  rw [World.size_alloc, World.size_alloc] at n3
  exact ⟨(Below.heap_alloc _ _ _ (by simp; omega)).trans ((Below.heap_alloc _ _ _ (by simp)).trans n1), (Below.heap_alloc _ _ _ (by simp)).trans n2, n3⟩
theorem cell_up {W w1 : World} {b o : Nat} {v : Value} (hu : Up W w1) (h : W.cell? ⟨b, o, none⟩ = some v) : w1.cell? ⟨b, o, none⟩ = some v := by
  have hb : b < W.heap.size := by
    by_cases hlt : b < W.heap.size
    · exact hlt
    · have : W.heap[b]? = none := by simp; omega
      simp [World.cell?, this] at h
  exact (Below.cell hu (p := ⟨b, o, none⟩) hb).trans h
theorem frozen_up {W w1 : World} {b o : Nat} {v : Value} (hu : Up W w1) (h : W.cell? ⟨b, o, none⟩ = some v) {f : Bool} (hf : W.frozen? ⟨b, o, none⟩ = f) : w1.frozen? ⟨b, o, none⟩ = f := by
  have hb : b < W.heap.size := by
    by_cases hlt : b < W.heap.size
    · exact hlt
    · have : W.heap[b]? = none := by simp; omega
      simp [World.cell?, this] at h
  exact (Below.frozen hu (p := ⟨b, o, none⟩) hb).trans hf

def WithS (N an ae ast bn be bst : Nat) (ah al bh bl : ByteArray) (W : World) : Prop := (W.cell? ⟨N, 0, none⟩ = some (.int .i64 (an : Nat)) ∧ W.cell? ⟨N, 1, none⟩ = some (.int .i64 (ae : Nat)) ∧ W.cell? ⟨N, 2, none⟩ = some (.int .i64 (ast : Nat)) ∧ W.cell? ⟨N, 3, none⟩ = some (.string ah) ∧ W.cell? ⟨N, 4, none⟩ = some (.string al)) ∧ (W.cell? ⟨N + 1, 0, none⟩ = some (.int .i64 (bn : Nat)) ∧ W.cell? ⟨N + 1, 1, none⟩ = some (.int .i64 (be : Nat)) ∧ W.cell? ⟨N + 1, 2, none⟩ = some (.int .i64 (bst : Nat)) ∧ W.cell? ⟨N + 1, 3, none⟩ = some (.string bh) ∧ W.cell? ⟨N + 1, 4, none⟩ = some (.string bl)) ∧ Tabs W
def WithZ (N : Nat) (W : World) : Prop := (W.cell? ⟨N + 1 + 1, 0, none⟩ = some (.int .i64 0) ∧ W.cell? ⟨N + 1 + 1, 1, none⟩ = some (.int .i64 0) ∧ W.cell? ⟨N + 1 + 1, 2, none⟩ = some (.int .i64 0) ∧ W.cell? ⟨N + 1 + 1, 3, none⟩ = some (.string ⟨#[]⟩) ∧ W.cell? ⟨N + 1 + 1, 4, none⟩ = some (.string ⟨#[]⟩)) ∧ (W.frozen? ⟨N + 1 + 1, 0, none⟩ = false ∧ W.frozen? ⟨N + 1 + 1, 1, none⟩ = false ∧ W.frozen? ⟨N + 1 + 1, 2, none⟩ = false ∧ W.frozen? ⟨N + 1 + 1, 3, none⟩ = false ∧ W.frozen? ⟨N + 1 + 1, 4, none⟩ = false)
theorem withS_keep {N : Nat} {W w1 : World} {an ae ast bn be bst : Nat} {ah al bh bl : ByteArray} (hu : Up W w1)
   (h : (W.cell? ⟨N, 0, none⟩ = some (.int .i64 (an : Nat)) ∧ W.cell? ⟨N, 1, none⟩ = some (.int .i64 (ae : Nat)) ∧ W.cell? ⟨N, 2, none⟩ = some (.int .i64 (ast : Nat)) ∧ W.cell? ⟨N, 3, none⟩ = some (.string ah) ∧ W.cell? ⟨N, 4, none⟩ = some (.string al)) ∧ (W.cell? ⟨N + 1, 0, none⟩ = some (.int .i64 (bn : Nat)) ∧ W.cell? ⟨N + 1, 1, none⟩ = some (.int .i64 (be : Nat)) ∧ W.cell? ⟨N + 1, 2, none⟩ = some (.int .i64 (bst : Nat)) ∧ W.cell? ⟨N + 1, 3, none⟩ = some (.string bh) ∧ W.cell? ⟨N + 1, 4, none⟩ = some (.string bl)) ∧ Tabs W) :
   (w1.cell? ⟨N, 0, none⟩ = some (.int .i64 (an : Nat)) ∧ w1.cell? ⟨N, 1, none⟩ = some (.int .i64 (ae : Nat)) ∧ w1.cell? ⟨N, 2, none⟩ = some (.int .i64 (ast : Nat)) ∧ w1.cell? ⟨N, 3, none⟩ = some (.string ah) ∧ w1.cell? ⟨N, 4, none⟩ = some (.string al)) ∧ (w1.cell? ⟨N + 1, 0, none⟩ = some (.int .i64 (bn : Nat)) ∧ w1.cell? ⟨N + 1, 1, none⟩ = some (.int .i64 (be : Nat)) ∧ w1.cell? ⟨N + 1, 2, none⟩ = some (.int .i64 (bst : Nat)) ∧ w1.cell? ⟨N + 1, 3, none⟩ = some (.string bh) ∧ w1.cell? ⟨N + 1, 4, none⟩ = some (.string bl)) ∧ Tabs w1 := by
  obtain ⟨⟨h1, h2, h3, h4, h5⟩, ⟨h6, h7, h8, h9, h10⟩, hT⟩ := h
  exact ⟨⟨cell_up hu h1, cell_up hu h2, cell_up hu h3, cell_up hu h4, cell_up hu h5⟩, ⟨cell_up hu h6, cell_up hu h7, cell_up hu h8, cell_up hu h9, cell_up hu h10⟩, hT.up hu⟩
theorem withZ_keep {N : Nat} {W w1 : World} (hu : Up W w1) (h : WithZ N W) : WithZ N w1 := by
  obtain ⟨⟨h11, h12, h13, h14, h15⟩, ⟨f1, f2, f3, f4, f5⟩⟩ := h
  exact ⟨⟨cell_up hu h11, cell_up hu h12, cell_up hu h13, cell_up hu h14, cell_up hu h15⟩, ⟨frozen_up hu h11 f1, frozen_up hu h12 f2, frozen_up hu h13 f3, frozen_up hu h14 f4, frozen_up hu h15 f5⟩⟩
theorem cell_set {W : World} {p : Addr} {x v : Value} {b o : Nat} (hne : b ≠ p.block) (h : W.cell? ⟨b, o, none⟩ = some v) : (W.setCell p x).cell? ⟨b, o, none⟩ = some v := by
  rw [World.cell?_setCell_far _ _ _ _ (by show p.block ≠ b; omega)]; exact h
theorem withS_set {N : Nat} {W : World} {an ae ast bn be bst : Nat} {ah al bh bl : ByteArray} {i : Nat} {x : Value} (hN : 2 + 1 ≤ N)
   (h : (W.cell? ⟨N, 0, none⟩ = some (.int .i64 (an : Nat)) ∧ W.cell? ⟨N, 1, none⟩ = some (.int .i64 (ae : Nat)) ∧ W.cell? ⟨N, 2, none⟩ = some (.int .i64 (ast : Nat)) ∧ W.cell? ⟨N, 3, none⟩ = some (.string ah) ∧ W.cell? ⟨N, 4, none⟩ = some (.string al)) ∧ (W.cell? ⟨N + 1, 0, none⟩ = some (.int .i64 (bn : Nat)) ∧ W.cell? ⟨N + 1, 1, none⟩ = some (.int .i64 (be : Nat)) ∧ W.cell? ⟨N + 1, 2, none⟩ = some (.int .i64 (bst : Nat)) ∧ W.cell? ⟨N + 1, 3, none⟩ = some (.string bh) ∧ W.cell? ⟨N + 1, 4, none⟩ = some (.string bl)) ∧ Tabs W) :
   ((W.setCell ⟨N + 1 + 1, i, none⟩ x).cell? ⟨N, 0, none⟩ = some (.int .i64 (an : Nat)) ∧ (W.setCell ⟨N + 1 + 1, i, none⟩ x).cell? ⟨N, 1, none⟩ = some (.int .i64 (ae : Nat)) ∧ (W.setCell ⟨N + 1 + 1, i, none⟩ x).cell? ⟨N, 2, none⟩ = some (.int .i64 (ast : Nat)) ∧ (W.setCell ⟨N + 1 + 1, i, none⟩ x).cell? ⟨N, 3, none⟩ = some (.string ah) ∧ (W.setCell ⟨N + 1 + 1, i, none⟩ x).cell? ⟨N, 4, none⟩ = some (.string al)) ∧ ((W.setCell ⟨N + 1 + 1, i, none⟩ x).cell? ⟨N + 1, 0, none⟩ = some (.int .i64 (bn : Nat)) ∧ (W.setCell ⟨N + 1 + 1, i, none⟩ x).cell? ⟨N + 1, 1, none⟩ = some (.int .i64 (be : Nat)) ∧ (W.setCell ⟨N + 1 + 1, i, none⟩ x).cell? ⟨N + 1, 2, none⟩ = some (.int .i64 (bst : Nat)) ∧ (W.setCell ⟨N + 1 + 1, i, none⟩ x).cell? ⟨N + 1, 3, none⟩ = some (.string bh) ∧ (W.setCell ⟨N + 1 + 1, i, none⟩ x).cell? ⟨N + 1, 4, none⟩ = some (.string bl)) ∧ Tabs (W.setCell ⟨N + 1 + 1, i, none⟩ x) := by
  obtain ⟨⟨h1, h2, h3, h4, h5⟩, ⟨h6, h7, h8, h9, h10⟩, hT⟩ := h
  have e1 : N ≠ N + 1 + 1 := by omega
  have e2 : N + 1 ≠ N + 1 + 1 := by omega
  refine ⟨⟨cell_set e1 h1, cell_set e1 h2, cell_set e1 h3, cell_set e1 h4, cell_set e1 h5⟩, ⟨cell_set e2 h6, cell_set e2 h7, cell_set e2 h8, cell_set e2 h9, cell_set e2 h10⟩, ?_⟩
  exact hT.of_below hN ((Below.refl N W).setCell (p := ⟨N + 1 + 1, i, none⟩) (by show N ≤ N + 1 + 1; omega) x)
theorem set5 (w : World) (g : Nat) (x0 x1 x2 x3 x4 y0 y1 y2 y3 y4 : Value) (h0 : w.cell? ⟨g, 0, none⟩ = some y0) (h1 : w.cell? ⟨g, 1, none⟩ = some y1) (h2 : w.cell? ⟨g, 2, none⟩ = some y2) (h3 : w.cell? ⟨g, 3, none⟩ = some y3) (h4 : w.cell? ⟨g, 4, none⟩ = some y4) :
    (((((w.setCell ⟨g, 0, none⟩ x0).setCell ⟨g, 1, none⟩ x1).setCell ⟨g, 2, none⟩ x2).setCell ⟨g, 3, none⟩ x3).setCell ⟨g, 4, none⟩ x4).cell? ⟨g, 0, none⟩ = some x0 ∧
    (((((w.setCell ⟨g, 0, none⟩ x0).setCell ⟨g, 1, none⟩ x1).setCell ⟨g, 2, none⟩ x2).setCell ⟨g, 3, none⟩ x3).setCell ⟨g, 4, none⟩ x4).cell? ⟨g, 1, none⟩ = some x1 ∧
    (((((w.setCell ⟨g, 0, none⟩ x0).setCell ⟨g, 1, none⟩ x1).setCell ⟨g, 2, none⟩ x2).setCell ⟨g, 3, none⟩ x3).setCell ⟨g, 4, none⟩ x4).cell? ⟨g, 2, none⟩ = some x2 ∧
    (((((w.setCell ⟨g, 0, none⟩ x0).setCell ⟨g, 1, none⟩ x1).setCell ⟨g, 2, none⟩ x2).setCell ⟨g, 3, none⟩ x3).setCell ⟨g, 4, none⟩ x4).cell? ⟨g, 3, none⟩ = some x3 ∧
    (((((w.setCell ⟨g, 0, none⟩ x0).setCell ⟨g, 1, none⟩ x1).setCell ⟨g, 2, none⟩ x2).setCell ⟨g, 3, none⟩ x3).setCell ⟨g, 4, none⟩ x4).cell? ⟨g, 4, none⟩ = some x4 := by
  have o : ∀ (W : World) (i j : Nat) (v : Value), i ≠ j → (W.setCell ⟨g, i, none⟩ v).cell? ⟨g, j, none⟩ = W.cell? ⟨g, j, none⟩ := fun W i j v h => World.cell?_setCell_other W ⟨g, i, none⟩ ⟨g, j, none⟩ v (fun e => h (by injection e))
  have s : ∀ (W : World) (i : Nat) (v u : Value), W.cell? ⟨g, i, none⟩ = some u → (W.setCell ⟨g, i, none⟩ v).cell? ⟨g, i, none⟩ = some v := fun W i v u h => World.cell?_setCell_same' W _ v (by rw [h]; rfl)
  refine ⟨?_, ?_, ?_, ?_, ?_⟩
  · rw [o _ _ _ _ (by decide), o _ _ _ _ (by decide), o _ _ _ _ (by decide), o _ _ _ _ (by decide)]; exact s _ _ _ _ h0
  · rw [o _ _ _ _ (by decide), o _ _ _ _ (by decide), o _ _ _ _ (by decide)]; exact s _ _ _ y1 (by rw [o _ _ _ _ (by decide)]; exact h1)
  · rw [o _ _ _ _ (by decide), o _ _ _ _ (by decide)]; exact s _ _ _ y2 (by rw [o _ _ _ _ (by decide), o _ _ _ _ (by decide)]; exact h2)
  · rw [o _ _ _ _ (by decide)]; exact s _ _ _ y3 (by rw [o _ _ _ _ (by decide), o _ _ _ _ (by decide), o _ _ _ _ (by decide)]; exact h3)
  · exact s _ _ _ y4 (by rw [o _ _ _ _ (by decide), o _ _ _ _ (by decide), o _ _ _ _ (by decide), o _ _ _ _ (by decide)]; exact h4)
theorem withS_tabs {N : Nat} {W : World} {an ae ast bn be bst : Nat} {ah al bh bl : ByteArray} (h : (W.cell? ⟨N, 0, none⟩ = some (.int .i64 (an : Nat)) ∧ W.cell? ⟨N, 1, none⟩ = some (.int .i64 (ae : Nat)) ∧ W.cell? ⟨N, 2, none⟩ = some (.int .i64 (ast : Nat)) ∧ W.cell? ⟨N, 3, none⟩ = some (.string ah) ∧ W.cell? ⟨N, 4, none⟩ = some (.string al)) ∧ (W.cell? ⟨N + 1, 0, none⟩ = some (.int .i64 (bn : Nat)) ∧ W.cell? ⟨N + 1, 1, none⟩ = some (.int .i64 (be : Nat)) ∧ W.cell? ⟨N + 1, 2, none⟩ = some (.int .i64 (bst : Nat)) ∧ W.cell? ⟨N + 1, 3, none⟩ = some (.string bh) ∧ W.cell? ⟨N + 1, 4, none⟩ = some (.string bl)) ∧ Tabs W) : Tabs W := h.2.2

set_option maxRecDepth 100000 in
set_option maxHeartbeats 4000000 in
theorem with_walk (an ae ast bn be bst k : Nat) (ah al bh bl : ByteArray) (w : World) (h1 : al.size ≤ 3) (h2 : bh.size ≤ 3) (b1 : (an : Int) ≤ 1048576) (b2 : (ae : Int) ≤ 1048576) (b3 : (ast : Int) ≤ 1048576) (b4 : (bn : Int) ≤ 1048576) (b5 : (be : Int) ≤ 1048576) (b6 : (bst : Int) ≤ 1048576) (hk : k + (countS al + countS bh) = ast + bst + countS (al ++ bh)) (hT : Tabs w) :
    Calls Tryd.prog 65 #[.agg #[.int .i64 (an : Nat), .int .i64 (ae : Nat), .int .i64 (ast : Nat), .string ah, .string al], .agg #[.int .i64 (bn : Nat), .int .i64 (be : Nat), .int .i64 (bst : Nat), .string bh, .string bl]] w fun e w' => e = .returned (.agg #[.int .i64 (an + bn : Nat), .int .i64 (ae + be : Nat), .int .i64 (k : Nat), .string ah, .string bl]) ∧ Up w w' := by
  have hA : al.size ≤ maxLen := by unfold maxLen; omega
  have hB : bh.size ≤ maxLen := by unfold maxLen; omega
  have hC : (al ++ bh).size ≤ maxLen := by rw [ByteArray.size_append]; unfold maxLen; omega
  have CA := Lib.hid (fun w ht => count_any al hA w ht)
  have CB := Lib.hid (fun w ht => count_any bh hB w ht)
  have CC := Lib.hid (fun w ht => count_any (al ++ bh) hC w ht)
  obtain ⟨ka, hka⟩ : ∃ k, countS al = k := ⟨_, rfl⟩
  obtain ⟨kb, hkb⟩ : ∃ k, countS bh = k := ⟨_, rfl⟩
  obtain ⟨kc, hkc⟩ : ∃ k, countS (al ++ bh) = k := ⟨_, rfl⟩
  have lA := countS_le al
  have lB := countS_le bh
  have lC := countS_le (al ++ bh)
  rw [ByteArray.size_append] at lC
  rw [hka] at CA lA hk
  rw [hkb] at CB lB hk
  rw [hkc] at CC lC hk
  have e0 : IntKind.i64.wrap ((ka : Int) + kb) = (ka : Int) + kb := IntWalk.i64_in _ (by omega)
  have e1 : IntKind.i64.wrap ((an : Int) + bn) = (an + bn : Nat) := (IntWalk.i64_in _ (by omega)).trans (by omega)
  have e2 : IntKind.i64.wrap ((ae : Int) + be) = (ae + be : Nat) := (IntWalk.i64_in _ (by omega)).trans (by omega)
  have e3 : IntKind.i64.wrap ((ast : Int) + bst) = (ast : Int) + bst := IntWalk.i64_in _ (by omega)
  have e4 : IntKind.i64.wrap ((ast : Int) + bst - (ka + kb)) = (ast : Int) + bst - (ka + kb) := IntWalk.i64_in _ (by omega)
  have e5 : IntKind.i64.wrap ((ast : Int) + bst - (ka + kb) + kc) = (k : Int) := (IntWalk.i64_in _ (by omega)).trans (by omega)
  have hbig := hT.big
  have hadd : ∀ w, (Op.stringOp .add al bh).run Tryd.prog w = .ok (.string (al ++ bh)) w := fun w => run_string_add_sum w _ _ (by omega)
  clear hA hB hC hka hkb hkc hk lA lB lC b1 b2 b3 b4 b5 b6 h1 h2
  go_enter Tryd.func65, Tryd.ntmps65
  go_upto_region 1 with fail
  obtain ⟨N, hN⟩ : ∃ N, w.heap.size = N := ⟨_, rfl⟩
  obtain ⟨W, hW⟩ : ∃ W, (((w.alloc (.cells #[.int .i64 (an : Nat), .int .i64 (ae : Nat), .int .i64 (ast : Nat), .string ah, .string al] 89)).alloc (.cells #[.int .i64 (bn : Nat), .int .i64 (be : Nat), .int .i64 (bst : Nat), .string bh, .string bl] 89)).alloc (.cells #[.int .i64 0, .int .i64 0, .int .i64 0, .string ⟨#[]⟩, .string ⟨#[]⟩] 89)) = W := ⟨_, rfl⟩
  have hU : Below N w W := by
    subst hW hN
    exact (((Below.refl _ _).alloc (Nat.le_refl _) _).alloc (by simp) _).alloc (by simp; omega) _
  have hZ : N + 3 = W.heap.size := by subst hW hN; simp
  have hS : WithS N an ae ast bn be bst ah al bh bl W := by
    subst hW hN
    unfold WithS
    refine ⟨⟨?_, ?_, ?_, ?_, ?_⟩, ⟨?_, ?_, ?_, ?_, ?_⟩, ((hT.up (Up.alloc _ _)).up (Up.alloc _ _)).up (Up.alloc _ _)⟩
    all_goals first | exact cellOf (alloc3 _ _ _ _).1 rfl | exact cellOf (alloc3 _ _ _ _).2.1 rfl
  have hZ0 : WithZ N W := by
    subst hW hN
    unfold WithZ
    refine ⟨⟨?_, ?_, ?_, ?_, ?_⟩, ⟨?_, ?_, ?_, ?_, ?_⟩⟩
    all_goals first | exact cellOf (alloc3 _ _ _ _).2.2 rfl | exact frozenOf (alloc3 _ _ _ _).2.2
  rw [hW]
  simp only [hN]
  unfold WithS at hS
  clear hW
  have HZ0 := Lib.hid hZ0
  have HZ := Lib.hid hZ
  have HB : Hid (2 + 1 ≤ N) := Lib.hid (by omega)
  have HU := Lib.hid hU
  have HN := Lib.hid hN
  clear hZ hN hZ0 hbig hU hT
  go_cut [5] (fun s5 wx => s5 = .int .i64 ((ka : Int) + kb) ∧ WithS N an ae ast bn be bst ah al bh bl wx ∧ Up W wx)
  case first =>
    go_region_held3 (fun w' => (w'.cell? ⟨N, 0, none⟩ = some (.int .i64 (an : Nat)) ∧ w'.cell? ⟨N, 1, none⟩ = some (.int .i64 (ae : Nat)) ∧ w'.cell? ⟨N, 2, none⟩ = some (.int .i64 (ast : Nat)) ∧ w'.cell? ⟨N, 3, none⟩ = some (.string ah) ∧ w'.cell? ⟨N, 4, none⟩ = some (.string al)) ∧ (w'.cell? ⟨N + 1, 0, none⟩ = some (.int .i64 (bn : Nat)) ∧ w'.cell? ⟨N + 1, 1, none⟩ = some (.int .i64 (be : Nat)) ∧ w'.cell? ⟨N + 1, 2, none⟩ = some (.int .i64 (bst : Nat)) ∧ w'.cell? ⟨N + 1, 3, none⟩ = some (.string bh) ∧ w'.cell? ⟨N + 1, 4, none⟩ = some (.string bl)) ∧ Tabs w')
      (first | with_reducible exact withS_keep hu1 (by assumption) | with_reducible exact withS_keep hu2 (by assumption) | with_reducible exact withS_keep (Up.drew _) (by assumption))
      (first | (go_at_call 45; ((with_reducible refine (CA.out _ ?_).mono ?_); (exact withS_tabs (by assumption)); rintro e w1 ⟨rfl, hu1⟩)) | (go_at_call 45; ((with_reducible refine (CB.out _ ?_).mono ?_); (exact withS_tabs (by assumption)); rintro e w2 ⟨rfl, hu2⟩)))
    all_goals
      rename_i hS2
      have HU1 := Lib.hid (Up.trans (Up.drew W) (Up.trans hu1 hu2))
      go_wp2_with fail
      go_meet
      exact ⟨rfl, hS2, HU1.out⟩
  case rest =>
    obtain ⟨rfl, hS3, hU3⟩ := hcut
    have HU3 := Lib.hid hU3
    have HZ3 := Lib.hid (withZ_keep hU3 HZ0.out)
    unfold WithS at hS3
    go_wp2_with fail
    clear hS hU3 CA CB e0 HZ0
    go_region_held3 (fun w' => (w'.cell? ⟨N, 0, none⟩ = some (.int .i64 (an : Nat)) ∧ w'.cell? ⟨N, 1, none⟩ = some (.int .i64 (ae : Nat)) ∧ w'.cell? ⟨N, 2, none⟩ = some (.int .i64 (ast : Nat)) ∧ w'.cell? ⟨N, 3, none⟩ = some (.string ah) ∧ w'.cell? ⟨N, 4, none⟩ = some (.string al)) ∧ (w'.cell? ⟨N + 1, 0, none⟩ = some (.int .i64 (bn : Nat)) ∧ w'.cell? ⟨N + 1, 1, none⟩ = some (.int .i64 (be : Nat)) ∧ w'.cell? ⟨N + 1, 2, none⟩ = some (.int .i64 (bst : Nat)) ∧ w'.cell? ⟨N + 1, 3, none⟩ = some (.string bh) ∧ w'.cell? ⟨N + 1, 4, none⟩ = some (.string bl)) ∧ Tabs w')
      (first | with_reducible exact withS_keep hu3 (by assumption) | with_reducible exact withS_keep (Up.drew _) (by assumption) | with_reducible exact withS_set HB.out (withS_set HB.out (withS_set HB.out (withS_set HB.out (withS_set HB.out (by assumption))))))
      (first | (go_at_call 45; ((with_reducible refine (CC.out _ ?_).mono ?_); (exact withS_tabs (by assumption)); rintro e w3 ⟨rfl, hu3⟩; have hz3 := withZ_keep ((Up.drew _).trans hu3) HZ3.out; unfold WithZ at hz3)))
    have HU4 := Lib.hid ((Up.drew _).trans hu3)
    have hf := set5 w3 (N + 1 + 1) (.int .i64 ((an : Int) + bn)) (.int .i64 ((ae : Int) + be)) (.int .i64 (k : Int)) (.string ah) (.string bl) _ _ _ _ _ hz3.1.1 hz3.1.2.1 hz3.1.2.2.1 hz3.1.2.2.2.1 hz3.1.2.2.2.2
    clear hS3 hz3
    go_wp2
    refine bodyPost_ret (v := .agg #[.int .i64 ((an : Int) + bn), .int .i64 ((ae : Int) + be), .int .i64 (k : Nat), .string ah, .string bl]) (by simp [results, Tryd.results65, go_sem, hf]) rfl ⟨by simp, ?_⟩
    have z1 : N ≤ W.heap.size := by have := HZ.out; omega
    have z2 : N ≤ wc.heap.size := by have := Below.size HU3.out; omega
    have h1 : Below N w w3 := (HU.out.trans (Below.mono HU3.out z1)).trans (Below.mono HU4.out z2)
    unfold Up
    rw [HN.out]
    exact ((((h1.setCell (p := ⟨N + 1 + 1, 0, none⟩) (by show N ≤ N + 1 + 1; omega) _).setCell (p := ⟨N + 1 + 1, 1, none⟩) (by show N ≤ N + 1 + 1; omega) _).setCell (p := ⟨N + 1 + 1, 2, none⟩) (by show N ≤ N + 1 + 1; omega) _).setCell (p := ⟨N + 1 + 1, 3, none⟩) (by show N ≤ N + 1 + 1; omega) _).setCell (p := ⟨N + 1 + 1, 4, none⟩) (by show N ≤ N + 1 + 1; omega) _
end Go.Proofs.YtfcpieodgflmnaaDoor

namespace Go.Proofs.YtfcpieodgflmnaaDoor
open Go.RowKit

theorem countByte_nl (s : ByteArray) : Lib.countByte s.data.toList 10 = nl s := rfl

def CntZ (N : Nat) (w : World) : Prop := (w.cell? ⟨N, 0, none⟩ = some (.int .i64 0) ∧ w.cell? ⟨N, 1, none⟩ = some (.int .i64 0) ∧ w.cell? ⟨N, 2, none⟩ = some (.int .i64 0) ∧ w.cell? ⟨N, 3, none⟩ = some (.string ⟨#[]⟩) ∧ w.cell? ⟨N, 4, none⟩ = some (.string ⟨#[]⟩)) ∧ (w.frozen? ⟨N, 0, none⟩ = false ∧ w.frozen? ⟨N, 1, none⟩ = false ∧ w.frozen? ⟨N, 2, none⟩ = false ∧ w.frozen? ⟨N, 3, none⟩ = false ∧ w.frozen? ⟨N, 4, none⟩ = false)
theorem CntZ.up {N : Nat} {W w1 : World} (h : CntZ N W) (hu : Up W w1) : CntZ N w1 := by
  obtain ⟨⟨h11, h12, h13, h14, h15⟩, ⟨f1, f2, f3, f4, f5⟩⟩ := h
  exact ⟨⟨cell_up hu h11, cell_up hu h12, cell_up hu h13, cell_up hu h14, cell_up hu h15⟩, ⟨frozen_up hu h11 f1, frozen_up hu h12 f2, frozen_up hu h13 f3, frozen_up hu h14 f4, frozen_up hu h15 f5⟩⟩
theorem CntZ.new (w : World) : CntZ w.heap.size (w.alloc (.cells #[.int .i64 0, .int .i64 0, .int .i64 0, .string ⟨#[]⟩, .string ⟨#[]⟩] 89)) :=
  ⟨⟨cellOf (Go.heap_alloc_new _ _) rfl, cellOf (Go.heap_alloc_new _ _) rfl, cellOf (Go.heap_alloc_new _ _) rfl, cellOf (Go.heap_alloc_new _ _) rfl, cellOf (Go.heap_alloc_new _ _) rfl⟩,
   ⟨frozenOf (Go.heap_alloc_new _ _), frozenOf (Go.heap_alloc_new _ _), frozenOf (Go.heap_alloc_new _ _), frozenOf (Go.heap_alloc_new _ _), frozenOf (Go.heap_alloc_new _ _)⟩⟩
theorem tabs_set {w : World} {N i : Nat} {x : Value} (hN : 2 + 1 ≤ N) (h : Tabs w) : Tabs (w.setCell ⟨N, i, none⟩ x) :=
  h.of_below hN ((Below.refl N w).setCell (p := ⟨N, i, none⟩) (Nat.le_refl _) x)

set_option maxRecDepth 100000 in
set_option maxHeartbeats 1000000 in
theorem count_walk (s : ByteArray) (w : World) (h1 : (s.size : Int) ≤ 1048576) (hT : Tabs w) :
    Calls Tryd.prog 57 #[.string s] w fun e w' => e = .returned (cv s) ∧ Up w w' := by
  have hA : s.size ≤ maxLen := by unfold maxLen; omega
  have CA := Lib.hid (fun w ht => count_any s hA w ht)
  have CB := Lib.hid (fun w => Tryd.strings_Count_one s 10 w)
  have hnl := countByte_nl s
  rw [hnl] at CB
  obtain ⟨m, hm⟩ : ∃ m : Nat, min 3 s.size = m := ⟨_, rfl⟩
  have hm' : min 3 (s.size : Int) = (m : Int) := by omega
  have b1 : (0 : Int) ≤ (m : Int) := by omega
  have b2 : (m : Int) ≤ s.size := by omega
  have b3 : (0 : Int) ≤ ((s.size - m : Nat) : Int) := by omega
  have b4 : ((s.size - m : Nat) : Int) ≤ s.size := by omega
  have e1 : IntKind.i64.wrap ((s.size : Int) - m) = ((s.size - m : Nat) : Int) := (IntWalk.i64_in _ (by omega)).trans (by omega)
  have HM := Lib.hid hm
  have HB : Hid (2 + 1 ≤ w.heap.size) := Lib.hid (by have := hT.big; omega)
  obtain ⟨k, hk⟩ : ∃ k, countS s = k := ⟨_, rfl⟩
  obtain ⟨n, hn⟩ : ∃ n, nl s = n := ⟨_, rfl⟩
  rw [hk] at CA
  rw [hn] at CB
  have HK := Lib.hid hk
  have HN := Lib.hid hn
  have HTa := Lib.hid (hT.up (Up.alloc w (.cells #[.int .i64 0, .int .i64 0, .int .i64 0, .string ⟨#[]⟩, .string ⟨#[]⟩] 89)))
  have HZ := Lib.hid (CntZ.new w)
  clear hA hnl hm hk hn h1 hT
  go_enter Tryd.func57, Tryd.ntmps57
  go_upto_region 2 with fail
  clear hm'
  obtain ⟨N, hN⟩ : ∃ N, w.heap.size = N := ⟨_, rfl⟩
  obtain ⟨W, hW⟩ : ∃ W, w.alloc (.cells #[.int .i64 0, .int .i64 0, .int .i64 0, .string ⟨#[]⟩, .string ⟨#[]⟩] 89) = W := ⟨_, rfl⟩
  have HU : Hid (Up w W) := Lib.hid (by rw [← hW]; exact Up.alloc _ _)
  simp only [hW, hN] at HZ HTa HB
  simp only [hW, hN]
  have HNN := Lib.hid hN
  have HWW := Lib.hid hW
  clear hN hW
  go_region_held3 (fun w' => Tabs w' ∧ True)
    (first | with_reducible exact ⟨HTa.out.up ((Up.drew _).trans hu1), True.intro⟩ | with_reducible exact ⟨HTa.out.up (Up.drew _), True.intro⟩ | with_reducible exact ⟨tabs_set HB.out (tabs_set HB.out (tabs_set HB.out (tabs_set HB.out (tabs_set HB.out (HTa.out.up ((Up.drew _).trans hu1)))))), True.intro⟩)
    (first | (go_at_call 45; ((with_reducible refine (CA.out _ ?_).mono ?_); (exact (by assumption : Tabs _ ∧ True).1); rintro e w1 ⟨rfl, hu1⟩; have hz3 := CntZ.up HZ.out ((Up.drew _).trans hu1); unfold CntZ at hz3)) | (go_at_call 67; ((with_reducible refine (CB.out _).mono ?_); rintro e w2 ⟨rfl, rfl⟩)))
  all_goals
    have HU1 := Lib.hid (HU.out.trans ((Up.drew _).trans hu1))
    have hf := set5 w1 N (.int .i64 (s.size : Nat)) (.int .i64 (n : Nat)) (.int .i64 (k : Nat)) (.string (s.extract 0 m)) (.string (s.extract (s.size - m) s.size)) _ _ _ _ _ hz3.1.1 hz3.1.2.1 hz3.1.2.2.1 hz3.1.2.2.2.1 hz3.1.2.2.2.2
    clear hz3
    go_wp2
    refine bodyPost_ret (v := .agg #[.int .i64 (s.size : Nat), .int .i64 (n : Nat), .int .i64 (k : Nat), .string (s.extract 0 m), .string (s.extract (s.size - m) s.size)]) (by simp [results, Tryd.results57, go_sem, hf]) rfl ⟨?_, ?_⟩
    · unfold cv hd tl; rw [HK.out, HN.out, HM.out]
    · have h1 := HU1.out
      unfold Up at h1 ⊢
      rw [HNN.out] at h1 ⊢
      exact ((((h1.setCell (p := ⟨N, 0, none⟩) (Nat.le_refl _) _).setCell (p := ⟨N, 1, none⟩) (Nat.le_refl _) _).setCell (p := ⟨N, 2, none⟩) (Nat.le_refl _) _).setCell (p := ⟨N, 3, none⟩) (Nat.le_refl _) _).setCell (p := ⟨N, 4, none⟩) (Nat.le_refl _) _

set_option maxRecDepth 100000 in
set_option maxHeartbeats 400000 in
theorem clone_any (s : ByteArray) (w : World) (h1 : (s.size : Int) ≤ 1048576) :
    Calls Tryd.prog 56 #[.string s] w fun e w' => e = .returned (.string s) ∧ Up w w' := by
  have H := Lib.hid (fun w => Tryd.stringslite_Clone s w (by omega))
  go_enter Tryd.func56, Tryd.ntmps56
  go_wp2_with (go_at_call 66; refine (H.out _).mono ?_; rintro e w1 ⟨rfl, hu1⟩)
  go_ret
  exact ⟨rfl, hu1⟩

/-- A new tree, at a pointer that is returned; what lay before is as it was. -/
def NewT (t : T) (w : World) (e : Ending) (w' : World) : Prop := ∃ b, e = .returned (.pointer (some ⟨b, 0, none⟩)) ∧ Node w' t b ∧ Up w w'

set_option maxRecDepth 100000 in
set_option maxHeartbeats 400000 in
theorem leaf_any (s : ByteArray) (w : World) (h1 : (s.size : Int) ≤ 1048576) (hT : Tabs w) :
    Calls Tryd.prog 36 #[.string s] w (NewT (.leaf s) w) := by
  have HL := Lib.hid (fun w => clone_any s w h1)
  have hct := fun w ht => count_walk s w h1 ht
  unfold cv at hct
  have HC := Lib.hid hct
  clear hct
  go_enter Tryd.func36, Tryd.ntmps36
  go_wp2_with (first | (go_at_call 56; refine (HL.out _).mono ?_; rintro e w1 ⟨rfl, hu1⟩; have ht1 := hT.up hu1) | (go_at_call 57; refine (HC.out _ ht1).mono ?_; rintro e w2 ⟨rfl, hu2⟩))
  go_ret
  exact ⟨w2.heap.size, rfl, ⟨by simp, Go.heap_alloc_new _ _⟩, (hu1.trans hu2).trans (Up.alloc _ _)⟩
end Go.Proofs.YtfcpieodgflmnaaDoor

namespace Go.Proofs.YtfcpieodgflmnaaDoor

theorem T.text_node (l r : T) : (T.node l r).text = l.text ++ r.text := rfl
theorem T.dp_node (l r : T) : (T.node l r).dp = 1 + max l.dp r.dp := rfl
theorem big_node {l r : T} (hl : Big l) (hr : Big r) (h1 : l.dp ≤ r.dp + 1) (h2 : r.dp ≤ l.dp + 1) : Big (.node l r) := ⟨hl, hr, h1, h2⟩

/-- What level makes of two whose depths differ by two at most. -/
def lev (a b : T) : T :=
    if b.dp + 1 < a.dp then
      match a with
      | .node al ar => if al.dp < ar.dp then (match ar with | .node arl arr => .node (.node al arl) (.node arr b) | .leaf s => .node al (.node (.leaf s) b)) else .node al (.node ar b)
      | .leaf s => .node (.leaf s) b
    else if a.dp + 1 < b.dp then
      match b with
      | .node bl br => if br.dp < bl.dp then (match bl with | .node bll blr => .node (.node a bll) (.node blr br) | .leaf s => .node (.node a (.leaf s)) br) else .node (.node a bl) br
      | .leaf s => .node a (.leaf s)
    else .node a b

theorem lev_left {al ar b : T} (h : b.dp + 1 < (T.node al ar).dp) (h2 : ¬ al.dp < ar.dp) : lev (.node al ar) b = .node al (.node ar b) := by
  unfold lev; rw [if_pos h]; simp only; rw [if_neg h2]
theorem lev_left2 {al arl arr b : T} (h : b.dp + 1 < (T.node al (.node arl arr)).dp) (h2 : al.dp < (T.node arl arr).dp) : lev (.node al (.node arl arr)) b = .node (.node al arl) (.node arr b) := by
  unfold lev; rw [if_pos h]; simp only; rw [if_pos h2]
theorem lev_right {a bl br : T} (h0 : ¬ (T.node bl br).dp + 1 < a.dp) (h : a.dp + 1 < (T.node bl br).dp) (h2 : ¬ br.dp < bl.dp) : lev a (.node bl br) = .node (.node a bl) br := by
  unfold lev; rw [if_neg h0, if_pos h]; simp only; rw [if_neg h2]
theorem lev_right2 {a bll blr br : T} (h0 : ¬ (T.node (.node bll blr) br).dp + 1 < a.dp) (h : a.dp + 1 < (T.node (.node bll blr) br).dp) (h2 : br.dp < (T.node bll blr).dp) : lev a (.node (.node bll blr) br) = .node (.node a bll) (.node blr br) := by
  unfold lev; rw [if_neg h0, if_pos h]; simp only; rw [if_pos h2]
theorem lev_mid {a b : T} (h0 : ¬ b.dp + 1 < a.dp) (h : ¬ a.dp + 1 < b.dp) : lev a b = .node a b := by
  unfold lev; rw [if_neg h0, if_neg h]

/-- A tree whose depth is above another's is no leaf. -/
theorem not_leaf {t : T} (h : 1 < t.dp) : ∃ l r, t = .node l r := by
  cases t with
  | leaf s => simp [T.dp] at h
  | node l r => exact ⟨l, r, rfl⟩

theorem lev_spec {a b : T} (ha : Big a) (hb : Big b) (h1 : a.dp ≤ b.dp + 2) (h2 : b.dp ≤ a.dp + 2) :
    Big (lev a b) ∧ (lev a b).text = a.text ++ b.text ∧ (max a.dp b.dp ≤ (lev a b).dp ∧ (lev a b).dp ≤ max a.dp b.dp + 1) ∧ (a.dp ≤ b.dp + 1 → b.dp ≤ a.dp + 1 → (lev a b).dp = max a.dp b.dp + 1) := by
  have pa := a.dp_pos
  have pb := b.dp_pos
  by_cases c1 : b.dp + 1 < a.dp
  · obtain ⟨al, ar, rfl⟩ := not_leaf (t := a) (by omega)
    obtain ⟨hal, har, d1, d2⟩ := ha
    have pal := al.dp_pos
    by_cases c2 : al.dp < ar.dp
    · obtain ⟨arl, arr, rfl⟩ := not_leaf (t := ar) (by omega)
      obtain ⟨harl, harr, d3, d4⟩ := har
      rw [lev_left2 c1 c2]
      simp only [T.dp_node] at *
      refine ⟨big_node (big_node hal harl (by omega) (by omega)) (big_node harr hb (by omega) (by omega)) (by simp only [T.dp_node]; omega) (by simp only [T.dp_node]; omega), ?_, by omega, by omega⟩
      simp only [T.text_node, ByteArray.append_assoc]
    · rw [lev_left c1 c2]
      simp only [T.dp_node] at *
      refine ⟨big_node hal (big_node har hb (by omega) (by omega)) (by simp only [T.dp_node]; omega) (by simp only [T.dp_node]; omega), ?_, by omega, by omega⟩
      simp only [T.text_node, ByteArray.append_assoc]
  · by_cases c3 : a.dp + 1 < b.dp
    · obtain ⟨bl, br, rfl⟩ := not_leaf (t := b) (by omega)
      obtain ⟨hbl, hbr, d1, d2⟩ := hb
      have pbr := br.dp_pos
      by_cases c2 : br.dp < bl.dp
      · obtain ⟨bll, blr, rfl⟩ := not_leaf (t := bl) (by omega)
        obtain ⟨hbll, hblr, d3, d4⟩ := hbl
        rw [lev_right2 c1 c3 c2]
        simp only [T.dp_node] at *
        refine ⟨big_node (big_node ha hbll (by omega) (by omega)) (big_node hblr hbr (by omega) (by omega)) (by simp only [T.dp_node]; omega) (by simp only [T.dp_node]; omega), ?_, by omega, by omega⟩
        simp only [T.text_node, ByteArray.append_assoc]
      · rw [lev_right c1 c3 c2]
        simp only [T.dp_node] at *
        refine ⟨big_node (big_node ha hbl (by omega) (by omega)) hbr (by simp only [T.dp_node]; omega) (by simp only [T.dp_node]; omega), ?_, by omega, by omega⟩
        simp only [T.text_node, ByteArray.append_assoc]
    · rw [lev_mid c1 c3]
      simp only [T.dp_node]
      exact ⟨big_node ha hb (by omega) (by omega), T.text_node _ _, by omega, fun _ _ => by omega⟩

/-- How many leaves a tree of a depth has at least. -/
theorem leaves_dp {t : T} (h : Big t) : 256 * 2 ^ (t.dp / 2) ≤ t.text.size := by
  suffices H : ∀ n t, t.dp = n → Big t → 256 * 2 ^ (n / 2) ≤ t.text.size from H _ t rfl h
  intro n
  induction n using Nat.strongRecOn with
  | ind n ih =>
    intro t hn hb
    cases t with
    | leaf s =>
      subst hn
      have := hb.1
      simpa [T.dp, T.text] using this
    | node l r =>
      obtain ⟨hl, hr, d1, d2⟩ := hb
      have pl := l.dp_pos
      have pr := r.dp_pos
      rw [T.dp_node] at hn
      have e1 := ih l.dp (by omega) l rfl hl
      have e2 := ih r.dp (by omega) r rfl hr
      rw [T.text_node, ByteArray.size_append]
      have m1 : 2 ^ ((n - 2) / 2) ≤ 2 ^ (l.dp / 2) := Nat.pow_le_pow_right (by omega) (by omega)
      have m2 : 2 ^ ((n - 2) / 2) ≤ 2 ^ (r.dp / 2) := Nat.pow_le_pow_right (by omega) (by omega)
      have m3 : 2 ^ (n / 2) = 2 * 2 ^ ((n - 2) / 2) := by rw [show n / 2 = (n - 2) / 2 + 1 from by omega, Nat.pow_succ]; omega
      omega
end Go.Proofs.YtfcpieodgflmnaaDoor

namespace Go.Proofs.YtfcpieodgflmnaaDoor
open Go.RowKit

/-- with, at what is counted of two texts that have their rims. -/
theorem with_any (a b : ByteArray) (w : World) (ha : 3 ≤ a.size) (hb : 3 ≤ b.size) (hs : (a.size : Int) + b.size ≤ 1048576) (hT : Tabs w) :
    Calls Tryd.prog 65 #[cv a, cv b] w fun e w' => e = .returned (cv (a ++ b)) ∧ Up w w' := by
  have n1 := nl_le a
  have n2 := nl_le b
  have c1 := countS_le a
  have c2 := countS_le b
  have hk : countS (a ++ b) + (countS (tl a) + countS (hd b)) = countS a + countS b + countS (tl a ++ hd b) := seam ha hb
  have t1 := tl_size a
  have t2 := hd_size b
  have h := with_walk a.size (nl a) (countS a) b.size (nl b) (countS b) (countS (a ++ b)) (hd a) (tl a) (hd b) (tl b) w (by omega) (by omega) (by omega) (by omega) (by omega) (by omega) (by omega) (by omega) hk hT
  refine h.mono ?_
  rintro e w' ⟨rfl, hu⟩
  refine ⟨?_, hu⟩
  unfold cv
  rw [nl_append, hd_append ha, tl_append hb, ByteArray.size_append]

theorem pairS_keep {b1 b2 : Nat} {W w1 : World} {an ae ast ad bn be bst bd : Nat} {ah al bh bl : ByteArray} (hu : Up W w1) (h : (W.cell? ⟨b1, 0, none⟩ = some (.int .i64 (an : Nat)) ∧ W.cell? ⟨b1, 1, none⟩ = some (.int .i64 (ae : Nat)) ∧ W.cell? ⟨b1, 2, none⟩ = some (.int .i64 (ast : Nat)) ∧ W.cell? ⟨b1, 3, none⟩ = some (.string ah) ∧ W.cell? ⟨b1, 4, none⟩ = some (.string al) ∧ W.cell? ⟨b1, 5, none⟩ = some (.int .i64 (ad : Nat))) ∧ (W.cell? ⟨b2, 0, none⟩ = some (.int .i64 (bn : Nat)) ∧ W.cell? ⟨b2, 1, none⟩ = some (.int .i64 (be : Nat)) ∧ W.cell? ⟨b2, 2, none⟩ = some (.int .i64 (bst : Nat)) ∧ W.cell? ⟨b2, 3, none⟩ = some (.string bh) ∧ W.cell? ⟨b2, 4, none⟩ = some (.string bl) ∧ W.cell? ⟨b2, 5, none⟩ = some (.int .i64 (bd : Nat))) ∧ Tabs W) : (w1.cell? ⟨b1, 0, none⟩ = some (.int .i64 (an : Nat)) ∧ w1.cell? ⟨b1, 1, none⟩ = some (.int .i64 (ae : Nat)) ∧ w1.cell? ⟨b1, 2, none⟩ = some (.int .i64 (ast : Nat)) ∧ w1.cell? ⟨b1, 3, none⟩ = some (.string ah) ∧ w1.cell? ⟨b1, 4, none⟩ = some (.string al) ∧ w1.cell? ⟨b1, 5, none⟩ = some (.int .i64 (ad : Nat))) ∧ (w1.cell? ⟨b2, 0, none⟩ = some (.int .i64 (bn : Nat)) ∧ w1.cell? ⟨b2, 1, none⟩ = some (.int .i64 (be : Nat)) ∧ w1.cell? ⟨b2, 2, none⟩ = some (.int .i64 (bst : Nat)) ∧ w1.cell? ⟨b2, 3, none⟩ = some (.string bh) ∧ w1.cell? ⟨b2, 4, none⟩ = some (.string bl) ∧ w1.cell? ⟨b2, 5, none⟩ = some (.int .i64 (bd : Nat))) ∧ Tabs w1 := by
  obtain ⟨⟨h1, h2, h3, h4, h5, h6⟩, ⟨h7, h8, h9, h10, h11, h12⟩, hT⟩ := h
  exact ⟨⟨cell_up hu h1, cell_up hu h2, cell_up hu h3, cell_up hu h4, cell_up hu h5, cell_up hu h6⟩, ⟨cell_up hu h7, cell_up hu h8, cell_up hu h9, cell_up hu h10, cell_up hu h11, cell_up hu h12⟩, hT.up hu⟩

set_option maxRecDepth 100000 in
set_option maxHeartbeats 2000000 in
theorem pair_walk (b1 b2 an ae ast ad bn be bst bd cn ce cst : Nat) (ah al bh bl ch cl : ByteArray) (w : World) (h1 : (ad : Int) ≤ 1048576) (h2 : (bd : Int) ≤ 1048576)
    (hS : (w.cell? ⟨b1, 0, none⟩ = some (.int .i64 (an : Nat)) ∧ w.cell? ⟨b1, 1, none⟩ = some (.int .i64 (ae : Nat)) ∧ w.cell? ⟨b1, 2, none⟩ = some (.int .i64 (ast : Nat)) ∧ w.cell? ⟨b1, 3, none⟩ = some (.string ah) ∧ w.cell? ⟨b1, 4, none⟩ = some (.string al) ∧ w.cell? ⟨b1, 5, none⟩ = some (.int .i64 (ad : Nat))) ∧ (w.cell? ⟨b2, 0, none⟩ = some (.int .i64 (bn : Nat)) ∧ w.cell? ⟨b2, 1, none⟩ = some (.int .i64 (be : Nat)) ∧ w.cell? ⟨b2, 2, none⟩ = some (.int .i64 (bst : Nat)) ∧ w.cell? ⟨b2, 3, none⟩ = some (.string bh) ∧ w.cell? ⟨b2, 4, none⟩ = some (.string bl) ∧ w.cell? ⟨b2, 5, none⟩ = some (.int .i64 (bd : Nat))) ∧ Tabs w)
    (hc : ∀ w, Tabs w → Calls Tryd.prog 65 #[.agg #[.int .i64 (an : Nat), .int .i64 (ae : Nat), .int .i64 (ast : Nat), .string ah, .string al], .agg #[.int .i64 (bn : Nat), .int .i64 (be : Nat), .int .i64 (bst : Nat), .string bh, .string bl]] w fun e w' => e = .returned (.agg #[.int .i64 (cn : Nat), .int .i64 (ce : Nat), .int .i64 (cst : Nat), .string ch, .string cl]) ∧ Up w w') :
    Calls Tryd.prog 54 #[.pointer (some ⟨b1, 0, none⟩), .pointer (some ⟨b2, 0, none⟩)] w fun e w' => ∃ w1, e = .returned (.pointer (some ⟨w1.heap.size, 0, none⟩)) ∧ Up w w1 ∧
      w' = w1.alloc (.cells #[.int .i64 (cn : Nat), .int .i64 (ce : Nat), .int .i64 (cst : Nat), .string ch, .string cl, .int .i64 (1 + max ad bd : Nat), .pointer (some ⟨b1, 0, none⟩), .pointer (some ⟨b2, 0, none⟩), .string ⟨#[]⟩] 92) := by
  have HC := Lib.hid hc
  have e0 : max (ad : Int) (bd : Int) = ((max ad bd : Nat) : Int) := by omega
  have e1 : IntKind.i64.wrap (1 + ((max ad bd : Nat) : Int)) = ((1 + max ad bd : Nat) : Int) := (IntWalk.i64_in _ (by omega)).trans (by omega)
  clear hc h1 h2
  go_enter Tryd.func54, Tryd.ntmps54
  go_wp2_with fail
  go_region_held3 (fun w' => (w'.cell? ⟨b1, 0, none⟩ = some (.int .i64 (an : Nat)) ∧ w'.cell? ⟨b1, 1, none⟩ = some (.int .i64 (ae : Nat)) ∧ w'.cell? ⟨b1, 2, none⟩ = some (.int .i64 (ast : Nat)) ∧ w'.cell? ⟨b1, 3, none⟩ = some (.string ah) ∧ w'.cell? ⟨b1, 4, none⟩ = some (.string al) ∧ w'.cell? ⟨b1, 5, none⟩ = some (.int .i64 (ad : Nat))) ∧ (w'.cell? ⟨b2, 0, none⟩ = some (.int .i64 (bn : Nat)) ∧ w'.cell? ⟨b2, 1, none⟩ = some (.int .i64 (be : Nat)) ∧ w'.cell? ⟨b2, 2, none⟩ = some (.int .i64 (bst : Nat)) ∧ w'.cell? ⟨b2, 3, none⟩ = some (.string bh) ∧ w'.cell? ⟨b2, 4, none⟩ = some (.string bl) ∧ w'.cell? ⟨b2, 5, none⟩ = some (.int .i64 (bd : Nat))) ∧ Tabs w')
    (first | assumption | with_reducible exact pairS_keep hu1 (by assumption) | with_reducible exact pairS_keep (Up.drew _) (by assumption) | with_reducible exact pairS_keep (Up.alloc _ _) (by assumption))
    (first | (go_at_call 65; ((with_reducible refine (HC.out _ ?_).mono ?_); (exact (by assumption : _ ∧ _ ∧ Tabs _).2.2); rintro e w1 ⟨rfl, hu1⟩)))
  all_goals
    have HU := Lib.hid ((Up.drew _).trans hu1)
    clear hS hu1
    go_wp2
    go_ret
    exact ⟨w1, rfl, HU.out, rfl⟩

/-- Two trees that have their rims, paired. -/
theorem pair_any (ta tb : T) (b1 b2 : Nat) (w : World) (n1 : Node w ta b1) (n2 : Node w tb b2) (s1 : 3 ≤ ta.text.size) (s2 : 3 ≤ tb.text.size) (hs : (ta.text.size : Int) + tb.text.size ≤ 1048576) (d1 : (ta.dp : Int) ≤ 1048576) (d2 : (tb.dp : Int) ≤ 1048576) (hT : Tabs w) :
    Calls Tryd.prog 54 #[.pointer (some ⟨b1, 0, none⟩), .pointer (some ⟨b2, 0, none⟩)] w (NewT (.node ta tb) w) := by
  obtain ⟨l1, r1, c1⟩ := node_cell n1
  obtain ⟨l2, r2, c2⟩ := node_cell n2
  refine (pair_walk b1 b2 ta.text.size (nl ta.text) (countS ta.text) ta.dp tb.text.size (nl tb.text) (countS tb.text) tb.dp (ta.text ++ tb.text).size (nl (ta.text ++ tb.text)) (countS (ta.text ++ tb.text)) (hd ta.text) (tl ta.text) (hd tb.text) (tl tb.text) (hd (ta.text ++ tb.text)) (tl (ta.text ++ tb.text)) w d1 d2 ?_ (fun w ht => with_any ta.text tb.text w s1 s2 hs ht)).mono ?_
  · exact ⟨⟨cellOf c1 rfl, cellOf c1 rfl, cellOf c1 rfl, cellOf c1 rfl, cellOf c1 rfl, cellOf c1 rfl⟩, ⟨cellOf c2 rfl, cellOf c2 rfl, cellOf c2 rfl, cellOf c2 rfl, cellOf c2 rfl, cellOf c2 rfl⟩, hT⟩
  · rintro e w' ⟨w1, rfl, hu, rfl⟩
    have hu2 := Up.alloc w1 (.cells (ncells (ta.text ++ tb.text) (1 + max ta.dp tb.dp) (.pointer (some ⟨b1, 0, none⟩)) (.pointer (some ⟨b2, 0, none⟩)) ⟨#[]⟩) 92)
    exact ⟨w1.heap.size, rfl, ⟨by simp, b1, b2, Go.heap_alloc_new _ _, n1.up (hu.trans hu2), n2.up (hu.trans hu2)⟩, hu.trans hu2⟩

end Go.Proofs.YtfcpieodgflmnaaDoor

namespace Go.Proofs.YtfcpieodgflmnaaDoor
open Go.RowKit

theorem keep0 {w0 W w1 : World} (hu : Up W w1) (h : Up w0 W ∧ Tabs W) : Up w0 w1 ∧ Tabs w1 := ⟨h.1.trans hu, h.2.up hu⟩
theorem keep1 {w0 W w1 : World} {b1 o1 : Nat} {v1 : Value} (hu : Up W w1) (h : Up w0 W ∧ Tabs W ∧ W.cell? ⟨b1, o1, none⟩ = some v1) : Up w0 w1 ∧ Tabs w1 ∧ w1.cell? ⟨b1, o1, none⟩ = some v1 := by
  obtain ⟨h0, hT, h1⟩ := h
  exact ⟨h0.trans hu, hT.up hu, cell_up hu h1⟩
theorem keep2 {w0 W w1 : World} {b1 o1 b2 o2 : Nat} {v1 v2 : Value} (hu : Up W w1) (h : Up w0 W ∧ Tabs W ∧ W.cell? ⟨b1, o1, none⟩ = some v1 ∧ W.cell? ⟨b2, o2, none⟩ = some v2) : Up w0 w1 ∧ Tabs w1 ∧ w1.cell? ⟨b1, o1, none⟩ = some v1 ∧ w1.cell? ⟨b2, o2, none⟩ = some v2 := by
  obtain ⟨h0, hT, h1, h2⟩ := h
  exact ⟨h0.trans hu, hT.up hu, cell_up hu h1, cell_up hu h2⟩
theorem keep3 {w0 W w1 : World} {b1 o1 b2 o2 b3 o3 : Nat} {v1 v2 v3 : Value} (hu : Up W w1) (h : Up w0 W ∧ Tabs W ∧ W.cell? ⟨b1, o1, none⟩ = some v1 ∧ W.cell? ⟨b2, o2, none⟩ = some v2 ∧ W.cell? ⟨b3, o3, none⟩ = some v3) : Up w0 w1 ∧ Tabs w1 ∧ w1.cell? ⟨b1, o1, none⟩ = some v1 ∧ w1.cell? ⟨b2, o2, none⟩ = some v2 ∧ w1.cell? ⟨b3, o3, none⟩ = some v3 := by
  obtain ⟨h0, hT, h1, h2, h3⟩ := h
  exact ⟨h0.trans hu, hT.up hu, cell_up hu h1, cell_up hu h2, cell_up hu h3⟩
theorem keep4 {w0 W w1 : World} {b1 o1 b2 o2 b3 o3 b4 o4 : Nat} {v1 v2 v3 v4 : Value} (hu : Up W w1) (h : Up w0 W ∧ Tabs W ∧ W.cell? ⟨b1, o1, none⟩ = some v1 ∧ W.cell? ⟨b2, o2, none⟩ = some v2 ∧ W.cell? ⟨b3, o3, none⟩ = some v3 ∧ W.cell? ⟨b4, o4, none⟩ = some v4) : Up w0 w1 ∧ Tabs w1 ∧ w1.cell? ⟨b1, o1, none⟩ = some v1 ∧ w1.cell? ⟨b2, o2, none⟩ = some v2 ∧ w1.cell? ⟨b3, o3, none⟩ = some v3 ∧ w1.cell? ⟨b4, o4, none⟩ = some v4 := by
  obtain ⟨h0, hT, h1, h2, h3, h4⟩ := h
  exact ⟨h0.trans hu, hT.up hu, cell_up hu h1, cell_up hu h2, cell_up hu h3, cell_up hu h4⟩
theorem keep5 {w0 W w1 : World} {b1 o1 b2 o2 b3 o3 b4 o4 b5 o5 : Nat} {v1 v2 v3 v4 v5 : Value} (hu : Up W w1) (h : Up w0 W ∧ Tabs W ∧ W.cell? ⟨b1, o1, none⟩ = some v1 ∧ W.cell? ⟨b2, o2, none⟩ = some v2 ∧ W.cell? ⟨b3, o3, none⟩ = some v3 ∧ W.cell? ⟨b4, o4, none⟩ = some v4 ∧ W.cell? ⟨b5, o5, none⟩ = some v5) : Up w0 w1 ∧ Tabs w1 ∧ w1.cell? ⟨b1, o1, none⟩ = some v1 ∧ w1.cell? ⟨b2, o2, none⟩ = some v2 ∧ w1.cell? ⟨b3, o3, none⟩ = some v3 ∧ w1.cell? ⟨b4, o4, none⟩ = some v4 ∧ w1.cell? ⟨b5, o5, none⟩ = some v5 := by
  obtain ⟨h0, hT, h1, h2, h3, h4, h5⟩ := h
  exact ⟨h0.trans hu, hT.up hu, cell_up hu h1, cell_up hu h2, cell_up hu h3, cell_up hu h4, cell_up hu h5⟩
theorem keep6 {w0 W w1 : World} {b1 o1 b2 o2 b3 o3 b4 o4 b5 o5 b6 o6 : Nat} {v1 v2 v3 v4 v5 v6 : Value} (hu : Up W w1) (h : Up w0 W ∧ Tabs W ∧ W.cell? ⟨b1, o1, none⟩ = some v1 ∧ W.cell? ⟨b2, o2, none⟩ = some v2 ∧ W.cell? ⟨b3, o3, none⟩ = some v3 ∧ W.cell? ⟨b4, o4, none⟩ = some v4 ∧ W.cell? ⟨b5, o5, none⟩ = some v5 ∧ W.cell? ⟨b6, o6, none⟩ = some v6) : Up w0 w1 ∧ Tabs w1 ∧ w1.cell? ⟨b1, o1, none⟩ = some v1 ∧ w1.cell? ⟨b2, o2, none⟩ = some v2 ∧ w1.cell? ⟨b3, o3, none⟩ = some v3 ∧ w1.cell? ⟨b4, o4, none⟩ = some v4 ∧ w1.cell? ⟨b5, o5, none⟩ = some v5 ∧ w1.cell? ⟨b6, o6, none⟩ = some v6 := by
  obtain ⟨h0, hT, h1, h2, h3, h4, h5, h6⟩ := h
  exact ⟨h0.trans hu, hT.up hu, cell_up hu h1, cell_up hu h2, cell_up hu h3, cell_up hu h4, cell_up hu h5, cell_up hu h6⟩
theorem keep7 {w0 W w1 : World} {b1 o1 b2 o2 b3 o3 b4 o4 b5 o5 b6 o6 b7 o7 : Nat} {v1 v2 v3 v4 v5 v6 v7 : Value} (hu : Up W w1) (h : Up w0 W ∧ Tabs W ∧ W.cell? ⟨b1, o1, none⟩ = some v1 ∧ W.cell? ⟨b2, o2, none⟩ = some v2 ∧ W.cell? ⟨b3, o3, none⟩ = some v3 ∧ W.cell? ⟨b4, o4, none⟩ = some v4 ∧ W.cell? ⟨b5, o5, none⟩ = some v5 ∧ W.cell? ⟨b6, o6, none⟩ = some v6 ∧ W.cell? ⟨b7, o7, none⟩ = some v7) : Up w0 w1 ∧ Tabs w1 ∧ w1.cell? ⟨b1, o1, none⟩ = some v1 ∧ w1.cell? ⟨b2, o2, none⟩ = some v2 ∧ w1.cell? ⟨b3, o3, none⟩ = some v3 ∧ w1.cell? ⟨b4, o4, none⟩ = some v4 ∧ w1.cell? ⟨b5, o5, none⟩ = some v5 ∧ w1.cell? ⟨b6, o6, none⟩ = some v6 ∧ w1.cell? ⟨b7, o7, none⟩ = some v7 := by
  obtain ⟨h0, hT, h1, h2, h3, h4, h5, h6, h7⟩ := h
  exact ⟨h0.trans hu, hT.up hu, cell_up hu h1, cell_up hu h2, cell_up hu h3, cell_up hu h4, cell_up hu h5, cell_up hu h6, cell_up hu h7⟩
theorem keep8 {w0 W w1 : World} {b1 o1 b2 o2 b3 o3 b4 o4 b5 o5 b6 o6 b7 o7 b8 o8 : Nat} {v1 v2 v3 v4 v5 v6 v7 v8 : Value} (hu : Up W w1) (h : Up w0 W ∧ Tabs W ∧ W.cell? ⟨b1, o1, none⟩ = some v1 ∧ W.cell? ⟨b2, o2, none⟩ = some v2 ∧ W.cell? ⟨b3, o3, none⟩ = some v3 ∧ W.cell? ⟨b4, o4, none⟩ = some v4 ∧ W.cell? ⟨b5, o5, none⟩ = some v5 ∧ W.cell? ⟨b6, o6, none⟩ = some v6 ∧ W.cell? ⟨b7, o7, none⟩ = some v7 ∧ W.cell? ⟨b8, o8, none⟩ = some v8) : Up w0 w1 ∧ Tabs w1 ∧ w1.cell? ⟨b1, o1, none⟩ = some v1 ∧ w1.cell? ⟨b2, o2, none⟩ = some v2 ∧ w1.cell? ⟨b3, o3, none⟩ = some v3 ∧ w1.cell? ⟨b4, o4, none⟩ = some v4 ∧ w1.cell? ⟨b5, o5, none⟩ = some v5 ∧ w1.cell? ⟨b6, o6, none⟩ = some v6 ∧ w1.cell? ⟨b7, o7, none⟩ = some v7 ∧ w1.cell? ⟨b8, o8, none⟩ = some v8 := by
  obtain ⟨h0, hT, h1, h2, h3, h4, h5, h6, h7, h8⟩ := h
  exact ⟨h0.trans hu, hT.up hu, cell_up hu h1, cell_up hu h2, cell_up hu h3, cell_up hu h4, cell_up hu h5, cell_up hu h6, cell_up hu h7, cell_up hu h8⟩
end Go.Proofs.YtfcpieodgflmnaaDoor
