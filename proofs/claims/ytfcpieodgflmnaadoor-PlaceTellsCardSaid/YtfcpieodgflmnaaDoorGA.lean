/- Plain facts on characters and their bytes: what a lead byte says, what the bytes of a character are, and that reading and writing are each other's. Nothing of the program stands here. What the program's operations on bits come to, in numbers; and what its three tables hold, as the walks ask for it. The program's own reading of one character: its functions isChar, need, read, Len and Char, each at every input, against the plain facts. The program's Len and Char, at every input: what stands there, by the plain facts. The steps of a text, and the program's iterator over them: for every loop body that keeps the text's place. The program's Valid and Count, at every text: over its steps. The program's Put, at every number: the bytes of the character, or nothing. The document's own Put, at every number: the same bytes. The document's own Char and Len, at every input: they say what the program's say. The document's own Char and Len, walked at every input. The program's Start, at every input: a step begins at a place just if no character reaches over it. Where steps begin: the places that going through a text comes to are just those over which no character reaches. A step taken by itself is one step; texts without lone bytes, put together, have none, and their counts add up. -/
import Derived.Below
import Derived.Test.YtfcpieodgflmnaaDoorRows
import Derived.WalkKit
import Derived.Laws.BitsAllLaws
import Derived.Lib.LaidTab
import Derived.LaidMore
import Derived.WalkSmall
import Derived.Stop.LaidErr
import Derived.WalkSpells
import Derived.WalkLawsBesides
import Derived.Deep.QuietTactic
import Derived.BigQuiet
import Derived.Lib.Hide
import Derived.RangeFuncNested
import Derived.RangeFuncBound
import Derived.RangeFuncCalls
import Derived.RangeFuncLeaves
import Derived.Shelf.Abstract
import Derived.Shelf.RegionOpen
import Derived.OwnWalkIn
import Derived.TacticsInMore
import Derived.LoopNIn
import Derived.LoopIn
import Derived.RangeFuncFrom
import Derived.Handy
import Derived.Laws.BytesArg
namespace Go.Proofs.YtfcpieodgflmnaaDoor

/-- The byte at a place; 0 where there is none. -/
def bt (s : ByteArray) (i : Nat) : Nat := if h : i < s.size then s[i].toNat else 0
theorem bt_eq {s : ByteArray} {i : Nat} (h : i < s.size) : s[i].toNat = bt s i := by simp [bt, h]
theorem bt_lt (s : ByteArray) (i : Nat) : bt s i < 256 := by
  unfold bt; split
  · exact UInt8.toNat_lt _
  · omega

def isC (c : Nat) : Bool := decide (c ≤ 1114111 ∧ (c < 55296 ∨ 57343 < c))
theorem isC_iff (c : Nat) : isC c = true ↔ c ≤ 1114111 ∧ (c < 55296 ∨ 57343 < c) := by simp [isC]

/-- How many bytes a character has that begins with byte b; 0: none does. -/
def szOf (b : Nat) : Nat := if b < 128 then 1 else if b < 192 then 0 else if b < 224 then 2 else if b < 240 then 3 else if b < 248 then 4 else 0
def leadOf (n : Nat) : Nat := if n = 2 then 192 else if n = 3 then 224 else if n = 4 then 240 else 0
def leastOf (n : Nat) : Nat := if n = 2 then 128 else if n = 3 then 2048 else if n = 4 then 65536 else 0

/-- What the first j bytes say, the lead's bits taken off. -/
def acc (s : ByteArray) (a n : Nat) : Nat → Nat
  | 0 => 0
  | 1 => bt s a - leadOf n
  | j + 2 => acc s a n (j + 1) * 64 + bt s (a + (j + 1)) % 64

/-- The bytes behind the first, up to j, are all later bytes. -/
def conts (s : ByteArray) (a j : Nat) : Prop := ∀ i, 1 ≤ i → i < j → 128 ≤ bt s (a + i) ∧ bt s (a + i) < 192

/-- A character of n bytes stands at a, and it is c. -/
def Stands (s : ByteArray) (a c n : Nat) : Prop :=
  szOf (bt s a) = n ∧ 0 < n ∧ a + n ≤ s.size ∧ conts s a n ∧ acc s a n n = c ∧ leastOf n ≤ c ∧ isC c = true

/-- The bytes of the character c. -/
def enc (c : Nat) : List Nat :=
  if c < 128 then [c] else if c < 2048 then [192 + c / 64, 128 + c % 64]
  else if c < 65536 then [224 + c / 4096, 128 + c / 64 % 64, 128 + c % 64]
  else [240 + c / 262144, 128 + c / 4096 % 64, 128 + c / 64 % 64, 128 + c % 64]
def need (c : Nat) : Nat := if c < 128 then 1 else if c < 2048 then 2 else if c < 65536 then 3 else 4

theorem enc_length (c : Nat) : (enc c).length = need c := by
  unfold enc need; split <;> (try split) <;> (try split) <;> rfl
theorem need_pos (c : Nat) : 0 < need c := by unfold need; split <;> (try split) <;> (try split) <;> omega
theorem need_le (c : Nat) : need c ≤ 4 := by unfold need; split <;> (try split) <;> (try split) <;> omega

/-- The bytes of c stand at a. -/
def At (s : ByteArray) (a c : Nat) : Prop := a + need c ≤ s.size ∧ ∀ i, i < need c → bt s (a + i) = (enc c).getD i 0

theorem at_of_stands {s : ByteArray} {a c n : Nat} (h : Stands s a c n) : n = need c ∧ At s a c := by
  obtain ⟨hz, hp, hs, hc, ha, hl, hi⟩ := h
  rw [isC_iff] at hi
  have hb := bt_lt s a
  have hcases : (n = 1 ∧ bt s a < 128) ∨ (n = 2 ∧ 192 ≤ bt s a ∧ bt s a < 224) ∨ (n = 3 ∧ 224 ≤ bt s a ∧ bt s a < 240) ∨ (n = 4 ∧ 240 ≤ bt s a ∧ bt s a < 248) := by
    unfold szOf at hz
    split at hz
    · omega
    split at hz
    · omega
    split at hz
    · omega
    split at hz
    · omega
    split at hz <;> omega
  rcases hcases with ⟨rfl, h1⟩ | ⟨rfl, h1, h2⟩ | ⟨rfl, h1, h2⟩ | ⟨rfl, h1, h2⟩
  · simp only [acc, leadOf] at ha
    have e : need c = 1 := by unfold need; simp at ha; rw [if_pos (by omega)]
    refine ⟨e.symm, by omega, ?_⟩
    intro i hi'
    obtain rfl : i = 0 := by omega
    unfold enc; simp at ha; rw [if_pos (by omega)]; simp; omega
  · have c1 := hc 1 (by omega) (by omega)
    simp [acc, leadOf, leastOf] at ha hl
    have e : need c = 2 := by unfold need; rw [if_neg (by omega), if_pos (by omega)]
    refine ⟨e.symm, by omega, ?_⟩
    intro i hi'
    unfold enc; rw [if_neg (by omega), if_pos (by omega)]
    have : i = 0 ∨ i = 1 := by omega
    rcases this with rfl | rfl <;> simp <;> omega
  · have c1 := hc 1 (by omega) (by omega)
    have c2 := hc 2 (by omega) (by omega)
    simp [acc, leadOf, leastOf] at ha hl
    have e : need c = 3 := by unfold need; rw [if_neg (by omega), if_neg (by omega), if_pos (by omega)]
    refine ⟨e.symm, by omega, ?_⟩
    intro i hi'
    unfold enc; rw [if_neg (by omega), if_neg (by omega), if_pos (by omega)]
    have : i = 0 ∨ i = 1 ∨ i = 2 := by omega
    rcases this with rfl | rfl | rfl <;> simp <;> omega
  · have c1 := hc 1 (by omega) (by omega)
    have c2 := hc 2 (by omega) (by omega)
    have c3 := hc 3 (by omega) (by omega)
    simp [acc, leadOf, leastOf] at ha hl
    have e : need c = 4 := by unfold need; rw [if_neg (by omega), if_neg (by omega), if_neg (by omega)]
    refine ⟨e.symm, by omega, ?_⟩
    intro i hi'
    unfold enc; rw [if_neg (by omega), if_neg (by omega), if_neg (by omega)]
    have : i = 0 ∨ i = 1 ∨ i = 2 ∨ i = 3 := by omega
    rcases this with rfl | rfl | rfl | rfl <;> simp <;> omega

theorem stands_of_at {s : ByteArray} {a c : Nat} (hi : isC c = true) (h : At s a c) : Stands s a c (need c) := by
  obtain ⟨hs, hb⟩ := h
  have hi' := (isC_iff c).1 hi
  by_cases h1 : c < 128
  · have e : need c = 1 := by unfold need; rw [if_pos h1]
    have b0 := hb 0 (by omega)
    unfold enc at b0; rw [if_pos h1] at b0; simp at b0
    rw [e] at hs ⊢
    refine ⟨by unfold szOf; rw [if_pos (by omega)], by omega, hs, fun i _ _ => by omega, by simp [acc, leadOf]; omega, by simp [leastOf], hi⟩
  by_cases h2 : c < 2048
  · have e : need c = 2 := by unfold need; rw [if_neg h1, if_pos h2]
    have b0 := hb 0 (by omega)
    have b1 := hb 1 (by omega)
    unfold enc at b0 b1; rw [if_neg h1, if_pos h2] at b0 b1; simp at b0 b1
    rw [e] at hs ⊢
    refine ⟨by unfold szOf; rw [if_neg (by omega), if_neg (by omega), if_pos (by omega)], by omega, hs, fun i _ _ => ?_, by simp [acc, leadOf]; omega, by simp [leastOf]; omega, hi⟩
    obtain rfl : i = 1 := by omega
    omega
  by_cases h3 : c < 65536
  · have e : need c = 3 := by unfold need; rw [if_neg h1, if_neg h2, if_pos h3]
    have b0 := hb 0 (by omega)
    have b1 := hb 1 (by omega)
    have b2 := hb 2 (by omega)
    unfold enc at b0 b1 b2; rw [if_neg h1, if_neg h2, if_pos h3] at b0 b1 b2; simp at b0 b1 b2
    rw [e] at hs ⊢
    refine ⟨by unfold szOf; rw [if_neg (by omega), if_neg (by omega), if_neg (by omega), if_pos (by omega)], by omega, hs, fun i _ _ => ?_, by simp [acc, leadOf]; omega, by simp [leastOf]; omega, hi⟩
    have : i = 1 ∨ i = 2 := by omega
    rcases this with rfl | rfl <;> omega
  · have e : need c = 4 := by unfold need; rw [if_neg h1, if_neg h2, if_neg h3]
    have b0 := hb 0 (by omega)
    have b1 := hb 1 (by omega)
    have b2 := hb 2 (by omega)
    have b3 := hb 3 (by omega)
    unfold enc at b0 b1 b2 b3; rw [if_neg h1, if_neg h2, if_neg h3] at b0 b1 b2 b3; simp at b0 b1 b2 b3
    rw [e] at hs ⊢
    refine ⟨by unfold szOf; rw [if_neg (by omega), if_neg (by omega), if_neg (by omega), if_neg (by omega), if_pos (by omega)], by omega, hs, fun i _ _ => ?_, by simp [acc, leadOf]; omega, by simp [leastOf]; omega, hi⟩
    have : i = 1 ∨ i = 2 ∨ i = 3 := by omega
    rcases this with rfl | rfl | rfl <;> omega

theorem stands_unique {s : ByteArray} {a c n c' n' : Nat} (h : Stands s a c n) (h' : Stands s a c' n') : c = c' ∧ n = n' := by
  have e : n = n' := h.1.symm.trans h'.1
  subst e
  exact ⟨h.2.2.2.2.1.symm.trans h'.2.2.2.2.1, rfl⟩

/-- What stands at a: the character and how many bytes; 0 and 0 where none does. -/
noncomputable def dec (s : ByteArray) (a : Nat) : Nat × Nat := by
  classical exact if h : ∃ p : Nat × Nat, Stands s a p.1 p.2 then Classical.choose h else (0, 0)
theorem dec_some {s : ByteArray} {a c n : Nat} (h : Stands s a c n) : dec s a = (c, n) := by
  have hx : ∃ p : Nat × Nat, Stands s a p.1 p.2 := ⟨(c, n), h⟩
  unfold dec
  rw [dif_pos hx]
  obtain ⟨e1, e2⟩ := stands_unique (Classical.choose_spec hx) h
  exact Prod.ext e1 e2
theorem dec_none {s : ByteArray} {a : Nat} (h : ∀ c n, ¬ Stands s a c n) : dec s a = (0, 0) := by
  unfold dec
  rw [dif_neg (fun ⟨p, hp⟩ => h _ _ hp)]
theorem dec_cases (s : ByteArray) (a : Nat) : (dec s a = (0, 0) ∧ ∀ c n, ¬ Stands s a c n) ∨ (Stands s a (dec s a).1 (dec s a).2) := by
  by_cases h : ∃ p : Nat × Nat, Stands s a p.1 p.2
  · right
    unfold dec
    rw [dif_pos h]
    exact Classical.choose_spec h
  · left
    exact ⟨dec_none (fun c n hs => h ⟨(c, n), hs⟩), fun c n hs => h ⟨(c, n), hs⟩⟩
theorem dec_facts {s : ByteArray} {a : Nat} (h : 0 < (dec s a).2) : isC (dec s a).1 = true ∧ (dec s a).2 = need (dec s a).1 ∧ At s a (dec s a).1 ∧ Stands s a (dec s a).1 (dec s a).2 := by
  rcases dec_cases s a with ⟨e, _⟩ | hs
  · rw [e] at h; simp at h
  · obtain ⟨e, hat⟩ := at_of_stands hs
    exact ⟨hs.2.2.2.2.2.2, e, hat, hs⟩
theorem dec_le4 (s : ByteArray) (a : Nat) : (dec s a).2 ≤ 4 := by
  rcases dec_cases s a with ⟨e, _⟩ | hs
  · rw [e]; simp
  · rw [(at_of_stands hs).1]; exact need_le _
theorem dec_zero {s : ByteArray} {a : Nat} (h : szOf (bt s a) = 0) : dec s a = (0, 0) := dec_none fun c n hs => by have := hs.1; have := hs.2.1; omega
theorem dec_short {s : ByteArray} {a : Nat} (h : s.size < a + szOf (bt s a)) : dec s a = (0, 0) := dec_none fun c n hs => by have := hs.1; have := hs.2.2.1; omega
theorem dec_cont {s : ByteArray} {a i : Nat} (h1 : 1 ≤ i) (h2 : i < szOf (bt s a)) (h : ¬ (128 ≤ bt s (a + i) ∧ bt s (a + i) < 192)) : dec s a = (0, 0) :=
  dec_none fun c n hs => h (hs.2.2.2.1 i h1 (by have := hs.1; omega))
theorem dec_low {s : ByteArray} {a n : Nat} (hn : szOf (bt s a) = n) (h : acc s a n n < leastOf n ∨ isC (acc s a n n) = false) : dec s a = (0, 0) :=
  dec_none fun c m hs => by
    obtain ⟨e, _, _, _, ha, hl, hc⟩ := hs
    obtain rfl : n = m := hn.symm.trans e
    rw [ha] at h
    rcases h with h | h
    · omega
    · rw [h] at hc; cases hc
theorem dec_yes {s : ByteArray} {a n : Nat} (hn : szOf (bt s a) = n) (h0 : 0 < n) (hs : a + n ≤ s.size) (hc : conts s a n) (h1 : leastOf n ≤ acc s a n n) (h2 : isC (acc s a n n) = true) : dec s a = (acc s a n n, n) :=
  dec_some ⟨hn, h0, hs, hc, rfl, h1, h2⟩

theorem conts_one (s : ByteArray) (a : Nat) : conts s a 1 := fun i h1 h2 => by omega
theorem conts_succ {s : ByteArray} {a j : Nat} (h : conts s a j) (hj : 128 ≤ bt s (a + j) ∧ bt s (a + j) < 192) : conts s a (j + 1) := fun i h1 h2 => by
  by_cases e : i = j
  · rw [e]; exact hj
  · exact h i h1 (by omega)
theorem acc_succ (s : ByteArray) (a n j : Nat) (h : 1 ≤ j) : acc s a n (j + 1) = acc s a n j * 64 + bt s (a + j) % 64 := by
  cases j with
  | zero => omega
  | succ j => rfl
theorem acc_lt (s : ByteArray) (a n : Nat) : ∀ j, 1 ≤ j → j ≤ 4 → acc s a n j < 256 * 64 ^ (j - 1)
  | 0, h, _ => by omega
  | 1, _, _ => by have := bt_lt s a; simp [acc]; omega
  | 2, _, _ => by have := acc_lt s a n 1 (by omega) (by omega); rw [acc_succ _ _ _ _ (by omega)]; simp at *; omega
  | 3, _, _ => by have := acc_lt s a n 2 (by omega) (by omega); rw [acc_succ _ _ _ _ (by omega)]; simp at *; omega
  | 4, _, _ => by have := acc_lt s a n 3 (by omega) (by omega); rw [acc_succ _ _ _ _ (by omega)]; simp at *; omega
  | j + 5, _, h => by omega
theorem szOf_le (b : Nat) : szOf b ≤ 4 := by
  unfold szOf
  repeat' split
  all_goals omega
end Go.Proofs.YtfcpieodgflmnaaDoor

namespace Go.Proofs.YtfcpieodgflmnaaDoor
open Go.RowKit

set_option maxRecDepth 100000 in
theorem and192 : ∀ x : Nat, x < 256 → ((x &&& 192 = 128) ↔ (128 ≤ x ∧ x < 192)) := by decide +kernel
set_option maxRecDepth 100000 in
theorem xorLead : ∀ x : Nat, x < 256 → (x ^^^ leadOf (szOf x)) = x - leadOf (szOf x) ∨ szOf x = 0 := by decide +kernel
set_option maxRecDepth 100000 in
theorem szTab : ∀ x : Nat, x < 256 → (([1, 1, 1, 1, 1, 1, 1, 1, 1, 1, 1, 1, 1, 1, 1, 1, 0, 0, 0, 0, 0, 0, 0, 0, 2, 2, 2, 2, 3, 3, 4, 0] : List Int).getD (x / 8) 0) = (szOf x : Int) := by decide +kernel
theorem leadOf_lt (n : Nat) : leadOf n < 256 := by
  unfold leadOf
  repeat' split
  all_goals omega

theorem wcont_yes (x : Nat) (h : x < 256) (h1 : 128 ≤ x ∧ x < 192) : (bits BinOp.and IntKind.u8 (x : Int) 192 != 128) = false := by
  have e := u8_and_nat x 192 h (by omega)
  rw [show ((192 : Nat) : Int) = 192 from rfl] at e
  rw [e, (and192 x h).2 h1]; rfl
theorem wcont_no (x : Nat) (h : x < 256) (h1 : ¬ (128 ≤ x ∧ x < 192)) : (bits BinOp.and IntKind.u8 (x : Int) 192 != 128) = true := by
  have e := u8_and_nat x 192 h (by omega)
  rw [show ((192 : Nat) : Int) = 192 from rfl] at e
  rw [e, bne_iff_ne]
  intro h2
  exact h1 ((and192 x h).1 (by exact_mod_cast h2))
theorem wlow (x : Nat) (h : x < 256) : bits BinOp.and IntKind.u8 (x : Int) 63 = ((x % 64 : Nat) : Int) := by
  have e := u8_and_nat x 63 h (by omega)
  rw [nat_mask6] at e
  exact e
theorem wlead (x : Nat) (h : x < 256) (h0 : szOf x ≠ 0) : wrap32 (bits BinOp.xor IntKind.u8 (x : Int) (leadOf (szOf x) : Nat)) = ((x - leadOf (szOf x) : Nat) : Int) := by
  rw [u8_xor_nat x _ h (leadOf_lt _), (xorLead x h).resolve_right h0]
  unfold wrap32; omega
theorem ofInt_i32 (a : Nat) (ha : a < 2147483648) : (BitVec.ofInt 32 (a : Int)).toNat = a := by
  rw [BitVec.ofInt_natCast, BitVec.toNat_ofNat]; exact Nat.mod_eq_of_lt (by omega)
theorem i32_or_nat (a b : Nat) (ha : a < 2147483648) (hb : b < 2147483648) : bits .or .i32 (a : Int) (b : Int) = ((a ||| b : Nat) : Int) := by
  have hx : a ||| b < 2 ^ 31 := Nat.or_lt_two_pow (by omega) (by omega)
  show IntKind.i32.wrap ((BitVec.ofInt 32 (a : Int) ||| BitVec.ofInt 32 (b : Int)).toNat : Int) = _
  rw [BitVec.toNat_or, ofInt_i32 a ha, ofInt_i32 b hb]
  simp [IntKind.wrap, IntKind.bits, IntKind.signed]
  omega
theorem i32_and_nat (a b : Nat) (ha : a < 2147483648) (hb : b < 2147483648) : bits .and .i32 (a : Int) (b : Int) = ((a &&& b : Nat) : Int) := by
  have hx : a &&& b < 2 ^ 31 := Nat.and_lt_two_pow _ (by omega)
  show IntKind.i32.wrap ((BitVec.ofInt 32 (a : Int) &&& BitVec.ofInt 32 (b : Int)).toNat : Int) = _
  rw [BitVec.toNat_and, ofInt_i32 a ha, ofInt_i32 b hb]
  simp [IntKind.wrap, IntKind.bits, IntKind.signed]
  omega
theorem wstep (c x : Nat) (hc : c < 1048576) (h : x < 256) : bits BinOp.or IntKind.i32 (wrap32 ((c : Int) * 64)) (wrap32 (bits BinOp.and IntKind.u8 (x : Int) 63)) = ((c * 64 + x % 64 : Nat) : Int) := by
  have e1 : wrap32 ((c : Int) * 64) = ((c * 64 : Nat) : Int) := by unfold wrap32; omega
  have e2 : wrap32 ((x % 64 : Nat) : Int) = ((x % 64 : Nat) : Int) := by unfold wrap32; omega
  rw [wlow x h, e1, e2, i32_or_nat _ _ (by omega) (by omega), nat_join 6 (c * 64) (x % 64) (by omega) (by omega)]

/-- The names of the program's three tables. -/
noncomputable def nmSizes : String := ((Tryd.prog.globals[0]?).map (·.name)).getD ""
noncomputable def nmLeads : String := ((Tryd.prog.globals[1]?).map (·.name)).getD ""
noncomputable def nmLeasts : String := ((Tryd.prog.globals[2]?).map (·.name)).getD ""
/-- What the program's three tables hold. -/
structure Tabs (w : World) : Prop where
  sizes : Lib.TabIs Tryd.prog w nmSizes .i64 [1, 1, 1, 1, 1, 1, 1, 1, 1, 1, 1, 1, 1, 1, 1, 1, 0, 0, 0, 0, 0, 0, 0, 0, 2, 2, 2, 2, 3, 3, 4, 0]
  leads : Lib.TabIs Tryd.prog w nmLeads .u8 [0, 0, 192, 224, 240]
  leasts : Lib.TabIs Tryd.prog w nmLeasts .i32 [0, 0, 128, 2048, 65536]
theorem gSizes : Tryd.prog.globalNamed nmSizes = some 0 := by kernel_rfl
theorem gLeads : Tryd.prog.globalNamed nmLeads = some 1 := by kernel_rfl
theorem gLeasts : Tryd.prog.globalNamed nmLeasts = some 2 := by kernel_rfl
theorem tSizes : (Tryd.prog.globals[0]?).map (·.type) = some 113 := by kernel_rfl
theorem tLeads : (Tryd.prog.globals[1]?).map (·.type) = some 115 := by kernel_rfl
theorem tLeasts : (Tryd.prog.globals[2]?).map (·.type) = some 116 := by kernel_rfl

theorem tab_of_mem {P : Program} {W : World} {name : String} {k : IntKind} {zs : List Int} {g : Nat} {t e : TypeId} {n : Nat}
    (hg : P.globalNamed name = some g) (hty : (P.globals[g]?).map (·.type) = some t) (ht : P.underlying t = some (.array n e)) (he : P.underlying e = some (.int k)) (hce : P.cellsOf e = 1) (hct : P.cellsOf t = n) :
    ∀ {l : List (String × DataW Unit)}, (name, Lib.tabData k zs) ∈ l → laidMet P l W → Lib.TabIs P W name k zs := by
  intro l
  induction l with
  | nil => intro h; cases h
  | cons x l ih =>
    intro hm h
    by_cases e : x = (name, Lib.tabData k zs)
    · subst e; exact Lib.tabIs_of_head hg hty ht he hce hct h
    · have hm' : (name, Lib.tabData k zs) ∈ l := by
        rcases List.mem_cons.1 hm with h1 | h1
        · exact absurd h1.symm e
        · exact h1
      exact ih hm' h.tail
theorem tabs_of_laid {W : World} {l : List (String × DataW Unit)} (h1 : ∃ i : Nat, l[i]? = some (nmSizes, Rows.laid_indenture_utf_sizes)) (h2 : ∃ i : Nat, l[i]? = some (nmLeads, Rows.laid_indenture_utf_leads)) (h3 : ∃ i : Nat, l[i]? = some (nmLeasts, Rows.laid_indenture_utf_leasts)) (h : laidMet Tryd.prog l W) : Tabs W where
  sizes := tab_of_mem gSizes tSizes Tryd.underlying113 Tryd.underlying3 (by kernel_rfl) (by kernel_rfl) (h1.elim fun _ e => List.mem_of_getElem? e) h
  leads := tab_of_mem gLeads tLeads Tryd.underlying115 Tryd.underlying5 (by kernel_rfl) (by kernel_rfl) (h2.elim fun _ e => List.mem_of_getElem? e) h
  leasts := tab_of_mem gLeasts tLeasts Tryd.underlying116 Tryd.underlying21 (by kernel_rfl) (by kernel_rfl) (h3.elim fun _ e => List.mem_of_getElem? e) h

theorem Tabs.cSize {w : World} (h : Tabs w) (x : Nat) (hx : x < 256) : w.cell? ⟨0, x / 8, none⟩ = some (.int .i64 (szOf x : Nat)) := by
  rw [h.sizes.cell gSizes (x / 8) (by simp; omega), szTab x hx]
theorem Tabs.cLead {w : World} (h : Tabs w) (n : Nat) (hn : n ≤ 4) : w.cell? ⟨1, n, none⟩ = some (.int .u8 (leadOf n : Nat)) := by
  rw [h.leads.cell gLeads n (by simp; omega)]
  have : n = 0 ∨ n = 1 ∨ n = 2 ∨ n = 3 ∨ n = 4 := by omega
  rcases this with rfl | rfl | rfl | rfl | rfl <;> rfl
theorem Tabs.cLeast {w : World} (h : Tabs w) (n : Nat) (hn : n ≤ 4) : w.cell? ⟨2, n, none⟩ = some (.int .i32 (leastOf n : Nat)) := by
  rw [h.leasts.cell gLeasts n (by simp; omega)]
  have : n = 0 ∨ n = 1 ∨ n = 2 ∨ n = 3 ∨ n = 4 := by omega
  rcases this with rfl | rfl | rfl | rfl | rfl <;> rfl
theorem Tabs.big {w : World} (h : Tabs w) : 2 < w.heap.size := by
  have e1 := h.sizes.cell gSizes 0 (by simp)
  have e2 := h.leads.cell gLeads 0 (by simp)
  have e3 := h.leasts.cell gLeasts 0 (by simp)
  have f : ∀ {b : Nat} {v : Value}, w.cell? ⟨b, 0, none⟩ = some v → b < w.heap.size := by
    intro b v hb
    by_cases hlt : b < w.heap.size
    · exact hlt
    · have : w.heap[b]? = none := by simp; omega
      simp [World.cell?, this] at hb
  have := f e1; have := f e2; have := f e3
  omega
theorem Tabs.of_blocks {w w' : World} (h : Tabs w) (hb : ∀ k, k < 2 + 1 → w'.heap[k]? = w.heap[k]?) : Tabs w' := by
  have f : ∀ {name : String} {g : Nat} {k : IntKind} {zs : List Int}, Tryd.prog.globalNamed name = some g → g < 2 + 1 → Lib.TabIs Tryd.prog w name k zs → Lib.TabIs Tryd.prog w' name k zs := by
    intro name g k zs hg hlt ht
    unfold Lib.TabIs at ht ⊢
    rw [← ht]
    unfold World.var?
    rw [hg]
    simp only [Option.bind_some]
    rw [hb g hlt]
  exact ⟨f gSizes (by omega) h.sizes, f gLeads (by omega) h.leads, f gLeasts (by omega) h.leasts⟩
theorem Tabs.of_below {w w' : World} {n : Nat} (h : Tabs w) (hn : 2 + 1 ≤ n) (hb : Below n w w') : Tabs w' := h.of_blocks fun k hk => hb.block k (by omega)
end Go.Proofs.YtfcpieodgflmnaaDoor

namespace Go.Proofs.YtfcpieodgflmnaaDoor
open Go.RowKit

def isCI (c : Int) : Bool := decide (0 ≤ c ∧ c ≤ 1114111 ∧ (c < 55296 ∨ 57343 < c))
theorem isCI_nat (c : Nat) : isCI (c : Int) = isC c := by
  unfold isCI isC
  rw [decide_eq_decide]
  omega
theorem ret_bool {a b : Bool} (h : a = b) : Ending.returned (.bool a) = .returned (.bool b) := by rw [h]
theorem ret_int {k : IntKind} {a b : Int} (h : a = b) : Ending.returned (.int k a) = .returned (.int k b) := by rw [h]

/-- The tables and the heap's old blocks behind a call. -/
def Up (w w' : World) : Prop := Below w.heap.size w w'
theorem Up.refl (w : World) : Up w w := Below.refl _ _
theorem Up.trans {a b c : World} (h : Up a b) (k : Up b c) : Up a c := Below.trans h (Below.mono k (Below.size h))
theorem Up.drewN (w : World) (n : Nat) : Up w (w.drewN n) := below_drewN (Below.refl _ _) n
theorem Up.drew (w : World) : Up w w.drew := Below.drew (Below.refl _ _)
theorem Up.alloc (w : World) (o : Obj) : Up w (w.alloc o) := (Below.refl _ _).alloc (Nat.le_refl _) o
theorem Tabs.up {w w' : World} (h : Tabs w) (hu : Up w w') : Tabs w' := h.of_below (by have := h.big; omega) hu
theorem Up.grownBy {w w' : World} (h : Up w w') : w.grownBy w' none := ⟨Below.os h, Below.tape h, Below.output h, Below.size h, fun k hk _ => Below.block h k hk⟩

set_option maxHeartbeats 400000 in
theorem isChar_any (c : Int) (w : World) :
    Calls Tryd.prog 71 #[.int .i32 c] w fun e w' => e = .returned (.bool (isCI c)) ∧ w = w' := by
  have hb : isCI c = (decide (0 ≤ c) && (decide (c ≤ 1114111) && (decide (c < 55296) || decide (57343 < c)))) := by
    unfold isCI; rw [Bool.eq_iff_iff]; simp
  have H := Lib.hid hb
  clear hb
  go_enter Tryd.func71, Tryd.ntmps71
  go_wp2
  all_goals (go_ret; refine ⟨ret_bool ?_, rfl⟩; rw [H.out]; simp [*])
  all_goals omega

def ReadSays (s : ByteArray) (k : Nat) (w : World) (e : Ending) (w' : World) : Prop :=
  e = .returned (.tuple #[.int .i32 (dec s k).1, .int .i64 (dec s k).2]) ∧ Up w w'
theorem says_none {s : ByteArray} {k : Nat} {w : World} (h : dec s k = (0, 0)) {e : Ending} {w' : World} (he : e = .returned (.tuple #[.int .i32 0, .int .i64 0])) (hu : Up w w') : ReadSays s k w e w' := by
  unfold ReadSays; rw [h]; exact ⟨he, hu⟩
theorem says_some {s : ByteArray} {k c n : Nat} {w : World} (h : dec s k = (c, n)) {e : Ending} {w' : World} (he : e = .returned (.tuple #[.int .i32 (c : Nat), .int .i64 (n : Nat)])) (hu : Up w w') : ReadSays s k w e w' := by
  unfold ReadSays; rw [h]; exact ⟨he, hu⟩

set_option maxHeartbeats 400000 in
theorem read_zero (s : ByteArray) (k : Nat) (hk : k < s.size) (hs : s.size ≤ maxLen) (n : Nat) (hn : szOf (bt s k) = n) (h0 : n = 0 ∨ s.size < k + n) (hn4 : n ≤ 4) (w : World) (ht : Tabs w) :
    Calls Tryd.prog 64 #[.string s, .int .i64 k] w (ReadSays s k w) := by
  have hd : dec s k = (0, 0) := by
    rcases h0 with h0 | h0
    · exact dec_zero (by omega)
    · exact dec_short (by omega)
  have hz := ht.cSize (bt s k) (bt_lt _ _)
  rw [hn, ← bt_eq hk] at hz
  have hb8 : (s[k].toNat : Int) / 8 < 32 := by have := UInt8.toNat_lt s[k]; omega
  unfold maxLen at hs
  have Hn := Lib.hid hn
  have Hd := Lib.hid hd
  clear hn hd
  by_cases h : n = 0
  · have h1 : (((n : Int) == 0) = true) := by simp; omega
    clear h0 h
    go_enter Tryd.func64, Tryd.ntmps64
    go_wp2
    go_ret2
    exact says_none Hd.out rfl (Up.refl _)
  · have h1 : (((n : Int) == 0) = false) := by simp; omega
    have h2 : ((decide ((s.size : Int) - k < n)) = true) := by simp; omega
    clear h0
    go_enter Tryd.func64, Tryd.ntmps64
    go_wp2
    go_ret2
    exact says_none Hd.out rfl (Up.refl _)

set_option maxRecDepth 100000 in
set_option maxHeartbeats 1000000 in
theorem read_big (s : ByteArray) (k : Nat) (hk : k < s.size) (hs : s.size ≤ maxLen) (n : Nat) (hsz : szOf (bt s k) = n) (hn : 0 < n) (hn4 : n ≤ 4) (hkn : k + n ≤ s.size) (w : World) (ht : Tabs w) :
    Calls Tryd.prog 64 #[.string s, .int .i64 k] w (ReadSays s k w) := by
  have hz := ht.cSize (bt s k) (bt_lt _ _)
  have hz0 := ht.cLead n hn4
  have hz2 := ht.cLeast n hn4
  rw [hsz, ← bt_eq hk] at hz
  have hb8 : (s[k].toNat : Int) / 8 < 32 := by have := UInt8.toNat_lt s[k]; omega
  have hlead : wrap32 (bits BinOp.xor IntKind.u8 (s[k].toNat : Int) (leadOf n : Nat)) = (acc s k n 1 : Nat) := by
    have := wlead (bt s k) (bt_lt _ _) (by omega)
    rw [hsz] at this
    rw [bt_eq hk, this]
    rfl
  have Hl := Lib.hid hlead
  have Hsz := Lib.hid hsz
  clear hlead hsz
  obtain ⟨ld, hld⟩ : ∃ ld, leadOf n = ld := ⟨_, rfl⟩
  obtain ⟨lt, hlt⟩ : ∃ lt, leastOf n = lt := ⟨_, rfl⟩
  rw [hld] at hz0 Hl
  rw [hlt] at hz2
  have Hlt := Lib.hid hlt
  clear hld hlt
  unfold maxLen at hs
  have h1 : (((n : Int) == 0) = false) := by simp; omega
  have h2 : ((decide ((s.size : Int) - k < n)) = false) := by simp; omega
  go_enter Tryd.func64, Tryd.ntmps64
  go_wp2
  go_quiet (fail)
  go_wp2
  clear h1 h2 hz hz0
  go_loop [7, 8] (fun c i => ∃ q : Nat, k + 1 ≤ q ∧ q ≤ k + n ∧ i = .int .i64 q ∧ c = .int .i32 (acc s k n (q - k) : Nat) ∧ conts s k (q - k))
     (fun _ i => (k + n) - (intOf i).toNat)
  case atStart => exact ⟨k + 1, by omega, by omega, by go_num, by rw [Hl.out]; simp, by rw [show k + 1 - k = 1 from by omega]; exact conts_one _ _⟩
  case round =>
    obtain ⟨q, hq1, hq2, rfl, rfl, hc⟩ := hrel
    have H := Lib.hid hc
    clear hc
    by_cases hlt : q < k + n
    · have hqs : q < s.size := by omega
      have ha := acc_lt s k n (q - k) (by omega) (by omega)
      have ha2 : acc s k n (q - k) < 1048576 := by
        have : 64 ^ (q - k - 1) ≤ 64 ^ 2 := Nat.pow_le_pow_right (by omega) (by omega)
        omega
      have hst := wstep (acc s k n (q - k)) s[q].toNat ha2 (UInt8.toNat_lt _)
      have Hst := Lib.hid hst
      clear hst ha ha2
      by_cases hcc : 128 ≤ s[q].toNat ∧ s[q].toNat < 192
      · have hw := wcont_yes s[q].toNat (UInt8.toNat_lt _) hcc
        have Hcc := Lib.hid hcc
        clear hcc
        go_wp2
        go_round
        case rel =>
          refine ⟨q + 1, by omega, by omega, by go_num, ?_, ?_⟩
          · rw [Hst.out, bt_eq hqs, show q + 1 - k = (q - k) + 1 from by omega, acc_succ _ _ _ _ (by omega), show k + (q - k) = q from by omega]
          · rw [show q + 1 - k = (q - k) + 1 from by omega]
            refine conts_succ H.out ?_
            rw [show k + (q - k) = q from by omega, ← bt_eq hqs]
            exact Hcc.out
        case measure => simp [intOf]; omega
      · have hw := wcont_no s[q].toNat (UInt8.toNat_lt _) hcc
        have hd : dec s k = (0, 0) := dec_cont (i := q - k) (by omega) (by rw [Hsz.out]; omega) (by rw [show k + (q - k) = q from by omega, ← bt_eq hqs]; exact hcc)
        have Hd := Lib.hid hd
        clear hcc hd
        go_wp2
        go_ret2
        exact says_none Hd.out rfl (Up.drewN _ _)
    · obtain rfl : q = k + n := by omega
      have hkk : k + n - k = n := by omega
      have hkk' : acc s k n (k + n - k) = acc s k n n := by rw [hkk]
      have Hc : Hid (conts s k n) := by have h := H.out; rw [hkk] at h; exact h
      have Hk := Lib.hid hkk'
      clear H hkk hkk' hlt
      have hci := isCI_nat (acc s k n n)
      have Hci := Lib.hid hci
      clear hci
      by_cases hlo : acc s k n n < lt
      · have hd : dec s k = (0, 0) := dec_low Hsz.out (.inl (by rw [Hlt.out]; exact hlo))
        have Hd := Lib.hid hd
        clear hd
        rw [Hk.out]
        go_wp2
        go_ret2
        exact says_none Hd.out rfl (Up.drewN _ _)
      · cases hi : isC (acc s k n n) with
        | false =>
          have hd : dec s k = (0, 0) := dec_low Hsz.out (.inr hi)
          have Hd := Lib.hid hd
          rw [hi] at Hci
          have hci := Hci.out
          clear hd hi Hci
          rw [Hk.out]
          go_wp2_with (go_at_call 71; refine (isChar_any _ _).mono ?_; rintro e w' ⟨rfl, rfl⟩)
          go_ret2
          exact says_none Hd.out rfl (Up.drewN _ _)
        | true =>
          have hd := dec_yes Hsz.out hn hkn Hc.out (by rw [Hlt.out]; omega) hi
          have Hd := Lib.hid hd
          rw [hi] at Hci
          have hci := Hci.out
          clear hd hi Hci
          rw [Hk.out]
          go_wp2_with (go_at_call 71; refine (isChar_any _ _).mono ?_; rintro e w' ⟨rfl, rfl⟩)
          go_ret2
          exact says_some Hd.out rfl (Up.drewN _ _)

theorem read_any (s : ByteArray) (k : Nat) (hk : k < s.size) (hs : s.size ≤ maxLen) (w : World) (ht : Tabs w) :
    Calls Tryd.prog 64 #[.string s, .int .i64 k] w (ReadSays s k w) := by
  by_cases h : szOf (bt s k) = 0 ∨ s.size < k + szOf (bt s k)
  · exact read_zero s k hk hs _ rfl h (szOf_le _) w ht
  · exact read_big s k hk hs _ rfl (by omega) (szOf_le _) (by omega) w ht
end Go.Proofs.YtfcpieodgflmnaaDoor

namespace Go.Proofs.YtfcpieodgflmnaaDoor
open Go.RowKit

/-- What Len and Char answer of a place, whatever number it is. -/
def inB (s : ByteArray) (x : Int) : Prop := 0 ≤ x ∧ x < s.size
noncomputable def lenI (s : ByteArray) (x : Int) : Int := if 0 ≤ x ∧ x < s.size then (if 0 < (dec s x.toNat).2 then ((dec s x.toNat).2 : Int) else 1) else 0
noncomputable def okI (s : ByteArray) (x : Int) : Bool := decide (0 ≤ x ∧ x < s.size) && decide (0 < (dec s x.toNat).2)
noncomputable def chI (s : ByteArray) (x : Int) : Int := if 0 ≤ x ∧ x < s.size then ((dec s x.toNat).1 : Int) else 0

def LenSays (s : ByteArray) (x : Int) (w : World) (e : Ending) (w' : World) : Prop := e = .returned (.tuple #[.int .i64 (lenI s x), .bool (okI s x)]) ∧ Up w w'
def CharSays (s : ByteArray) (x : Int) (w : World) (e : Ending) (w' : World) : Prop := e = .returned (.tuple #[.int .i32 (chI s x), .bool (okI s x)]) ∧ Up w w'
theorem lenSays {s : ByteArray} {x a : Int} {b : Bool} {w w' : World} {e : Ending} (h1 : lenI s x = a) (h2 : okI s x = b) (he : e = .returned (.tuple #[.int .i64 a, .bool b])) (hu : Up w w') : LenSays s x w e w' := by
  unfold LenSays; rw [h1, h2]; exact ⟨he, hu⟩
theorem charSays {s : ByteArray} {x a : Int} {b : Bool} {w w' : World} {e : Ending} (h1 : chI s x = a) (h2 : okI s x = b) (he : e = .returned (.tuple #[.int .i32 a, .bool b])) (hu : Up w w') : CharSays s x w e w' := by
  unfold CharSays; rw [h1, h2]; exact ⟨he, hu⟩

set_option maxHeartbeats 400000 in
theorem len_any (s : ByteArray) (x : Int) (hs : s.size ≤ maxLen) (w : World) (ht : Tabs w) :
    Calls Tryd.prog 49 #[.string s, .int .i64 x] w (LenSays s x w) := by
  by_cases h : 0 ≤ x ∧ x < s.size
  · obtain ⟨h0, h1⟩ := h
    obtain ⟨k, rfl⟩ := Int.eq_ofNat_of_zero_le h0
    have hk : k < s.size := by omega
    have hl0 : lenI s k = if 0 < (dec s k).2 then ((dec s k).2 : Int) else 1 := by unfold lenI; rw [if_pos ⟨h0, h1⟩]; rfl
    have ho0 : okI s k = decide (0 < (dec s k).2) := by unfold okI; rw [decide_eq_true ⟨h0, h1⟩, Bool.true_and]; rfl
    have hr := read_any s k hk hs w ht
    unfold ReadSays at hr
    obtain ⟨c, hc⟩ : ∃ c, (dec s k).1 = c := ⟨_, rfl⟩
    obtain ⟨n, hn⟩ : ∃ n, (dec s k).2 = n := ⟨_, rfl⟩
    rw [hn] at hl0 ho0
    rw [hn, hc] at hr
    have Hl := Lib.hid hl0
    have Ho := Lib.hid ho0
    have Hr := Lib.hid hr
    clear hl0 ho0 hr hc hn
    unfold maxLen at hs
    by_cases hp : 0 < n
    · go_enter Tryd.func49, Tryd.ntmps49
      go_wp2_with (go_at_call 64; refine (Hr.out).mono ?_; rintro e w' ⟨rfl, hu⟩)
      go_ret2
      exact lenSays (by rw [Hl.out, if_pos hp]) (by rw [Ho.out]; exact decide_eq_true hp) rfl hu
    · go_enter Tryd.func49, Tryd.ntmps49
      go_wp2_with (go_at_call 64; refine (Hr.out).mono ?_; rintro e w' ⟨rfl, hu⟩)
      go_ret2
      exact lenSays (by rw [Hl.out, if_neg hp]) (by rw [Ho.out]; exact decide_eq_false hp) rfl hu
  · have hl0 : lenI s x = 0 := by unfold lenI; rw [if_neg h]
    have ho0 : okI s x = false := by unfold okI; rw [decide_eq_false h]; rfl
    have Hl := Lib.hid hl0
    have Ho := Lib.hid ho0
    clear hl0 ho0
    unfold maxLen at hs
    by_cases h0 : 0 ≤ x
    · have h1 : (s.size : Int) ≤ x := by omega
      clear h
      go_enter Tryd.func49, Tryd.ntmps49
      go_wp2
      go_ret2
      exact lenSays Hl.out Ho.out rfl (Up.refl _)
    · clear h
      go_enter Tryd.func49, Tryd.ntmps49
      go_wp2
      go_ret2
      exact lenSays Hl.out Ho.out rfl (Up.refl _)

end Go.Proofs.YtfcpieodgflmnaaDoor

namespace Go.Proofs.YtfcpieodgflmnaaDoor
open Go.RowKit Go.Shelf
attribute [local go_sem] Oper.semAt_some

noncomputable def stepLen (s : ByteArray) (a : Nat) : Nat := if 0 < (dec s a).2 then (dec s a).2 else 1
noncomputable def stepOk (s : ByteArray) (a : Nat) : Bool := decide (0 < (dec s a).2)
theorem stepLen_pos (s : ByteArray) (a : Nat) : 1 ≤ stepLen s a := by unfold stepLen; split <;> omega
theorem stepLen_le (s : ByteArray) (a : Nat) : stepLen s a ≤ 4 := by have := dec_le4 s a; unfold stepLen; split <;> omega
theorem stepLen_in {s : ByteArray} {a : Nat} (h : a < s.size) : a + stepLen s a ≤ s.size := by
  unfold stepLen
  split
  · rename_i hp
    obtain ⟨_, e, hat, _⟩ := dec_facts hp
    have := hat.1
    omega
  · omega
theorem lenI_nat {s : ByteArray} {a : Nat} (h : a < s.size) : lenI s a = (stepLen s a : Nat) := by
  unfold lenI
  rw [if_pos ⟨by omega, by omega⟩]
  unfold stepLen
  rw [show ((a : Int)).toNat = a from rfl]
  split <;> rfl
theorem okI_nat {s : ByteArray} {a : Nat} (h : a < s.size) : okI s a = stepOk s a := by
  unfold okI
  rw [decide_eq_true (⟨by omega, by omega⟩ : (0 : Int) ≤ a ∧ (a : Int) < s.size), Bool.true_and]
  rfl

/-- The steps from a place on: where each begins, and whether it is a character. -/
noncomputable def stepsFrom (s : ByteArray) (a : Nat) : List (Nat × Bool) :=
  if a < s.size then (a, stepOk s a) :: stepsFrom s (a + stepLen s a) else []
termination_by s.size - a
decreasing_by have := stepLen_pos s a; omega
theorem stepsFrom_cons {s : ByteArray} {a : Nat} (h : a < s.size) : stepsFrom s a = (a, stepOk s a) :: stepsFrom s (a + stepLen s a) := by
  rw [stepsFrom]; simp [h]
theorem stepsFrom_nil {s : ByteArray} {a : Nat} (h : ¬ a < s.size) : stepsFrom s a = [] := by
  rw [stepsFrom]; simp [h]

/-- What a round keeps for the iterator: all that lay below n₀, and the text's place. -/
def KpS (n₀ Bn : Nat) (W W' : World) : Prop := Below n₀ W W' ∧ W'.cell? ⟨Bn, 0, none⟩ = W.cell? ⟨Bn, 0, none⟩
theorem kpS_t {n₀ Bn : Nat} {A B C : World} (h : KpS n₀ Bn A B) (k : KpS n₀ Bn B C) : KpS n₀ Bn A C := ⟨h.1.trans k.1, k.2.trans h.2⟩
theorem kpS_b {n₀ Bn : Nat} {w : World} (hn : n₀ ≤ w.heap.size) (hB : Bn < w.heap.size) (W : World) (l : Nat) (o o' : Obj) (hl : w.heap.size ≤ l) (h : W.heap[l]? = some o) (_ : o.isCells = false) (_ : o.isWalk = false) : KpS n₀ Bn W (W.putObj l o') :=
  ⟨(Below.refl n₀ W).grown (grownBy_putObj' W l o') (by have := (Array.getElem?_eq_some_iff.1 h).1; omega) (fun k e => by cases e; omega),
   World.cell?_of_block (w := W) ((grownBy_putObj' W l o').block Bn (by have := (Array.getElem?_eq_some_iff.1 h).1; omega) (fun e => by cases e; omega))⟩

abbrev encStep (x : Nat × Bool) : Array Value := #[.int .i64 (x.1 : Nat), .bool x.2]

theorem cell_lt {w : World} {b : Nat} {v : Value} (h : w.cell? ⟨b, 0, none⟩ = some v) : b < w.heap.size := by
  by_cases hlt : b < w.heap.size
  · exact hlt
  · have : w.heap[b]? = none := by simp; omega
    simp [World.cell?, this] at h

set_option maxRecDepth 100000 in
set_option maxHeartbeats 2000000 in
theorem steps1_in (n : Nat) (hn : 1 ≤ n) (l Bn n₀ : Nat) (hn₀ : 2 + 1 ≤ n₀) (s : ByteArray) (hs : s.size ≤ maxLen) (J Jx : List (Nat × Bool) → World → Prop) (B : Nat) (hJ : AbidesFrom B J)
    (hY : ∀ pre x W, J pre W → pre.length < (stepsFrom s 0).length → YieldAt Fence.wide (n - 1) Tryd.prog l (encStep x) W fun e W' =>
      (e = .returned (.bool true) ∧ J (pre ++ [x]) W' ∧ KpS n₀ Bn W W') ∨ (e = .returned (.bool false) ∧ Jx (pre ++ [x]) W'))
    (W : World) (hBn : W.cell? ⟨Bn, 0, none⟩ = some (.string s)) (hT : Tabs W) (h0 : J [] W) :
    CallsIn Fence.wide n Tryd.prog 70 #[.func (.yield l) #[] #[], .pointer (some ⟨Bn, 0, none⟩)] W fun e W' => (∃ v, e = .returned v) ∧
      ((∃ ys, ys = stepsFrom s 0 ∧ J ys W') ∨ (∃ pre, pre <+: stepsFrom s 0 ∧ Jx pre W')) := by
  have hs' := hs
  unfold maxLen at hs'
  refine callsIn_of_wp Tryd.func70 rfl trivial ?_ rfl
  simp only [Tryd.ntmps70, List.size_toArray, List.length_cons, List.length_nil, Nat.reduceAdd, Nat.reduceSub, Array.replicate_succ, Array.replicate_zero, List.push_toArray, List.append_toArray, List.nil_append, List.cons_append]
  gi_wp2
  gi_loopw [3] (fun p wr => ∃ (pre : List (Nat × Bool)) (a : Nat), p = .int .i64 (a : Nat) ∧ a ≤ s.size ∧ Hid (stepsFrom s 0 = pre ++ stepsFrom s a) ∧ Tabs wr ∧ wr.cell? ⟨Bn, 0, none⟩ = some (.string s) ∧ Hid (J pre wr))
    (fun p _ => s.size - (intOf p).toNat)
  case atStart => exact ⟨[], 0, rfl, by omega, Lib.hid rfl, hT, hBn, Lib.hid h0⟩
  case round =>
    obtain ⟨pre, a, rfl, ha, hx, hTr, hc, hJs⟩ := hrel
    by_cases hlt : a < s.size
    · have hb1 := stepLen_pos s a
      have hb2 := stepLen_le s a
      have hb3 := stepLen_in hlt
      have hlen := len_any s a hs wr hTr
      unfold LenSays at hlen
      rw [lenI_nat hlt, okI_nat hlt] at hlen
      have hcons := stepsFrom_cons hlt
      obtain ⟨L, hL⟩ : ∃ L, stepLen s a = L := ⟨_, rfl⟩
      obtain ⟨b, hb⟩ : ∃ b, stepOk s a = b := ⟨_, rfl⟩
      rw [hL] at hlen hb1 hb2 hb3 hcons
      rw [hb] at hlen hcons
      have Hlen := Lib.hid hlen
      have Hcons := Lib.hid hcons
      have hlength : Hid (pre.length < (stepsFrom s 0).length) := by
        unfold Hid; rw [hx.out, hcons]; simp
      clear hlen hcons hL hb
      have Hc := Lib.hid hc
      gi_wp2_with (refine ⟨trivial, ?_⟩; gi_at_call 49; refine ((callsIn_wide (n := n - 1)).2 Hlen.out).mono ?_; rintro e w1 ⟨rfl, hu⟩; have hc1 := (hu.cell (p := ⟨Bn, 0, none⟩) (cell_lt Hc.out)).trans Hc.out; have hT1 := hTr.up hu; have hJ1 := hJ pre wr w1 none hJs.out hu.grownBy (fun r e => by cases e); obtain ⟨fn, tmps, assign, body, hy, hR⟩ := hY pre (a, b) w1 hJ1 hlength.out; dsimp only [encStep] at hy; have hR' := Lib.hid hR; clear hR hJ1 hc)
      refine hR'.out.mono ?_
      rintro e W3 (⟨rfl, hJ3, hk3⟩ | ⟨rfl, hJx3⟩)
      · have hc3 : W3.cell? ⟨Bn, 0, none⟩ = some (.string s) := hk3.2.trans hc1
        have hT3 : Tabs W3 := hT1.of_below hn₀ hk3.1
        have HJ3 := Lib.hid hJ3
        clear hJ3 hc1 hy
        gi_wp2
        go_roundw
        case rel => exact ⟨pre ++ [(a, b)], a + L, by go_num, hb3, Lib.hid (by rw [hx.out, Hcons.out]; simp), hT3, hc3, HJ3⟩
        case measure => simp [intOf]; omega
      · gi_wp2
        refine bodyPost_ret (results_none rfl _ _ _) rfl ?_
        exact ⟨⟨_, rfl⟩, .inr ⟨pre ++ [(a, b)], ⟨stepsFrom s (a + L), by rw [hx.out, Hcons.out]; simp⟩, hJx3⟩⟩
    · have hnil := Lib.hid (stepsFrom_nil hlt)
      have hge : (s.size : Int) ≤ a := by omega
      gi_wp2
      go_end0
      exact ⟨⟨_, rfl⟩, .inl ⟨pre, by rw [hx.out, hnil.out]; simp, hJs.out⟩⟩

set_option maxHeartbeats 1000000 in
theorem steps_in (s : ByteArray) (w : World) :
    Calls Tryd.prog 63 #[.string s] w fun e w' => e = .returned (.func (.func 70) #[] #[.pointer (some ⟨w.heap.size, 0, none⟩)]) ∧ w' = w.alloc (.cells #[.string s] 9) := by
  go_enter Tryd.func63, Tryd.ntmps63
  go_wp2
  go_ret
  exact ⟨rfl, rfl⟩

theorem steps_stops (n : Nat) (hn : 1 ≤ n) (Bn n₀ : Nat) (hn₀ : 2 + 1 ≤ n₀) (s : ByteArray) (hs : s.size ≤ maxLen) (w : World) (hT : Tabs w) (hc : w.cell? ⟨Bn, 0, none⟩ = some (.string s)) :
    SeqStopsK Fence.wide n Tryd.prog 70 #[.pointer (some ⟨Bn, 0, none⟩)] encStep (KpS n₀ Bn) (fun ys => ys = stepsFrom s 0) (fun pre => pre <+: stepsFrom s 0) (stepsFrom s 0).length w := fun l J Jx W hW hJ _ hY h0 =>
  steps1_in n hn l Bn n₀ hn₀ s hs J Jx _ hJ hY W ((hW.cell (p := ⟨Bn, 0, none⟩) (cell_lt hc)).trans hc) (hT.of_below (by have := hT.big; omega) hW) h0
end Go.Proofs.YtfcpieodgflmnaaDoor

namespace Go.Proofs.YtfcpieodgflmnaaDoor
open Go.RowKit Go.Shelf
attribute [local go_sem] Oper.semAt_some

noncomputable def validS (s : ByteArray) : Bool := (stepsFrom s 0).all (·.2)
noncomputable def countS (s : ByteArray) : Nat := (stepsFrom s 0).length
theorem cell_new_l (W : World) (v : Value) (t : TypeId) : (W.alloc (.cells #[v] t)).cell? ⟨W.heap.size, 0, none⟩ = some v ∧ (W.alloc (.cells #[v] t)).frozen? ⟨W.heap.size, 0, none⟩ = false :=
  ⟨by simp, by simp⟩
theorem cell_alloc_l {W : World} {a : Addr} {v : Value} (o : Obj) (h : W.cell? a = some v) : (W.alloc o).cell? a = some v := cell_kept h (Up.alloc W o).grownBy (fun r e => by cases e)
theorem frozen_alloc_l {W : World} {a : Addr} {v : Value} (o : Obj) (h : W.cell? a = some v) (hf : W.frozen? a = false) : (W.alloc o).frozen? a = false := (frozen_kept h (Up.alloc W o).grownBy (fun r e => by cases e)).trans hf
theorem steps_length (s : ByteArray) : ∀ m a, s.size - a ≤ m → (stepsFrom s a).length ≤ s.size - a := by
  intro m
  induction m with
  | zero => intro a h; rw [stepsFrom_nil (by omega)]; simp
  | succ m ih =>
    intro a h
    by_cases hlt : a < s.size
    · have h1 := stepLen_pos s a
      have h2 := stepLen_in hlt
      rw [stepsFrom_cons hlt]
      have := ih (a + stepLen s a) (by omega)
      simp only [List.length_cons]
      omega
    · rw [stepsFrom_nil hlt]; simp
theorem countS_le (s : ByteArray) : countS s ≤ s.size := by
  have := steps_length s s.size 0 (by omega)
  unfold countS; omega
theorem valid_yes {s : ByteArray} {l : List (Nat × Bool)} (hl : l = stepsFrom s 0) (h : ∀ x ∈ l, x.2 = true) : validS s = true := by
  unfold validS; rw [← hl, List.all_eq_true]; exact h
theorem valid_no {s : ByteArray} {l : List (Nat × Bool)} (hl : l <+: stepsFrom s 0) {x : Nat × Bool} (hx : x ∈ l) (h : x.2 = false) : validS s = false := by
  unfold validS; rw [List.all_eq_false]; exact ⟨x, hl.subset hx, by simp [h]⟩

set_option maxRecDepth 100000 in
set_option maxHeartbeats 2000000 in
theorem count_in (s : ByteArray) (hs : s.size ≤ maxLen) (w : World) (hT : Tabs w) :
    CallsIn Fence.wide 4 Tryd.prog 45 #[.string s] w fun e w' => e = .returned (.int .i64 (countS s : Nat)) ∧ Up w w' := by
  have hbig := hT.big
  have hs' := hs
  have hcl := countS_le s
  unfold maxLen at hs'
  refine callsIn_of_wp_marks Tryd.func45 rfl trivial ?_ rfl
  simp only [Tryd.ntmps45, List.size_toArray, List.length_cons, List.length_nil, Nat.reduceAdd, Nat.reduceSub, Array.replicate_succ, Array.replicate_zero, List.push_toArray, List.append_toArray, List.nil_append, List.cons_append]
  gi_wp2_with (refine ⟨trivial, ?_⟩; gi_at_call 63; refine ((callsIn_wide (n := 3)).2 (steps_in s _)).mono ?_; rintro e w' ⟨rfl, rfl⟩)
  have c0 := cell_new_l w (.int .i64 0) 3
  have c1 := cell_new_l (w.alloc (.cells #[.int .i64 0] 3)) (.string s) 9
  simp only [World.size_alloc] at c1
  have hB0 : Below w.heap.size w ((w.alloc (.cells #[.int .i64 0] 3)).alloc (.cells #[.string s] 9)) := ((Below.refl _ w).alloc (Nat.le_refl _) _).alloc (by simp) _
  refine wpIn_rangeFunc_ownF rfl (by omega) (gf := 70) (lb := #[.pointer (some ⟨w.heap.size + 1, 0, none⟩)]) rfl trivial (enters_of Tryd.func70 (by kernel_rfl) rfl)
    (steps_stops 3 (by omega) (w.heap.size + 1) w.heap.size (by omega) s hs _ (hT.of_below (by omega) hB0) c1.1) kpS_t (kpS_b (by simp; omega) (by simp)) (Below.refl _ _) (fun _ => rfl)
    (fun pre W => (W.cell? ⟨w.heap.size, 0, none⟩ = some (.int .i64 (pre.length : Nat)) ∧ W.frozen? ⟨w.heap.size, 0, none⟩ = false) ∧ Below w.heap.size w W)
    (fun _ _ _ => False)
    (OwnFrom.and (Own.from (fun s A B row hs hg hr => ⟨cell_kept hs.1 hg hr, (frozen_kept hs.1 hg hr).trans hs.2⟩) _) (ownFrom_below (Nat.le_refl _) (by simp; omega)))
    (fun _ _ _ _ _ hs _ _ => hs)
    ⟨⟨cell_alloc_l _ c0.1, frozen_alloc_l _ c0.1 c0.2⟩, hB0⟩
    (fun x => { tmps := #[.string s, undef, .int .i64 0, .pointer (some ⟨w.heap.size, 0, none⟩), .string s, .func (.func 70) #[] #[.pointer (some ⟨w.heap.size + 1, 0, none⟩)], .int .i64 (x.1 : Nat), .bool x.2, undef, undef, undef], defers := [] }) ?assign ?body ?done ?stop
  case assign =>
    intro l x W K hK
    gi_wp2
    simpa [encStep] using hK
  case body =>
    rintro l pre ⟨a, b⟩ W ⟨⟨hc, hf⟩, hB⟩ hN
    have hN' : pre.length < countS s := hN
    clear hN
    gi_wp2
    refine ⟨KeepsOthers.setCell _ _ _, ⟨(Below.refl w.heap.size W).setCell (p := ⟨w.heap.size, 0, none⟩) (Nat.le_refl _) _, World.cell?_of_block (Below.heap_setCell _ _ _ _ (by simp))⟩, ⟨?_, by rw [World.frozen?_setCell]; exact hf⟩, hB.setCell (p := ⟨w.heap.size, 0, none⟩) (Nat.le_refl _) _⟩
    refine (World.cell?_setCell_same' _ _ _ (by rw [hc]; rfl)).trans ?_
    simp
  case done =>
    rintro D ys W hD rfl ⟨⟨hc, _⟩, hB⟩ hK
    have hc' : W.cell? ⟨w.heap.size, 0, none⟩ = some (.int .i64 (countS s : Nat)) := hc
    clear hc
    gi_wp2
    refine ⟨by simp, .inl ⟨_, _, rfl, run_takeDeferred hK, ?_⟩⟩
    exact ⟨_, results_tmp rfl _ _ _, rfl, hB.trans (belowK_b (w := w) (Nat.le_refl _) W D _ _ (by simp at hD; omega) hK rfl rfl)⟩
  case stop =>
    rintro D c pre W _ _ h _
    exact h.elim

theorem count_any (s : ByteArray) (hs : s.size ≤ maxLen) (w : World) (hT : Tabs w) : Calls Tryd.prog 45 #[.string s] w fun e w' => e = .returned (.int .i64 (countS s : Nat)) ∧ Up w w' :=
  callsIn_wide.1 (count_in s hs w hT)
end Go.Proofs.YtfcpieodgflmnaaDoor

namespace Go.Proofs.YtfcpieodgflmnaaDoor
open Go.RowKit

theorem need_at (c : Nat) : (c < 128 ∧ need c = 1) ∨ (128 ≤ c ∧ c < 2048 ∧ need c = 2) ∨ (2048 ≤ c ∧ c < 65536 ∧ need c = 3) ∨ (65536 ≤ c ∧ need c = 4) := by
  unfold need; repeat' split
  all_goals omega

/-- The character's bytes, as a string. -/
def encS (c : Nat) : ByteArray := strOfNums ((enc c).map fun n : Nat => (n : Int))
def putS (c : Int) : ByteArray := if isCI c = true then encS c.toNat else ByteArray.empty
def PutSays (c : Int) (w : World) (e : Ending) (w' : World) : Prop := e = .returned (.tuple #[.string (putS c), .bool (isCI c)]) ∧ Up w w'
theorem putSays {c : Int} {s : ByteArray} {b : Bool} {w w' : World} {e : Ending} (h1 : putS c = s) (h2 : isCI c = b) (he : e = .returned (.tuple #[.string s, .bool b])) (hu : Up w w') : PutSays c w e w' := by
  unfold PutSays; rw [h1, h2]; exact ⟨he, hu⟩
theorem putS_yes {c : Nat} {l : List Int} (hi : isC c = true) (hl : l = (enc c).map fun n : Nat => (n : Int)) : putS c = strOfNums l := by
  unfold putS; rw [if_pos (by rw [isCI_nat]; exact hi), hl]; rfl

theorem wlater (x : Nat) (hx : x < 2147483648) : bits BinOp.or IntKind.u8 128 (bits BinOp.and IntKind.i32 (x : Int) 63 % 256) = ((128 + x % 64 : Nat) : Int) := by
  have e := i32_and_nat x 63 hx (by omega)
  rw [nat_mask6] at e
  rw [show (63 : Int) = ((63 : Nat) : Int) from rfl, e, show ((x % 64 : Nat) : Int) % 256 = ((x % 64 : Nat) : Int) from by omega]
  have h := u8_or_nat 128 (x % 64) (by omega) (by omega)
  rw [nat_join 7 128 (x % 64) (by omega) (by omega)] at h
  exact h
theorem wfirst (l i x : Nat) (hl : l < 256) (hi : l % 2 ^ i = 0) (hx : x < 2 ^ i) (hx2 : x < 256) : bits BinOp.or IntKind.u8 (l : Int) ((x : Int) % 256) = ((l + x : Nat) : Int) := by
  rw [show (x : Int) % 256 = (x : Int) from by omega, u8_or_nat l x hl hx2, nat_join i l x hi hx]

theorem conv_new (w : World) (l : List Int) (n c : Nat) (hn : l.length = n) :
    (convert 75 9 (.slice (some ⟨w.heap.size, 0, none⟩) n c)).run Tryd.prog (w.alloc (.cells (l.map (Value.int .u8)).toArray 5)) = .ok (.string (strOfNums l)) (w.alloc (.cells (l.map (Value.int .u8)).toArray 5)) := by
  refine run_convert_bytes_arg _ 75 5 Tryd.underlying75 Tryd.underlying5 _ 0 n c l hn (fun i hi => ?_) _ Tryd.underlying9
  have h : (w.alloc (.cells (l.map (Value.int .u8)).toArray 5)).heap[w.heap.size]? = some (.cells (l.map (Value.int .u8)).toArray 5) := by
    show (w.heap.push _)[w.heap.size]? = _
    simp
  have hi' : i < l.length := by omega
  unfold World.cell?
  simp only [h]
  simp [hi']

end Go.Proofs.YtfcpieodgflmnaaDoor

namespace Go.Proofs.YtfcpieodgflmnaaDoor
open Go.RowKit

set_option maxRecDepth 100000 in
set_option maxHeartbeats 1000000 in
theorem refPut_1 (x : Int) (hi : isCI x = true) (l1 : x < 128) (h0 : 0 ≤ x) (w : World) :
    Calls Tryd.prog 48 #[.int .i32 x] w (PutSays x w) := by
  have hcv : ∀ (a : Int), (convert 75 9 (.slice (some ⟨w.heap.size, 0, none⟩) 1 1)).run Tryd.prog (w.alloc (.cells #[.int .u8 a] 5)) = .ok (.string (strOfNums [a])) (w.alloc (.cells #[.int .u8 a] 5)) := fun a => conv_new w [a] 1 1 rfl
  have hl : putS x = strOfNums [x] := by
    obtain ⟨c, rfl⟩ := Int.eq_ofNat_of_zero_le h0
    have hi' : isC c = true := by rw [← isCI_nat]; exact hi
    have hcb := (isC_iff c).1 hi'
    refine putS_yes hi' ?_
    unfold enc
    rw [if_pos (by omega)]
    simp
  have HL := Lib.hid hl
  have HB := Lib.hid hi
  clear hi hl
  go_enter Tryd.func48, Tryd.ntmps48
  go_wp2
  go_ret2
  exact putSays HL.out HB.out rfl (Up.alloc _ _)

set_option maxRecDepth 100000 in
set_option maxHeartbeats 1000000 in
theorem refPut_2 (x : Int) (hi : isCI x = true) (l1 : (128 : Int) ≤ x) (l2 : x < 2048) (h0 : 0 ≤ x) (w : World) :
    Calls Tryd.prog 48 #[.int .i32 x] w (PutSays x w) := by
  have hcv : ∀ (a b : Int), (convert 75 9 (.slice (some ⟨w.heap.size, 0, none⟩) 2 2)).run Tryd.prog (w.alloc (.cells #[.int .u8 a, .int .u8 b] 5)) = .ok (.string (strOfNums [a, b])) (w.alloc (.cells #[.int .u8 a, .int .u8 b] 5)) := fun a b => conv_new w [a, b] 2 2 rfl
  have hl : putS x = strOfNums [192 + x / 64, 128 + x % 64] := by
    obtain ⟨c, rfl⟩ := Int.eq_ofNat_of_zero_le h0
    have hi' : isC c = true := by rw [← isCI_nat]; exact hi
    have hcb := (isC_iff c).1 hi'
    refine putS_yes hi' ?_
    unfold enc
    rw [if_neg (by omega), if_pos (by omega)]
    simp
  have HL := Lib.hid hl
  have HB := Lib.hid hi
  clear hi hl
  go_enter Tryd.func48, Tryd.ntmps48
  go_wp2
  go_ret2
  exact putSays HL.out HB.out rfl (Up.alloc _ _)

set_option maxRecDepth 100000 in
set_option maxHeartbeats 1000000 in
theorem refPut_3 (x : Int) (hi : isCI x = true) (l1 : (2048 : Int) ≤ x) (l2 : x < 65536) (l3 : x < 55296) (h0 : 0 ≤ x) (w : World) :
    Calls Tryd.prog 48 #[.int .i32 x] w (PutSays x w) := by
  have hcv : ∀ (a b d : Int), (convert 75 9 (.slice (some ⟨w.heap.size, 0, none⟩) 3 3)).run Tryd.prog (w.alloc (.cells #[.int .u8 a, .int .u8 b, .int .u8 d] 5)) = .ok (.string (strOfNums [a, b, d])) (w.alloc (.cells #[.int .u8 a, .int .u8 b, .int .u8 d] 5)) := fun a b d => conv_new w [a, b, d] 3 3 rfl
  have hl : putS x = strOfNums [224 + x / 4096, 128 + x / 64 % 64, 128 + x % 64] := by
    obtain ⟨c, rfl⟩ := Int.eq_ofNat_of_zero_le h0
    have hi' : isC c = true := by rw [← isCI_nat]; exact hi
    have hcb := (isC_iff c).1 hi'
    refine putS_yes hi' ?_
    unfold enc
    rw [if_neg (by omega), if_neg (by omega), if_pos (by omega)]
    simp
  have HL := Lib.hid hl
  have HB := Lib.hid hi
  clear hi hl
  go_enter Tryd.func48, Tryd.ntmps48
  go_wp2
  go_ret2
  exact putSays HL.out HB.out rfl (Up.alloc _ _)

set_option maxRecDepth 100000 in
set_option maxHeartbeats 1000000 in
theorem refPut_3b (x : Int) (hi : isCI x = true) (l1 : (2048 : Int) ≤ x) (l2 : x < 65536) (l3 : (57343 : Int) < x) (h0 : 0 ≤ x) (w : World) :
    Calls Tryd.prog 48 #[.int .i32 x] w (PutSays x w) := by
  have hcv : ∀ (a b d : Int), (convert 75 9 (.slice (some ⟨w.heap.size, 0, none⟩) 3 3)).run Tryd.prog (w.alloc (.cells #[.int .u8 a, .int .u8 b, .int .u8 d] 5)) = .ok (.string (strOfNums [a, b, d])) (w.alloc (.cells #[.int .u8 a, .int .u8 b, .int .u8 d] 5)) := fun a b d => conv_new w [a, b, d] 3 3 rfl
  have hl : putS x = strOfNums [224 + x / 4096, 128 + x / 64 % 64, 128 + x % 64] := by
    obtain ⟨c, rfl⟩ := Int.eq_ofNat_of_zero_le h0
    have hi' : isC c = true := by rw [← isCI_nat]; exact hi
    have hcb := (isC_iff c).1 hi'
    refine putS_yes hi' ?_
    unfold enc
    rw [if_neg (by omega), if_neg (by omega), if_pos (by omega)]
    simp
  have HL := Lib.hid hl
  have HB := Lib.hid hi
  clear hi hl
  go_enter Tryd.func48, Tryd.ntmps48
  go_wp2
  go_ret2
  exact putSays HL.out HB.out rfl (Up.alloc _ _)

set_option maxRecDepth 100000 in
set_option maxHeartbeats 1000000 in
theorem refPut_4 (x : Int) (hi : isCI x = true) (l1 : (65536 : Int) ≤ x) (l2 : x ≤ 1114111) (h0 : 0 ≤ x) (w : World) :
    Calls Tryd.prog 48 #[.int .i32 x] w (PutSays x w) := by
  have hcv : ∀ (a b d f : Int), (convert 75 9 (.slice (some ⟨w.heap.size, 0, none⟩) 4 4)).run Tryd.prog (w.alloc (.cells #[.int .u8 a, .int .u8 b, .int .u8 d, .int .u8 f] 5)) = .ok (.string (strOfNums [a, b, d, f])) (w.alloc (.cells #[.int .u8 a, .int .u8 b, .int .u8 d, .int .u8 f] 5)) := fun a b d f => conv_new w [a, b, d, f] 4 4 rfl
  have hl : putS x = strOfNums [240 + x / 262144, 128 + x / 4096 % 64, 128 + x / 64 % 64, 128 + x % 64] := by
    obtain ⟨c, rfl⟩ := Int.eq_ofNat_of_zero_le h0
    have hi' : isC c = true := by rw [← isCI_nat]; exact hi
    have hcb := (isC_iff c).1 hi'
    refine putS_yes hi' ?_
    unfold enc
    rw [if_neg (by omega), if_neg (by omega), if_neg (by omega)]
    simp
  have HL := Lib.hid hl
  have HB := Lib.hid hi
  clear hi hl
  go_enter Tryd.func48, Tryd.ntmps48
  go_wp2
  go_ret2
  exact putSays HL.out HB.out rfl (Up.alloc _ _)

set_option maxHeartbeats 1000000 in
theorem refPut_no (c : Int) (hi : isCI c = false) (w : World) : Calls Tryd.prog 48 #[.int .i32 c] w (PutSays c w) := by
  have hp : putS c = ByteArray.empty := by unfold putS; rw [if_neg (by rw [hi]; simp)]
  have hc : c < 0 ∨ 1114111 < c ∨ (55296 ≤ c ∧ c ≤ 57343) := by unfold isCI at hi; simp at hi; omega
  have HP := Lib.hid hp
  have HI := Lib.hid hi
  clear hp hi
  rcases hc with h | h | ⟨h1, h2⟩
  · go_enter Tryd.func48, Tryd.ntmps48
    go_wp2
    go_ret2
    exact putSays HP.out HI.out rfl (Up.refl _)
  · have h0 : 0 ≤ c := by omega
    go_enter Tryd.func48, Tryd.ntmps48
    go_wp2
    go_ret2
    exact putSays HP.out HI.out rfl (Up.refl _)
  · have h0 : 0 ≤ c := by omega
    have h3 : c ≤ 1114111 := by omega
    go_enter Tryd.func48, Tryd.ntmps48
    go_wp2
    go_ret2
    exact putSays HP.out HI.out rfl (Up.refl _)

theorem refPut_any (c : Int) (w : World) : Calls Tryd.prog 48 #[.int .i32 c] w (PutSays c w) := by
  cases hi : isCI c with
  | true =>
    have h0 : 0 ≤ c := by unfold isCI at hi; simp at hi; omega
    obtain ⟨k, rfl⟩ := Int.eq_ofNat_of_zero_le h0
    have hi' : isC k = true := by rw [← isCI_nat]; exact hi
    have hb := (isC_iff k).1 hi'
    by_cases h1 : k < 128
    · exact refPut_1 k hi (by omega) h0 w
    by_cases h2 : k < 2048
    · exact refPut_2 k hi (by omega) (by omega) h0 w
    by_cases h3 : k < 55296
    · exact refPut_3 k hi (by omega) (by omega) (by omega) h0 w
    by_cases h4 : k < 65536
    · exact refPut_3b k hi (by omega) (by omega) (by omega) h0 w
    · exact refPut_4 k hi (by omega) (by omega) h0 w
  | false => exact refPut_no c hi w
end Go.Proofs.YtfcpieodgflmnaaDoor

namespace Go.Proofs.YtfcpieodgflmnaaDoor
open Go.RowKit
def lm (n : Nat) : Nat := if n = 1 then 256 else if n = 2 then 32 else if n = 3 then 16 else 8
/-- What the document takes out of the first j bytes. -/
def racc (s : ByteArray) (a n : Nat) : Nat → Nat
  | 0 => 0
  | 1 => bt s a % lm n
  | j + 2 => racc s a n (j + 1) * 64 + bt s (a + (j + 1)) % 64
def OKat (s : ByteArray) (a n : Nat) : Prop := isC (racc s a n n) = true ∧ encS (racc s a n n) = s.extract a (a + n)

theorem encS_toList (c : Nat) : (encS c).data.toList = (enc c).map UInt8.ofNat := by
  unfold encS
  rw [strOfNums_data, List.map_map]
  rfl
theorem encS_size (c : Nat) : (encS c).size = need c := by
  unfold encS
  rw [strOfNums_size, List.length_map, enc_length]
theorem enc_lt {c : Nat} (hc : isC c = true) : ∀ x ∈ enc c, x < 256 := by
  have h := (isC_iff c).1 hc
  intro x hx
  unfold enc at hx
  split at hx
  · simp at hx; omega
  split at hx
  · simp at hx; omega
  split at hx
  · simp at hx; omega
  · simp at hx; omega
theorem bt_list (s : ByteArray) (i : Nat) (h : i < s.size) : bt s i = (s.data.toList[i]'(by simpa using h)).toNat := by
  rw [← bt_eq h]; rfl
theorem bt_encS {c i : Nat} (hc : isC c = true) (hi : i < need c) : bt (encS c) i = (enc c).getD i 0 := by
  have hs : i < (encS c).size := by rw [encS_size]; exact hi
  have hl : i < (enc c).length := by rw [enc_length]; exact hi
  rw [bt_list _ _ hs]
  simp only [encS_toList, List.getElem_map]
  have hx := enc_lt hc (enc c)[i] (List.getElem_mem hl)
  rw [UInt8.toNat_ofNat']
  simp [List.getD, hl]
  omega
theorem bt_extract {s : ByteArray} {a n i : Nat} (h : a + n ≤ s.size) (hi : i < n) : bt (s.extract a (a + n)) i = bt s (a + i) := by
  have h1 : i < (s.extract a (a + n)).size := by rw [ByteArray.size_extract]; omega
  rw [← bt_eq h1, ← bt_eq (show a + i < s.size by omega)]
  simp [ByteArray.getElem_extract]
theorem ext_bt {s t : ByteArray} (hs : s.size = t.size) (h : ∀ i, i < s.size → bt s i = bt t i) : s = t := by
  apply ByteArray.ext
  apply Array.ext (by simpa using hs)
  intro i h1 h2
  have h1' : i < s.size := h1
  have h2' : i < t.size := h2
  have e := h i h1'
  rw [← bt_eq h1', ← bt_eq h2'] at e
  exact UInt8.toNat_inj.1 e
/-- The bytes of c stand at a, said of strings. -/
theorem at_iff {s : ByteArray} {a c : Nat} (hc : isC c = true) : At s a c ↔ a + need c ≤ s.size ∧ encS c = s.extract a (a + need c) := by
  constructor
  · rintro ⟨h1, h2⟩
    refine ⟨h1, ext_bt (by rw [encS_size, ByteArray.size_extract]; omega) fun i hi => ?_⟩
    rw [encS_size] at hi
    rw [bt_encS hc hi, bt_extract h1 hi, h2 i hi]
  · rintro ⟨h1, h2⟩
    refine ⟨h1, fun i hi => ?_⟩
    rw [← bt_encS hc hi, h2, bt_extract h1 hi]

theorem racc_of_at {s : ByteArray} {a c : Nat} (hc : isC c = true) (h : At s a c) : racc s a (need c) (need c) = c := by
  obtain ⟨hs, hb⟩ := h
  have hi := (isC_iff c).1 hc
  rcases need_at c with ⟨h1, e⟩ | ⟨h0, h1, e⟩ | ⟨h0, h1, e⟩ | ⟨h0, e⟩
  · have b0 := hb 0 (by omega)
    unfold enc at b0; rw [if_pos h1] at b0; simp at b0
    rw [e]; simp [racc, lm]; omega
  · have b0 := hb 0 (by omega)
    have b1 := hb 1 (by omega)
    unfold enc at b0 b1; rw [if_neg (by omega), if_pos h1] at b0 b1; simp at b0 b1
    rw [e]; simp [racc, lm]; omega
  · have b0 := hb 0 (by omega)
    have b1 := hb 1 (by omega)
    have b2 := hb 2 (by omega)
    unfold enc at b0 b1 b2; rw [if_neg (by omega), if_neg (by omega), if_pos h1] at b0 b1 b2; simp at b0 b1 b2
    rw [e]; simp [racc, lm]; omega
  · have b0 := hb 0 (by omega)
    have b1 := hb 1 (by omega)
    have b2 := hb 2 (by omega)
    have b3 := hb 3 (by omega)
    unfold enc at b0 b1 b2 b3; rw [if_neg (by omega), if_neg (by omega), if_neg (by omega)] at b0 b1 b2 b3; simp at b0 b1 b2 b3
    rw [e]; simp [racc, lm]; omega
theorem dec_of_ok {s : ByteArray} {a n : Nat} (hn : 1 ≤ n) (hs : a + n ≤ s.size) (h : OKat s a n) : dec s a = (racc s a n n, n) := by
  obtain ⟨hc, he⟩ := h
  have e : need (racc s a n n) = n := by
    have := congrArg ByteArray.size he
    rw [encS_size, ByteArray.size_extract] at this
    omega
  have hat : At s a (racc s a n n) := (at_iff hc).2 ⟨by omega, by rw [e]; exact he⟩
  have hst := stands_of_at hc hat
  rw [e] at hst
  exact dec_some hst
theorem dec_of_none {s : ByteArray} {a : Nat} (h : ∀ m, 1 ≤ m → m ≤ 4 → a + m ≤ s.size → ¬ OKat s a m) : dec s a = (0, 0) := by
  refine dec_none fun c n hs => ?_
  obtain ⟨e, hat⟩ := at_of_stands hs
  have hc := hs.2.2.2.2.2.2
  have hr := racc_of_at hc hat
  subst e
  exact h (need c) (need_pos c) (need_le c) hat.1 ⟨by rw [hr]; exact hc, by rw [hr]; exact ((at_iff hc).1 hat).2⟩

theorem racc_succ (s : ByteArray) (a n j : Nat) (h : 1 ≤ j) : racc s a n (j + 1) = racc s a n j * 64 + bt s (a + j) % 64 := by
  cases j with
  | zero => omega
  | succ j => rfl
theorem racc_lt (s : ByteArray) (a n : Nat) : ∀ j, j ≤ 3 → racc s a n j < 1048576
  | 0, _ => by simp [racc]
  | 1, _ => by have := bt_lt s a; have := Nat.mod_le (bt s a) (lm n); simp only [racc]; omega
  | 2, _ => by have := bt_lt s a; have h := Nat.mod_le (bt s a) (lm n); simp only [racc]; omega
  | 3, _ => by have := bt_lt s a; have h := Nat.mod_le (bt s a) (lm n); simp only [racc]; omega
  | j + 4, h => by omega
theorem wref (c x : Nat) (hc : c < 1048576) (h : x < 256) : wrap32 (wrap32 ((c : Int) * 64) + (wrap32 (x : Int)).tmod 64) = ((c * 64 + x % 64 : Nat) : Int) := by
  have e1 : wrap32 (x : Int) = x := by unfold wrap32; omega
  have e2 : wrap32 ((c : Int) * 64) = (c : Int) * 64 := by unfold wrap32; omega
  rw [e1, e2, Int.tmod_eq_emod_of_nonneg (by omega)]
  unfold wrap32; omega
theorem wref0 (x m : Nat) (h : x < 256) : (wrap32 (x : Int)).tmod (m : Nat) = ((x % m : Nat) : Int) := by
  have e1 : wrap32 (x : Int) = x := by unfold wrap32; omega
  rw [e1, Int.tmod_eq_emod_of_nonneg (by omega)]
  rfl
end Go.Proofs.YtfcpieodgflmnaaDoor

namespace Go.Proofs.YtfcpieodgflmnaaDoor
open Go.RowKit
theorem bytes_ext {a b : ByteArray} (h : a.toList = b.toList) : a = b := by
  rw [ByteArray.toList_eq, ByteArray.toList_eq] at h
  exact ByteArray.ext (Array.toList_inj.mp h)
theorem charSays_at {s : ByteArray} {k c n : Nat} {C : Int} {b : Bool} {w w' : World} {e : Ending} (hk : k < s.size) (hd : dec s k = (c, n)) (hC : C = c) (hb : b = decide (0 < n))
    (he : e = .returned (.tuple #[.int .i32 C, .bool b])) (hu : Up w w') : CharSays s k w e w' := by
  subst hC hb
  refine charSays ?_ ?_ he hu
  · unfold chI; rw [if_pos ⟨by omega, by omega⟩, show ((k : Int)).toNat = k from rfl, hd]
  · unfold okI; rw [decide_eq_true (⟨by omega, by omega⟩ : (0 : Int) ≤ k ∧ (k : Int) < s.size), show ((k : Int)).toNat = k from rfl, hd, Bool.true_and]

set_option maxRecDepth 100000 in
set_option maxHeartbeats 2000000 in
theorem refChar_in (s : ByteArray) (k : Nat) (hk : k < s.size) (hs : s.size ≤ maxLen) (w : World) :
    Calls Tryd.prog 47 #[.string s, .int .i64 k] w (CharSays s k w) := by
  unfold maxLen at hs
  have hk0 : decide ((k : Int) < 0) = false := by simp
  have hk1 : decide (s.size ≤ k) = false := by simp; omega
  go_enter Tryd.func47, Tryd.ntmps47
  go_wp2
  go_loopw [6] (fun v wr => ∃ n : Nat, 1 ≤ n ∧ n ≤ 5 ∧ n ≤ s.size - k + 1 ∧ v = .int .i64 n ∧ Hid (∀ m, 1 ≤ m → m < n → ¬ OKat s k m) ∧ Up w wr)
    (fun v _ => 5 - (intOf v).toNat)
  case atStart => exact ⟨1, by omega, by omega, by omega, rfl, Lib.hid fun m h1 h2 => by omega, Up.refl _⟩
  case round =>
    obtain ⟨n, hn1, hn5, hnr, rfl, Hno, hu⟩ := hrel
    by_cases hgo : n ≤ 4 ∧ n ≤ s.size - k
    · obtain ⟨hn4, hnr2⟩ := hgo
      have hle : (n : Int) ≤ s.size - k := by omega
      obtain ⟨wo, rfl⟩ : ∃ wo : World, wo = wr := ⟨_, rfl⟩
      go_wp2
      go_loop [7, 8] (fun c i => ∃ (q : Nat) (C : Int), q ≤ n ∧ i = .int .i64 q ∧ c = .int .i32 C ∧ Hid (C = (racc s k n q : Nat)))
        (fun _ i => n - (intOf i).toNat)
      case atStart => exact ⟨0, 0, by omega, rfl, rfl, Lib.hid rfl⟩
      case round =>
        obtain ⟨q, C, hq, rfl, rfl, HC⟩ := hrel
        by_cases hqn : q < n
        · have hks : k + q < s.size := by omega
          by_cases hq0 : 0 < q
          · have hst := wref (racc s k n q) s[k + q].toNat (racc_lt s k n q (by omega)) (UInt8.toNat_lt _)
            have Hst := Lib.hid hst
            clear hst
            go_wp2
            go_round
            case rel => exact ⟨q + 1, _, by omega, by go_num, rfl, Lib.hid (by rw [HC.out, Hst.out, racc_succ _ _ _ _ hq0, bt_eq hks])⟩
            case measure => simp [intOf]; omega
          · have Hq : Hid (q = 0) := Lib.hid (by omega)
            have Hb : Hid (s[k + q].toNat = bt s k) := Lib.hid (by rw [bt_eq hks, Hq.out]; rfl)
            have hq1 : (q : Int) ≤ 0 := by omega
            clear hq0
            have h4 : n = 1 ∨ n = 2 ∨ n = 3 ∨ n = 4 := by omega
            rcases h4 with h | h | h | h
            · have f1 : ((n : Int) == 1) = true := by simp; omega
              have hst : wrap32 (s[k + q].toNat : Int) = (racc s k n (q + 1) : Nat) := by
                rw [Hb.out, Hq.out]; simp only [racc, lm, h]; have := bt_lt s k; unfold wrap32; simp; omega
              have Hst := Lib.hid hst
              clear hst h
              go_wp2
              go_round
              case rel => exact ⟨q + 1, _, by omega, by go_num, rfl, Lib.hid Hst.out⟩
              case measure => simp [intOf]; omega
            · have f1 : ((n : Int) == 1) = false := by simp; omega
              have f2 : ((n : Int) == 2) = true := by simp; omega
              have hst : (wrap32 (s[k + q].toNat : Int)).tmod 32 = (racc s k n (q + 1) : Nat) := by
                rw [Hb.out, Hq.out]; simp only [racc, lm, h]; exact wref0 (bt s k) 32 (bt_lt s k)
              have Hst := Lib.hid hst
              clear hst h
              go_wp2
              go_round
              case rel => exact ⟨q + 1, _, by omega, by go_num, rfl, Lib.hid Hst.out⟩
              case measure => simp [intOf]; omega
            · have f1 : ((n : Int) == 1) = false := by simp; omega
              have f2 : ((n : Int) == 2) = false := by simp; omega
              have f3 : ((n : Int) == 3) = true := by simp; omega
              have hst : (wrap32 (s[k + q].toNat : Int)).tmod 16 = (racc s k n (q + 1) : Nat) := by
                rw [Hb.out, Hq.out]; simp only [racc, lm, h]; exact wref0 (bt s k) 16 (bt_lt s k)
              have Hst := Lib.hid hst
              clear hst h
              go_wp2
              go_round
              case rel => exact ⟨q + 1, _, by omega, by go_num, rfl, Lib.hid Hst.out⟩
              case measure => simp [intOf]; omega
            · have f1 : ((n : Int) == 1) = false := by simp; omega
              have f2 : ((n : Int) == 2) = false := by simp; omega
              have f3 : ((n : Int) == 3) = false := by simp; omega
              have hst : (wrap32 (s[k + q].toNat : Int)).tmod 8 = (racc s k n (q + 1) : Nat) := by
                rw [Hb.out, Hq.out]; simp only [racc, lm, h]; exact wref0 (bt s k) 8 (bt_lt s k)
              have Hst := Lib.hid hst
              clear hst h
              go_wp2
              go_round
              case rel => exact ⟨q + 1, _, by omega, by go_num, rfl, Lib.hid Hst.out⟩
              case measure => simp [intOf]; omega
        · have Hqn : Hid (q = n) := Lib.hid (by omega)
          cases hi : isCI C with
          | false =>
            have hp := refPut_any C wo
            unfold PutSays at hp
            rw [hi] at hp
            have Hp := Lib.hid hp
            have Hi := Lib.hid hi
            clear hp hi
            go_wp2_with (go_at_call 48; refine (Hp.out).mono ?_; rintro e w' ⟨rfl, hu2⟩)
            go_roundw
            case rel =>
              refine ⟨n + 1, by omega, by omega, by omega, by go_num, Lib.hid fun m h1 h2 h3 => ?_, hu.trans hu2⟩
              by_cases e : m = n
              · subst e
                have h4 := Hi.out
                rw [HC.out, Hqn.out, isCI_nat, h3.1] at h4
                cases h4
              · exact Hno.out m h1 (by omega) h3
            case measure => simp [intOf]; omega
          | true =>
            have hps : putS C = encS (racc s k n n) := by
              unfold putS; rw [if_pos hi, HC.out, Hqn.out]; rfl
            have hp := refPut_any C wo
            unfold PutSays at hp
            rw [hi] at hp
            have hcq : C = (racc s k n n : Nat) := by have h := HC.out; rw [Hqn.out] at h; exact h
            have hci : isC (racc s k n n) = true := by rw [← isCI_nat, ← hcq]; exact hi
            have Hcq := Lib.hid hcq
            have Hci := Lib.hid hci
            have Hps := Lib.hid hps
            have Hp := Lib.hid hp
            clear hp hi hps hci hcq
            go_wp2_with (go_at_call 48; refine (Hp.out).mono ?_; rintro e w' ⟨rfl, hu2⟩)
            · have he : ((putS C).toList == (s.extract k (k + n)).toList) = true := by assumption
              have he2 : encS (racc s k n n) = s.extract k (k + n) := by rw [← Hps.out]; exact bytes_ext (by simpa using he)
              go_ret2
              exact charSays_at hk (dec_of_ok hn1 (by omega) ⟨Hci.out, he2⟩) Hcq.out (by simp; omega) rfl (hu.trans hu2)
            · have he : ((putS C).toList == (s.extract k (k + n)).toList) = false := by assumption
              go_roundw
              case rel =>
                refine ⟨n + 1, by omega, by omega, by omega, by go_num, Lib.hid fun m h1 h2 h3 => ?_, hu.trans hu2⟩
                by_cases e : m = n
                · subst e
                  rw [Hps.out, h3.2] at he
                  simp at he
                · exact Hno.out m h1 (by omega) h3
              case measure => simp [intOf]; omega
    · have hd : dec s k = (0, 0) := dec_of_none fun m h1 h2 h3 => Hno.out m h1 (by omega)
      have Hd := Lib.hid hd
      clear hd
      by_cases h4 : n ≤ 4
      · have h5 : (s.size : Int) - k < n := by omega
        clear hgo
        go_wp2
        go_ret2
        exact charSays_at hk Hd.out rfl rfl rfl hu
      · clear hgo
        go_wp2
        go_ret2
        exact charSays_at hk Hd.out rfl rfl rfl hu

theorem charSays_out {s : ByteArray} {x : Int} {w w' : World} {e : Ending} (h : ¬ (0 ≤ x ∧ x < s.size)) (he : e = .returned (.tuple #[.int .i32 0, .bool false])) (hu : Up w w') : CharSays s x w e w' :=
  charSays (by unfold chI; rw [if_neg h]) (by unfold okI; rw [decide_eq_false h]; rfl) he hu
theorem lenSays_out {s : ByteArray} {x : Int} {w w' : World} {e : Ending} (h : ¬ (0 ≤ x ∧ x < s.size)) (he : e = .returned (.tuple #[.int .i64 0, .bool false])) (hu : Up w w') : LenSays s x w e w' :=
  lenSays (by unfold lenI; rw [if_neg h]) (by unfold okI; rw [decide_eq_false h]; rfl) he hu

set_option maxHeartbeats 1000000 in
theorem refChar_any (s : ByteArray) (x : Int) (hs : s.size ≤ maxLen) (w : World) :
    Calls Tryd.prog 47 #[.string s, .int .i64 x] w (CharSays s x w) := by
  by_cases h : 0 ≤ x ∧ x < s.size
  · obtain ⟨k, rfl⟩ := Int.eq_ofNat_of_zero_le h.1
    exact refChar_in s k (by omega) hs w
  · have H := Lib.hid h
    unfold maxLen at hs
    by_cases h0 : 0 ≤ x
    · have h1 : (s.size : Int) ≤ x := by omega
      clear h
      go_enter Tryd.func47, Tryd.ntmps47
      go_wp2
      go_ret2
      exact charSays_out H.out rfl (Up.refl _)
    · clear h
      go_enter Tryd.func47, Tryd.ntmps47
      go_wp2
      go_ret2
      exact charSays_out H.out rfl (Up.refl _)

set_option maxHeartbeats 1000000 in
theorem refLen_any (s : ByteArray) (x : Int) (hs : s.size ≤ maxLen) (w : World) :
    Calls Tryd.prog 29 #[.string s, .int .i64 x] w (LenSays s x w) := by
  by_cases h : 0 ≤ x ∧ x < s.size
  · obtain ⟨k, rfl⟩ := Int.eq_ofNat_of_zero_le h.1
    have hk : k < s.size := by omega
    have hx0 : (0 : Int) ≤ k := by omega
    have hk1 : decide (s.size ≤ k) = false := by simp; omega
    have hl0 : lenI s k = if 0 < (dec s k).2 then ((dec s k).2 : Int) else 1 := by unfold lenI; rw [if_pos ⟨h.1, h.2⟩]; rfl
    have ho0 : okI s k = decide (0 < (dec s k).2) := by unfold okI; rw [decide_eq_true ⟨h.1, h.2⟩, Bool.true_and]; rfl
    have hc0 : chI s k = ((dec s k).1 : Int) := by unfold chI; rw [if_pos ⟨h.1, h.2⟩]; rfl
    have hc := refChar_any s k hs w
    unfold CharSays at hc
    by_cases hp : 0 < (dec s k).2
    · obtain ⟨hi, hn, _, _⟩ := dec_facts hp
      rw [ho0, decide_eq_true hp, hc0] at hc
      have hsz : (putS ((dec s k).1 : Int)).size = (dec s k).2 := by
        unfold putS; rw [if_pos (by rw [isCI_nat]; exact hi)]; rw [hn]; exact encS_size _
      have Hsz := Lib.hid hsz
      have hpt := fun w => refPut_any ((dec s k).1 : Int) w
      unfold PutSays at hpt
      have hl1 : lenI s k = ((dec s k).2 : Int) := by rw [hl0, if_pos hp]
      rw [decide_eq_true hp] at ho0
      obtain ⟨C, hC⟩ : ∃ C : Int, ((dec s k).1 : Int) = C := ⟨_, rfl⟩
      rw [hC] at hc hpt Hsz
      have Hc := Lib.hid hc
      have Hp := Lib.hid hpt
      have Hl := Lib.hid hl1
      have Ho := Lib.hid ho0
      have H := Lib.hid h
      clear hc hpt hsz hl0 hc0 hl1 ho0 hp hi hn hC h
      unfold maxLen at hs
      go_enter Tryd.func29, Tryd.ntmps29
      go_wp2_with (first | (go_at_call 47; refine (Hc.out).mono ?_; rintro e w' ⟨rfl, hu⟩) | (go_at_call 48; refine (Hp.out _).mono ?_; rintro e w2 ⟨rfl, hu2⟩))
      go_ret2
      exact lenSays (by rw [Hl.out, ← Hsz.out]) Ho.out rfl (hu.trans hu2)
    · rw [ho0, decide_eq_false hp] at hc
      have hl1 : lenI s k = 1 := by rw [hl0, if_neg hp]
      rw [decide_eq_false hp] at ho0
      obtain ⟨C, hC⟩ : ∃ C : Int, chI s k = C := ⟨_, rfl⟩
      rw [hC] at hc
      have Hc := Lib.hid hc
      have Hl := Lib.hid hl1
      have Ho := Lib.hid ho0
      clear hc hl0 hc0 hl1 ho0 hp hC h
      unfold maxLen at hs
      go_enter Tryd.func29, Tryd.ntmps29
      go_wp2_with (go_at_call 47; refine (Hc.out).mono ?_; rintro e w' ⟨rfl, hu⟩)
      go_ret2
      exact lenSays Hl.out Ho.out rfl hu
  · have H := Lib.hid h
    unfold maxLen at hs
    by_cases h0 : 0 ≤ x
    · have h1 : (s.size : Int) ≤ x := by omega
      clear h
      go_enter Tryd.func29, Tryd.ntmps29
      go_wp2
      go_ret2
      exact lenSays_out H.out rfl (Up.refl _)
    · clear h
      go_enter Tryd.func29, Tryd.ntmps29
      go_wp2
      go_ret2
      exact lenSays_out H.out rfl (Up.refl _)
end Go.Proofs.YtfcpieodgflmnaaDoor

namespace Go.Proofs.YtfcpieodgflmnaaDoor
open Go.RowKit

/-- Some character that begins one to three bytes ahead of a reaches over a. -/
def Covers (s : ByteArray) (a b : Nat) : Prop := 1 ≤ b ∧ b ≤ 3 ∧ b ≤ a ∧ b < (dec s (a - b)).2
open Classical in
noncomputable def startS (s : ByteArray) (x : Int) : Bool := decide (0 ≤ x ∧ x ≤ s.size ∧ ∀ b, ¬ Covers s x.toNat b)
open Classical in
theorem startS_no {s : ByteArray} {x : Int} (h : ¬ (0 ≤ x ∧ x ≤ s.size)) : startS s x = false := by
  unfold startS; exact decide_eq_false fun h' => h ⟨h'.1, h'.2.1⟩
open Classical in
theorem startS_cov {s : ByteArray} {k b : Nat} (h : Covers s k b) : startS s k = false := by
  unfold startS; exact decide_eq_false fun h' => h'.2.2 b h
open Classical in
theorem startS_yes {s : ByteArray} {k : Nat} (hk : k ≤ s.size) (h : ∀ b, ¬ Covers s k b) : startS s k = true := by
  unfold startS; exact decide_eq_true ⟨by omega, by omega, h⟩

theorem lenI_back {s : ByteArray} {k b : Nat} (hk : k ≤ s.size) (h1 : 1 ≤ b) (h2 : b ≤ k) (L : Int) (ok : Bool) (hL : lenI s ((k : Int) - b) = L) (ho : okI s ((k : Int) - b) = ok) (h3 : b ≤ 3) :
    (ok = true ∧ (b : Int) < L) ↔ Covers s k b := by
  subst hL ho
  have e : ((k : Int) - b).toNat = k - b := by omega
  unfold lenI okI Covers
  rw [e, if_pos ⟨by omega, by omega⟩, decide_eq_true (⟨by omega, by omega⟩ : (0 : Int) ≤ (k : Int) - b ∧ (k : Int) - b < s.size), Bool.true_and, decide_eq_true_eq]
  constructor
  · rintro ⟨h4, h5⟩
    rw [if_pos h4] at h5
    exact ⟨h1, h3, h2, by omega⟩
  · rintro ⟨_, _, _, h5⟩
    have h4 : 0 < (dec s (k - b)).2 := by omega
    exact ⟨h4, by rw [if_pos h4]; omega⟩

def StartSays (s : ByteArray) (x : Int) (w : World) (e : Ending) (w' : World) : Prop := e = .returned (.bool (startS s x)) ∧ Up w w'
theorem startSays {s : ByteArray} {x : Int} {b : Bool} {w w' : World} {e : Ending} (h : startS s x = b) (he : e = .returned (.bool b)) (hu : Up w w') : StartSays s x w e w' := by
  unfold StartSays; rw [h]; exact ⟨he, hu⟩

set_option maxRecDepth 100000 in
set_option maxHeartbeats 1000000 in
theorem start_any (s : ByteArray) (x : Int) (hs : s.size ≤ maxLen) (w : World) (ht : Tabs w) :
    Calls Tryd.prog 44 #[.string s, .int .i64 x] w (StartSays s x w) := by
  have hs' := hs
  unfold maxLen at hs'
  by_cases h : 0 ≤ x ∧ x ≤ s.size
  · obtain ⟨k, rfl⟩ := Int.eq_ofNat_of_zero_le h.1
    have hk : k ≤ s.size := by omega
    have hk0 : decide ((k : Int) < 0) = false := by simp
    have hk1 : decide (s.size < k) = false := by simp; omega
    clear h
    go_enter Tryd.func44, Tryd.ntmps44
    go_wp2
    go_loopw [5] (fun v wr => ∃ b : Nat, 1 ≤ b ∧ b ≤ 4 ∧ v = .int .i64 b ∧ Hid (∀ c, c < b → ¬ Covers s k c) ∧ Up w wr ∧ Tabs wr)
      (fun v _ => 4 - (intOf v).toNat)
    case atStart => exact ⟨1, by omega, by omega, rfl, Lib.hid fun c h1 h2 => by have := h2.1; omega, Up.refl _, ht⟩
    case round =>
      obtain ⟨b, hb1, hb2, rfl, hno, hu, htr⟩ := hrel
      by_cases hgo : b < 4 ∧ b ≤ k
      · obtain ⟨hb3, hbk⟩ := hgo
        have hlen := len_any s ((k : Int) - b) hs wr htr
        unfold LenSays at hlen
        obtain ⟨L, hL⟩ : ∃ L, lenI s ((k : Int) - b) = L := ⟨_, rfl⟩
        obtain ⟨ok, hok⟩ : ∃ ok, okI s ((k : Int) - b) = ok := ⟨_, rfl⟩
        have hiff := lenI_back hk hb1 hbk L ok hL hok (by omega)
        rw [hL, hok] at hlen
        have Hiff := Lib.hid hiff
        have Hlen := Lib.hid hlen
        clear hiff hlen hL hok
        cases ok with
        | false =>
          go_wp2_with (go_at_call 49; refine (Hlen.out).mono ?_; rintro e w1 ⟨rfl, hu1⟩; have ht1 := htr.up hu1)
          go_roundw
          case rel => exact ⟨b + 1, by omega, by omega, by go_num, Lib.hid fun c h1 h2 => by
            by_cases e : c = b
            · subst e; exact absurd (Hiff.out.2 h2).1 (by simp)
            · exact hno.out c (by omega) h2, hu.trans hu1, ht1⟩
          case measure => simp [intOf]; omega
        | true =>
          by_cases hLb : (b : Int) < L
          · have Hcov := Lib.hid (startS_cov (Hiff.out.1 ⟨rfl, hLb⟩))
            go_wp2_with (go_at_call 49; refine (Hlen.out).mono ?_; rintro e w1 ⟨rfl, hu1⟩; have ht1 := htr.up hu1)
            go_ret
            exact startSays Hcov.out rfl (hu.trans hu1)
          · go_wp2_with (go_at_call 49; refine (Hlen.out).mono ?_; rintro e w1 ⟨rfl, hu1⟩; have ht1 := htr.up hu1)
            go_roundw
            case rel => exact ⟨b + 1, by omega, by omega, by go_num, Lib.hid fun c h1 h2 => by
              by_cases e : c = b
              · subst e; exact absurd (Hiff.out.2 h2).2 (by omega)
              · exact hno.out c (by omega) h2, hu.trans hu1, ht1⟩
            case measure => simp [intOf]; omega
      · have Hy := Lib.hid (startS_yes hk (fun c h2 => hno.out c (by have := h2.2.1; have := h2.2.2.1; omega) h2))
        by_cases h4 : b < 4
        · have h5 : (k : Int) < b := by omega
          clear hgo
          go_wp2
          go_ret
          exact startSays Hy.out rfl hu
        · clear hgo
          go_wp2
          go_ret
          exact startSays Hy.out rfl hu
  · have H := Lib.hid (startS_no h)
    by_cases h0 : 0 ≤ x
    · have h1 : (s.size : Int) < x := by omega
      clear h
      go_enter Tryd.func44, Tryd.ntmps44
      go_wp2
      go_ret
      exact startSays H.out rfl (Up.refl _)
    · clear h
      go_enter Tryd.func44, Tryd.ntmps44
      go_wp2
      go_ret
      exact startSays H.out rfl (Up.refl _)
end Go.Proofs.YtfcpieodgflmnaaDoor

namespace Go.Proofs.YtfcpieodgflmnaaDoor
open Go.RowKit

/-- The place at which one stands behind n steps. -/
noncomputable def pos (s : ByteArray) : Nat → Nat
  | 0 => 0
  | n + 1 => if pos s n < s.size then pos s n + stepLen s (pos s n) else pos s n
def Bd (s : ByteArray) (a : Nat) : Prop := ∃ n, pos s n = a
theorem pos_le (s : ByteArray) : ∀ n, pos s n ≤ s.size
  | 0 => by simp [pos]
  | n + 1 => by
    have := pos_le s n
    unfold pos
    split
    · exact stepLen_in (by assumption)
    · exact this
theorem pos_mono (s : ByteArray) (m n : Nat) (h : m ≤ n) : pos s m ≤ pos s n := by
  induction n with
  | zero => obtain rfl : m = 0 := by omega
            exact Nat.le_refl _
  | succ n ih =>
    by_cases e : m = n + 1
    · rw [e]; exact Nat.le_refl _
    · have h1 := ih (by omega)
      have h2 : pos s n ≤ pos s (n + 1) := by
        rw [pos]
        split <;> omega
      omega
theorem Bd.zero (s : ByteArray) : Bd s 0 := ⟨0, rfl⟩
theorem Bd.le {s : ByteArray} {a : Nat} (h : Bd s a) : a ≤ s.size := by obtain ⟨n, rfl⟩ := h; exact pos_le s n
theorem Bd.next {s : ByteArray} {a : Nat} (h : Bd s a) (ha : a < s.size) : Bd s (a + stepLen s a) := by
  obtain ⟨n, rfl⟩ := h
  exact ⟨n + 1, by rw [pos, if_pos ha]⟩
theorem Bd.step {s : ByteArray} {p q : Nat} (hp : Bd s p) (hq : Bd s q) (h : p < q) : p + stepLen s p ≤ q := by
  have hqs := hq.le
  obtain ⟨m, rfl⟩ := hp
  obtain ⟨n, rfl⟩ := hq
  have hmn : m < n := by
    by_cases e : m < n
    · exact e
    · have := pos_mono s n m (by omega); omega
  have h1 := pos_mono s (m + 1) n hmn
  rw [pos, if_pos (by omega)] at h1
  exact h1
theorem bd_floor (s : ByteArray) : ∀ a, a ≤ s.size → ∃ p, Bd s p ∧ p ≤ a ∧ (p = a ∨ a < p + stepLen s p) := by
  intro a
  induction a with
  | zero => intro _; exact ⟨0, Bd.zero s, Nat.le_refl _, .inl rfl⟩
  | succ a ih =>
    intro h
    obtain ⟨p, hp, hpa, hc⟩ := ih (by omega)
    have hps : p < s.size := by omega
    have hpos := stepLen_pos s p
    by_cases e : p + stepLen s p = a + 1
    · exact ⟨a + 1, by rw [← e]; exact hp.next hps, Nat.le_refl _, .inl rfl⟩
    · refine ⟨p, hp, by omega, .inr ?_⟩
      rcases hc with hc | hc <;> omega

theorem stepLen_char {s : ByteArray} {p : Nat} (h : 1 < stepLen s p) : stepLen s p = (dec s p).2 ∧ 0 < (dec s p).2 := by
  unfold stepLen at h ⊢
  split
  · exact ⟨rfl, by assumption⟩
  · rename_i h2; rw [if_neg h2] at h; omega
/-- A byte within a character begins none. -/
theorem inside_none {s : ByteArray} {p i c n : Nat} (h1 : 1 ≤ i) (h2 : i < (dec s p).2) (hs : Stands s (p + i) c n) : False := by
  obtain ⟨_, _, _, hst⟩ := dec_facts (s := s) (a := p) (by omega)
  have hc := hst.2.2.2.1 i h1 h2
  have hz := hs.1
  have h0 := hs.2.1
  unfold szOf at hz
  rw [if_neg (by omega), if_pos (by omega)] at hz
  omega
theorem bd_of_char {s : ByteArray} {a : Nat} (ha : a ≤ s.size) (h : 0 < (dec s a).2) : Bd s a := by
  obtain ⟨p, hp, hpa, hc⟩ := bd_floor s a ha
  obtain ⟨_, _, _, hst⟩ := dec_facts h
  by_cases e : p = a
  · rw [← e]; exact hp
  · have hlt : a < p + stepLen s p := by omega
    obtain ⟨e1, e2⟩ := stepLen_char (s := s) (p := p) (by omega)
    exact (inside_none (s := s) (p := p) (i := a - p) (by omega) (by omega) (by rw [show p + (a - p) = a from by omega]; exact hst)).elim
theorem covers_iff {s : ByteArray} {a : Nat} (ha : a ≤ s.size) : (∀ b, ¬ Covers s a b) ↔ Bd s a := by
  constructor
  · intro h
    obtain ⟨p, hp, hpa, hc⟩ := bd_floor s a ha
    by_cases e : p = a
    · rw [← e]; exact hp
    · have hlt : a < p + stepLen s p := by omega
      obtain ⟨e1, e2⟩ := stepLen_char (s := s) (p := p) (by omega)
      have h4 := dec_le4 s p
      exact (h (a - p) ⟨by omega, by omega, by omega, by rw [show a - (a - p) = p from by omega]; omega⟩).elim
  · rintro h b ⟨h1, h2, h3, h4⟩
    have hb : Bd s (a - b) := bd_of_char (by omega) (by omega)
    have := hb.step h (by omega)
    unfold stepLen at this
    rw [if_pos (by omega)] at this
    omega
theorem startS_iff {s : ByteArray} {x : Int} : startS s x = true ↔ 0 ≤ x ∧ x ≤ s.size ∧ Bd s x.toNat := by
  constructor
  · intro h
    by_cases hx : 0 ≤ x ∧ x ≤ s.size
    · obtain ⟨k, rfl⟩ := Int.eq_ofNat_of_zero_le hx.1
      refine ⟨hx.1, hx.2, (covers_iff (by omega)).1 fun b hb => ?_⟩
      have hb' : Covers s k b := hb
      rw [startS_cov hb'] at h
      cases h
    · rw [startS_no hx] at h; cases h
  · rintro ⟨h0, h1, h2⟩
    obtain ⟨k, rfl⟩ := Int.eq_ofNat_of_zero_le h0
    exact startS_yes (by omega) ((covers_iff (by omega)).2 h2)
theorem startS_in {s : ByteArray} {a i : Nat} (h1 : 1 ≤ i) (h2 : i < stepLen s a) : startS s ((a + i : Nat) : Int) = false := by
  obtain ⟨e1, e2⟩ := stepLen_char (s := s) (p := a) (by omega)
  have := dec_le4 s a
  exact startS_cov (b := i) ⟨h1, by omega, by omega, by rw [show a + i - i = a from by omega]; omega⟩
theorem startS_bd {s : ByteArray} {a : Nat} (h : Bd s a) : startS s (a : Nat) = true := startS_iff.2 ⟨by omega, by have := h.le; omega, h⟩
end Go.Proofs.YtfcpieodgflmnaaDoor

namespace Go.Proofs.YtfcpieodgflmnaaDoor
open Go.RowKit

theorem dec_of_at_iff {s t : ByteArray} {a b : Nat} (h : ∀ c, isC c = true → (At s a c ↔ At t b c)) : dec s a = dec t b := by
  rcases dec_cases s a with ⟨e, hn⟩ | hs
  · rw [e]
    symm
    refine dec_none fun c n hst => ?_
    obtain ⟨_, hat⟩ := at_of_stands hst
    have hc := hst.2.2.2.2.2.2
    exact hn _ _ (stands_of_at hc ((h c hc).2 hat))
  · obtain ⟨e, hat⟩ := at_of_stands hs
    have hc := hs.2.2.2.2.2.2
    have := dec_some (stands_of_at hc ((h _ hc).1 hat))
    rw [this, ← e]
theorem stepLen_of {s t : ByteArray} {a b : Nat} (h : dec s a = dec t b) : stepLen s a = stepLen t b ∧ stepOk s a = stepOk t b := by
  unfold stepLen stepOk; rw [h]; exact ⟨rfl, rfl⟩

/-- A step by itself. -/
theorem step_alone {s : ByteArray} {a : Nat} (ha : a < s.size) :
    countS (s.extract a (a + stepLen s a)) = 1 ∧ validS (s.extract a (a + stepLen s a)) = stepOk s a := by
  have hin := stepLen_in ha
  have hpos := stepLen_pos s a
  obtain ⟨L, hL⟩ : ∃ L, stepLen s a = L := ⟨_, rfl⟩
  rw [hL] at hin hpos ⊢
  obtain ⟨t, ht⟩ : ∃ t, s.extract a (a + L) = t := ⟨_, rfl⟩
  have hsz : t.size = L := by rw [← ht, ByteArray.size_extract]; omega
  have hbt : ∀ i, i < L → bt t i = bt s (a + i) := fun i hi => by rw [← ht]; exact bt_extract hin hi
  have hle : ∀ c, At t 0 c → At s a c := fun c ⟨h1, h2⟩ => ⟨by omega, fun i hi => by rw [← hbt i (by omega), ← h2 i hi, Nat.zero_add]⟩
  have hd : dec t 0 = dec s a := by
    rcases dec_cases s a with ⟨e, hn⟩ | hs
    · rw [e]
      refine dec_none fun c n hst => ?_
      obtain ⟨_, hat⟩ := at_of_stands hst
      exact hn _ _ (stands_of_at hst.2.2.2.2.2.2 (hle c hat))
    · obtain ⟨e, hat⟩ := at_of_stands hs
      have hc := hs.2.2.2.2.2.2
      have hp := hs.2.1
      have hLn : L = (dec s a).2 := by rw [← hL]; unfold stepLen; rw [if_pos hp]
      have h := dec_some (stands_of_at hc (s := t) (a := 0) ⟨by omega, fun i hi => by rw [Nat.zero_add, hbt i (by omega)]; exact hat.2 i hi⟩)
      rw [h, ← e]
  obtain ⟨h1, h2⟩ := stepLen_of hd
  rw [ht]
  unfold countS validS
  rw [stepsFrom_cons (by omega), h1, hL, h2, stepsFrom_nil (by omega)]
  simp

theorem bt_append_left {a b : ByteArray} {i : Nat} (h : i < a.size) : bt (a ++ b) i = bt a i := by
  have h1 : i < (a ++ b).size := by rw [ByteArray.size_append]; omega
  rw [← bt_eq h1, ← bt_eq h, ByteArray.getElem_append_left h]
theorem bt_append_right {a b : ByteArray} {i : Nat} (h : i < b.size) : bt (a ++ b) (a.size + i) = bt b i := by
  have h1 : a.size + i < (a ++ b).size := by rw [ByteArray.size_append]; omega
  rw [← bt_eq h1, ← bt_eq h, ByteArray.getElem_append_right (by omega)]
  simp
/-- Behind the first text the steps are the second's. -/
theorem dec_right {a b : ByteArray} (i : Nat) : dec (a ++ b) (a.size + i) = dec b i := by
  refine dec_of_at_iff fun c _ => ?_
  unfold At
  rw [ByteArray.size_append]
  constructor
  · rintro ⟨h1, h2⟩
    exact ⟨by omega, fun j hj => by rw [← h2 j hj, Nat.add_assoc, bt_append_right (by omega)]⟩
  · rintro ⟨h1, h2⟩
    exact ⟨by omega, fun j hj => by rw [← h2 j hj, Nat.add_assoc, bt_append_right (by omega)]⟩
theorem steps_right {a b : ByteArray} : ∀ m i, b.size - i ≤ m → i ≤ b.size → (stepsFrom (a ++ b) (a.size + i)).length = (stepsFrom b i).length ∧ ((stepsFrom (a ++ b) (a.size + i)).all (·.2)) = ((stepsFrom b i).all (·.2)) := by
  intro m
  induction m with
  | zero =>
    intro i h1 h2
    rw [stepsFrom_nil (s := b) (by omega), stepsFrom_nil (s := a ++ b) (by rw [ByteArray.size_append]; omega)]
    exact ⟨rfl, rfl⟩
  | succ m ih =>
    intro i h1 h2
    by_cases hlt : i < b.size
    · obtain ⟨e1, e2⟩ := stepLen_of (dec_right (a := a) (b := b) i)
      have hp := stepLen_pos b i
      have hin := stepLen_in hlt
      obtain ⟨e3, e4⟩ := ih (i + stepLen b i) (by omega) hin
      rw [stepsFrom_cons (s := b) hlt, stepsFrom_cons (s := a ++ b) (by rw [ByteArray.size_append]; omega), e1, e2, Nat.add_assoc]
      simp only [List.length_cons, List.all_cons, e3, e4]
      exact ⟨trivial, trivial⟩
    · rw [stepsFrom_nil (s := b) hlt, stepsFrom_nil (s := a ++ b) (by rw [ByteArray.size_append]; omega)]
      exact ⟨rfl, rfl⟩
/-- A character of the first text stands in both. -/
theorem dec_left {a b : ByteArray} {p : Nat} (h : 0 < (dec a p).2) : dec (a ++ b) p = dec a p := by
  obtain ⟨hc, e, hat, _⟩ := dec_facts h
  have h2 := dec_some (stands_of_at hc (s := a ++ b) (a := p) ⟨by rw [ByteArray.size_append]; have := hat.1; omega, fun i hi => by rw [bt_append_left (by have := hat.1; omega)]; exact hat.2 i hi⟩)
  rw [h2, ← e]
theorem steps_left {a b : ByteArray} : ∀ m p, a.size - p ≤ m → p ≤ a.size → ((stepsFrom a p).all (·.2)) = true → Bd (a ++ b) p →
    (stepsFrom (a ++ b) p).length = (stepsFrom a p).length + (stepsFrom (a ++ b) a.size).length ∧ ((stepsFrom (a ++ b) p).all (·.2)) = ((stepsFrom (a ++ b) a.size).all (·.2)) ∧ Bd (a ++ b) a.size := by
  intro m
  induction m with
  | zero =>
    intro p h1 h2 _ hb
    obtain rfl : p = a.size := by omega
    rw [stepsFrom_nil (s := a) (by omega)]
    exact ⟨by simp, rfl, hb⟩
  | succ m ih =>
    intro p h1 h2 hv hb
    by_cases hlt : p < a.size
    · have hv' := hv
      rw [stepsFrom_cons hlt] at hv'
      simp only [List.all_cons, Bool.and_eq_true] at hv'
      obtain ⟨hv1, hv2⟩ := hv'
      have hd := dec_left (b := b) (show 0 < (dec a p).2 by unfold stepOk at hv1; simpa using hv1)
      obtain ⟨e1, e2⟩ := stepLen_of hd
      have hp := stepLen_pos a p
      have hin := stepLen_in hlt
      have hlt2 : p < (a ++ b).size := by rw [ByteArray.size_append]; omega
      have hbn := hb.next hlt2
      rw [e1] at hbn
      obtain ⟨e3, e4, e5⟩ := ih (p + stepLen a p) (by omega) hin hv2 hbn
      rw [stepsFrom_cons hlt, stepsFrom_cons hlt2, e1, e2]
      simp only [List.length_cons, List.all_cons, e3, e4, hv1, Bool.true_and]
      exact ⟨by omega, trivial, e5⟩
    · obtain rfl : p = a.size := by omega
      rw [stepsFrom_nil (s := a) hlt]
      exact ⟨by simp, rfl, hb⟩
theorem joins {a b : ByteArray} (ha : validS a = true) : countS (a ++ b) = countS a + countS b ∧ validS (a ++ b) = validS b ∧ startS (a ++ b) (a.size : Nat) = true := by
  obtain ⟨e1, e2, e3⟩ := steps_left (a := a) (b := b) a.size 0 (by omega) (by omega) ha (Bd.zero _)
  obtain ⟨e4, e5⟩ := steps_right (a := a) (b := b) b.size 0 (by omega) (by omega)
  rw [Nat.add_zero] at e4 e5
  refine ⟨?_, ?_, startS_bd e3⟩
  · unfold countS; rw [e1, e4]
  · unfold validS; rw [e2, e5]
end Go.Proofs.YtfcpieodgflmnaaDoor
