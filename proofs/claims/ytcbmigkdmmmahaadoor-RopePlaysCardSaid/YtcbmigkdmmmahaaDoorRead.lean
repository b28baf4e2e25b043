/- The program's own reading of one character: its functions isChar, need, read, Len and Char, each at every input, against the plain facts. -/
import Derived.Test.YtcbmigkdmmmahaaDoorBits
import Derived.WalkSpells
import Derived.WalkLawsBesides
import Derived.Deep.QuietTactic
import Derived.BigQuiet
import Derived.Lib.Hide
namespace Go.Proofs.YtcbmigkdmmmahaaDoor
open Go.RowKit

def isCI (c : Int) : Bool := decide (0 ≤ c ∧ c ≤ 1114111 ∧ (c < 55296 ∨ 57343 < c))
theorem isCI_nat (c : Nat) : isCI (c : Int) = isC c := by
  unfold isCI isC
  rw [decide_eq_decide]
  omega
theorem ret_bool {a b : Bool} (h : a = b) : Ending.returned (.bool a) = .returned (.bool b) := by rw [h]
theorem ret_int {k : IntKind} {a b : Int} (h : a = b) : Ending.returned (.int k a) = .returned (.int k b) := by rw [h]

/-- The tables and the heap's old blocks behind a call. -/
def Up (w w' : World) : Prop := Below w.heap.size w w'
theorem Up.refl (w : World) : Up w w := Below.refl _ _
theorem Up.trans {a b c : World} (h : Up a b) (k : Up b c) : Up a c := Below.trans h (Below.mono k (Below.size h))
theorem Up.drewN (w : World) (n : Nat) : Up w (w.drewN n) := below_drewN (Below.refl _ _) n
theorem Up.drew (w : World) : Up w w.drew := Below.drew (Below.refl _ _)
theorem Up.alloc (w : World) (o : Obj) : Up w (w.alloc o) := (Below.refl _ _).alloc (Nat.le_refl _) o
theorem Tabs.up {w w' : World} (h : Tabs w) (hu : Up w w') : Tabs w' := h.of_below (by have := h.big; omega) hu
theorem Up.grownBy {w w' : World} (h : Up w w') : w.grownBy w' none := ⟨Below.os h, Below.tape h, Below.output h, Below.size h, fun k hk _ => Below.block h k hk⟩

set_option maxHeartbeats 400000 in
theorem isChar_any (c : Int) (w : World) :
    Calls Tryd.prog 75 #[.int .i32 c] w fun e w' => e = .returned (.bool (isCI c)) ∧ w = w' := by
  have hb : isCI c = (decide (0 ≤ c) && (decide (c ≤ 1114111) && (decide (c < 55296) || decide (57343 < c)))) := by
    unfold isCI; rw [Bool.eq_iff_iff]; simp
  have H := Lib.hid hb
  clear hb
  go_enter Tryd.func75, Tryd.ntmps75
  go_wp2
  all_goals (go_ret; refine ⟨ret_bool ?_, rfl⟩; rw [H.out]; simp [*])
  all_goals omega

def ReadSays (s : ByteArray) (k : Nat) (w : World) (e : Ending) (w' : World) : Prop :=
  e = .returned (.tuple #[.int .i32 (dec s k).1, .int .i64 (dec s k).2]) ∧ Up w w'
theorem says_none {s : ByteArray} {k : Nat} {w : World} (h : dec s k = (0, 0)) {e : Ending} {w' : World} (he : e = .returned (.tuple #[.int .i32 0, .int .i64 0])) (hu : Up w w') : ReadSays s k w e w' := by
  unfold ReadSays; rw [h]; exact ⟨he, hu⟩
theorem says_some {s : ByteArray} {k c n : Nat} {w : World} (h : dec s k = (c, n)) {e : Ending} {w' : World} (he : e = .returned (.tuple #[.int .i32 (c : Nat), .int .i64 (n : Nat)])) (hu : Up w w') : ReadSays s k w e w' := by
  unfold ReadSays; rw [h]; exact ⟨he, hu⟩

set_option maxHeartbeats 400000 in
theorem read_zero (s : ByteArray) (k : Nat) (hk : k < s.size) (hs : s.size ≤ maxLen) (n : Nat) (hn : szOf (bt s k) = n) (h0 : n = 0 ∨ s.size < k + n) (hn4 : n ≤ 4) (w : World) (ht : Tabs w) :
    Calls Tryd.prog 74 #[.string s, .int .i64 k] w (ReadSays s k w) := by
  have hd : dec s k = (0, 0) := by
    rcases h0 with h0 | h0
    · exact dec_zero (by omega)
    · exact dec_short (by omega)
  have hz := ht.cSize (bt s k) (bt_lt _ _)
  rw [hn, ← bt_eq hk] at hz
  have hb8 : (s[k].toNat : Int) / 8 < 32 := by have := UInt8.toNat_lt s[k]; omega
  unfold maxLen at hs
  have Hn := Lib.hid hn
  have Hd := Lib.hid hd
  clear hn hd
  by_cases h : n = 0
  · have h1 : (((n : Int) == 0) = true) := by simp; omega
    clear h0 h
    go_enter Tryd.func74, Tryd.ntmps74
    go_wp2
    go_ret2
    exact says_none Hd.out rfl (Up.refl _)
  · have h1 : (((n : Int) == 0) = false) := by simp; omega
    have h2 : ((decide ((s.size : Int) - k < n)) = true) := by simp; omega
    clear h0
    go_enter Tryd.func74, Tryd.ntmps74
    go_wp2
    go_ret2
    exact says_none Hd.out rfl (Up.refl _)

set_option maxRecDepth 100000 in
set_option maxHeartbeats 1000000 in
theorem read_big (s : ByteArray) (k : Nat) (hk : k < s.size) (hs : s.size ≤ maxLen) (n : Nat) (hsz : szOf (bt s k) = n) (hn : 0 < n) (hn4 : n ≤ 4) (hkn : k + n ≤ s.size) (w : World) (ht : Tabs w) :
    Calls Tryd.prog 74 #[.string s, .int .i64 k] w (ReadSays s k w) := by
  have hz := ht.cSize (bt s k) (bt_lt _ _)
  have hz0 := ht.cLead n hn4
  have hz2 := ht.cLeast n hn4
  rw [hsz, ← bt_eq hk] at hz
  have hb8 : (s[k].toNat : Int) / 8 < 32 := by have := UInt8.toNat_lt s[k]; omega
  have hlead : wrap32 (bits BinOp.xor IntKind.u8 (s[k].toNat : Int) (leadOf n : Nat)) = (acc s k n 1 : Nat) := by
    have := wlead (bt s k) (bt_lt _ _) (by omega)
    rw [hsz] at this
    rw [bt_eq hk, this]
    rfl
  have Hl := Lib.hid hlead
  have Hsz := Lib.hid hsz
  clear hlead hsz
  obtain ⟨ld, hld⟩ : ∃ ld, leadOf n = ld := ⟨_, rfl⟩
  obtain ⟨lt, hlt⟩ : ∃ lt, leastOf n = lt := ⟨_, rfl⟩
  rw [hld] at hz0 Hl
  rw [hlt] at hz2
  have Hlt := Lib.hid hlt
  clear hld hlt
  unfold maxLen at hs
  have h1 : (((n : Int) == 0) = false) := by simp; omega
  have h2 : ((decide ((s.size : Int) - k < n)) = false) := by simp; omega
  go_enter Tryd.func74, Tryd.ntmps74
  go_wp2
  go_quiet (fail)
  go_wp2
  clear h1 h2 hz hz0
  go_loop [7, 8] (fun c i => ∃ q : Nat, k + 1 ≤ q ∧ q ≤ k + n ∧ i = .int .i64 q ∧ c = .int .i32 (acc s k n (q - k) : Nat) ∧ conts s k (q - k))
     (fun _ i => (k + n) - (intOf i).toNat)
  case atStart => exact ⟨k + 1, by omega, by omega, by go_num, by rw [Hl.out]; simp, by rw [show k + 1 - k = 1 from by omega]; exact conts_one _ _⟩
  case round =>
    obtain ⟨q, hq1, hq2, rfl, rfl, hc⟩ := hrel
    have H := Lib.hid hc
    clear hc
    by_cases hlt : q < k + n
    · have hqs : q < s.size := by omega
      have ha := acc_lt s k n (q - k) (by omega) (by omega)
      have ha2 : acc s k n (q - k) < 1048576 := by
        have : 64 ^ (q - k - 1) ≤ 64 ^ 2 := Nat.pow_le_pow_right (by omega) (by omega)
        omega
      have hst := wstep (acc s k n (q - k)) s[q].toNat ha2 (UInt8.toNat_lt _)
      have Hst := Lib.hid hst
      clear hst ha ha2
      by_cases hcc : 128 ≤ s[q].toNat ∧ s[q].toNat < 192
      · have hw := wcont_yes s[q].toNat (UInt8.toNat_lt _) hcc
        have Hcc := Lib.hid hcc
        clear hcc
        go_wp2
        go_round
        case rel =>
          refine ⟨q + 1, by omega, by omega, by go_num, ?_, ?_⟩
          · rw [Hst.out, bt_eq hqs, show q + 1 - k = (q - k) + 1 from by omega, acc_succ _ _ _ _ (by omega), show k + (q - k) = q from by omega]
          · rw [show q + 1 - k = (q - k) + 1 from by omega]
            refine conts_succ H.out ?_
            rw [show k + (q - k) = q from by omega, ← bt_eq hqs]
            exact Hcc.out
        case measure => simp [intOf]; omega
      · have hw := wcont_no s[q].toNat (UInt8.toNat_lt _) hcc
        have hd : dec s k = (0, 0) := dec_cont (i := q - k) (by omega) (by rw [Hsz.out]; omega) (by rw [show k + (q - k) = q from by omega, ← bt_eq hqs]; exact hcc)
        have Hd := Lib.hid hd
        clear hcc hd
        go_wp2
        go_ret2
        exact says_none Hd.out rfl (Up.drewN _ _)
    · obtain rfl : q = k + n := by omega
      have hkk : k + n - k = n := by omega
      have hkk' : acc s k n (k + n - k) = acc s k n n := by rw [hkk]
      have Hc : Hid (conts s k n) := by have h := H.out; rw [hkk] at h; exact h
      have Hk := Lib.hid hkk'
      clear H hkk hkk' hlt
      have hci := isCI_nat (acc s k n n)
      have Hci := Lib.hid hci
      clear hci
      by_cases hlo : acc s k n n < lt
      · have hd : dec s k = (0, 0) := dec_low Hsz.out (.inl (by rw [Hlt.out]; exact hlo))
        have Hd := Lib.hid hd
        clear hd
        rw [Hk.out]
        go_wp2
        go_ret2
        exact says_none Hd.out rfl (Up.drewN _ _)
      · cases hi : isC (acc s k n n) with
        | false =>
          have hd : dec s k = (0, 0) := dec_low Hsz.out (.inr hi)
          have Hd := Lib.hid hd
          rw [hi] at Hci
          have hci := Hci.out
          clear hd hi Hci
          rw [Hk.out]
          go_wp2_with (go_at_call 75; refine (isChar_any _ _).mono ?_; rintro e w' ⟨rfl, rfl⟩)
          go_ret2
          exact says_none Hd.out rfl (Up.drewN _ _)
        | true =>
          have hd := dec_yes Hsz.out hn hkn Hc.out (by rw [Hlt.out]; omega) hi
          have Hd := Lib.hid hd
          rw [hi] at Hci
          have hci := Hci.out
          clear hd hi Hci
          rw [Hk.out]
          go_wp2_with (go_at_call 75; refine (isChar_any _ _).mono ?_; rintro e w' ⟨rfl, rfl⟩)
          go_ret2
          exact says_some Hd.out rfl (Up.drewN _ _)

theorem read_any (s : ByteArray) (k : Nat) (hk : k < s.size) (hs : s.size ≤ maxLen) (w : World) (ht : Tabs w) :
    Calls Tryd.prog 74 #[.string s, .int .i64 k] w (ReadSays s k w) := by
  by_cases h : szOf (bt s k) = 0 ∨ s.size < k + szOf (bt s k)
  · exact read_zero s k hk hs _ rfl h (szOf_le _) w ht
  · exact read_big s k hk hs _ rfl (by omega) (szOf_le _) (by omega) w ht
end Go.Proofs.YtcbmigkdmmmahaaDoor
