/- The statement UtfJoins, walked: texts without lone bytes, put together, have none, and their counts add up. -/
import Derived.Test.YtibodioapkmgkaaDoorJoin
import Derived.Test.YtibodioapkmgkaaDoorLawB
import Derived.Test.YtibodioapkmgkaaDoorValid
namespace Go.Proofs.YtibodioapkmgkaaDoor
open Go.RowKit

def Vals (s : ByteArray) (v : Bool) : Prop := ∀ w, Tabs w → Calls Tryd.prog 20 #[.string s] w fun e w' => e = .returned (.bool v) ∧ Up w w'
theorem Vals.at {s : ByteArray} {v : Bool} (h : Hid (Vals s v)) (w : World) (ht : Tabs w) : Calls Tryd.prog 20 #[.string s] w fun e w' => e = .returned (.bool v) ∧ Up w w' := h w ht
theorem vals_any (s : ByteArray) (hs : s.size ≤ maxLen) : Vals s (validS s) := fun w ht => valid_any s hs w ht
def Cnts (s : ByteArray) (n : Int) : Prop := ∀ w, Tabs w → Calls Tryd.prog 18 #[.string s] w fun e w' => e = .returned (.int .i64 n) ∧ Up w w'
theorem Cnts.at {s : ByteArray} {n : Int} (h : Hid (Cnts s n)) (w : World) (ht : Tabs w) : Calls Tryd.prog 18 #[.string s] w fun e w' => e = .returned (.int .i64 n) ∧ Up w w' := h w ht
theorem cnts_any (s : ByteArray) (hs : s.size ≤ maxLen) : Cnts s (countS s) := fun w ht => count_any s hs w ht
def Strs (s : ByteArray) (x : Int) (b : Bool) : Prop := ∀ w, Tabs w → Calls Tryd.prog 16 #[.string s, .int .i64 x] w fun e w' => e = .returned (.bool b) ∧ Up w w'
theorem Strs.at {s : ByteArray} {x : Int} {b : Bool} (h : Hid (Strs s x b)) (w : World) (ht : Tabs w) : Calls Tryd.prog 16 #[.string s, .int .i64 x] w fun e w' => e = .returned (.bool b) ∧ Up w w' := h w ht
theorem strs_any (s : ByteArray) (x : Int) (hs : s.size ≤ maxLen) : Strs s x (startS s x) := fun w ht => start_any s x hs w ht

set_option maxRecDepth 100000 in
set_option maxHeartbeats 1000000 in
theorem joins_go (a b : ByteArray) (h1 : (a.size : Int) ≤ 65536) (h2 : (b.size : Int) ≤ 65536) (m n : Nat) (hm : m ≤ a.size) (hn : n ≤ b.size)
    (va : Hid (Vals a true)) (vb : Hid (Vals b true)) (vab : Hid (Vals (a ++ b) true)) (ca : Hid (Cnts a (m : Nat))) (cb : Hid (Cnts b (n : Nat))) (cab : Hid (Cnts (a ++ b) ((m : Int) + (n : Int)))) (sab : Hid (Strs (a ++ b) (a.size : Nat) true)) (w : World) (ht : Tabs w) :
    Calls Tryd.prog 8 #[.string a, .string b] w fun e w' => e = .returned (.bool true) ∧ Up w w' := by
  have hw := Lib.hid wakes_all
  go_enter Tryd.func8, Tryd.ntmps8
  go_wp2_with (first
    | (go_at_call 20; (with_reducible refine (Vals.at va _ ht).mono ?_); rintro e w1 ⟨rfl, hu1⟩; have ht1 := ht.up hu1)
    | (go_at_call 20; (with_reducible refine (Vals.at vb _ ht1).mono ?_); rintro e w2 ⟨rfl, hu2⟩; have ht2 := ht1.up hu2)
    | (go_at_call 20; (with_reducible refine (Vals.at vab _ ht2).mono ?_); rintro e w3 ⟨rfl, hu3⟩; have ht3 := ht2.up hu3)
    | (go_at_call 18; (with_reducible refine (Cnts.at cab _ ht3).mono ?_); rintro e w4 ⟨rfl, hu4⟩; have ht4 := ht3.up hu4)
    | (go_at_call 18; (with_reducible refine (Cnts.at ca _ ht4).mono ?_); rintro e w5 ⟨rfl, hu5⟩; have ht5 := ht4.up hu5)
    | (go_at_call 18; (with_reducible refine (Cnts.at cb _ ht5).mono ?_); rintro e w6 ⟨rfl, hu6⟩; have ht6 := ht5.up hu6)
    | (go_at_call 16; (with_reducible refine (Strs.at sab _ ht6).mono ?_); rintro e w7 ⟨rfl, hu7⟩; have ht7 := ht6.up hu7)
    | (go_at_call 13; (with_reducible refine (Wakes.at hw _ ht7).mono ?_); rintro e w8 ⟨rfl, hu8⟩))
  go_ret
  exact ⟨rfl, ((((((hu1.trans hu2).trans hu3).trans hu4).trans hu5).trans hu6).trans hu7).trans hu8⟩

set_option maxRecDepth 100000 in
set_option maxHeartbeats 1000000 in
theorem joins_big (a b : ByteArray) (h : (65536 : Int) < a.size ∨ ((a.size : Int) ≤ 65536 ∧ (65536 : Int) < b.size)) (w : World) (ht : Tabs w) :
    Calls Tryd.prog 8 #[.string a, .string b] w fun e w' => e = .returned (.bool true) ∧ Up w w' := by
  have hw := Lib.hid wakes_all
  rcases h with h | ⟨h, h2⟩
  · go_enter Tryd.func8, Tryd.ntmps8
    go_wp2_with (go_at_call 13; (with_reducible refine (Wakes.at hw _ ht).mono ?_); rintro e w8 ⟨rfl, hu8⟩)
    go_ret
    exact ⟨rfl, hu8⟩
  · go_enter Tryd.func8, Tryd.ntmps8
    go_wp2_with (go_at_call 13; (with_reducible refine (Wakes.at hw _ ht).mono ?_); rintro e w8 ⟨rfl, hu8⟩)
    go_ret
    exact ⟨rfl, hu8⟩
set_option maxRecDepth 100000 in
set_option maxHeartbeats 1000000 in
theorem joins_noA (a b : ByteArray) (h1 : (a.size : Int) ≤ 65536) (h2 : (b.size : Int) ≤ 65536) (va : Hid (Vals a false)) (w : World) (ht : Tabs w) :
    Calls Tryd.prog 8 #[.string a, .string b] w fun e w' => e = .returned (.bool true) ∧ Up w w' := by
  have hw := Lib.hid wakes_all
  go_enter Tryd.func8, Tryd.ntmps8
  go_wp2_with (first
    | (go_at_call 20; (with_reducible refine (Vals.at va _ ht).mono ?_); rintro e w1 ⟨rfl, hu1⟩; have ht1 := ht.up hu1)
    | (go_at_call 13; (with_reducible refine (Wakes.at hw _ ht1).mono ?_); rintro e w8 ⟨rfl, hu8⟩))
  go_ret
  exact ⟨rfl, hu1.trans hu8⟩
set_option maxRecDepth 100000 in
set_option maxHeartbeats 1000000 in
theorem joins_noB (a b : ByteArray) (h1 : (a.size : Int) ≤ 65536) (h2 : (b.size : Int) ≤ 65536) (va : Hid (Vals a true)) (vb : Hid (Vals b false)) (w : World) (ht : Tabs w) :
    Calls Tryd.prog 8 #[.string a, .string b] w fun e w' => e = .returned (.bool true) ∧ Up w w' := by
  have hw := Lib.hid wakes_all
  go_enter Tryd.func8, Tryd.ntmps8
  go_wp2_with (first
    | (go_at_call 20; (with_reducible refine (Vals.at va _ ht).mono ?_); rintro e w1 ⟨rfl, hu1⟩; have ht1 := ht.up hu1)
    | (go_at_call 20; (with_reducible refine (Vals.at vb _ ht1).mono ?_); rintro e w2 ⟨rfl, hu2⟩; have ht2 := ht1.up hu2)
    | (go_at_call 13; (with_reducible refine (Wakes.at hw _ ht2).mono ?_); rintro e w8 ⟨rfl, hu8⟩))
  go_ret
  exact ⟨rfl, (hu1.trans hu2).trans hu8⟩

theorem walk_UtfJoins (a b : ByteArray) (ha : a.size ≤ maxLen) (hb : b.size ≤ maxLen) (w : World) (ht : Tabs w) :
    Calls Tryd.prog 8 #[.string a, .string b] w fun e w' => e = .returned (.bool true) ∧ Up w w' := by
  by_cases h1 : (65536 : Int) < a.size
  · exact joins_big a b (.inl h1) w ht
  by_cases h2 : (65536 : Int) < b.size
  · exact joins_big a b (.inr ⟨by omega, h2⟩) w ht
  have va := vals_any a ha
  have vb := vals_any b hb
  cases hva : validS a with
  | false => rw [hva] at va; exact joins_noA a b (by omega) (by omega) va w ht
  | true =>
    rw [hva] at va
    cases hvb : validS b with
    | false => rw [hvb] at vb; exact joins_noB a b (by omega) (by omega) va vb w ht
    | true =>
      rw [hvb] at vb
      have hab : (a ++ b).size ≤ maxLen := by rw [ByteArray.size_append]; unfold maxLen; omega
      obtain ⟨e1, e2, e3⟩ := joins (b := b) hva
      have vab := vals_any (a ++ b) hab
      have cab := cnts_any (a ++ b) hab
      have sab := strs_any (a ++ b) (a.size : Nat) hab
      rw [e2, hvb] at vab
      rw [e1, Int.natCast_add] at cab
      rw [e3] at sab
      exact joins_go a b (by omega) (by omega) (countS a) (countS b) (countS_le a) (countS_le b) va vb vab (cnts_any a ha) (cnts_any b hb) cab sab w ht
end Go.Proofs.YtibodioapkmgkaaDoor
