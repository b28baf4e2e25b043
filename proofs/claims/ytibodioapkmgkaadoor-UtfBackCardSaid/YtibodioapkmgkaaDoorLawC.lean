/- The statement UtfBack, walked in ten cases: the number is a character or none, one stands at the place or none. -/
import Derived.Test.YtibodioapkmgkaaDoorLawB
namespace Go.Proofs.YtibodioapkmgkaaDoor
open Go.RowKit
set_option linter.unusedVariables false
set_option maxRecDepth 100000 in
set_option maxHeartbeats 1000000 in
theorem back_A_yes (c : Int) (h0 : 0 ≤ c) (h1 : c ≤ 1114111) (h2 : c < 55296) (t s : ByteArray) (hs : s.size ≤ maxLen) (hp : Hid (Puts c t true)) (ts : t.size ≤ maxLen) (hr : Hid (Reads t 0 (t.size : Nat) true c)) (u : ByteArray) (k n : Nat) (d : Int) (hkn : k + n ≤ s.size) (hr2 : Hid (Reads s k n true d)) (hp2 : Hid (Puts d u true)) (hu : s.extract k (k + n) = u) (hus : u.size = n) (w : World) (ht : Tabs w) :
    Calls Tryd.prog 6 #[.int .i32 c, .string s, .int .i64 k] w fun e w' => e = .returned (.bool true) ∧ Up w w' := by
  have hw := Lib.hid wakes_all
  have hk1 : (n : Int) ≤ s.size - k := by omega
  have h5 : (u.size : Int) ≤ n := by omega
  have h6 : (n : Int) ≤ u.size := by omega
  have h7 : ((s.extract k (k + n)).toList == u.toList) = true := by rw [hu]; simp
  clear hu hus
  unfold maxLen at hs ts
  go_enter Tryd.func6, Tryd.ntmps6
  go_wp2_with (first
    | (go_at_call 14; (with_reducible refine (Puts.at hp _ ht).mono ?_); rintro e w1 ⟨rfl, hu1⟩; have ht1 := Tabs.up ht hu1)
    | (go_at_call 9; (with_reducible refine (Reads.len hr _ ht1).mono ?_); rintro e w2 ⟨rfl, hu2⟩; have ht2 := Tabs.up ht1 hu2)
    | (go_at_call 11; (with_reducible refine (Reads.char hr _ ht2).mono ?_); rintro e w3 ⟨rfl, hu3⟩; have ht3 := Tabs.up ht2 hu3)
    | (go_at_call 11; (with_reducible refine (Reads.char hr2 _ ht3).mono ?_); rintro e w4 ⟨rfl, hu4⟩; have ht4 := Tabs.up ht3 hu4)
    | (go_at_call 9; (with_reducible refine (Reads.len hr2 _ ht4).mono ?_); rintro e w5 ⟨rfl, hu5⟩; have ht5 := Tabs.up ht4 hu5)
    | (go_at_call 14; (with_reducible refine (Puts.at hp2 _ ht5).mono ?_); rintro e w6 ⟨rfl, hu6⟩; have ht6 := Tabs.up ht5 hu6)
    | (go_at_call 13; (with_reducible refine (Wakes.at hw _ ht6).mono ?_); rintro e w7 ⟨rfl, hu7⟩; have ht7 := Tabs.up ht6 hu7))
  go_ret
  exact ⟨rfl, ((((((hu1.trans hu2).trans hu3).trans hu4).trans hu5).trans hu6).trans hu7)⟩

set_option maxRecDepth 100000 in
set_option maxHeartbeats 1000000 in
theorem back_A_no (c : Int) (h0 : 0 ≤ c) (h1 : c ≤ 1114111) (h2 : c < 55296) (t s : ByteArray) (hs : s.size ≤ maxLen) (hp : Hid (Puts c t true)) (ts : t.size ≤ maxLen) (hr : Hid (Reads t 0 (t.size : Nat) true c)) (x n : Int) (d : Int) (hr2 : Hid (Reads s x n false d)) (w : World) (ht : Tabs w) :
    Calls Tryd.prog 6 #[.int .i32 c, .string s, .int .i64 x] w fun e w' => e = .returned (.bool true) ∧ Up w w' := by
  have hw := Lib.hid wakes_all
  unfold maxLen at hs ts
  go_enter Tryd.func6, Tryd.ntmps6
  go_wp2_with (first
    | (go_at_call 14; (with_reducible refine (Puts.at hp _ ht).mono ?_); rintro e w1 ⟨rfl, hu1⟩; have ht1 := Tabs.up ht hu1)
    | (go_at_call 9; (with_reducible refine (Reads.len hr _ ht1).mono ?_); rintro e w2 ⟨rfl, hu2⟩; have ht2 := Tabs.up ht1 hu2)
    | (go_at_call 11; (with_reducible refine (Reads.char hr _ ht2).mono ?_); rintro e w3 ⟨rfl, hu3⟩; have ht3 := Tabs.up ht2 hu3)
    | (go_at_call 11; (with_reducible refine (Reads.char hr2 _ ht3).mono ?_); rintro e w4 ⟨rfl, hu4⟩; have ht4 := Tabs.up ht3 hu4)
    | (go_at_call 9; (with_reducible refine (Reads.len hr2 _ ht4).mono ?_); rintro e w5 ⟨rfl, hu5⟩; have ht5 := Tabs.up ht4 hu5)
    | (go_at_call 13; (with_reducible refine (Wakes.at hw _ ht5).mono ?_); rintro e w6 ⟨rfl, hu6⟩; have ht6 := Tabs.up ht5 hu6))
  go_ret
  exact ⟨rfl, (((((hu1.trans hu2).trans hu3).trans hu4).trans hu5).trans hu6)⟩

set_option maxRecDepth 100000 in
set_option maxHeartbeats 1000000 in
theorem back_B_yes (c : Int) (h0 : 0 ≤ c) (h1 : c ≤ 1114111) (h2 : 57343 < c) (t s : ByteArray) (hs : s.size ≤ maxLen) (hp : Hid (Puts c t true)) (ts : t.size ≤ maxLen) (hr : Hid (Reads t 0 (t.size : Nat) true c)) (u : ByteArray) (k n : Nat) (d : Int) (hkn : k + n ≤ s.size) (hr2 : Hid (Reads s k n true d)) (hp2 : Hid (Puts d u true)) (hu : s.extract k (k + n) = u) (hus : u.size = n) (w : World) (ht : Tabs w) :
    Calls Tryd.prog 6 #[.int .i32 c, .string s, .int .i64 k] w fun e w' => e = .returned (.bool true) ∧ Up w w' := by
  have hw := Lib.hid wakes_all
  have hk1 : (n : Int) ≤ s.size - k := by omega
  have h5 : (u.size : Int) ≤ n := by omega
  have h6 : (n : Int) ≤ u.size := by omega
  have h7 : ((s.extract k (k + n)).toList == u.toList) = true := by rw [hu]; simp
  clear hu hus
  unfold maxLen at hs ts
  go_enter Tryd.func6, Tryd.ntmps6
  go_wp2_with (first
    | (go_at_call 14; (with_reducible refine (Puts.at hp _ ht).mono ?_); rintro e w1 ⟨rfl, hu1⟩; have ht1 := Tabs.up ht hu1)
    | (go_at_call 9; (with_reducible refine (Reads.len hr _ ht1).mono ?_); rintro e w2 ⟨rfl, hu2⟩; have ht2 := Tabs.up ht1 hu2)
    | (go_at_call 11; (with_reducible refine (Reads.char hr _ ht2).mono ?_); rintro e w3 ⟨rfl, hu3⟩; have ht3 := Tabs.up ht2 hu3)
    | (go_at_call 11; (with_reducible refine (Reads.char hr2 _ ht3).mono ?_); rintro e w4 ⟨rfl, hu4⟩; have ht4 := Tabs.up ht3 hu4)
    | (go_at_call 9; (with_reducible refine (Reads.len hr2 _ ht4).mono ?_); rintro e w5 ⟨rfl, hu5⟩; have ht5 := Tabs.up ht4 hu5)
    | (go_at_call 14; (with_reducible refine (Puts.at hp2 _ ht5).mono ?_); rintro e w6 ⟨rfl, hu6⟩; have ht6 := Tabs.up ht5 hu6)
    | (go_at_call 13; (with_reducible refine (Wakes.at hw _ ht6).mono ?_); rintro e w7 ⟨rfl, hu7⟩; have ht7 := Tabs.up ht6 hu7))
  go_ret
  exact ⟨rfl, ((((((hu1.trans hu2).trans hu3).trans hu4).trans hu5).trans hu6).trans hu7)⟩

set_option maxRecDepth 100000 in
set_option maxHeartbeats 1000000 in
theorem back_B_no (c : Int) (h0 : 0 ≤ c) (h1 : c ≤ 1114111) (h2 : 57343 < c) (t s : ByteArray) (hs : s.size ≤ maxLen) (hp : Hid (Puts c t true)) (ts : t.size ≤ maxLen) (hr : Hid (Reads t 0 (t.size : Nat) true c)) (x n : Int) (d : Int) (hr2 : Hid (Reads s x n false d)) (w : World) (ht : Tabs w) :
    Calls Tryd.prog 6 #[.int .i32 c, .string s, .int .i64 x] w fun e w' => e = .returned (.bool true) ∧ Up w w' := by
  have hw := Lib.hid wakes_all
  unfold maxLen at hs ts
  go_enter Tryd.func6, Tryd.ntmps6
  go_wp2_with (first
    | (go_at_call 14; (with_reducible refine (Puts.at hp _ ht).mono ?_); rintro e w1 ⟨rfl, hu1⟩; have ht1 := Tabs.up ht hu1)
    | (go_at_call 9; (with_reducible refine (Reads.len hr _ ht1).mono ?_); rintro e w2 ⟨rfl, hu2⟩; have ht2 := Tabs.up ht1 hu2)
    | (go_at_call 11; (with_reducible refine (Reads.char hr _ ht2).mono ?_); rintro e w3 ⟨rfl, hu3⟩; have ht3 := Tabs.up ht2 hu3)
    | (go_at_call 11; (with_reducible refine (Reads.char hr2 _ ht3).mono ?_); rintro e w4 ⟨rfl, hu4⟩; have ht4 := Tabs.up ht3 hu4)
    | (go_at_call 9; (with_reducible refine (Reads.len hr2 _ ht4).mono ?_); rintro e w5 ⟨rfl, hu5⟩; have ht5 := Tabs.up ht4 hu5)
    | (go_at_call 13; (with_reducible refine (Wakes.at hw _ ht5).mono ?_); rintro e w6 ⟨rfl, hu6⟩; have ht6 := Tabs.up ht5 hu6))
  go_ret
  exact ⟨rfl, (((((hu1.trans hu2).trans hu3).trans hu4).trans hu5).trans hu6)⟩

set_option maxRecDepth 100000 in
set_option maxHeartbeats 1000000 in
theorem back_C_yes (c : Int) (h0 : c < 0) (t s : ByteArray) (hs : s.size ≤ maxLen) (hp : Hid (Puts c t false)) (u : ByteArray) (k n : Nat) (d : Int) (hkn : k + n ≤ s.size) (hr2 : Hid (Reads s k n true d)) (hp2 : Hid (Puts d u true)) (hu : s.extract k (k + n) = u) (hus : u.size = n) (w : World) (ht : Tabs w) :
    Calls Tryd.prog 6 #[.int .i32 c, .string s, .int .i64 k] w fun e w' => e = .returned (.bool true) ∧ Up w w' := by
  have hw := Lib.hid wakes_all
  have hk1 : (n : Int) ≤ s.size - k := by omega
  have h5 : (u.size : Int) ≤ n := by omega
  have h6 : (n : Int) ≤ u.size := by omega
  have h7 : ((s.extract k (k + n)).toList == u.toList) = true := by rw [hu]; simp
  clear hu hus
  unfold maxLen at hs
  go_enter Tryd.func6, Tryd.ntmps6
  go_wp2_with (first
    | (go_at_call 14; (with_reducible refine (Puts.at hp _ ht).mono ?_); rintro e w1 ⟨rfl, hu1⟩; have ht1 := Tabs.up ht hu1)
    | (go_at_call 11; (with_reducible refine (Reads.char hr2 _ ht1).mono ?_); rintro e w2 ⟨rfl, hu2⟩; have ht2 := Tabs.up ht1 hu2)
    | (go_at_call 9; (with_reducible refine (Reads.len hr2 _ ht2).mono ?_); rintro e w3 ⟨rfl, hu3⟩; have ht3 := Tabs.up ht2 hu3)
    | (go_at_call 14; (with_reducible refine (Puts.at hp2 _ ht3).mono ?_); rintro e w4 ⟨rfl, hu4⟩; have ht4 := Tabs.up ht3 hu4)
    | (go_at_call 13; (with_reducible refine (Wakes.at hw _ ht4).mono ?_); rintro e w5 ⟨rfl, hu5⟩; have ht5 := Tabs.up ht4 hu5))
  go_ret
  exact ⟨rfl, ((((hu1.trans hu2).trans hu3).trans hu4).trans hu5)⟩

set_option maxRecDepth 100000 in
set_option maxHeartbeats 1000000 in
theorem back_C_no (c : Int) (h0 : c < 0) (t s : ByteArray) (hs : s.size ≤ maxLen) (hp : Hid (Puts c t false)) (x n : Int) (d : Int) (hr2 : Hid (Reads s x n false d)) (w : World) (ht : Tabs w) :
    Calls Tryd.prog 6 #[.int .i32 c, .string s, .int .i64 x] w fun e w' => e = .returned (.bool true) ∧ Up w w' := by
  have hw := Lib.hid wakes_all
  unfold maxLen at hs
  go_enter Tryd.func6, Tryd.ntmps6
  go_wp2_with (first
    | (go_at_call 14; (with_reducible refine (Puts.at hp _ ht).mono ?_); rintro e w1 ⟨rfl, hu1⟩; have ht1 := Tabs.up ht hu1)
    | (go_at_call 11; (with_reducible refine (Reads.char hr2 _ ht1).mono ?_); rintro e w2 ⟨rfl, hu2⟩; have ht2 := Tabs.up ht1 hu2)
    | (go_at_call 9; (with_reducible refine (Reads.len hr2 _ ht2).mono ?_); rintro e w3 ⟨rfl, hu3⟩; have ht3 := Tabs.up ht2 hu3)
    | (go_at_call 13; (with_reducible refine (Wakes.at hw _ ht3).mono ?_); rintro e w4 ⟨rfl, hu4⟩; have ht4 := Tabs.up ht3 hu4))
  go_ret
  exact ⟨rfl, (((hu1.trans hu2).trans hu3).trans hu4)⟩

set_option maxRecDepth 100000 in
set_option maxHeartbeats 1000000 in
theorem back_D_yes (c : Int) (h0 : 0 ≤ c) (h1 : 1114111 < c) (t s : ByteArray) (hs : s.size ≤ maxLen) (hp : Hid (Puts c t false)) (u : ByteArray) (k n : Nat) (d : Int) (hkn : k + n ≤ s.size) (hr2 : Hid (Reads s k n true d)) (hp2 : Hid (Puts d u true)) (hu : s.extract k (k + n) = u) (hus : u.size = n) (w : World) (ht : Tabs w) :
    Calls Tryd.prog 6 #[.int .i32 c, .string s, .int .i64 k] w fun e w' => e = .returned (.bool true) ∧ Up w w' := by
  have hw := Lib.hid wakes_all
  have hk1 : (n : Int) ≤ s.size - k := by omega
  have h5 : (u.size : Int) ≤ n := by omega
  have h6 : (n : Int) ≤ u.size := by omega
  have h7 : ((s.extract k (k + n)).toList == u.toList) = true := by rw [hu]; simp
  clear hu hus
  unfold maxLen at hs
  go_enter Tryd.func6, Tryd.ntmps6
  go_wp2_with (first
    | (go_at_call 14; (with_reducible refine (Puts.at hp _ ht).mono ?_); rintro e w1 ⟨rfl, hu1⟩; have ht1 := Tabs.up ht hu1)
    | (go_at_call 11; (with_reducible refine (Reads.char hr2 _ ht1).mono ?_); rintro e w2 ⟨rfl, hu2⟩; have ht2 := Tabs.up ht1 hu2)
    | (go_at_call 9; (with_reducible refine (Reads.len hr2 _ ht2).mono ?_); rintro e w3 ⟨rfl, hu3⟩; have ht3 := Tabs.up ht2 hu3)
    | (go_at_call 14; (with_reducible refine (Puts.at hp2 _ ht3).mono ?_); rintro e w4 ⟨rfl, hu4⟩; have ht4 := Tabs.up ht3 hu4)
    | (go_at_call 13; (with_reducible refine (Wakes.at hw _ ht4).mono ?_); rintro e w5 ⟨rfl, hu5⟩; have ht5 := Tabs.up ht4 hu5))
  go_ret
  exact ⟨rfl, ((((hu1.trans hu2).trans hu3).trans hu4).trans hu5)⟩

set_option maxRecDepth 100000 in
set_option maxHeartbeats 1000000 in
theorem back_D_no (c : Int) (h0 : 0 ≤ c) (h1 : 1114111 < c) (t s : ByteArray) (hs : s.size ≤ maxLen) (hp : Hid (Puts c t false)) (x n : Int) (d : Int) (hr2 : Hid (Reads s x n false d)) (w : World) (ht : Tabs w) :
    Calls Tryd.prog 6 #[.int .i32 c, .string s, .int .i64 x] w fun e w' => e = .returned (.bool true) ∧ Up w w' := by
  have hw := Lib.hid wakes_all
  unfold maxLen at hs
  go_enter Tryd.func6, Tryd.ntmps6
  go_wp2_with (first
    | (go_at_call 14; (with_reducible refine (Puts.at hp _ ht).mono ?_); rintro e w1 ⟨rfl, hu1⟩; have ht1 := Tabs.up ht hu1)
    | (go_at_call 11; (with_reducible refine (Reads.char hr2 _ ht1).mono ?_); rintro e w2 ⟨rfl, hu2⟩; have ht2 := Tabs.up ht1 hu2)
    | (go_at_call 9; (with_reducible refine (Reads.len hr2 _ ht2).mono ?_); rintro e w3 ⟨rfl, hu3⟩; have ht3 := Tabs.up ht2 hu3)
    | (go_at_call 13; (with_reducible refine (Wakes.at hw _ ht3).mono ?_); rintro e w4 ⟨rfl, hu4⟩; have ht4 := Tabs.up ht3 hu4))
  go_ret
  exact ⟨rfl, (((hu1.trans hu2).trans hu3).trans hu4)⟩

set_option maxRecDepth 100000 in
set_option maxHeartbeats 1000000 in
theorem back_E_yes (c : Int) (h0 : 0 ≤ c) (h1 : c ≤ 1114111) (h2 : 55296 ≤ c) (h3 : c ≤ 57343) (t s : ByteArray) (hs : s.size ≤ maxLen) (hp : Hid (Puts c t false)) (u : ByteArray) (k n : Nat) (d : Int) (hkn : k + n ≤ s.size) (hr2 : Hid (Reads s k n true d)) (hp2 : Hid (Puts d u true)) (hu : s.extract k (k + n) = u) (hus : u.size = n) (w : World) (ht : Tabs w) :
    Calls Tryd.prog 6 #[.int .i32 c, .string s, .int .i64 k] w fun e w' => e = .returned (.bool true) ∧ Up w w' := by
  have hw := Lib.hid wakes_all
  have hk1 : (n : Int) ≤ s.size - k := by omega
  have h5 : (u.size : Int) ≤ n := by omega
  have h6 : (n : Int) ≤ u.size := by omega
  have h7 : ((s.extract k (k + n)).toList == u.toList) = true := by rw [hu]; simp
  clear hu hus
  unfold maxLen at hs
  go_enter Tryd.func6, Tryd.ntmps6
  go_wp2_with (first
    | (go_at_call 14; (with_reducible refine (Puts.at hp _ ht).mono ?_); rintro e w1 ⟨rfl, hu1⟩; have ht1 := Tabs.up ht hu1)
    | (go_at_call 11; (with_reducible refine (Reads.char hr2 _ ht1).mono ?_); rintro e w2 ⟨rfl, hu2⟩; have ht2 := Tabs.up ht1 hu2)
    | (go_at_call 9; (with_reducible refine (Reads.len hr2 _ ht2).mono ?_); rintro e w3 ⟨rfl, hu3⟩; have ht3 := Tabs.up ht2 hu3)
    | (go_at_call 14; (with_reducible refine (Puts.at hp2 _ ht3).mono ?_); rintro e w4 ⟨rfl, hu4⟩; have ht4 := Tabs.up ht3 hu4)
    | (go_at_call 13; (with_reducible refine (Wakes.at hw _ ht4).mono ?_); rintro e w5 ⟨rfl, hu5⟩; have ht5 := Tabs.up ht4 hu5))
  go_ret
  exact ⟨rfl, ((((hu1.trans hu2).trans hu3).trans hu4).trans hu5)⟩

set_option maxRecDepth 100000 in
set_option maxHeartbeats 1000000 in
theorem back_E_no (c : Int) (h0 : 0 ≤ c) (h1 : c ≤ 1114111) (h2 : 55296 ≤ c) (h3 : c ≤ 57343) (t s : ByteArray) (hs : s.size ≤ maxLen) (hp : Hid (Puts c t false)) (x n : Int) (d : Int) (hr2 : Hid (Reads s x n false d)) (w : World) (ht : Tabs w) :
    Calls Tryd.prog 6 #[.int .i32 c, .string s, .int .i64 x] w fun e w' => e = .returned (.bool true) ∧ Up w w' := by
  have hw := Lib.hid wakes_all
  unfold maxLen at hs
  go_enter Tryd.func6, Tryd.ntmps6
  go_wp2_with (first
    | (go_at_call 14; (with_reducible refine (Puts.at hp _ ht).mono ?_); rintro e w1 ⟨rfl, hu1⟩; have ht1 := Tabs.up ht hu1)
    | (go_at_call 11; (with_reducible refine (Reads.char hr2 _ ht1).mono ?_); rintro e w2 ⟨rfl, hu2⟩; have ht2 := Tabs.up ht1 hu2)
    | (go_at_call 9; (with_reducible refine (Reads.len hr2 _ ht2).mono ?_); rintro e w3 ⟨rfl, hu3⟩; have ht3 := Tabs.up ht2 hu3)
    | (go_at_call 13; (with_reducible refine (Wakes.at hw _ ht3).mono ?_); rintro e w4 ⟨rfl, hu4⟩; have ht4 := Tabs.up ht3 hu4))
  go_ret
  exact ⟨rfl, (((hu1.trans hu2).trans hu3).trans hu4)⟩

theorem walk_UtfBack (c : Int) (s : ByteArray) (x : Int) (hs : s.size ≤ maxLen) (w : World) (ht : Tabs w) :
    Calls Tryd.prog 6 #[.int .i32 c, .string s, .int .i64 x] w fun e w' => e = .returned (.bool true) ∧ Up w w' := by
  have hp := puts_any c
  have hr2 := reads_any s x hs
  have hone : isCI c = true → Hid (Reads (putS c) 0 ((putS c).size : Nat) true c) ∧ (putS c).size ≤ maxLen := fun hc => by
    obtain ⟨e1, e2, e3, e4⟩ := put_read hc
    have h := reads_any (putS c) ((0 : Nat) : Int) e4
    rw [e1, e2, e3] at h
    exact ⟨h, e4⟩
  cases hok : okI s x with
  | true =>
    obtain ⟨k, n, rfl, hn, hkn, hcd, hu, hus⟩ := read_put hok
    have hp2 := puts_any (chI s k)
    rw [hok, hn] at hr2
    rw [hcd, hu] at hp2
    rcases isCI_parts c with ⟨hc, h0, h1, h2⟩ | ⟨hc, h0, h1, h2⟩ | ⟨hc, h0⟩ | ⟨hc, h0, h1⟩ | ⟨hc, h0, h1, h2, h3⟩ <;> rw [hc] at hp
    · exact back_A_yes c h0 h1 h2 _ s hs hp (hone hc).2 (hone hc).1 _ k n _ hkn hr2 hp2 rfl hus w ht
    · exact back_B_yes c h0 h1 h2 _ s hs hp (hone hc).2 (hone hc).1 _ k n _ hkn hr2 hp2 rfl hus w ht
    · exact back_C_yes c h0 _ s hs hp _ k n _ hkn hr2 hp2 rfl hus w ht
    · exact back_D_yes c h0 h1 _ s hs hp _ k n _ hkn hr2 hp2 rfl hus w ht
    · exact back_E_yes c h0 h1 h2 h3 _ s hs hp _ k n _ hkn hr2 hp2 rfl hus w ht
  | false =>
    rw [hok] at hr2
    rcases isCI_parts c with ⟨hc, h0, h1, h2⟩ | ⟨hc, h0, h1, h2⟩ | ⟨hc, h0⟩ | ⟨hc, h0, h1⟩ | ⟨hc, h0, h1, h2, h3⟩ <;> rw [hc] at hp
    · exact back_A_no c h0 h1 h2 _ s hs hp (hone hc).2 (hone hc).1 x _ _ hr2 w ht
    · exact back_B_no c h0 h1 h2 _ s hs hp (hone hc).2 (hone hc).1 x _ _ hr2 w ht
    · exact back_C_no c h0 _ s hs hp x _ _ hr2 w ht
    · exact back_D_no c h0 h1 _ s hs hp x _ _ hr2 w ht
    · exact back_E_no c h0 h1 h2 h3 _ s hs hp x _ _ hr2 w ht
end Go.Proofs.YtibodioapkmgkaaDoor
