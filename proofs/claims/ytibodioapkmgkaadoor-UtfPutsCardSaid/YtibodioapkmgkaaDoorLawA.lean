/- The statements UtfChars, UtfPuts and UtfBack, walked: at every input they return true and nothing that lay has turned. -/
import Derived.Test.YtibodioapkmgkaaDoorWakes
namespace Go.Proofs.YtibodioapkmgkaaDoor
open Go.RowKit

set_option maxRecDepth 100000 in
set_option maxHeartbeats 1000000 in
theorem walk_UtfPuts (c : Int) (w : World) (ht : Tabs w) : Calls Tryd.prog 4 #[.int .i32 c] w fun e w' => e = .returned (.bool true) ∧ Up w w' := by
  have h1 := put_any c w ht
  have h2 := fun w => refPut_any c w
  have h3 := fun w ht => wakes_any w ht
  unfold PutSays at h1 h2
  obtain ⟨b, hb⟩ : ∃ b, isCI c = b := ⟨_, rfl⟩
  obtain ⟨t, hts⟩ : ∃ t, putS c = t := ⟨_, rfl⟩
  rw [hb, hts] at h1 h2
  have H1 := Lib.hid h1
  have H2 := Lib.hid h2
  have H3 := Lib.hid h3
  clear h1 h2 h3 hb hts
  go_enter Tryd.func4, Tryd.ntmps4
  go_wp2_with (first
    | (go_at_call 14; refine (H1.out).mono ?_; rintro e w1 ⟨rfl, hu1⟩; have ht1 := ht.up hu1)
    | (go_at_call 15; refine (H2.out _).mono ?_; rintro e w2 ⟨rfl, hu2⟩; have ht2 := ht1.up hu2)
    | (go_at_call 13; refine (H3.out _ ht2).mono ?_; rintro e w3 ⟨rfl, hu3⟩))
  go_ret
  exact ⟨rfl, (hu1.trans hu2).trans hu3⟩

set_option maxRecDepth 100000 in
set_option maxHeartbeats 1000000 in
theorem walk_UtfChars (s : ByteArray) (x : Int) (hs : s.size ≤ maxLen) (w : World) (ht : Tabs w) : Calls Tryd.prog 3 #[.string s, .int .i64 x] w fun e w' => e = .returned (.bool true) ∧ Up w w' := by
  have h1 := len_any s x hs w ht
  have h2 := fun w => refLen_any s x hs w
  have h3 := fun w ht => char_any s x hs w ht
  have h4 := fun w => refChar_any s x hs w
  have h5 := fun w ht => wakes_any w ht
  unfold LenSays at h1 h2
  unfold CharSays at h3 h4
  obtain ⟨b, hb⟩ : ∃ b, okI s x = b := ⟨_, rfl⟩
  obtain ⟨n, hn⟩ : ∃ n, lenI s x = n := ⟨_, rfl⟩
  obtain ⟨c, hc⟩ : ∃ c, chI s x = c := ⟨_, rfl⟩
  rw [hb, hn] at h1 h2
  rw [hb, hc] at h3 h4
  have H1 := Lib.hid h1
  have H2 := Lib.hid h2
  have H3 := Lib.hid h3
  have H4 := Lib.hid h4
  have H5 := Lib.hid h5
  clear h1 h2 h3 h4 h5 hb hn hc
  go_enter Tryd.func3, Tryd.ntmps3
  go_wp2_with (first
    | (go_at_call 9; refine (H1.out).mono ?_; rintro e w1 ⟨rfl, hu1⟩; have ht1 := ht.up hu1)
    | (go_at_call 10; refine (H2.out _).mono ?_; rintro e w2 ⟨rfl, hu2⟩; have ht2 := ht1.up hu2)
    | (go_at_call 11; refine (H3.out _ ht2).mono ?_; rintro e w3 ⟨rfl, hu3⟩; have ht3 := ht2.up hu3)
    | (go_at_call 12; refine (H4.out _).mono ?_; rintro e w4 ⟨rfl, hu4⟩; have ht4 := ht3.up hu4)
    | (go_at_call 13; refine (H5.out _ ht4).mono ?_; rintro e w5 ⟨rfl, hu5⟩))
  go_ret
  exact ⟨rfl, (((hu1.trans hu2).trans hu3).trans hu4).trans hu5⟩
end Go.Proofs.YtibodioapkmgkaaDoor
