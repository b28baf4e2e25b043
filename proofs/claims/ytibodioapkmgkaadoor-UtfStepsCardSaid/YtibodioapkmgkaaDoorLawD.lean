/- The statement UtfSteps, walked: where steps begin, how many there are, and whether one is a lone byte. -/
import Derived.Test.YtibodioapkmgkaaDoorRefSteps
import Derived.Test.YtibodioapkmgkaaDoorLawB
namespace Go.Proofs.YtibodioapkmgkaaDoor
open Go.RowKit

set_option maxRecDepth 100000 in
set_option maxHeartbeats 1000000 in
theorem walk_UtfSteps (s : ByteArray) (x : Int) (hs : s.size ≤ maxLen) (w : World) (ht : Tabs w) : Calls Tryd.prog 5 #[.string s, .int .i64 x] w fun e w' => e = .returned (.bool true) ∧ Up w w' := by
  have hw := Lib.hid wakes_all
  by_cases hbig : (65536 : Int) < s.size
  · unfold maxLen at hs
    go_enter Tryd.func5, Tryd.ntmps5
    go_wp2_with (go_at_call 13; (with_reducible refine (Wakes.at hw _ ht).mono ?_); rintro e w1 ⟨rfl, hu1⟩)
    go_ret
    exact ⟨rfl, hu1⟩
  · have hle : (s.size : Int) ≤ 65536 := by omega
    have h1 := start_any s x hs w ht
    have h2 := fun w => refStart_any s x hs w
    have h3 := fun w ht => count_any s hs w ht
    have h4 := fun w => refCount_any s hs w
    have h5 := fun w ht => valid_any s hs w ht
    have h6 := fun w => refValid_any s hs w
    unfold StartSays at h1 h2
    obtain ⟨a, ha⟩ : ∃ a, startS s x = a := ⟨_, rfl⟩
    obtain ⟨b, hb⟩ : ∃ b, countS s = b := ⟨_, rfl⟩
    obtain ⟨c, hc⟩ : ∃ c, validS s = c := ⟨_, rfl⟩
    rw [ha] at h1 h2
    rw [hb] at h3 h4
    rw [hc] at h5 h6
    have H1 := Lib.hid h1
    have H2 := Lib.hid h2
    have H3 := Lib.hid h3
    have H4 := Lib.hid h4
    have H5 := Lib.hid h5
    have H6 := Lib.hid h6
    unfold maxLen at hs
    clear h1 h2 h3 h4 h5 h6 ha hb hc hbig
    go_enter Tryd.func5, Tryd.ntmps5
    go_wp2_with (first
      | (go_at_call 16; refine (H1.out).mono ?_; rintro e w1 ⟨rfl, hu1⟩; have ht1 := ht.up hu1)
      | (go_at_call 17; refine (H2.out _).mono ?_; rintro e w2 ⟨rfl, hu2⟩; have ht2 := ht1.up hu2)
      | (go_at_call 18; refine (H3.out _ ht2).mono ?_; rintro e w3 ⟨rfl, hu3⟩; have ht3 := ht2.up hu3)
      | (go_at_call 19; refine (H4.out _).mono ?_; rintro e w4 ⟨rfl, hu4⟩; have ht4 := ht3.up hu4)
      | (go_at_call 20; refine (H5.out _ ht4).mono ?_; rintro e w5 ⟨rfl, hu5⟩; have ht5 := ht4.up hu5)
      | (go_at_call 21; refine (H6.out _).mono ?_; rintro e w6 ⟨rfl, hu6⟩; have ht6 := ht5.up hu6)
      | (go_at_call 13; (with_reducible refine (Wakes.at hw _ ht6).mono ?_); rintro e w7 ⟨rfl, hu7⟩))
    go_ret
    exact ⟨rfl, (((((hu1.trans hu2).trans hu3).trans hu4).trans hu5).trans hu6).trans hu7⟩
end Go.Proofs.YtibodioapkmgkaaDoor
