/- The program's Len and Char, at every input: what stands there, by the plain facts. -/
import Derived.Test.YtcbmigkdmmmahaaDoorRead
namespace Go.Proofs.YtcbmigkdmmmahaaDoor
open Go.RowKit

/-- What Len and Char answer of a place, whatever number it is. -/
def inB (s : ByteArray) (x : Int) : Prop := 0 ≤ x ∧ x < s.size
noncomputable def lenI (s : ByteArray) (x : Int) : Int := if 0 ≤ x ∧ x < s.size then (if 0 < (dec s x.toNat).2 then ((dec s x.toNat).2 : Int) else 1) else 0
noncomputable def okI (s : ByteArray) (x : Int) : Bool := decide (0 ≤ x ∧ x < s.size) && decide (0 < (dec s x.toNat).2)
noncomputable def chI (s : ByteArray) (x : Int) : Int := if 0 ≤ x ∧ x < s.size then ((dec s x.toNat).1 : Int) else 0

def LenSays (s : ByteArray) (x : Int) (w : World) (e : Ending) (w' : World) : Prop := e = .returned (.tuple #[.int .i64 (lenI s x), .bool (okI s x)]) ∧ Up w w'
def CharSays (s : ByteArray) (x : Int) (w : World) (e : Ending) (w' : World) : Prop := e = .returned (.tuple #[.int .i32 (chI s x), .bool (okI s x)]) ∧ Up w w'
theorem lenSays {s : ByteArray} {x a : Int} {b : Bool} {w w' : World} {e : Ending} (h1 : lenI s x = a) (h2 : okI s x = b) (he : e = .returned (.tuple #[.int .i64 a, .bool b])) (hu : Up w w') : LenSays s x w e w' := by
  unfold LenSays; rw [h1, h2]; exact ⟨he, hu⟩
theorem charSays {s : ByteArray} {x a : Int} {b : Bool} {w w' : World} {e : Ending} (h1 : chI s x = a) (h2 : okI s x = b) (he : e = .returned (.tuple #[.int .i32 a, .bool b])) (hu : Up w w') : CharSays s x w e w' := by
  unfold CharSays; rw [h1, h2]; exact ⟨he, hu⟩

set_option maxHeartbeats 400000 in
theorem len_any (s : ByteArray) (x : Int) (hs : s.size ≤ maxLen) (w : World) (ht : Tabs w) :
    Calls Tryd.prog 71 #[.string s, .int .i64 x] w (LenSays s x w) := by
  by_cases h : 0 ≤ x ∧ x < s.size
  · obtain ⟨h0, h1⟩ := h
    obtain ⟨k, rfl⟩ := Int.eq_ofNat_of_zero_le h0
    have hk : k < s.size := by omega
    have hl0 : lenI s k = if 0 < (dec s k).2 then ((dec s k).2 : Int) else 1 := by unfold lenI; rw [if_pos ⟨h0, h1⟩]; rfl
    have ho0 : okI s k = decide (0 < (dec s k).2) := by unfold okI; rw [decide_eq_true ⟨h0, h1⟩, Bool.true_and]; rfl
    have hr := read_any s k hk hs w ht
    unfold ReadSays at hr
    obtain ⟨c, hc⟩ : ∃ c, (dec s k).1 = c := ⟨_, rfl⟩
    obtain ⟨n, hn⟩ : ∃ n, (dec s k).2 = n := ⟨_, rfl⟩
    rw [hn] at hl0 ho0
    rw [hn, hc] at hr
    have Hl := Lib.hid hl0
    have Ho := Lib.hid ho0
    have Hr := Lib.hid hr
    clear hl0 ho0 hr hc hn
    unfold maxLen at hs
    by_cases hp : 0 < n
    · go_enter Tryd.func71, Tryd.ntmps71
      go_wp2_with (go_at_call 74; refine (Hr.out).mono ?_; rintro e w' ⟨rfl, hu⟩)
      go_ret2
      exact lenSays (by rw [Hl.out, if_pos hp]) (by rw [Ho.out]; exact decide_eq_true hp) rfl hu
    · go_enter Tryd.func71, Tryd.ntmps71
      go_wp2_with (go_at_call 74; refine (Hr.out).mono ?_; rintro e w' ⟨rfl, hu⟩)
      go_ret2
      exact lenSays (by rw [Hl.out, if_neg hp]) (by rw [Ho.out]; exact decide_eq_false hp) rfl hu
  · have hl0 : lenI s x = 0 := by unfold lenI; rw [if_neg h]
    have ho0 : okI s x = false := by unfold okI; rw [decide_eq_false h]; rfl
    have Hl := Lib.hid hl0
    have Ho := Lib.hid ho0
    clear hl0 ho0
    unfold maxLen at hs
    by_cases h0 : 0 ≤ x
    · have h1 : (s.size : Int) ≤ x := by omega
      clear h
      go_enter Tryd.func71, Tryd.ntmps71
      go_wp2
      go_ret2
      exact lenSays Hl.out Ho.out rfl (Up.refl _)
    · clear h
      go_enter Tryd.func71, Tryd.ntmps71
      go_wp2
      go_ret2
      exact lenSays Hl.out Ho.out rfl (Up.refl _)

end Go.Proofs.YtcbmigkdmmmahaaDoor
