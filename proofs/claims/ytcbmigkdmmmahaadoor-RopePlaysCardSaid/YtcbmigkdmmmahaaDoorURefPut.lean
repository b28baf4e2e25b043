/- The document's own Put, at every number: the same bytes. -/
import Derived.Test.YtcbmigkdmmmahaaDoorUPutFacts
namespace Go.Proofs.YtcbmigkdmmmahaaDoor
open Go.RowKit

set_option maxRecDepth 100000 in
set_option maxHeartbeats 1000000 in
theorem refPut_1 (x : Int) (hi : isCI x = true) (l1 : x < 128) (h0 : 0 ≤ x) (w : World) :
    Calls Tryd.prog 55 #[.int .i32 x] w (PutSays x w) := by
  have hcv : ∀ (a : Int), (convert 70 9 (.slice (some ⟨w.heap.size, 0, none⟩) 1 1)).run Tryd.prog (w.alloc (.cells #[.int .u8 a] 5)) = .ok (.string (strOfNums [a])) (w.alloc (.cells #[.int .u8 a] 5)) := fun a => conv_new w [a] 1 1 rfl
  have hl : putS x = strOfNums [x] := by
    obtain ⟨c, rfl⟩ := Int.eq_ofNat_of_zero_le h0
    have hi' : isC c = true := by rw [← isCI_nat]; exact hi
    have hcb := (isC_iff c).1 hi'
    refine putS_yes hi' ?_
    unfold enc
    rw [if_pos (by omega)]
    simp
  have HL := Lib.hid hl
  have HB := Lib.hid hi
  clear hi hl
  go_enter Tryd.func55, Tryd.ntmps55
  go_wp2
  go_ret2
  exact putSays HL.out HB.out rfl (Up.alloc _ _)

set_option maxRecDepth 100000 in
set_option maxHeartbeats 1000000 in
theorem refPut_2 (x : Int) (hi : isCI x = true) (l1 : (128 : Int) ≤ x) (l2 : x < 2048) (h0 : 0 ≤ x) (w : World) :
    Calls Tryd.prog 55 #[.int .i32 x] w (PutSays x w) := by
  have hcv : ∀ (a b : Int), (convert 70 9 (.slice (some ⟨w.heap.size, 0, none⟩) 2 2)).run Tryd.prog (w.alloc (.cells #[.int .u8 a, .int .u8 b] 5)) = .ok (.string (strOfNums [a, b])) (w.alloc (.cells #[.int .u8 a, .int .u8 b] 5)) := fun a b => conv_new w [a, b] 2 2 rfl
  have hl : putS x = strOfNums [192 + x / 64, 128 + x % 64] := by
    obtain ⟨c, rfl⟩ := Int.eq_ofNat_of_zero_le h0
    have hi' : isC c = true := by rw [← isCI_nat]; exact hi
    have hcb := (isC_iff c).1 hi'
    refine putS_yes hi' ?_
    unfold enc
    rw [if_neg (by omega), if_pos (by omega)]
    simp
  have HL := Lib.hid hl
  have HB := Lib.hid hi
  clear hi hl
  go_enter Tryd.func55, Tryd.ntmps55
  go_wp2
  go_ret2
  exact putSays HL.out HB.out rfl (Up.alloc _ _)

set_option maxRecDepth 100000 in
set_option maxHeartbeats 1000000 in
theorem refPut_3 (x : Int) (hi : isCI x = true) (l1 : (2048 : Int) ≤ x) (l2 : x < 65536) (l3 : x < 55296) (h0 : 0 ≤ x) (w : World) :
    Calls Tryd.prog 55 #[.int .i32 x] w (PutSays x w) := by
  have hcv : ∀ (a b d : Int), (convert 70 9 (.slice (some ⟨w.heap.size, 0, none⟩) 3 3)).run Tryd.prog (w.alloc (.cells #[.int .u8 a, .int .u8 b, .int .u8 d] 5)) = .ok (.string (strOfNums [a, b, d])) (w.alloc (.cells #[.int .u8 a, .int .u8 b, .int .u8 d] 5)) := fun a b d => conv_new w [a, b, d] 3 3 rfl
  have hl : putS x = strOfNums [224 + x / 4096, 128 + x / 64 % 64, 128 + x % 64] := by
    obtain ⟨c, rfl⟩ := Int.eq_ofNat_of_zero_le h0
    have hi' : isC c = true := by rw [← isCI_nat]; exact hi
    have hcb := (isC_iff c).1 hi'
    refine putS_yes hi' ?_
    unfold enc
    rw [if_neg (by omega), if_neg (by omega), if_pos (by omega)]
    simp
  have HL := Lib.hid hl
  have HB := Lib.hid hi
  clear hi hl
  go_enter Tryd.func55, Tryd.ntmps55
  go_wp2
  go_ret2
  exact putSays HL.out HB.out rfl (Up.alloc _ _)

set_option maxRecDepth 100000 in
set_option maxHeartbeats 1000000 in
theorem refPut_3b (x : Int) (hi : isCI x = true) (l1 : (2048 : Int) ≤ x) (l2 : x < 65536) (l3 : (57343 : Int) < x) (h0 : 0 ≤ x) (w : World) :
    Calls Tryd.prog 55 #[.int .i32 x] w (PutSays x w) := by
  have hcv : ∀ (a b d : Int), (convert 70 9 (.slice (some ⟨w.heap.size, 0, none⟩) 3 3)).run Tryd.prog (w.alloc (.cells #[.int .u8 a, .int .u8 b, .int .u8 d] 5)) = .ok (.string (strOfNums [a, b, d])) (w.alloc (.cells #[.int .u8 a, .int .u8 b, .int .u8 d] 5)) := fun a b d => conv_new w [a, b, d] 3 3 rfl
  have hl : putS x = strOfNums [224 + x / 4096, 128 + x / 64 % 64, 128 + x % 64] := by
    obtain ⟨c, rfl⟩ := Int.eq_ofNat_of_zero_le h0
    have hi' : isC c = true := by rw [← isCI_nat]; exact hi
    have hcb := (isC_iff c).1 hi'
    refine putS_yes hi' ?_
    unfold enc
    rw [if_neg (by omega), if_neg (by omega), if_pos (by omega)]
    simp
  have HL := Lib.hid hl
  have HB := Lib.hid hi
  clear hi hl
  go_enter Tryd.func55, Tryd.ntmps55
  go_wp2
  go_ret2
  exact putSays HL.out HB.out rfl (Up.alloc _ _)

set_option maxRecDepth 100000 in
set_option maxHeartbeats 1000000 in
theorem refPut_4 (x : Int) (hi : isCI x = true) (l1 : (65536 : Int) ≤ x) (l2 : x ≤ 1114111) (h0 : 0 ≤ x) (w : World) :
    Calls Tryd.prog 55 #[.int .i32 x] w (PutSays x w) := by
  have hcv : ∀ (a b d f : Int), (convert 70 9 (.slice (some ⟨w.heap.size, 0, none⟩) 4 4)).run Tryd.prog (w.alloc (.cells #[.int .u8 a, .int .u8 b, .int .u8 d, .int .u8 f] 5)) = .ok (.string (strOfNums [a, b, d, f])) (w.alloc (.cells #[.int .u8 a, .int .u8 b, .int .u8 d, .int .u8 f] 5)) := fun a b d f => conv_new w [a, b, d, f] 4 4 rfl
  have hl : putS x = strOfNums [240 + x / 262144, 128 + x / 4096 % 64, 128 + x / 64 % 64, 128 + x % 64] := by
    obtain ⟨c, rfl⟩ := Int.eq_ofNat_of_zero_le h0
    have hi' : isC c = true := by rw [← isCI_nat]; exact hi
    have hcb := (isC_iff c).1 hi'
    refine putS_yes hi' ?_
    unfold enc
    rw [if_neg (by omega), if_neg (by omega), if_neg (by omega)]
    simp
  have HL := Lib.hid hl
  have HB := Lib.hid hi
  clear hi hl
  go_enter Tryd.func55, Tryd.ntmps55
  go_wp2
  go_ret2
  exact putSays HL.out HB.out rfl (Up.alloc _ _)

set_option maxHeartbeats 1000000 in
theorem refPut_no (c : Int) (hi : isCI c = false) (w : World) : Calls Tryd.prog 55 #[.int .i32 c] w (PutSays c w) := by
  have hp : putS c = ByteArray.empty := by unfold putS; rw [if_neg (by rw [hi]; simp)]
  have hc : c < 0 ∨ 1114111 < c ∨ (55296 ≤ c ∧ c ≤ 57343) := by unfold isCI at hi; simp at hi; omega
  have HP := Lib.hid hp
  have HI := Lib.hid hi
  clear hp hi
  rcases hc with h | h | ⟨h1, h2⟩
  · go_enter Tryd.func55, Tryd.ntmps55
    go_wp2
    go_ret2
    exact putSays HP.out HI.out rfl (Up.refl _)
  · have h0 : 0 ≤ c := by omega
    go_enter Tryd.func55, Tryd.ntmps55
    go_wp2
    go_ret2
    exact putSays HP.out HI.out rfl (Up.refl _)
  · have h0 : 0 ≤ c := by omega
    have h3 : c ≤ 1114111 := by omega
    go_enter Tryd.func55, Tryd.ntmps55
    go_wp2
    go_ret2
    exact putSays HP.out HI.out rfl (Up.refl _)

theorem refPut_any (c : Int) (w : World) : Calls Tryd.prog 55 #[.int .i32 c] w (PutSays c w) := by
  cases hi : isCI c with
  | true =>
    have h0 : 0 ≤ c := by unfold isCI at hi; simp at hi; omega
    obtain ⟨k, rfl⟩ := Int.eq_ofNat_of_zero_le h0
    have hi' : isC k = true := by rw [← isCI_nat]; exact hi
    have hb := (isC_iff k).1 hi'
    by_cases h1 : k < 128
    · exact refPut_1 k hi (by omega) h0 w
    by_cases h2 : k < 2048
    · exact refPut_2 k hi (by omega) (by omega) h0 w
    by_cases h3 : k < 55296
    · exact refPut_3 k hi (by omega) (by omega) (by omega) h0 w
    by_cases h4 : k < 65536
    · exact refPut_3b k hi (by omega) (by omega) (by omega) h0 w
    · exact refPut_4 k hi (by omega) (by omega) h0 w
  | false => exact refPut_no c hi w
end Go.Proofs.YtcbmigkdmmmahaaDoor
