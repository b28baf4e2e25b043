/- The program's blanks and columns. -/
import Derived.Test.YtmfcapbllbfjnaaGreatDoorVLoop
import Derived.Test.YtmfcapbllbfjnaaGreatDoorVEnds
namespace Go.Proofs.YtmfcapbllbfjnaaGreatDoor
open Go.RowKit

set_option maxRecDepth 100000 in
set_option maxHeartbeats 2000000 in
theorem take_not (s : ByteArray) (a c want size : Int) (w : World) (h : ¬ mayT s a c size) : Calls Tryz.prog 42 #[.string s, .int .i64 a, .int .i64 c, .int .i64 want, .int .i64 size] w fun en w' => en = .returned (.tuple #[.int .i64 0, .int .i64 0]) ∧ Up w w' := by
  have HM := Lib.hid (fun W => mayBe_any s a c size W)
  rw [decide_eq_false h] at HM
  have hc := box_cell w (.int .i64 c) 3
  clear h
  go_enter Tryz.func42, Tryz.ntmps42
  go_wp2
  go_step3
  go_wp2_with (go_at_call 63; ((with_reducible refine (HM.out _).mono ?_); rintro e1 w1 ⟨rfl, rfl⟩))
  try rw [Exit.noGoto_ret]
  go_ret2
  exact ⟨rfl, Up.alloc _ _⟩
theorem pTake_any (w : World) (s : ByteArray) (a c want size : Int) (hs : (s.size : Int) ≤ 65536) : Calls Tryz.prog 42 #[.string s, .int .i64 a, .int .i64 c, .int .i64 want, .int .i64 size] w fun en w' => en = .returned (.tuple #[.int .i64 (tkE s a c want size).1, .int .i64 (tkE s a c want size).2]) ∧ Up w w' := by
  unfold tkE
  by_cases h : mayT s a c size
  · rw [if_pos h]
    obtain ⟨h0, h1, h2, h3, h4, h5⟩ := h
    obtain ⟨k, rfl⟩ : ∃ k : Nat, a = (k : Int) := ⟨a.toNat, by omega⟩
    rw [Int.toNat_natCast]
    exact take_loop s k c want _ size w hs (by omega) h2 h3 h4 h5 rfl
  · rw [if_neg h]
    exact take_not s a c want size w h
theorem inE_tk (s : ByteArray) (a c size : Int) (hs : (s.size : Int) ≤ 65536) : tkE s a c 1099511627776 size = inE s a c size := by
  unfold tkE inE
  by_cases h : mayT s a c size
  · rw [if_pos h, if_pos h]
    obtain ⟨h0, h1, h2, h3, h4, h5⟩ := h
    have hw : wantC 1099511627776 = 1099511627776 := rfl
    have hfar : farC = 2199023255552 := rfl
    have e : tkF s a.toNat c (c + wantC 1099511627776) size = tkF s a.toNat c farC size := by
      rw [hw]
      exact goF_far h4 h5 (s.size - a.toNat) a.toNat c h2 (by omega) (by omega)
    rw [e]
  · rw [if_neg h, if_neg h]
set_option maxRecDepth 100000 in
set_option maxHeartbeats 2000000 in
theorem pIndent_any (w : World) (s : ByteArray) (a c size : Int) (hs : (s.size : Int) ≤ 65536) : Calls Tryz.prog 23 #[.string s, .int .i64 a, .int .i64 c, .int .i64 size] w fun en w' => en = .returned (.tuple #[.int .i64 (inE s a c size).1, .int .i64 (inE s a c size).2]) ∧ Up w w' := by
  have HT := Lib.hid (fun W => pTake_any W s a c 1099511627776 size hs)
  rw [inE_tk s a c size hs] at HT
  generalize (inE s a c size).1 = x at HT ⊢
  generalize (inE s a c size).2 = y at HT ⊢
  clear hs
  go_enter Tryz.func23, Tryz.ntmps23
  go_wp2_with (go_at_call 42; ((with_reducible refine (HT.out _).mono ?_); rintro e1 w1 ⟨rfl, hu⟩))
  go_ret2
  exact ⟨rfl, hu⟩
end Go.Proofs.YtmfcapbllbfjnaaGreatDoor
