/- ShwordReads walked. -/
import Derived.Test.YtmeipmkiknekjaaDoorHRefR
import Derived.Test.YtmeipmkiknekjaaDoorHLawT
namespace Go.Proofs.YtmeipmkiknekjaaDoor
open Go.RowKit
set_option linter.unusedVariables false
theorem rdE_short (L : List Nat) (x : Int) (m : Nat) : (rdE L x m).1.length ≤ con L + 1 := by
  by_cases ho : x < 0 ∨ (con L : Int) < x
  · unfold rdE
    rw [if_pos ho]
    exact Nat.zero_le _
  · obtain ⟨p, rfl⟩ : ∃ p : Nat, x = (p : Nat) := ⟨x.toNat, by omega⟩
    exact rdE_len L p m (by omega)
set_option maxRecDepth 100000 in
set_option maxHeartbeats 4000000 in
theorem reads_far (W : World) (hT : TabH W) (line : ByteArray) (x y : Int) (h : (16384 : Int) < line.size) : Calls Tryd.prog 3 #[.string line, .int .i64 x, .int .u8 y] W fun e w' => e = .returned (.bool true) ∧ Up W w' := by
  have HK := Lib.hid (wakes_any W hT)
  clear hT
  go_enter Tryd.func3, Tryd.ntmps3
  go_wp2_with (first
    | (go_at_call 8; ((with_reducible refine (HK.out).mono ?_); rintro e w3 ⟨rfl, hu⟩; have HU := Lib.hid hu; clear hu)))
  go_ret
  exact ⟨rfl, HU.out⟩
set_option maxRecDepth 100000 in
set_option maxHeartbeats 4000000 in
theorem reads_near (W : World) (hT : TabH W) (line : ByteArray) (x : Int) (m : Nat) (hs : (line.size : Int) ≤ 16384) : Calls Tryd.prog 3 #[.string line, .int .i64 x, .int .u8 (m : Nat)] W fun e w' => e = .returned (.bool true) ∧ Up W w' := by
  have HR := Lib.hid (read_any W hT line x m (by omega))
  have HQ := Lib.hid (fun w => refRead_any w line x m (by omega))
  have hLen := rdE_short (bl line) x m
  have hcl := (con_le (bl line)).1
  rw [bl_len] at hcl
  have hLen : (rdE (bl line) x m).1.length ≤ 1000000 := by omega
  generalize rdE (bl line) x m = RR at HR HQ hLen
  obtain ⟨PS, M⟩ := RR
  simp only [] at HR HQ hLen
  have HLEN := Lib.hid hLen
  have HK := Lib.hid (fun w (h : TabH w) => wakes_any w h)
  have HT := Lib.hid hT
  have f0 : ¬ ((16384 : Int) < line.size) := by omega
  have f1 : decide ((16384 : Int) < line.size) = false := decide_eq_false f0
  have n1 : ((M : Int) == (M : Int)) = true := by simp
  clear hT hs hLen hcl
  go_enter Tryd.func3, Tryd.ntmps3
  go_wp2_with (first
    | (go_at_call 9; ((with_reducible refine (HR.out).mono ?_); rintro e w1 ⟨⟨v, rfl, hrow⟩, hu⟩; have HROW := Lib.hid hrow; have HU := Lib.hid hu; clear hrow hu))
    | (go_at_call 10; ((with_reducible refine (HQ.out _).mono ?_); rintro e w2 ⟨⟨v2, rfl, hrow2⟩, hu⟩; have HSM := Lib.hid (same_any w2 (row_up HROW.out hu) hrow2 HLEN.out); have HU := Lib.hid (HU.out.trans hu); clear hrow2 hu))
    | (go_at_call 11; ((with_reducible refine (HSM.out).mono ?_); rintro e w4 ⟨rfl, hu⟩; have HU := Lib.hid (HU.out.trans hu); clear hu))
    | (go_at_call 8; ((with_reducible refine (HK.out _ (HT.out.up HU.out)).mono ?_); rintro e w3 ⟨rfl, hu⟩; have HU := Lib.hid (HU.out.trans hu); clear hu)))
  go_ret
  exact ⟨rfl, HU.out⟩
theorem reads_walk (W : World) (hT : TabH W) (line : ByteArray) (x y : Int) (hy : (Lit.int .u8 y).wf = true) : Calls Tryd.prog 3 #[.string line, .int .i64 x, .int .u8 y] W fun e w' => e = .returned (.bool true) ∧ Up W w' := by
  have hyr := bounds_u8 hy
  obtain ⟨m, rfl⟩ : ∃ m : Nat, y = (m : Nat) := ⟨y.toNat, by omega⟩
  by_cases hs : (16384 : Int) < line.size
  · exact reads_far W hT line x m hs
  · exact reads_near W hT line x m (by omega)
end Go.Proofs.YtmeipmkiknekjaaDoor
