/- What the statements ask of the program's blanks and columns; the known line. -/
import Derived.Test.YtjlkdpnpkdchgaaDoorVRef
import Derived.Test.YtjlkdpnpkdchgaaDoorVRef2
namespace Go.Proofs.YtjlkdpnpkdchgaaDoor
open Go.RowKit

/-- What the program must answer. -/
structure TabC : Prop where
  ind : ∀ w s a c size, (s.size : Int) ≤ 65536 → I64v a → I64v c → I64v size → Calls Tryd.prog 8 #[.string s, .int .i64 a, .int .i64 c, .int .i64 size] w fun e w' => e = .returned (.tuple #[.int .i64 (inE s a c size).1, .int .i64 (inE s a c size).2]) ∧ Up w w'
  take : ∀ w s a c want size, (s.size : Int) ≤ 65536 → I64v a → I64v c → I64v want → I64v size → Calls Tryd.prog 10 #[.string s, .int .i64 a, .int .i64 c, .int .i64 want, .int .i64 size] w fun e w' => e = .returned (.tuple #[.int .i64 (tkE s a c want size).1, .int .i64 (tkE s a c want size).2]) ∧ Up w w'
  blank : ∀ w s a, (s.size : Int) ≤ 140737488355328 → I64v a → Calls Tryd.prog 12 #[.string s, .int .i64 a] w fun e w' => e = .returned (.bool (blankE s a)) ∧ Up w w'
  end_ : ∀ w s, (s.size : Int) ≤ 140737488355328 → Calls Tryd.prog 14 #[.string s] w fun e w' => e = .returned (.int .i64 (endE s : Nat)) ∧ Up w w'
section
variable (hC : TabC)
include hC
set_option maxRecDepth 100000 in
set_option maxHeartbeats 1000000 in
theorem vwakes_any (w : World) : Calls Tryd.prog 7 #[] w fun e w' => e = .returned (.bool true) ∧ Up w w' := by
  have H1 := Lib.hid (fun W => hC.ind W ⟨#[32, 9, 120]⟩ 0 0 8 (by decide) (by unfold I64v; omega) (by unfold I64v; omega) (by unfold I64v; omega))
  have H2 := Lib.hid (fun W => hC.end_ W ⟨#[97, 13, 10]⟩ (by decide))
  have H3 := Lib.hid (fun W => hC.blank W ⟨#[32, 10]⟩ 0 (by decide) (by unfold I64v; omega))
  rw [show inE ⟨#[32, 9, 120]⟩ 0 0 8 = (2, 8) from by decide] at H1
  rw [show endE ⟨#[97, 13, 10]⟩ = 1 from by decide] at H2
  rw [show blankE ⟨#[32, 10]⟩ 0 = true from by decide] at H3
  have hU := Up.refl w
  clear hC
  go_enter Tryd.func7, Tryd.ntmps7
  go_wp2_with (first
    | (go_at_call 8; ((with_reducible refine (H1.out _).mono ?_); rintro e w1 ⟨rfl, hu⟩; have hU := hU.trans hu; clear hu))
    | (go_at_call 14; ((with_reducible refine (H2.out _).mono ?_); rintro e w2 ⟨rfl, hu⟩; have hU := hU.trans hu; clear hu))
    | (go_at_call 12; ((with_reducible refine (H3.out _).mono ?_); rintro e w3 ⟨rfl, hu⟩; have hU := hU.trans hu; clear hu)))
  go_ret
  exact ⟨rfl, hU⟩
end
end Go.Proofs.YtjlkdpnpkdchgaaDoor
