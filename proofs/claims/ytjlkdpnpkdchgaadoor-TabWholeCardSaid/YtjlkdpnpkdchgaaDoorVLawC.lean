/- TabWhole, at every input. -/
import Derived.Test.YtjlkdpnpkdchgaaDoorVLawB
import Derived.Test.YtjlkdpnpkdchgaaDoorVLawB0
namespace Go.Proofs.YtjlkdpnpkdchgaaDoor
open Go.RowKit

theorem whole_walk (hC : TabC) (w : World) (s : ByteArray) (a col want size : Int) : Calls Tryd.prog 6 #[.string s, .int .i64 a, .int .i64 col, .int .i64 want, .int .i64 size] w fun e w' => e = .returned (.bool true) ∧ Up w w' := by
  by_cases h : 65536 < (s.size : Int) ∨ a < 0 ∨ (s.size : Int) < a ∨ col < 0 ∨ 1099511627776 < col ∨ size < 1 ∨ 64 < size ∨ want < 0 ∨ 1073741824 < want
  · exact whole_small hC w s a col want size _ rfl h
  · obtain ⟨k, rfl⟩ : ∃ k : Nat, a = (k : Int) := ⟨a.toNat, by omega⟩
    exact whole_main hC w s k col want size _ _ _ _ (by omega) (by omega) (by omega) (by omega) (by omega) (by omega) (by omega) (by omega) rfl rfl
end Go.Proofs.YtjlkdpnpkdchgaaDoor
