/- PytokenScans, for any program that answers as the chapter asks. -/
import Derived.Test.YtlpkflioikmgjaaDoorYLawB
namespace Go.Proofs.YtlpkflioikmgjaaDoor
open Go.RowKit

theorem u8_nat {a : Int} (h : (Lit.int .u8 a).wf = true) : ∃ m : Nat, a = (m : Int) ∧ m < 256 := by
  simp [Lit.wf, IntKind.min, IntKind.max, IntKind.signed, IntKind.bits] at h
  exact ⟨a.toNat, by omega, by omega⟩
theorem scans_w (hC : ScanC) (hR : RefC) (w : World) (hT : TabsP w) (line : ByteArray) (a k d : Int) (ha : (Lit.int .i64 a).wf = true) (hk : (Lit.int .u8 k).wf = true) (hd : (Lit.int .i64 d).wf = true) :
    Calls Tryd.prog 3 #[.string line, .int .i64 a, .int .u8 k, .int .i64 d] w fun e w' => e = .returned (.bool true) ∧ Up w w' := by
  obtain ⟨m, rfl, hm⟩ := u8_nat hk
  exact scans_walk hC hR w hT line a m d ha hm hd
end Go.Proofs.YtlpkflioikmgjaaDoor
