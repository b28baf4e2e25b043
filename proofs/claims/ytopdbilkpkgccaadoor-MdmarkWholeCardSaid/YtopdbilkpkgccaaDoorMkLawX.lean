/- MdmarkWhole, put together. -/
import Derived.Test.YtopdbilkpkgccaaDoorMkLawW1
namespace Go.Proofs.YtopdbilkpkgccaaDoor
open Go.RowKit

theorem mkw8 {a : Int} (h : (Lit.int .u8 a).wf = true) : 0 ≤ a ∧ a ≤ 255 := by
  simpa [Lit.wf, IntKind.min, IntKind.max, IntKind.signed, IntKind.bits] using h
set_option maxRecDepth 100000 in
set_option maxHeartbeats 4000000 in
theorem mdmarkwhole_walk (w : World) (x z : Int) (s t : ByteArray) (hx : (Lit.int .u8 x).wf = true) (hz : (Lit.int .u8 z).wf = true) : Calls Tryd.prog 4 #[.int .u8 x, .string s, .int .u8 z, .string t] w fun e w' => e = .returned (.bool true) ∧ Up w w' := by
  have hx := (mkw8 hx).1
  have hz := (mkw8 hz).1
  obtain ⟨x, rfl⟩ := Int.eq_ofNat_of_zero_le hx
  obtain ⟨z, rfl⟩ := Int.eq_ofNat_of_zero_le hz
  by_cases hs : s.size ≤ 2000
  case neg =>
    have hU := Up.refl w
    obtain ⟨Z, hZ⟩ : ∃ Z : Int, (s.size : Int) = Z := ⟨_, rfl⟩
    have hz2 : 2000 < Z := by omega
    clear hs
    go_enter Tryd.func4, Tryd.ntmps4
    go_wp2
    go_ret
    exact ⟨rfl, hU⟩
  by_cases ht : t.size ≤ 200
  case neg =>
    have hU := Up.refl w
    obtain ⟨Z, hZ⟩ : ∃ Z : Int, (s.size : Int) = Z := ⟨_, rfl⟩
    have hz2 : ¬ 2000 < Z := by omega
    obtain ⟨Y, hY⟩ : ∃ Y : Int, (t.size : Int) = Y := ⟨_, rfl⟩
    have hz3 : 200 < Y := by omega
    clear hs ht
    go_enter Tryd.func4, Tryd.ntmps4
    go_wp2
    go_ret
    exact ⟨rfl, hU⟩
  exact whole_walk w x z s t (x % 6) (1 + x % 6) (z % 3) (z % 10) rfl (by omega) rfl rfl rfl (by omega) (by omega) hs ht
end Go.Proofs.YtopdbilkpkgccaaDoor
