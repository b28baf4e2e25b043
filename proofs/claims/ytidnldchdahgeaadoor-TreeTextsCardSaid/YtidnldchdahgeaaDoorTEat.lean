/- A number's bytes into a sum: the document's eat, the program's closures of Hash. -/
import Derived.Test.YtidnldchdahgeaaDoorTHash
import Derived.Test.YtidnldchdahgeaaDoorTRound
import Derived.Laws.BitsAllLaws
namespace Go.Proofs.YtidnldchdahgeaaDoor
open Go.RowKit

/-- A byte into a sum. -/
def mix (h : Int) (b : Nat) : Int := IntKind.u64.wrap (bits BinOp.xor IntKind.u64 h (b : Int) * 1099511628211)
def eatS : Nat → Int → Nat → Int
  | 0, h, _ => h
  | m + 1, h, x => eatS m (mix h (x % 256)) (x / 256)
/-- A number as one of 64 bits. -/
def u64N (z : Int) : Nat := (IntKind.u64.wrap z).toNat
theorem u64N_eq (z : Int) : IntKind.u64.wrap z = ((u64N z : Nat) : Int) := by
  unfold u64N
  have : 0 ≤ IntKind.u64.wrap z := by unfold IntKind.wrap; simp [IntKind.signed, IntKind.bits]; omega
  omega
theorem u64N_lt (z : Int) : u64N z < 18446744073709551616 := by
  have h := u64N_eq z
  have : IntKind.u64.wrap z < 18446744073709551616 := by unfold IntKind.wrap; simp [IntKind.signed, IntKind.bits]; omega
  omega
theorem u64_nat {x : Nat} (h : x < 18446744073709551616) : IntKind.u64.wrap (x : Int) = (x : Int) := by unfold IntKind.wrap; simp [IntKind.signed, IntKind.bits]; omega
theorem u8_nat (x : Nat) : IntKind.u8.wrap (x : Int) = ((x % 256 : Nat) : Int) := by unfold IntKind.wrap; simp [IntKind.signed, IntKind.bits]
theorem grown_refl (w : World) (b : Nat) : w.grownBy w (some b) := ⟨rfl, rfl, rfl, Nat.le_refl _, fun _ _ _ => rfl⟩
theorem grown_trans {a b c : World} {r : Option Nat} (h : a.grownBy b r) (k : b.grownBy c r) : a.grownBy c r :=
  ⟨k.os.trans h.os, k.tape.trans h.tape, k.output.trans h.output, Nat.le_trans h.size k.size, fun j hj hr => (k.block j (Nat.lt_of_lt_of_le hj h.size) hr).trans (h.block j hj hr)⟩
set_option maxRecDepth 100000 in
set_option maxHeartbeats 1000000 in
theorem eat_any (h : Int) (x : Nat) (hx : x < 18446744073709551616) (w : World) : Calls Tryd.prog 49 #[.int .u64 h, .int .u64 (x : Nat)] w fun e w' => e = .returned (.int .u64 (eatS 8 h x)) ∧ w = w' := by
  obtain ⟨V, hV⟩ : ∃ V, eatS 8 h x = V := ⟨_, rfl⟩
  rw [hV]
  have HV := Lib.hid hV
  have HX := Lib.hid hx
  clear hV hx
  go_enter Tryd.func49, Tryd.ntmps49
  go_wp2
  go_loopg [0, 1, 5] 8 (fun g hv xv iv wr => w = wr ∧ ∃ (m x' : Nat) (h' : Int), g = 8 - m ∧ iv = .int .i64 (m : Nat) ∧ hv = .int .u64 h' ∧ xv = .int .u64 (x' : Nat) ∧ m ≤ 8 ∧ Hid (eatS (8 - m) h' x' = V) ∧ Hid (x' < 18446744073709551616))
  case atStart => exact ⟨rfl, 0, x, h, rfl, rfl, rfl, rfl, by omega, HV, HX⟩
  case round =>
    obtain ⟨rfl, m, x', h', hg, rfl, rfl, rfl, hm, HE, HB⟩ := hrel
    have HG := Lib.hid hg
    clear hg
    by_cases hlt : m < 8
    · have j1 : (m : Int) < 8 := by omega
      have hE := HE.out
      rw [show 8 - m = (8 - (m + 1)) + 1 from by omega] at hE
      have HE2 := Lib.hid (show eatS (8 - (m + 1)) (mix h' (x' % 256)) (x' / 256) = V from hE)
      have q1 : IntKind.u64.wrap ((x' : Int) / 256) = ((x' / 256 : Nat) : Int) := by
        have := u64_nat (x := x' / 256) (by have := HB.out; omega)
        rw [← this]
        rfl
      have HM := Lib.hid (show IntKind.u64.wrap (bits BinOp.xor IntKind.u64 h' ((x' : Int) % 256) * 1099511628211) = mix h' (x' % 256) from rfl)
      have HB2 := Lib.hid (show x' / 256 < 18446744073709551616 by have := HB.out; omega)
      clear hE
      go_wp2
      go_roundg (8 - (m + 1))
      case measure => rw [HG.out]; omega
      case rel => exact ⟨rfl, m + 1, x' / 256, mix h' (x' % 256), rfl, by go_num, by rw [← HM.out], by first | rw [q1] | rfl, by omega, HE2, HB2⟩
    · obtain rfl : m = 8 := by omega
      have HZ := Lib.hid (show h' = V from HE.out)
      clear hlt
      go_wp2
      go_ret
      exact ⟨ret_int HZ.out, rfl⟩
set_option maxRecDepth 100000 in
set_option maxHeartbeats 2000000 in
/-- The closure that adds a number's bytes to the sum. -/
theorem add_any (z h : Int) (Bs : Nat) (w : World) (hb : Boxed w Bs 48 (.int .u64 h)) : Calls Tryd.prog 47 #[.int .i64 z, .pointer (some ⟨Bs, 0, none⟩)] w fun e w' =>
    e = .returned (.tuple #[]) ∧ Boxed w' Bs 48 (.int .u64 (eatS 8 h (u64N z))) ∧ w.grownBy w' (some Bs) := by
  obtain ⟨V, hV⟩ : ∃ V, eatS 8 h (u64N z) = V := ⟨_, rfl⟩
  rw [hV]
  have HV := Lib.hid hV
  have q0 := u64N_eq z
  obtain ⟨x, hx⟩ : ∃ x, u64N z = x := ⟨_, rfl⟩
  have HX := Lib.hid (show x < 18446744073709551616 by rw [← hx]; exact u64N_lt z)
  rw [hx] at q0 HV
  have HBx := Lib.hid hb
  clear hV hx hb
  go_enter Tryd.func47, Tryd.ntmps47
  go_wp2
  clear q0
  go_loopg [3, 4] 8 (fun g xv iv wr => ∃ (m x' : Nat) (h' : Int), g = 8 - m ∧ iv = .int .i64 (m : Nat) ∧ xv = .int .u64 (x' : Nat) ∧ m ≤ 8 ∧ Hid (eatS (8 - m) h' x' = V) ∧ Hid (x' < 18446744073709551616) ∧ Hid (Boxed wr Bs 48 (.int .u64 h')) ∧ Hid (w.grownBy wr (some Bs)))
  case atStart => exact ⟨0, x, h, rfl, rfl, by first | rfl | assumption, by omega, HV, HX, HBx, Lib.hid (grown_refl w Bs)⟩
  case round =>
    obtain ⟨m, x', h', hg, rfl, rfl, hm, HE, HB, HBx, HGr⟩ := hrel
    have HG := Lib.hid hg
    clear hg
    by_cases hlt : m < 8
    · have j1 : (m : Int) < 8 := by omega
      have cb := HBx.out.cell
      have fb := HBx.out.frozen
      go_wp2
      have hE := HE.out
      rw [show 8 - m = (8 - (m + 1)) + 1 from by omega] at hE
      have HE2 := Lib.hid (show eatS (8 - (m + 1)) (mix h' (x' % 256)) (x' / 256) = V from hE)
      have hM : IntKind.u64.wrap (bits BinOp.xor IntKind.u64 h' ((x' : Int) % 256) * 1099511628211) = mix h' (x' % 256) := rfl
      have HB2 := Lib.hid (show x' / 256 < 18446744073709551616 by have := HB.out; omega)
      rw [hM]
      have HBx2 := Lib.hid (HBx.out.set (.int .u64 (mix h' (x' % 256))))
      have HGr2 := Lib.hid (grown_trans HGr.out (setCell_grown wr Bs 0 (.int .u64 (mix h' (x' % 256)))))
      clear hE
      go_roundg (8 - (m + 1))
      case measure => rw [HG.out]; omega
      case rel => exact ⟨m + 1, x' / 256, mix h' (x' % 256), rfl, by go_num, rfl, by omega, HE2, HB2, HBx2, HGr2⟩
    · obtain rfl : m = 8 := by omega
      have HZ := Lib.hid (show h' = V from HE.out)
      clear hlt
      go_wp2
      go_end0
      have hz := HZ.out
      subst hz
      exact ⟨rfl, HBx.out, HGr.out⟩
end Go.Proofs.YtidnldchdahgeaaDoor
