/- The digits of a number: the document's digits. -/
import Derived.Test.YtidnldchdahgeaaDoorTPrintP
import Derived.Test.YtidnldchdahgeaaDoorTSame
namespace Go.Proofs.YtidnldchdahgeaaDoor
open Go.RowKit

set_option maxRecDepth 100000 in
set_option maxHeartbeats 2000000 in
theorem refDigits_any (z : Int) (h0 : 0 ≤ z) (h1 : z ≤ 1099511627776) (w : World) :
    Calls Tryd.prog 44 #[.int .i64 z] w fun e w' => e = .returned (.string ⟨(dig z).toArray⟩) ∧ Up w w' := by
  obtain ⟨u, rfl⟩ : ∃ u : Nat, z = u := ⟨z.toNat, by omega⟩
  have hd : dig (u : Nat) = Go.Lib.decDigits u := by unfold dig; rw [Int.toNat_natCast]
  obtain ⟨D, hD⟩ : ∃ D, Go.Lib.decDigits u = D := ⟨_, rfl⟩
  rw [hd, hD]
  have HD := Lib.hid hD
  have HL := Lib.hid (show D.length ≤ 100 by rw [← hD, ← hd]; have := dig_len (z := (u : Nat)) (by omega) (by omega); omega)
  clear hd hD h0
  go_enter Tryd.func44, Tryd.ntmps44
  go_wp2
  go_loopg [0, 3] u (fun g nv sv wr => ∃ (m : Nat) (t : List UInt8), g = m ∧ nv = .int .i64 (m : Nat) ∧ sv = .string ⟨t.toArray⟩ ∧ m ≤ u ∧ Hid (Go.Lib.decDigits m ++ t = D) ∧ Hid (Up w wr))
  case atStart => exact ⟨u, [], rfl, rfl, rfl, Nat.le_refl _, Lib.hid (by rw [List.append_nil]; exact HD.out), Lib.hid (Up.refl _)⟩
  case round =>
    obtain ⟨m, t, hg, rfl, rfl, hm, HM, HU⟩ := hrel
    have HG := Lib.hid hg
    clear hg
    obtain ⟨d, hd⟩ : ∃ d, m % 10 = d := ⟨_, rfl⟩
    obtain ⟨q, hq⟩ : ∃ q, m / 10 = q := ⟨_, rfl⟩
    have hd10 : d < 10 := by omega
    have r1 : Int.tmod (m : Int) 10 = (d : Nat) := by rw [← hd]; rfl
    have r2 : Int.tdiv (m : Int) 10 = (q : Nat) := by rw [← hq]; rfl
    have hmb : (m : Int) ≤ 1099511627776 := by omega
    have hqb : (q : Int) ≤ 1099511627776 := by omega
    have HQ := Lib.hid (And.intro hd hq)
    have hb : (UInt8.ofNat (48 + d)).toNat = 48 + d := (isD_dig hd10).2
    have hcv := run_convert_bytes_back (P := Tryd.prog) (wr.alloc (.cells #[.int .u8 (48 + (d : Int))] 5)) 60 9 5 ⟨wr.heap.size, 0, none⟩ 1 [UInt8.ofNat (48 + d)] Tryd.underlying60 Tryd.underlying5 Tryd.underlying9 (fun j hj => by
      refine cell_one_new wr _ _ j _ ?_
      obtain rfl : j = 0 := by simp at hj; exact hj
      rw [List.getElem?_cons_zero, List.getElem_cons_zero, hb]
      rfl)
    rw [List.length_singleton] at hcv
    have happ : (⟨[UInt8.ofNat (48 + d)].toArray⟩ : ByteArray) ++ ⟨t.toArray⟩ = ⟨(UInt8.ofNat (48 + d) :: t).toArray⟩ := by
      apply ByteArray.ext
      simp
    obtain ⟨X, hX⟩ : ∃ X : ByteArray, (⟨(UInt8.ofNat (48 + d) :: t).toArray⟩ : ByteArray) = X := ⟨_, rfl⟩
    have HX := Lib.hid hX
    rw [hX] at happ
    obtain ⟨Y, hY⟩ : ∃ Y : ByteArray, (⟨[UInt8.ofNat (48 + d)].toArray⟩ : ByteArray) = Y := ⟨_, rfl⟩
    rw [hY] at happ hcv
    obtain ⟨Z, hZ⟩ : ∃ Z : ByteArray, (⟨t.toArray⟩ : ByteArray) = Z := ⟨_, rfl⟩
    rw [hZ] at happ ⊢
    have HUa := Lib.hid (HU.out.trans (Up.alloc wr (.cells #[.int .u8 (48 + (d : Int))] 5)))
    have hsz : ¬ 9223372036854775807 < Y.size + Z.size := by
      rw [← hY, ← hZ]
      show ¬ 9223372036854775807 < [UInt8.ofNat (48 + d)].toArray.size + t.toArray.size
      rw [List.size_toArray, List.size_toArray, List.length_singleton]
      have h1 := HL.out
      rw [← HM.out, List.length_append] at h1
      omega
    clear hd hq hb hX hY hZ
    by_cases hq0 : q = 0
    · have hm2 : m < 10 := by have := HQ.out; omega
      have HE := Lib.hid (show X = ⟨D.toArray⟩ by
        rw [← HX.out, ← HM.out, dec_small hm2, show m = d by have := HQ.out; omega]
        rfl)
      subst hq0
      clear hm2
      go_wp2
      go_ret
      exact ⟨by rw [HE.out]; rfl, HUa.out⟩
    · have HE := Lib.hid (show Go.Lib.decDigits q ++ (UInt8.ofNat (48 + d) :: t) = D by
        rw [← HM.out, show m = 10 * q + d by have := HQ.out; omega, dec_step (by omega) hd10, List.append_assoc]
        rfl)
      have g1 : ((q : Int) == 0) = false := beq_false_of_ne (by omega)
      have g1b : (q == 0) = false := beq_false_of_ne hq0
      have HQ2 := Lib.hid (show q < m by have := HQ.out; omega)
      go_wp2
      go_roundg q
      case measure => rw [HG.out]; exact HQ2.out
      case rel => exact ⟨q, _ :: t, rfl, rfl, by rw [HX.out], by have := HQ2.out; omega, HE, HUa⟩
end Go.Proofs.YtidnldchdahgeaaDoor
