/- The law EditLeast walked: the edit from one text to another one is the least. -/
import Derived.Test.YtkdnhdjmlinglaaELawB
namespace Go.Proofs.Ytkdnhdjmlinglaa
open Go.RowKit

theorem empty_no {m : ByteArray} (h : 0 < m.size) : m.toList.isEmpty = false := by
  rw [ByteArray.toList_eq]
  cases e : m.data.toList with
  | nil =>
    have : m.data.toList.length = 0 := by rw [e]; rfl
    have h2 : m.data.toList.length = m.size := Array.length_toList
    omega
  | cons x y => rfl
theorem same_yes (a : ByteArray) : (a.toList == a.toList) = true := beq_self_eq_true _
theorem same_no {a b : ByteArray} (h : a ≠ b) : (a.toList == b.toList) = false := beq_false_of_ne (fun e => h (bytes_ext e))
set_option maxRecDepth 100000 in
set_option maxHeartbeats 1000000 in
theorem least_big (w : World) (a b : ByteArray) (h : 1048576 < a.size ∨ 1048576 < b.size) :
    Calls Try.prog 7 #[.string a, .string b] w fun e w' => e = .returned (.bool true) ∧ Up w w' := by
  have HK := Lib.hid (fun W => wakes_any W)
  by_cases h1 : 1048576 < (a.size : Int)
  · clear h
    go_enter Try.func7, Try.ntmps7
    go_wp2_with (go_at_call 13; ((with_reducible refine (HK.out _).mono ?_); rintro e w1 ⟨rfl, hu⟩))
    go_ret
    exact ⟨rfl, hu⟩
  · have f1 : decide (1048576 < (a.size : Int)) = false := decide_eq_false h1
    have h2 : 1048576 < (b.size : Int) := by omega
    clear h h1
    go_enter Try.func7, Try.ntmps7
    go_wp2_with (go_at_call 13; ((with_reducible refine (HK.out _).mono ?_); rintro e w1 ⟨rfl, hu⟩))
    go_ret
    exact ⟨rfl, hu⟩
set_option maxRecDepth 100000 in
set_option maxHeartbeats 2000000 in
theorem least_in (w : World) (a b : ByteArray) (ha : a.size ≤ 1048576) (hb : b.size ≤ 1048576) :
    Calls Try.prog 7 #[.string a, .string b] w fun e w' => e = .returned (.bool true) ∧ Up w w' := by
  have hd := df_ok (a := a) hb
  have h1 := fun W => diff_any a b (by omega) (by omega) W
  have h2 := fun W => apply_any a (dfE a b) (by omega) (edOk_df hb) W
  rw [show edT a (dfE a b) = b from (if_pos hd).trans (df_text hb), hd] at h2
  have HF := Lib.hid (df_first (a := a) (b := b))
  have HL := Lib.hid (df_last (a := a) (b := b))
  have HS := Lib.hid (show a = b → dfE a b = ((a.size : Int), 0, ⟨#[]⟩) from fun e => by subst e; exact df_self a)
  have h3 := cs_le a b
  obtain ⟨p, d, m, hD⟩ : ∃ (p d : Nat) (m : ByteArray), dfE a b = ((p : Int), (d : Int), m) := ⟨_, _, _, rfl⟩
  have HB := Lib.hid (show p + d ≤ a.size by
    have e1 : ((cp a b : Nat) : Int) = (p : Int) := congrArg (fun x : Int × Int × ByteArray => x.1) hD
    have e2 : ((a.size - cp a b - cs a b : Nat) : Int) = (d : Int) := congrArg (fun x : Int × Int × ByteArray => x.2.1) hD
    omega)
  rw [hD] at h1 h2
  have HD := Lib.hid hD
  rw [hD] at HF HL HS
  have f1 : decide (1048576 < (a.size : Int)) = false := decide_eq_false (by omega)
  have f2 : decide (1048576 < (b.size : Int)) = false := decide_eq_false (by omega)
  unfold edV at h1 h2
  dsimp only at h1 h2 HF HL
  have H1 := Lib.hid h1
  have H2 := Lib.hid h2
  have HK := Lib.hid (fun W => wakes_any W)
  have HA := Lib.hid ha
  have HMz := Lib.hid (show m.size ≤ 1048576 by
    have e3 : b.extract (cp a b) (b.size - cs a b) = m := congrArg (fun x : Int × Int × ByteArray => x.2.2) hD
    rw [← e3, size_ext]
    omega)
  clear h1 h2 h3 hd ha hb hD
  go_enter Try.func7, Try.ntmps7
  go_upto_region 7 with (first
    | (go_at_call 18; ((with_reducible refine (H1.out _).mono ?_); rintro e w1 ⟨rfl, hu⟩; have hu := hu.trans (Up.alloc w1 (.cells #[.int .i64 (p : Nat), .int .i64 (d : Nat), .string m] 23)); have HU := Lib.hid hu; have C := Lib.hid (tri (Go.heap_alloc_new w1 (.cells #[.int .i64 (p : Nat), .int .i64 (d : Nat), .string m] 23))); obtain ⟨d0, d1, d2⟩ := C.out; clear hu))
    | (go_at_call 9; ((with_reducible refine (H2.out _).mono ?_); rintro e w2 ⟨rfl, hu⟩; have HU2 := Lib.hid (HU.out.trans hu); clear d0 d1 d2; obtain ⟨d0, d1, d2⟩ := keep3 hu C.out; clear hu)))
  have HC := Lib.hid (And.intro d0 (And.intro d1 d2))
  clear C
  go_cut [68] (fun c wx => c = .bool false ∧ Hid (Up w wx) ∧ Hid (wx.cell? ⟨w1.heap.size, 0, none⟩ = some (.int .i64 (p : Nat)) ∧ wx.cell? ⟨w1.heap.size, 1, none⟩ = some (.int .i64 (d : Nat)) ∧ wx.cell? ⟨w1.heap.size, 2, none⟩ = some (.string m)))
  case first =>
    by_cases g1 : 0 < d
    · by_cases g2 : m = ⟨#[]⟩
      · subst g2
        have k1 : (0 : Int) < (d : Nat) := by omega
        go_quiet (fail)
        go_wp2_with fail
        go_meet
        case rel => exact ⟨rfl, Lib.hid (HU2.out.trans (Up.drewN _ _)), Lib.hid (keep3 (Up.drewN _ _) HC.out)⟩
      · have k0 : 0 < m.size := by
          rcases Nat.eq_zero_or_pos m.size with g | g
          · exact absurd (ext_bt (by rw [g]; rfl) (fun i hi => by omega)) g2
          · exact g
        have f3 : m.toList.isEmpty = false := empty_no k0
        have k4 : p < a.size := by have := HB.out; omega
        obtain ⟨x, hx⟩ : ∃ x, p + d - 1 = x := ⟨_, rfl⟩
        obtain ⟨y, hy⟩ : ∃ y, m.size - 1 = y := ⟨_, rfl⟩
        have k5 : x < a.size := by have := HB.out; omega
        have k6 : y < m.size := by omega
        have r1 : (((a[p].toNat : Nat) : Int) == ((m[0].toNat : Nat) : Int)) = false := by
          have := HF.out (by omega) k0
          rw [eqB k4 k0]
          exact decide_eq_false (by simpa using this)
        have r2 : (((a[x].toNat : Nat) : Int) == ((m[y].toNat : Nat) : Int)) = false := by
          have := HL.out (by omega) k0
          rw [show ((p : Int) + (d : Int) - 1).toNat = x from by omega, hy] at this
          rw [eqB k5 k6]
          exact decide_eq_false this
        have k1 : (0 : Int) < (d : Nat) := by omega
        have k2 : (p : Int) < (a.size : Nat) := by omega
        have k3 : (0 : Int) < (m.size : Nat) := by omega
        have k7 : (x : Int) < (a.size : Nat) := by omega
        have k8 : (y : Int) < (m.size : Nat) := by omega
        have hA := HA.out
        obtain ⟨q1, q2, q3⟩ : IntKind.i64.wrap ((p : Int) + (d : Nat)) = (p : Int) + (d : Nat) ∧ IntKind.i64.wrap ((p : Int) + (d : Nat) - 1) = (x : Nat) ∧ IntKind.i64.wrap ((m.size : Int) - 1) = (y : Nat) :=
          ⟨IntWalk.i64_in _ (by omega), (IntWalk.i64_in _ (by omega)).trans (by omega), (IntWalk.i64_in _ (by have := HMz.out; omega)).trans (by omega)⟩
        clear hx hy hA
        go_quiet (fail)
        clear q1 q2 q3
        go_wp2_with fail
        go_meet
        case rel => exact ⟨rfl, Lib.hid (HU2.out.trans (Up.drewN _ _)), Lib.hid (keep3 (Up.drewN _ _) HC.out)⟩
    · have f3 : decide (0 < d) = false := decide_eq_false g1
      go_quiet (fail)
      go_wp2_with fail
      go_meet
      case rel => exact ⟨rfl, Lib.hid (HU2.out.trans (Up.drewN _ _)), Lib.hid (keep3 (Up.drewN _ _) HC.out)⟩
  case rest =>
    obtain ⟨rfl, HU3, HC3⟩ := hcut
    obtain ⟨d0, d1, d2⟩ := HC3.out
    by_cases hab : a = b
    · have hs := HS.out hab
      obtain rfl : d = 0 := by
        have e2 : (d : Int) = 0 := congrArg (fun x : Int × Int × ByteArray => x.2.1) hs
        omega
      obtain rfl : m = ⟨#[]⟩ := congrArg (fun x : Int × Int × ByteArray => x.2.2) hs
      subst hab
      have f3 := same_yes a
      clear hs
      go_wp2_with (go_at_call 13; ((with_reducible refine (HK.out _).mono ?_); rintro e w3 ⟨rfl, hu3⟩))
      go_ret
      exact ⟨rfl, HU3.out.trans hu3⟩
    · have f3 := same_no hab
      clear hab
      go_wp2_with (go_at_call 13; ((with_reducible refine (HK.out _).mono ?_); rintro e w3 ⟨rfl, hu3⟩))
      go_ret
      exact ⟨rfl, HU3.out.trans hu3⟩
theorem least_walk (w : World) (a b : ByteArray) : Calls Try.prog 7 #[.string a, .string b] w fun e w' => e = .returned (.bool true) ∧ Up w w' := by
  by_cases h : 1048576 < a.size ∨ 1048576 < b.size
  · exact least_big w a b h
  · exact least_in w a b (by omega) (by omega)
end Go.Proofs.Ytkdnhdjmlinglaa
