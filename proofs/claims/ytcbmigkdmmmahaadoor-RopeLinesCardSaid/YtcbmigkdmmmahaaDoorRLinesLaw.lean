/- RopeLines, walked. -/
import Derived.Test.YtcbmigkdmmmahaaDoorRLnMath
import Derived.Test.YtcbmigkdmmmahaaDoorArgs
namespace Go.Proofs.YtcbmigkdmmmahaaDoor
open Go.RowKit

theorem lf_test {t : ByteArray} {k i e0 : Nat} {L : Bool} (hk : k ≤ nl t) (hL : L = false ↔ k < nl t) (h1 : bh t k ≤ i) (h2 : i < lineEnd t k) (he : lineEnd t k = e0) (hi : i < t.size) :
    (i + 1 = e0 → (((t[i].toNat : Nat) : Int) == 10) = !L) ∧ (i + 1 ≠ e0 → (((t[i].toNat : Nat) : Int) == 10) = false) := by
  have hl := lf_line hk h1 h2 hi
  rw [he] at hl
  have hb : (((t[i].toNat : Nat) : Int) == 10) = true ↔ t[i] = 10 := by
    rw [beq_iff_eq]
    constructor
    · intro h; apply UInt8.toNat.inj; show t[i].toNat = 10; omega
    · intro h; rw [h]; rfl
  constructor
  · intro h
    cases L with
    | false => exact hb.2 (hl.2 ⟨h, hL.1 rfl⟩)
    | true =>
      cases hx : (((t[i].toNat : Nat) : Int) == 10) with
      | false => rfl
      | true => have := hL.2 (hl.1 (hb.1 hx)).2; cases this
  · intro h
    cases hx : (((t[i].toNat : Nat) : Int) == 10) with
    | false => rfl
    | true => exact absurd (hl.1 (hb.1 hx)).1 h

set_option maxRecDepth 100000 in
set_option maxHeartbeats 1000000 in
theorem lines_big (w : World) (ht : Tabs w) (s : ByteArray) (A : Option Addr) (n c : Nat) (h : 8192 < s.size ∨ 20 < n) : Calls Tryd.prog 7 #[.string s, .slice A n c] w fun e w' => e = .returned (.bool true) ∧ Up w w' := by
  have HT := Lib.hid ht
  clear ht
  by_cases h1 : 8192 < s.size
  · clear h
    have h2 : 8192 < (s.size : Int) := by omega
    go_enter Tryd.func7, Tryd.ntmps7
    go_wp2_with (go_at_call 10; ((with_reducible refine (rwakes_any _ HT.out).mono ?_); rintro e wb ⟨rfl, hub⟩))
    go_ret
    exact ⟨rfl, hub⟩
  · have f0 : decide (8192 < (s.size : Int)) = false := decide_eq_false (by omega)
    have h2 : 20 < (n : Int) := by omega
    clear h
    go_enter Tryd.func7, Tryd.ntmps7
    go_wp2_with (go_at_call 10; ((with_reducible refine (rwakes_any _ HT.out).mono ?_); rintro e wb ⟨rfl, hub⟩))
    go_ret
    exact ⟨rfl, hub⟩

set_option maxRecDepth 100000 in
set_option maxHeartbeats 8000000 in
theorem lines_inn (w : World) (ht : Tabs w) (s : ByteArray) (A : Option Addr) (n c : Nat) (E : Nat → Int × Int × ByteArray) (hE : Edits w A n E) (hs : s.size ≤ 8192) (hn : n ≤ 20) : Calls Tryd.prog 7 #[.string s, .slice A n c] w fun e w' => e = .returned (.bool true) ∧ Up w w' := by
  have HE := Lib.hid hE
  have HT := Lib.hid ht
  have H1 := Lib.hid (of_any s (by omega) w ht)
  have f0 : decide (8192 < (s.size : Int)) = false := decide_eq_false (by omega)
  have f1 : decide (20 < (n : Int)) = false := decide_eq_false (by omega)
  have HN := Lib.hid hn
  clear hE ht hs hn
  go_enter Tryd.func7, Tryd.ntmps7
  go_wp2_with (go_at_call 9; ((with_reducible refine H1.out.mono ?_); rintro e w1 ⟨rb, rfl, r1, hu1⟩; have HR1 := Lib.hid r1; have HU1 := Lib.hid hu1; clear r1 hu1))
  go_loopg [5, 6] n (fun g rv iv wr => ∃ (i rb : Nat) (t : ByteArray), g = n - i ∧ rv = .pointer (some ⟨rb, 0, none⟩) ∧ iv = .int .i64 (i : Nat) ∧ i ≤ n ∧ Hid (RopeIs wr rb t) ∧ Hid (Up w wr))
  case atStart => exact ⟨0, rb, s, rfl, rfl, rfl, Nat.zero_le _, HR1, HU1⟩
  case round =>
    obtain ⟨i, rb, t, hg, rfl, rfl, hi, HR, HU⟩ := hrel
    have HG := Lib.hid hg
    clear hg
    by_cases hlt : i < n
    · obtain ⟨hok, b, o, hA, hb, c0, c1, c2⟩ := (HE.out.up HU.out) i hlt
      obtain ⟨⟨p, d, ins⟩, hEi⟩ : ∃ x, E i = x := ⟨_, rfl⟩
      rw [hEi] at hok c0 c1 c2
      have hsz : ins.size ≤ maxLen := hok.2.2
      unfold maxLen at hsz
      have HA := Lib.hid hA
      obtain rfl := HA.out
      clear hEi hok hA HA hb
      simp only at c0 c1 c2
      have HT1 := Lib.hid (HT.out.up HU.out)
      have hii : (i : Int) < n := by omega
      have hi20 : (i : Int) ≤ 20 := by have := HN.out; omega
      by_cases hbig : 8192 < ins.size
      · have hb2 : 8192 < (ins.size : Int) := by omega
        clear hbig
        go_wp2_with (go_at_call 10; ((with_reducible refine (rwakes_any _ HT1.out).mono ?_); rintro e wb ⟨rfl, hub⟩))
        go_ret
        exact ⟨rfl, HU.out.trans hub⟩
      · have fb : decide (8192 < (ins.size : Int)) = false := decide_eq_false (by omega)
        clear hbig
        by_cases hs0 : spE t p d ins = 0
        · have HP := Lib.hid (spliceT_ok HR.out HT1.out p d ins hs0)
          clear hs0
          go_wp2_with (go_at_call 14; ((with_reducible refine HP.out.mono ?_); rintro e w2 ⟨xb, rfl, r2, hu2⟩; have HR2 := Lib.hid r2; have HU2 := Lib.hid (HU.out.trans hu2); clear r2 hu2))
          go_roundg (n - (i + 1))
          case measure => rw [HG.out]; omega
          case rel => exact ⟨i + 1, xb, _, rfl, rfl, by go_num, by omega, HR2, HU2⟩
        · have HP := Lib.hid (spliceT_no HR.out p d ins hs0)
          have fe : (spE t p d ins == 0) = false := beq_false_of_ne hs0
          clear hs0
          go_wp2_with (go_at_call 14; ((with_reducible refine HP.out.mono ?_); rintro e w2 ⟨rfl, hu2⟩; have HR2 := Lib.hid (HR.out.up hu2); have HU2 := Lib.hid (HU.out.trans hu2); clear hu2))
          go_roundg (n - (i + 1))
          case measure => rw [HG.out]; omega
          case rel => exact ⟨i + 1, rb, t, rfl, rfl, by go_num, by omega, HR2, HU2⟩
    · obtain rfl : i = n := by omega
      have f2 : decide (i < i) = false := decide_eq_false (by omega)
      have HS := Lib.hid (show St1 w rb t _ from ⟨HR.out, HU.out, HT.out.up HU.out⟩)
      clear hlt hi HR HU
      go_wp2_with (go_at_call 16; ((with_reducible refine (text_any HS.out.r).mono ?_); rintro e w3 ⟨rfl, hu⟩; have HS := Lib.hid (HS.out.up hu); clear hu))
      go_loopg [10, 11] (nl t + 2) (fun g av kv wr => ∃ (k x : Nat), g = nl t + 2 - k ∧ av = .int .i64 (x : Nat) ∧ kv = .int .i64 (k : Nat) ∧ k ≤ nl t + 1 ∧ Hid (x = lnAt t k) ∧ Hid (St1 w rb t wr))
      case atStart => exact ⟨0, 0, rfl, rfl, rfl, Nat.zero_le _, Lib.hid (lnAt_zero t).symm, HS⟩
      case round =>
        obtain ⟨k, x, hg, rfl, rfl, hk, hX, HS⟩ := hrel
        have HG := Lib.hid hg
        clear hg
        have hz := HS.out.r.size
        have hnl := nl_le t
        have e1 : wrap64 (nl t : Int) = (nl t : Nat) := IntWalk.wrap64_in _ (by omega)
        have hnli : (nl t : Int) ≤ 1048576 := by omega
        by_cases hkn : k ≤ nl t
        · obtain ⟨e0, he0⟩ : ∃ e0, lineEnd t k = e0 := ⟨_, rfl⟩
          have hx : x = bh t k := by rw [hX.out, lnAt_in hkn]
          have hxe : x ≤ e0 := by rw [hx, ← he0]; exact bh_lineEnd t k
          have hez : e0 ≤ t.size := by rw [← he0]; exact lineEnd_le t k
          obtain ⟨L, hL⟩ : ∃ L : Bool, ((k : Int) == (nl t : Nat)) = L := ⟨_, rfl⟩
          have hLk : L = false ↔ k < nl t := by rw [← hL, beq_eq_false_iff_ne]; omega
          have HNA := Lib.hid (show ∀ i, x ≤ i → i < e0 → na t i = k from fun i h1 h2 => na_line hkn (by omega) (by omega))
          have HLF := Lib.hid (show ∀ (i : Nat) (hi : i < t.size), x ≤ i → i < e0 → (i + 1 = e0 → (((t[i].toNat : Nat) : Int) == 10) = !L) ∧ (i + 1 ≠ e0 → (((t[i].toNat : Nat) : Int) == 10) = false) from fun i hi h1 h2 => lf_test hkn hLk (by omega) (by omega) he0 hi)
          have HX1 := Lib.hid (show e0 = lnAt t (k + 1) by rw [lnAt_succ hkn, he0])
          have HNE := Lib.hid (show L = false → x < e0 from fun h => by have h1 := bh_lt (hLk.1 h); rw [hx, ← he0]; unfold lineEnd; rw [if_pos (hLk.1 h)]; exact h1)
          have HLN := Lib.hid (fun (W : World) (h : RopeIs W rb t) => show Calls Tryd.prog 20 #[.pointer (some ⟨rb, 0, none⟩), .int .i64 (k : Nat)] W (fun e w' => e = .returned (.tuple #[.agg #[.int .i64 (x : Nat), .int .i64 (e0 : Nat)], .int .i64 0]) ∧ Up W w') by
            have := line_in h k hkn
            rw [← hx, he0] at this
            exact this)
          have hkn2 : (k : Int) < (nl t : Int) + 1 := by omega
          have g1 : decide (e0 < x) = false := decide_eq_false (by omega)
          have g2 : decide (t.size < e0) = false := decide_eq_false (by omega)
          have HZ := Lib.hid (show x ≤ e0 ∧ e0 ≤ t.size ∧ (t.size : Int) ≤ 1048576 ∧ k ≤ nl t ∧ nl t ≤ t.size from ⟨hxe, hez, hz, hkn, hnl⟩)
          clear he0 hx hxe hez hLk hkn hz hnl hX
          go_wp2_with (first
            | (go_at_call 22; ((with_reducible refine (rope_lines_any HS.out.r).mono ?_); rintro e w4 ⟨rfl, hu⟩; have HS := Lib.hid (HS.out.up hu); first | (have HC := Lib.hid (HC.out.up hu); have k2 := HC.out.a; have k3 := HC.out.z) | skip; clear hu))
            | (go_at_call 20; ((with_reducible refine (HLN.out _ HS.out.r).mono ?_); rintro e w5 ⟨rfl, hu⟩; have HS := Lib.hid (HS.out.up (hu.trans (Up.alloc w5 (.cells #[.int .i64 (x : Nat), .int .i64 (e0 : Nat)] 45)))); have HC := Lib.hid (rg_cells w5 (x : Nat) (e0 : Nat)); have k0 := HC.out.a; have k1 := HC.out.z; clear hu)))
          clear k0 k1 k2 k3
          have HL := Lib.hid hL
          clear hL
          go_loopg [15] (e0 + 1 - x) (fun g iv wr => ∃ i : Nat, g = e0 + 1 - i ∧ iv = .int .i64 (i : Nat) ∧ x ≤ i ∧ i ≤ e0 ∧ Hid (St1 w rb t wr) ∧ Hid (Rg wr w5.heap.size (x : Nat) (e0 : Nat)))
          case atStart => exact ⟨x, rfl, rfl, Nat.le_refl _, HZ.out.1, HS, HC⟩
          case round =>
            obtain ⟨i, hg, rfl, hxi, hie, HS, HC⟩ := hrel
            have HG2 := Lib.hid hg
            clear hg
            have k0 := HC.out.a
            have k1 := HC.out.z
            have HXI := Lib.hid hxi
            by_cases hlt : i < e0
            · have hii : (i : Int) < (e0 : Nat) := by omega
              have hit : i < t.size := by have := HZ.out; omega
              have hit2 : (i : Int) < t.size := by omega
              have hi3 : (i : Int) ≤ 1048576 := by have := HZ.out; omega
              have hn := HNA.out i hxi hlt
              have hf := HLF.out i hit hxi hlt
              have HFD := Lib.hid (fun (W : World) (h : RopeIs W rb t) => show Calls Tryd.prog 21 #[.pointer (some ⟨rb, 0, none⟩), .int .i64 (i : Nat)] W (fun e w' => e = .returned (.tuple #[.int .i64 (k : Nat), .int .i64 0]) ∧ Up W w') by
                have := find_in h i (by omega)
                rw [hn] at this
                exact this)
              obtain ⟨e1n, he1⟩ : ∃ m : Nat, (e0 : Int) - 1 = (m : Nat) := ⟨e0 - 1, by omega⟩
              have eW : IntKind.i64.wrap ((e0 : Int) - 1) = (e1n : Nat) := (IntWalk.i64_in _ (by have := HZ.out; omega)).trans he1
              have hcase : (i + 1 = e0 ∧ i = e1n) ∨ (i + 1 ≠ e0 ∧ i ≠ e1n) := by omega
              clear hn hxi hie he1
              rcases hcase with ⟨hc1, rfl⟩ | ⟨hc1, hc2⟩
              · have hx1 := hf.1 hc1
                have HLT := Lib.hid (show i + 1 ≤ e0 from hlt)
                clear hf hc1 hlt
                go_wp2
                go_quiet (fail)
                by_cases h7 : (i : Int) % 7 = 0
                · have e7 : ((i : Int) % 7 == 0) = true := beq_iff_eq.2 h7
                  clear h7 hx1 eW
                  go_wp2_with (go_at_call 21; ((with_reducible refine (HFD.out _ (HS.out.up (Up.drewN _ _)).r).mono ?_); rintro e w6 ⟨rfl, hu⟩; have HS := Lib.hid ((HS.out.up (Up.drewN _ _)).up hu); have HC := Lib.hid ((HC.out.up (Up.drewN _ _)).up hu); clear hu))
                  go_roundg (e0 + 1 - (i + 1))
                  case measure => rw [HG2.out]; have := HZ.out; have := HLT.out; omega
                  case rel => exact ⟨i + 1, rfl, by go_num, by have := HXI.out; omega, HLT.out, HS, HC⟩
                · have e7 : ((i : Int) % 7 == 0) = false := beq_false_of_ne h7
                  by_cases hX : (i : Int) = (x : Nat)
                  · have eX : ((i : Int) == (x : Nat)) = true := beq_iff_eq.2 hX
                    clear h7 hX hx1 eW
                    go_wp2_with (go_at_call 21; ((with_reducible refine (HFD.out _ (HS.out.up (Up.drewN _ _)).r).mono ?_); rintro e w6 ⟨rfl, hu⟩; have HS := Lib.hid ((HS.out.up (Up.drewN _ _)).up hu); have HC := Lib.hid ((HC.out.up (Up.drewN _ _)).up hu); clear hu))
                    go_roundg (e0 + 1 - (i + 1))
                    case measure => rw [HG2.out]; have := HZ.out; have := HLT.out; omega
                    case rel => exact ⟨i + 1, rfl, by go_num, by have := HXI.out; omega, HLT.out, HS, HC⟩
                  · have eX : ((i : Int) == (x : Nat)) = false := beq_false_of_ne hX
                    clear h7 hX hx1 eW
                    go_wp2
                    go_roundg (e0 + 1 - (i + 1))
                    case measure => rw [HG2.out]; have := HZ.out; have := HLT.out; omega
                    case rel => exact ⟨i + 1, rfl, by go_num, by have := HXI.out; omega, HLT.out, Lib.hid (HS.out.up (Up.drewN _ _)), Lib.hid (HC.out.up (Up.drewN _ _))⟩
              · have hx1 := hf.2 hc1
                have HLT := Lib.hid (show i + 1 ≤ e0 from hlt)
                have eI : ((i : Int) == (e1n : Nat)) = false := beq_false_of_ne (by omega)
                clear hf hc1 hc2 hlt
                go_wp2
                go_quiet (fail)
                by_cases h7 : (i : Int) % 7 = 0
                · have e7 : ((i : Int) % 7 == 0) = true := beq_iff_eq.2 h7
                  clear h7 hx1 eW eI
                  go_wp2_with (go_at_call 21; ((with_reducible refine (HFD.out _ (HS.out.up (Up.drewN _ _)).r).mono ?_); rintro e w6 ⟨rfl, hu⟩; have HS := Lib.hid ((HS.out.up (Up.drewN _ _)).up hu); have HC := Lib.hid ((HC.out.up (Up.drewN _ _)).up hu); clear hu))
                  go_roundg (e0 + 1 - (i + 1))
                  case measure => rw [HG2.out]; have := HZ.out; have := HLT.out; omega
                  case rel => exact ⟨i + 1, rfl, by go_num, by have := HXI.out; omega, HLT.out, HS, HC⟩
                · have e7 : ((i : Int) % 7 == 0) = false := beq_false_of_ne h7
                  by_cases hX : (i : Int) = (x : Nat)
                  · have eX : ((i : Int) == (x : Nat)) = true := beq_iff_eq.2 hX
                    clear h7 hX hx1 eW eI
                    go_wp2_with (go_at_call 21; ((with_reducible refine (HFD.out _ (HS.out.up (Up.drewN _ _)).r).mono ?_); rintro e w6 ⟨rfl, hu⟩; have HS := Lib.hid ((HS.out.up (Up.drewN _ _)).up hu); have HC := Lib.hid ((HC.out.up (Up.drewN _ _)).up hu); clear hu))
                    go_roundg (e0 + 1 - (i + 1))
                    case measure => rw [HG2.out]; have := HZ.out; have := HLT.out; omega
                    case rel => exact ⟨i + 1, rfl, by go_num, by have := HXI.out; omega, HLT.out, HS, HC⟩
                  · have eX : ((i : Int) == (x : Nat)) = false := beq_false_of_ne hX
                    clear h7 hX hx1 eW eI
                    go_wp2
                    go_roundg (e0 + 1 - (i + 1))
                    case measure => rw [HG2.out]; have := HZ.out; have := HLT.out; omega
                    case rel => exact ⟨i + 1, rfl, by go_num, by have := HXI.out; omega, HLT.out, Lib.hid (HS.out.up (Up.drewN _ _)), Lib.hid (HC.out.up (Up.drewN _ _))⟩
            · have HSf := HS
              obtain rfl : i = e0 := by omega
              have f3 : decide (i < i) = false := decide_eq_false (by omega)
              clear hlt hxi hie
              have HK := Lib.hid (show k + 1 ≤ nl t + 1 by have := HZ.out; omega)
              cases hLc : L with
              | true =>
                clear hLc
                go_wp2
                go_roundg (nl t + 2 - (k + 1))
                case measure => rw [HG.out]; have := HK.out; omega
                case rel => exact ⟨k + 1, i, rfl, rfl, by go_num, HK.out, HX1, HSf⟩
              | false =>
                have hne := HNE.out hLc
                have eN : ((i : Int) == (x : Nat)) = false := beq_false_of_ne (by omega)
                clear hLc hne
                go_wp2
                go_roundg (nl t + 2 - (k + 1))
                case measure => rw [HG.out]; have := HK.out; omega
                case rel => exact ⟨k + 1, i, rfl, rfl, by go_num, HK.out, HX1, HSf⟩
        · obtain rfl : k = nl t + 1 := by omega
          obtain rfl : x = t.size := by rw [hX.out, lnAt_all]
          have HFD := Lib.hid (fun (W : World) (h : RopeIs W rb t) => show Calls Tryd.prog 21 #[.pointer (some ⟨rb, 0, none⟩), .int .i64 (t.size : Nat)] W (fun e w' => e = .returned (.tuple #[.int .i64 (nl t : Nat), .int .i64 0]) ∧ Up W w') by
            have := find_in h t.size (Nat.le_refl _)
            rw [na_all] at this
            exact this)
          have f4 : decide (((nl t + 1 : Nat) : Int) < (nl t : Int) + 1) = false := decide_eq_false (by omega)
          clear hkn hk hX hz hnl HG
          go_wp2_with (first
            | (go_at_call 22; ((with_reducible refine (rope_lines_any HS.out.r).mono ?_); rintro e w4 ⟨rfl, hu⟩; have HS := Lib.hid (HS.out.up hu); clear hu))
            | (go_at_call 21; ((with_reducible refine (HFD.out _ HS.out.r).mono ?_); rintro e w6 ⟨rfl, hu⟩; have HS := Lib.hid (HS.out.up hu); clear hu))
            | (go_at_call 10; ((with_reducible refine (rwakes_any _ HS.out.t).mono ?_); rintro e wb ⟨rfl, hub⟩)))
          go_ret
          exact ⟨rfl, HS.out.u.trans hub⟩
theorem lines_walk (w : World) (ht : Tabs w) (s : ByteArray) (A : Option Addr) (n c : Nat) (E : Nat → Int × Int × ByteArray) (hE : Edits w A n E) : Calls Tryd.prog 7 #[.string s, .slice A n c] w fun e w' => e = .returned (.bool true) ∧ Up w w' := by
  by_cases h : 8192 < s.size ∨ 20 < n
  · exact lines_big w ht s A n c h
  · exact lines_inn w ht s A n c E hE (by omega) (by omega)
end Go.Proofs.YtcbmigkdmmmahaaDoor
