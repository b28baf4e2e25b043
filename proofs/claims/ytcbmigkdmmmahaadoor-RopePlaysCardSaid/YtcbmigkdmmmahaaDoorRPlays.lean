/- RopePlays, walked. -/
import Derived.Test.YtcbmigkdmmmahaaDoorRPlayS
import Derived.Deep.RegionHeld3
namespace Go.Proofs.YtcbmigkdmmmahaaDoor
open Go.RowKit

theorem infoPtr : (Tryd.prog.info? 22).map (fun i => (i.zero, i.size, i.bytes)) = some (some (.pointer none), 1, 8) := by kernel_rfl
theorem infoStr : (Tryd.prog.info? 9).map (fun i => (i.zero, i.size, i.bytes)) = some (some (.string ⟨#[]⟩), 1, 16) := by kernel_rfl

set_option maxRecDepth 100000 in
set_option maxHeartbeats 1000000 in
theorem plays_big (w : World) (ht : Tabs w) (s : ByteArray) (A : Option Addr) (n c : Nat) (a k f u : Int) (h : 65536 < (s.size : Int) ∨ 60 < n) : Calls Tryd.prog 4 #[.string s, .slice A n c, .int .i64 a, .int .i64 k, .int .i64 f, .int .i64 u] w fun e w' => e = .returned (.bool true) ∧ Up w w' := by
  have HT := Lib.hid ht
  clear ht
  obtain ⟨Z, hZ⟩ : ∃ Z : Int, (s.size : Int) = Z := ⟨_, rfl⟩
  rw [hZ] at h
  by_cases h1 : 65536 < Z
  · clear h
    go_enter Tryd.func4, Tryd.ntmps4
    go_wp2_with (go_at_call 10; ((with_reducible refine (rwakes_any _ HT.out).mono ?_); rintro e wb ⟨rfl, hub⟩))
    go_ret
    exact ⟨rfl, hub⟩
  · have f0 : decide (65536 < Z) = false := decide_eq_false h1
    have h2 : 60 < (n : Int) := by omega
    clear h
    go_enter Tryd.func4, Tryd.ntmps4
    go_wp2_with (go_at_call 10; ((with_reducible refine (rwakes_any _ HT.out).mono ?_); rintro e wb ⟨rfl, hub⟩))
    go_ret
    exact ⟨rfl, hub⟩

set_option maxRecDepth 100000 in
set_option maxHeartbeats 16000000 in
theorem plays_inn (w : World) (ht : Tabs w) (s : ByteArray) (A : Option Addr) (n c : Nat) (E : Nat → Int × Int × ByteArray) (hE : Edits w A n E) (a k f u : Int) (hs : (s.size : Int) ≤ 65536) (hn : n ≤ 60) : Calls Tryd.prog 4 #[.string s, .slice A n c, .int .i64 a, .int .i64 k, .int .i64 f, .int .i64 u] w fun e w' => e = .returned (.bool true) ∧ Up w w' := by
  obtain ⟨i1, hi1, hz1, hz2, hz3⟩ := info_parts infoPtr
  obtain ⟨i2, hi2, hy1, hy2, hy3⟩ := info_parts infoStr
  have HI := Lib.hid (And.intro (And.intro hi1 (And.intro hz1 (And.intro hz2 hz3))) (And.intro hi2 (And.intro hy1 (And.intro hy2 hy3))))
  have HE := Lib.hid hE
  have HT := Lib.hid ht
  have H1 := Lib.hid (fun (W : World) (h : Tabs W) => of_any s (by omega) W h)
  obtain ⟨Z, hZ⟩ : ∃ Z : Int, (s.size : Int) = Z := ⟨_, rfl⟩
  have f0 : decide (65536 < Z) = false := decide_eq_false (by omega)
  have f1 : decide (60 < (n : Int)) = false := decide_eq_false (by omega)
  have HN := Lib.hid hn
  clear hE ht hs hn hi1 hz1 hz2 hz3 hi2 hy1 hy2 hy3
  go_enter Tryd.func4, Tryd.ntmps4
  go_wp2
  go_loopg [13] n (fun g iv wr => w = wr ∧ ∃ i : Nat, g = n - i ∧ iv = .int .i64 (i : Nat) ∧ i ≤ n)
  case atStart => exact ⟨rfl, 0, rfl, rfl, Nat.zero_le _⟩
  case round =>
    obtain ⟨rfl, i, hg, rfl, hi⟩ := hrel
    have HG := Lib.hid hg
    clear hg
    by_cases hlt : i < n
    · obtain ⟨hok, b, o, hA, hb, c0, c1, c2⟩ := HE.out i hlt
      obtain ⟨⟨p, d, ins⟩, hEi⟩ : ∃ x, E i = x := ⟨_, rfl⟩
      rw [hEi] at hok c0 c1 c2
      have hsz : ins.size ≤ maxLen := hok.2.2
      unfold maxLen at hsz
      have HA := Lib.hid hA
      obtain rfl := HA.out
      clear hEi hok hA HA hb
      simp only at c0 c1 c2
      have hii : (i : Int) < n := by omega
      have hi60 : (i : Int) ≤ 60 := by have := HN.out; omega
      by_cases hbig : 16384 < ins.size
      · have hb2 : 16384 < (ins.size : Int) := by omega
        clear hbig
        go_wp2_with (go_at_call 10; ((with_reducible refine (rwakes_any _ HT.out).mono ?_); rintro e wb ⟨rfl, hub⟩))
        go_ret
        exact ⟨rfl, hub⟩
      · have fb : decide (16384 < (ins.size : Int)) = false := decide_eq_false (by omega)
        clear hbig
        go_wp2
        go_roundg (n - (i + 1))
        case measure => rw [HG.out]; omega
        case rel => exact ⟨rfl, i + 1, rfl, by go_num, by omega⟩
    · obtain rfl : i = n := by omega
      have f2 : decide (i < i) = false := decide_eq_false (by omega)
      clear hlt hi
      go_wp2_with (go_at_call 9; ((with_reducible refine (H1.out _ HT.out).mono ?_); rintro e w1 ⟨rb, rfl, r1, hu1⟩; have HP := Lib.hid (PlayS.start hu1 r1); clear r1 hu1))
      clear f0 f1 f2
      go_loopg [0, 14, 15, 16, 17] i (fun g tv rv xv yv iv wr => ∃ (m rb : Nat) (t : ByteArray) (R : List Nat) (X : List ByteArray), g = i - m ∧ tv = .string t ∧ rv = .pointer (some ⟨rb, 0, none⟩) ∧ iv = .int .i64 (m : Nat) ∧ m ≤ i ∧ 1 ≤ R.length ∧ R.length ≤ m + 1 ∧ Hid (R.length = X.length) ∧ Hid (PlayS w R X xv yv rb t wr))
      case atStart => exact ⟨0, rb, s, [rb], [s], rfl, rfl, rfl, rfl, Nat.zero_le _, Nat.le_refl _, Nat.le_refl _, Lib.hid rfl, HP⟩
      case round =>
        obtain ⟨m, rb, t, R, X, hg, rfl, rfl, rfl, hm, hR1, hR, hRX, HP⟩ := hrel
        have HG := Lib.hid hg
        clear hg
        by_cases hlt : m < i
        · obtain ⟨hok, b, o, hA, hb, c0, c1, c2⟩ := (HE.out.up HP.out.u) m hlt
          obtain ⟨⟨p, d, ins⟩, hEi⟩ : ∃ x, E m = x := ⟨_, rfl⟩
          rw [hEi] at hok c0 c1 c2
          have hsz : ins.size ≤ maxLen := hok.2.2
          unfold maxLen at hsz
          have HA := Lib.hid hA
          obtain rfl := HA.out
          clear hEi hok hA HA hb
          simp only at c0 c1 c2
          have hii : (m : Int) < i := by omega
          have hi60 : (m : Int) ≤ 60 := by have := HN.out; omega
          have hR2 : R.length ≤ 61 := by have := HN.out; omega
          have HR2 := Lib.hid hR2
          have HM := Lib.hid (show m + 1 ≤ i ∧ R.length + 1 ≤ m + 1 + 1 ∧ 1 ≤ R.length by omega)
          clear hR2 hR hR1
          have HZ := Lib.hid HP.out.r.size
          by_cases hs0 : spE t p d ins = 0
          · have HS1 := Lib.hid (spliceT_ok HP.out.r (HT.out.up HP.out.u) p d ins hs0)
            have HS2 := Lib.hid (fun W => refSpliceT_ok t HZ.out p d ins hs0 W)
            clear hs0 hlt hm
            go_wp2_with (first
              | (go_at_call 14; ((with_reducible refine HS1.out.mono ?_); rintro e w2 ⟨xb, rfl, r2, hu⟩; have HP := Lib.hid (HP.out.up hu); have HX := Lib.hid r2; have c3 := cell_up hu c0; have c4 := cell_up hu c1; have c5 := cell_up hu c2; clear r2 hu))
              | (go_at_call 15; ((with_reducible refine (HS2.out _).mono ?_); rintro e w3 ⟨rfl, hu⟩; have HP := Lib.hid (HP.out.up hu); have HX := Lib.hid (HX.out.up hu); clear hu))
              | (go_at_call 11; ((with_reducible refine (tells_any HX.out a k f u).mono ?_); rintro e w4 ⟨rfl, hu⟩; have HP := Lib.hid ((HP.out.up hu).now (HX.out.up hu)); clear hu))
              | (at_builtin; (refine wpList_append_own _ rfl _ _ 32 rfl w.heap.size 22 i1 (.pointer none) 1 8 Tryd.underlying32 HI.out.1.1 HI.out.1.2.1 HI.out.1.2.2.1 HI.out.1.2.2.2 rfl (by decide) _ _ _ rfl (HP.out.o1.alloc _) _ 1 1 [.pointer (some ⟨xb, 0, none⟩)] rfl rfl ?c1 ?c2 ?c3 ?c4 ?c5 ?_)))
            case c1 =>
              intro j v hj
              match j, hj with
              | 0, hj => simp at hj; subst hj; simp [Addr.add, go_sem]
            case c2 => intro v hv; simp at hv; subst hv; rfl
            case c3 => have := HR2.out; unfold maxLen; omega
            case c4 => have := HR2.out; omega
            case c5 => have := Below.size HP.out.u; simp; omega
            intro v1 w5 hown1 hgrow1 _
            have HP := Lib.hid (HP.out.app1 (by have := hRX.out; omega) hown1 hgrow1)
            clear hown1 hgrow1
            go_wp2_with (at_builtin; (refine wpList_append_own _ rfl _ _ 33 rfl w.heap.size 9 i2 (.string ⟨#[]⟩) 1 16 Tryd.underlying33 HI.out.2.1 HI.out.2.2.1 HI.out.2.2.2.1 HI.out.2.2.2.2 rfl (by decide) _ _ _ rfl (HP.out.o2.alloc _) _ 1 1 [.string (spT t p d ins)] rfl rfl ?d1 ?d2 ?d3 ?d4 ?d5 ?_))
            case d1 =>
              intro j v hj
              match j, hj with
              | 0, hj => simp at hj; subst hj; simp [Addr.add, go_sem]
            case d2 => intro v hv; simp at hv; subst hv; rfl
            case d3 => have := HR2.out; have := hRX.out; unfold maxLen; omega
            case d4 => have := HR2.out; have := hRX.out; omega
            case d5 => have := Below.size HP.out.u; simp; omega
            intro v2 w6 hown2 hgrow2 _
            have HP := Lib.hid (HP.out.app2 hRX.out.symm hown2 hgrow2)
            clear hown2 hgrow2
            go_wp2
            go_roundg (i - (m + 1))
            case measure => rw [HG.out]; have := HM.out; omega
            case rel => exact ⟨m + 1, xb, _, _, _, rfl, rfl, rfl, by go_num, HM.out.1, by simp, by have := HM.out.2; simp; omega, Lib.hid (by have := hRX.out; simp; omega), HP⟩
          · have HS1 := Lib.hid (spliceT_no HP.out.r p d ins hs0)
            have HS2 := Lib.hid (fun W => refSpliceT_no t HZ.out p d ins hs0 W)
            have fn : (spE t p d ins == 0) = false := beq_false_of_ne hs0
            have fm : (spE t p d ins != 0) = true := by rw [bne, fn]; rfl
            clear hs0 hlt hm
            go_wp2_with (first
              | (go_at_call 14; ((with_reducible refine HS1.out.mono ?_); rintro e w2 ⟨rfl, hu⟩; have HP := Lib.hid (HP.out.up hu); have c3 := cell_up hu c0; have c4 := cell_up hu c1; have c5 := cell_up hu c2; clear hu))
              | (go_at_call 15; ((with_reducible refine (HS2.out _).mono ?_); rintro e w3 ⟨rfl, hu⟩; have HP := Lib.hid (HP.out.up hu); clear hu)))
            go_roundg (i - (m + 1))
            case measure => rw [HG.out]; have := HM.out; omega
            case rel => exact ⟨m + 1, rb, t, R, X, rfl, rfl, rfl, by go_num, HM.out.1, HM.out.2.2, by have := HM.out.2; omega, hRX, HP⟩
        · obtain rfl : m = i := by omega
          have f2 : decide (m < m) = false := decide_eq_false (by omega)
          clear hlt hm HG
          obtain ⟨g1, q1, e1, -⟩ := HP.out.o1.form hR1
          obtain ⟨g2, q2, e2, -⟩ := HP.out.o2.form (by have := hRX.out; omega)
          have HE1 := Lib.hid e1
          have HE2 := Lib.hid e2
          clear e1 e2
          obtain rfl := HE1.out
          obtain rfl := HE2.out
          have hRi : (R.length : Int) ≤ 61 := by have := HN.out; omega
          have HRl := Lib.hid hR
          clear HE1 HE2 hR hR1
          go_wp2
          go_loopg [22] R.length (fun g iv wr => ∃ j : Nat, g = R.length - j ∧ iv = .int .i64 (j : Nat) ∧ j ≤ R.length ∧ Hid (PlayS w R X (.slice (some ⟨g1, 0, none⟩) R.length q1) (.slice (some ⟨g2, 0, none⟩) X.length q2) rb t wr))
          case atStart => exact ⟨0, rfl, rfl, Nat.zero_le _, HP⟩
          case round =>
            obtain ⟨j, hg, rfl, hj, HP⟩ := hrel
            have HG := Lib.hid hg
            clear hg f2
            by_cases hlt : j < R.length
            · obtain ⟨b, x, hr, k1, k2, hjx⟩ := HP.out.cells_at hRX.out hlt
              have HX := Lib.hid (show x.size ≤ maxLen by have := hr.size; unfold maxLen; omega)
              have hj1 : (j : Int) < (R.length : Nat) := by omega
              have hj2 : (j : Int) < (X.length : Nat) := by omega
              have hj3 : (0 : Int) ≤ (j : Nat) := by omega
              have HL := Lib.hid (show j + 1 ≤ R.length from hlt)
              have hS : Up wr wr ∧ RopeIs wr b x ∧ wr.cell? ⟨g1, j, none⟩ = some (.pointer (some ⟨b, 0, none⟩)) ∧ wr.cell? ⟨g2, j, none⟩ = some (.string x) := ⟨Up.refl _, hr, k1, k2⟩
              clear hlt hj hjx hr k1 k2
              go_wp2
              go_region_held3 (fun w' => Up wr w' ∧ RopeIs w' b x ∧ w'.cell? ⟨g1, j, none⟩ = some (.pointer (some ⟨b, 0, none⟩)) ∧ w'.cell? ⟨g2, j, none⟩ = some (.string x))
                (first | assumption | with_reducible exact keepP hu2 (by assumption) | with_reducible exact keepP (Up.drew _) (by assumption))
                (first
                  | (go_at_call 16; ((with_reducible refine (text_any (rb := b) (s := x) ?_).mono ?_); (exact (by assumption : _ ∧ RopeIs _ _ _ ∧ _).2.1); rintro e w2 ⟨rfl, hu2⟩))
                  | (go_at_call 17; ((with_reducible refine (rope_len_any (rb := b) (s := x) ?_).mono ?_); (exact (by assumption : _ ∧ RopeIs _ _ _ ∧ _).2.1); rintro e w2 ⟨rfl, hu2⟩))
                  | (go_at_call 12; ((with_reducible refine (rope_steps_any (rb := b) (s := x) ?_).mono ?_); (exact (by assumption : _ ∧ RopeIs _ _ _ ∧ _).2.1); rintro e w2 ⟨rfl, hu2⟩))
                  | (go_at_call 13; ((with_reducible refine (refSteps_any x HX.out _).mono ?_); rintro e w2 ⟨rfl, hu2⟩)))
              have hH : Up wr w2 ∧ RopeIs w2 b x ∧ w2.cell? ⟨g1, j, none⟩ = some (.pointer (some ⟨b, 0, none⟩)) ∧ w2.cell? ⟨g2, j, none⟩ = some (.string x) := by assumption
              have HP := Lib.hid (HP.out.up hH.1)
              clear hH hS hj2 hj3
              go_wp2
              go_roundg (R.length - (j + 1))
              case measure => rw [HG.out]; have := HL.out; omega
              case rel => exact ⟨j + 1, rfl, by go_num, HL.out, HP⟩
            · obtain rfl : j = R.length := by omega
              have f3 : decide (R.length < R.length) = false := decide_eq_false (by omega)
              have HT2 := Lib.hid (HT.out.up HP.out.u)
              clear hlt hj HG hRi
              go_wp2_with (go_at_call 10; ((with_reducible refine (rwakes_any _ HT2.out).mono ?_); rintro e wb ⟨rfl, hub⟩))
              go_ret
              exact ⟨rfl, HP.out.u.trans hub⟩
theorem plays_walk (w : World) (ht : Tabs w) (s : ByteArray) (A : Option Addr) (n c : Nat) (E : Nat → Int × Int × ByteArray) (hE : Edits w A n E) (a k f u : Int) : Calls Tryd.prog 4 #[.string s, .slice A n c, .int .i64 a, .int .i64 k, .int .i64 f, .int .i64 u] w fun e w' => e = .returned (.bool true) ∧ Up w w' := by
  by_cases h : 65536 < (s.size : Int) ∨ 60 < n
  · exact plays_big w ht s A n c a k f u h
  · exact plays_inn w ht s A n c E hE a k f u (by omega) (by omega)
end Go.Proofs.YtcbmigkdmmmahaaDoor
