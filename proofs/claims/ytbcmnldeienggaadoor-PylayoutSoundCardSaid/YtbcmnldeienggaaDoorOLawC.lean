/- PylayoutSound, walked. -/
import Derived.Test.YtbcmnldeienggaaDoorOLawB
import Derived.Deep.CutBlock
namespace Go.Proofs.YtbcmnldeienggaaDoor
open Go.RowKit
attribute [local go_sem ↓] ldS_eq stS_eq elS_eq neS_eq zrS_eq bsS_eq bdS_eq
attribute [local go_sem] ldS_run stS_run elS_run neS_run zrS_run bsS_run bdS_run0 bdS_run1 g0_rule ldV_drew ldV_drewN

theorem chk_step {n p k : Nat} {e : LEv} {r : List LEv} {R : Nat × Nat} (h : chkL n (e :: r) p k = some R) : p ≤ e.a ∧ e.a ≤ n ∧ ((e.op = 1 ∧ e.b = 0 ∧ chkL n r e.a (k + 1) = some R) ∨ (e.op = 2 ∧ e.b = 0 ∧ 0 < k ∧ chkL n r e.a (k - 1) = some R) ∨ (e.op = 3 ∧ e.a ≤ e.b ∧ e.b ≤ n ∧ chkL n r e.b k = some R)) := by
  rw [chkL] at h
  split at h
  · rename_i h1
    refine ⟨h1.1, h1.2, ?_⟩
    split at h
    · rename_i h2
      split at h
      · rename_i h3; exact .inl ⟨h2, h3, h⟩
      · cases h
    · split at h
      · rename_i h2
        split at h
        · rename_i h3; exact .inr (.inl ⟨h2, h3.1, h3.2, h⟩)
        · cases h
      · split at h
        · rename_i h2
          split at h
          · rename_i h3; exact .inr (.inr ⟨h2, h3.1, h3.2, h⟩)
          · cases h
        · cases h
  · cases h
/-- No more nodes are ever open than there are events and were. -/
theorem chk_count {n : Nat} : ∀ (l : List LEv) (p k : Nat) (R : Nat × Nat), chkL n l p k = some R → k ≤ R.2 + l.length
  | [], p, k, R, h => by
    rw [chkL] at h
    injection h with h
    subst h
    simp
  | e :: r, p, k, R, h => by
    obtain ⟨-, -, h1 | h1 | h1⟩ := chk_step h
    · have := chk_count r _ _ R h1.2.2; rw [List.length_cons]; omega
    · have := chk_count r _ _ R h1.2.2.2; rw [List.length_cons]; omega
    · have := chk_count r _ _ R h1.2.2.2; rw [List.length_cons]; omega
set_option maxRecDepth 100000 in
set_option maxHeartbeats 2000000 in
theorem open_any (W : World) (s : LSt) (hs : LOk s) : Calls Tryd.prog 14 #[.agg (stA s)] W fun e w' => e = .returned (.int .i64 (opnN s : Nat)) ∧ Up W w' := by
  have c4 : (W.alloc (.cells (stA s) TS)).cell? ⟨W.heap.size, 64, none⟩ = some (.int .i64 (s.cols.length : Nat)) := sv_tl (svP s) W 0 rfl
  have c5 : (W.alloc (.cells (stA s) TS)).cell? ⟨W.heap.size, 65, none⟩ = some (.int .u8 (s.mode : Nat)) := sv_tl (svP s) W 1 rfl
  have h1 := hs.len
  have h2 : s.mode ≤ 1 := by rcases hs.line with h | h <;> omega
  have hu := Up.alloc W (.cells (stA s) TS)
  unfold opnN
  generalize s.cols.length = n at *
  generalize s.mode = m at *
  generalize stA s = y at *
  have h3 : (m : Int) < 256 := by omega
  have h4 : (0 : Int) ≤ m := by omega
  have e1 : IntKind.i64.wrap ((n : Int) + (m : Int)) = ((n + m : Nat) : Int) := (IntWalk.i64_in _ (by omega)).trans (by omega)
  have e2 : IntKind.i64.wrap (m : Int) = (m : Int) := IntWalk.i64_in _ (by omega)
  clear h1 h2 hs
  go_enter Tryd.func14, Tryd.ntmps14
  go_wp2
  go_ret
  exact ⟨ret_int (by omega), hu⟩
theorem lay_len (cols : List Nat) (flags ti col : Nat) (h : cols.length ≤ 16) : (layL cols flags ti col).1.length ≤ 17 := by
  have := lay_set ⟨cols, 0, 0, flags, 0⟩ ti col
  have h2 := set_len ⟨cols, 0, 0, flags, 0⟩ col h
  show (layL cols flags ti col).1.length ≤ 17
  have e : (layL cols flags ti col).1 = _ := this
  rw [e, List.length_append]
  split <;> simp <;> omega
theorem scanP_len {s : LSt} {l : List Nat} (h : LOk s) : (scanP s l).1.length ≤ l.length + 20 := by
  have hr : ∀ (cols : List Nat) (a m : Nat) (d : Int), (readL cols s.flags (scanE l a m d) (endL l)).1.length ≤ l.length + 1 := fun cols a m d => by
    have := lenE l a m d
    unfold readL
    split <;> simp <;> omega
  unfold scanP
  split
  · split
    · simp
    · split
      · simp
      · have h1 := lay_len s.cols s.flags (indL l 0).1 (indL l 0).2 h.len
        have h2 := hr (layL s.cols s.flags (indL l 0).1 (indL l 0).2).2 (indL l 0).1 s.mark s.count
        simp only [List.length_append, List.length_singleton]
        omega
  · have := hr s.cols 0 s.mark s.count
    exact Nat.le_trans this (by omega)
set_option maxRecDepth 100000 in
set_option maxHeartbeats 16000000 in
theorem sound_walk (hC : LayC) (W : World) (hT : TabsP W) (x : Array Value) (hx : IsS x) (line : ByteArray) :
    Calls Tryd.prog 4 #[.agg x, .string line] W fun e w' => e = .returned (.bool true) ∧ Up W w' := by
  by_cases hs : (line.size : Int) ≤ 20000
  · obtain ⟨s, hc⟩ := cnt_any x
    have hok := hc.1
    obtain ⟨Q, hchk⟩ := scanP_sound (l := bl line) hok
    rw [bl_len] at hchk
    have hTok := scanP_ok (l := bl line) hok (by rw [bl_len]; omega)
    have HSC := Lib.hid (fun W' (h : TabsP W') => hC.scan W' h (stA s) s (stA_is hok) (cnt_self hok) line (by omega))
    have hlen := scanP_len (l := bl line) hok
    rw [bl_len] at hlen
    unfold ScannedP at HSC
    generalize scanP s (bl line) = R at HSC hchk hTok hlen
    obtain ⟨es, T⟩ := R
    dsimp only at HSC hchk hTok hlen
    have HO1 := Lib.hid (fun W' => open_any W' s hok)
    have HO2 := Lib.hid (fun W' => open_any W' T hTok)
    have HM2 := Lib.hid (fun W' => may_any W' (svP T))
    rw [pyB_true.2 ⟨T, hTok, rfl⟩, show svA (svP T) = stA T from rfl] at HM2
    have HK := Lib.hid (fun W' (h : TabsP W') => knows_any hC W' h)
    have HT := Lib.hid hT
    have hl : ldV (.pointer (some ⟨W.heap.size, 0, none⟩)) (W.alloc (.cells x TS)) = some (.agg x) := ldV_of hx (range_box W x TS)
    have HTH := Lib.hid (there_box W hx TS)
    have HU := Lib.hid (Up.alloc W (.cells x TS))
    have HBX := Lib.hid (Go.heap_alloc_new W (.cells x TS))
    have HXS := Lib.hid hx.size
    obtain ⟨V, hV, hxV⟩ := sv_of hx
    have hxV' : svA V = x := hxV.symm
    have HMX := Lib.hid (fun W' => may_any W' V)
    rw [hxV'] at HMX
    have hcase : (pyB V = true ∧ x = stA s) ∨ (pyB V = false ∧ stA s = z0) := by
      rcases hc.2 with h | ⟨h, rfl⟩
      · exact .inl ⟨pyB_true.2 (by rw [hxV']; exact ⟨s, hok, h⟩), h⟩
      · exact .inr ⟨by rw [Bool.eq_false_iff]; intro k; exact h (by have := pyB_true.1 k; rwa [hxV'] at this), z0_lst.symm⟩
    have HSI := Lib.hid (stA_is hok)
    have HTI := Lib.hid (stA_is hTok)
    generalize pyB V = B at HMX hcase
    generalize hys : stA s = y at HSC HO1 HSI hcase
    generalize hyt : stA T = z at HSC HO2 HM2 HTI
    have t0 : decide ((20000 : Int) < line.size) = false := decide_eq_false (by omega)
    have HCH := Lib.hid hchk
    have HLN := Lib.hid (show es.length ≤ 30000 by omega)
    have hq0 : opnN s ≤ 17 := by unfold opnN; have := hok.len; rcases hok.line with h | h <;> omega
    have hq1 : opnN T ≤ 17 := by unfold opnN; have := hTok.len; rcases hTok.line with h | h <;> omega
    generalize opnN s = q0 at *
    generalize opnN T = q1 at *
    have HLS := Lib.hid hs
    clear hc hok hTok hchk hlen hxV hxV' hV hx hT hys hyt hC
    go_enter Tryd.func4, Tryd.ntmps4
    go_upto_region 3 with fail
    rcases hcase with hq | hq
    case' inl =>
      obtain ⟨rfl, hxy⟩ := hq
      have HXY := Lib.hid hxy
      clear hxy
      go_upto_region 5 with (go_at_call 12; ((with_reducible refine (HMX.out _).mono ?_); rintro e wc ⟨rfl, hu⟩; have HF := Lib.hid (HU.out.trans hu); have HBK := Lib.hid ((Below.block hu _ (Array.getElem?_eq_some_iff.1 HBX.out).1).trans HBX.out); clear hu hl))
      have HBY : Hid (wc.heap[W.heap.size]? = some (.cells y TS)) := Lib.hid (by rw [← HXY.out]; exact HBK.out)
      clear HBK HXY HMX HU HTH HBX HXS
    case' inr =>
      obtain ⟨rfl, hyz⟩ := hq
      have HYZ := Lib.hid hyz
      clear hyz
      go_upto_region 5 with (go_at_call 12; ((with_reducible refine (HMX.out _).mono ?_); rintro e w1 ⟨rfl, hu⟩; have hst := stV_of z0_is (there_up hu HTH.out); have HF := Lib.hid (set_upS (b := W.heap.size) (o := 0) (l := z0.toList) (HU.out.trans hu) (Nat.le_refl _)); have HBK := Lib.hid ((over_heap W.heap.size TS z0.toList w1 0 x ((Below.block hu _ (Array.getElem?_eq_some_iff.1 HBX.out).1).trans HBX.out)).trans (by rw [over_all x z0 (by rw [HXS.out, z0_is.size])])); clear hu hl))
      generalize hwc : World.setCells _ _ _ _ = wc at HF HBK ⊢
      have HBY : Hid (wc.heap[W.heap.size]? = some (.cells y TS)) := Lib.hid (by rw [HYZ.out]; exact HBK.out)
      clear HBK HYZ HMX HU HTH HBX HXS hst hwc
    all_goals
      have hl : ldV (.pointer (some ⟨W.heap.size, 0, none⟩)) wc = some (.agg y) := ldV_of HSI.out (fun j u hj => by rw [Nat.zero_add]; exact cellOf HBY.out (by simpa using hj))
      go_upto_region 6 with (go_at_call 13; ((with_reducible refine (HSC.out _ (HT.out.up HF.out)).mono ?_); rintro e w3 ⟨v3, rfl, hrow, hu⟩; obtain ⟨A, c, rfl, he⟩ := levs_row hrow; have hst := stV_of HTI.out (there_box w3 z0_is TS); have hup := whole_up w3 (z := z0) TS z.toList; have hl3 := ldV_up (hu.trans hup) hl; have HE := Lib.hid (he.up hup); have HU4 := Lib.hid ((HF.out.trans hu).trans hup); have hld := set_ld HTI.out (there_box w3 z0_is TS); clear hu hup he hrow hl))
      generalize hw5 : World.setCells _ _ _ _ = w5 at hl3 HE HU4 hld ⊢
      clear hst hw5
      generalize w3.heap.size = bt' at hld ⊢
      go_upto_region 7 with (go_at_call 14; ((with_reducible refine (HO1.out _).mono ?_); rintro e w6 ⟨rfl, hu⟩; have HLD := Lib.hid (ldV_up hu hld); have HE6 := Lib.hid (HE.out.up hu); have HU6 := Lib.hid (HU4.out.trans hu); clear hu hl3 hld))
      go_wp2
      go_loopg [7, 8, 9] es.length (fun g nv av iv wr => ∃ k p q : Nat, g = es.length - k ∧ nv = .int .i64 (q : Nat) ∧ av = .int .i64 (p : Nat) ∧ iv = .int .i64 (k : Nat) ∧ Hid (k ≤ es.length ∧ chkL line.size (es.drop k) p q = some (Q, q1)) ∧ Hid (Up w6 wr))
      case atStart => exact ⟨0, 0, q0, rfl, rfl, rfl, rfl, Lib.hid ⟨Nat.zero_le _, by rw [List.drop_zero]; exact HCH.out⟩, Lib.hid (Up.refl _)⟩
      case round =>
        obtain ⟨k, p, q, hg, rfl, rfl, rfl, HKC, HV⟩ := hrel
        have HG := Lib.hid hg
        clear hg
        by_cases hlt : k < es.length
        · have HLT := Lib.hid hlt
          obtain ⟨be, o, rfl, -, c0, c1, c2, c3⟩ := (HE6.out.up HV.out).at_ k hlt
          have hch := HKC.out.2
          rw [List.drop_eq_getElem_cons hlt] at hch
          obtain ⟨p1, p2, hops⟩ := chk_step hch
          have hq : q ≤ q1 + (es.drop k).length := chk_count _ _ _ _ HKC.out.2
          rw [List.length_drop] at hq
          generalize es[k]'hlt = r at c0 c1 c2 c3 p1 p2 hops
          obtain ⟨eo, ek, ea, eb⟩ := r
          dsimp only at c0 c1 c2 c3 p1 p2 hops
          have hls := HLS.out
          have hln := HLN.out
          have i0 : (0 : Int) ≤ k := by omega
          have i1 : (k : Int) < es.length := by omega
          have e4 : IntKind.i64.wrap ((k : Int) + 1) = (k : Int) + 1 := IntWalk.i64_in _ (by omega)
          have t1 : decide (ea < p) = false := decide_eq_false (by omega)
          have t2 : decide (line.size < ea) = false := decide_eq_false (by omega)
          have HW1 := Lib.hid (HV.out.trans (Up.alloc _ (.cells #[.int .u8 (eo : Nat), .int .u8 (ek : Nat), .int .i64 (ea : Nat), .int .i64 (eb : Nat)] ET)))
          clear hch hlt
          rcases hops with ⟨rfl, rfl, hc2⟩ | ⟨rfl, rfl, hk0, hc2⟩ | ⟨rfl, hb1, hb2, hc2⟩
          · have HC2 := Lib.hid hc2
            have j0 : (0 : Int) ≤ q := by omega
            have e5 : IntKind.i64.wrap ((q : Int) + 1) = (q : Int) + 1 := IntWalk.i64_in _ (by omega)
            clear hc2 hq p1 p2 hls hln
            go_wp2
            go_roundg (es.length - (k + 1))
            case measure => rw [HG.out]; have := HLT.out; omega
            case rel => exact ⟨k + 1, ea, q + 1, rfl, by go_num, by go_num, by go_num, Lib.hid ⟨HLT.out, HC2.out⟩, HW1⟩
          · have HC2 := Lib.hid hc2
            have j0 : (0 : Int) ≤ q := by omega
            have e5 : IntKind.i64.wrap ((q : Int) - 1) = ((q - 1 : Nat) : Int) := (IntWalk.i64_in _ (by omega)).trans (by omega)
            have e6 : (0 : Int) ≤ ((q - 1 : Nat) : Int) := by omega
            clear hk0
            clear hc2 hq p1 p2 hls hln
            go_wp2
            go_roundg (es.length - (k + 1))
            case measure => rw [HG.out]; have := HLT.out; omega
            case rel => exact ⟨k + 1, ea, q - 1, rfl, by go_num, by go_num, by go_num, Lib.hid ⟨HLT.out, HC2.out⟩, HW1⟩
          · have HC2 := Lib.hid hc2
            have j0 : (0 : Int) ≤ q := by omega
            have t3 : decide (eb < ea) = false := decide_eq_false (by omega)
            have t4 : decide (line.size < eb) = false := decide_eq_false (by omega)
            clear hb1 hb2
            clear hc2 hq p1 p2 hls hln
            go_wp2
            go_roundg (es.length - (k + 1))
            case measure => rw [HG.out]; have := HLT.out; omega
            case rel => exact ⟨k + 1, eb, q, rfl, by go_num, by go_num, by go_num, Lib.hid ⟨HLT.out, HC2.out⟩, HW1⟩
        · have hke : k = es.length := by have := HKC.out.1; omega
          subst hke
          have hqq : q = q1 := by
            have h := HKC.out.2
            rw [List.drop_length, chkL] at h
            injection h with h
            exact congrArg Prod.snd h
          subst hqq
          have f0 : decide (es.length < es.length) = false := decide_eq_false (Nat.lt_irrefl _)
          have hld := ldV_up HV.out HLD.out
          have HU7 := Lib.hid (HU6.out.trans HV.out)
          clear hlt HLD HE6 HE HKC HG
          go_wp2_with (first
            | (go_at_call 14; ((with_reducible refine (HO2.out _).mono ?_); rintro e w8 ⟨rfl, hu⟩; have hld := ldV_up hu hld; have HU8 := Lib.hid (HU7.out.trans hu); clear hu))
            | (go_at_call 12; ((with_reducible refine (HM2.out _).mono ?_); rintro e w9 ⟨rfl, hu⟩; have HU9 := Lib.hid (HU8.out.trans hu); clear hu))
            | (go_at_call 11; ((with_reducible refine (HK.out _ (HT.out.up HU9.out)).mono ?_); rintro e w10 ⟨rfl, hu⟩; have HUA := Lib.hid (HU9.out.trans hu); clear hu)))
          go_ret
          exact ⟨rfl, HUA.out⟩
  · have f0 : (20000 : Int) < line.size := by omega
    clear hs hC hT hx
    go_enter Tryd.func4, Tryd.ntmps4
    go_wp2
    go_ret
    exact ⟨rfl, Up.alloc _ _⟩
end Go.Proofs.YtbcmnldeienggaaDoor
