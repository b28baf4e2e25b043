/- The program's Take and Indent. -/
import Derived.Test.YtmfcapbllbfjnaaGreatDoorVTake
import Derived.WalkMore
namespace Go.Proofs.YtmfcapbllbfjnaaGreatDoor
open Go.RowKit

theorem froz_set {W : World} {B : Nat} {f : Bool} (h : W.frozen? ⟨B, 0, none⟩ = f) (v : Value) : (W.setCell ⟨B, 0, none⟩ v).frozen? ⟨B, 0, none⟩ = f := (World.frozen?_setCell _ _ _ _).trans h
theorem set_up0 {w W : World} {g : Nat} (h : Up w W) (hg : w.heap.size ≤ g) (v : Value) : Up w (W.setCell ⟨g, 0, none⟩ v) := Below.setCell h (p := ⟨g, 0, none⟩) hg v
theorem next1_any (w : World) (B : Nat) (q : Int) (hc : w.cell? ⟨B, 0, none⟩ = some (.int .i64 q)) (hq : 0 ≤ q ∧ q ≤ 2199023255552) :
    Calls Tryz.prog 64 #[.int .i64 1, .pointer (some ⟨B, 0, none⟩)] w fun e w' => e = .returned (.int .i64 (q + 1)) ∧ Up w w' := by
  have h := next_any w B q 1 hc hq ⟨by decide, by decide⟩
  rw [next_one] at h
  exact h
set_option maxRecDepth 100000 in
set_option maxHeartbeats 4000000 in
theorem take_loop (s : ByteArray) (a : Nat) (c want e size : Int) (w : World) (hs : (s.size : Int) ≤ 65536) (ha : a ≤ s.size) (hc0 : 0 ≤ c) (hc1 : c ≤ 1099511627776) (h1 : 1 ≤ size) (h2 : size ≤ 64) (he : c + wantC want = e) :
    Calls Tryz.prog 42 #[.string s, .int .i64 (a : Nat), .int .i64 c, .int .i64 want, .int .i64 size] w fun en w' => en = .returned (.tuple #[.int .i64 ((tkF s a c e size).1 : Nat), .int .i64 (tkF s a c e size).2]) ∧ Up w w' := by
  have HM := Lib.hid (fun W => mayBe_any s (a : Int) c size W)
  have hmay : mayT s (a : Int) c size := ⟨by omega, by omega, hc0, hc1, h1, h2⟩
  rw [decide_eq_true hmay] at HM
  have hw : 0 ≤ wantC want ∧ wantC want ≤ 1099511627776 := by unfold wantC; split <;> (try split) <;> omega
  have HS := Lib.hid hs
  have H1 := Lib.hid (And.intro h1 h2)
  have H11 := Lib.hid (show (1 : Int) ≤ 1 ∧ (1 : Int) ≤ 64 by decide)
  have HE := Lib.hid (show 0 ≤ e ∧ e ≤ 2199023255552 by omega)
  have eE : IntKind.i64.wrap (c + wantC want) = e := (IntWalk.i64_in _ (by omega)).trans he
  obtain ⟨P, hP⟩ : ∃ P, (tkF s a c e size).1 = P := ⟨_, rfl⟩
  obtain ⟨Q, hQ⟩ : ∃ Q, (tkF s a c e size).2 = Q := ⟨_, rfl⟩
  rw [hP, hQ]
  have HT := Lib.hid (show goF s size e (s.size - a) a c = (P, Q) by rw [← hP, ← hQ]; rfl)
  have HC := Lib.hid (show 0 ≤ c ∧ c ≤ 2199023255552 by omega)
  have HA := Lib.hid ha
  have HX := Lib.hid (fun (W : World) (q u : Int) => next_any W w.heap.size q u)
  have hc := box_cell w (.int .i64 c) 3
  have HF := Lib.hid (frozenOf (Go.heap_alloc_new _ _) : (w.alloc (.cells #[.int .i64 c] 3)).frozen? ⟨w.heap.size, 0, none⟩ = false)
  have HU := Lib.hid (Up.alloc w (.cells #[.int .i64 c] 3))
  clear hmay hw hP hQ hs ha hc0 hc1 he h1 h2
  obtain ⟨v, hv⟩ : ∃ v, wantC want = v := ⟨_, rfl⟩
  rw [hv] at eE
  have hwant : (want < 0 ∧ v = 0) ∨ (¬ want < 0 ∧ 1099511627776 < want ∧ v = 1099511627776) ∨ (¬ want < 0 ∧ ¬ 1099511627776 < want ∧ v = want) := by
    rw [← hv]
    unfold wantC
    split
    · exact .inl ⟨by assumption, rfl⟩
    · split
      · exact .inr (.inl ⟨by assumption, by assumption, rfl⟩)
      · exact .inr (.inr ⟨by assumption, by assumption, rfl⟩)
  clear hv
  rcases hwant with ⟨k1, rfl⟩ | ⟨k1, k2, rfl⟩ | ⟨k1, k2, rfl⟩
  case' inl => have eE0 : IntKind.i64.wrap c = e := by simpa using eE
  case' inr.inl =>
    have g1 : decide (want < 0) = false := decide_eq_false k1
    have g2 : decide (want ≤ 1099511627776) = false := decide_eq_false (by omega)
    have g3 : ¬ want ≤ 1099511627776 := by omega
  case' inr.inr =>
    have g1 : decide (v < 0) = false := decide_eq_false k1
    have g2 : decide (1099511627776 < v) = false := decide_eq_false k2
    have g3 : v ≤ 1099511627776 := by omega
    clear k2
  all_goals
    go_enter Tryz.func42, Tryz.ntmps42
    go_wp2
    go_step3
    go_wp2_with (go_at_call 63; ((with_reducible refine (HM.out _).mono ?_); rintro e1 w1 ⟨rfl, rfl⟩))
    go_step3
    go_wp2
    go_loopg [1, 14] (s.size - a) (fun g av _ wr => ∃ (p : Nat) (q : Int), g = s.size - p ∧ av = .int .i64 (p : Nat) ∧ wr.cell? ⟨w.heap.size, 0, none⟩ = some (.int .i64 q) ∧ Hid (wr.frozen? ⟨w.heap.size, 0, none⟩ = false) ∧ Hid (Up w wr) ∧ Hid (p ≤ s.size) ∧ Hid (0 ≤ q ∧ q ≤ 2199023255552) ∧ Hid (goF s size e (s.size - p) p q = (P, Q)))
    case atStart => exact ⟨a, c, rfl, rfl, hc, HF, HU, HA, HC, HT⟩
    case round =>
      clear hc HF HU
      obtain ⟨p, q, hg, rfl, hc, HF, HU, HPs, HQs, HR⟩ := hrel
      have HG := Lib.hid hg
      clear hg
      have hcK := Lib.hid hc
      by_cases hlt : p < s.size
      · obtain ⟨x, hx⟩ : ∃ x, s[p].toNat = x := ⟨_, rfl⟩
        have hbx : bt s p = x := by rw [← bt_eq hlt]; exact hx
        have hpp : (p : Int) < s.size := by omega
        have hp0 : (0 : Int) ≤ p := by omega
        have hq := HQs.out
        have hee := HE.out
        have hss := HS.out
        have h12 := H1.out
        have hf := HF.out
        have e2 : IntKind.i64.wrap ((p : Int) + 1) = (p : Int) + 1 := IntWalk.i64_in _ (by omega)
        by_cases h32 : x = 32
        · subst h32
          have hn : nxC (bt s p) q size = some (q + 1) := nxC_sp hbx
          have HY := Lib.hid (fun (W : World) (hcw : W.cell? ⟨w.heap.size, 0, none⟩ = some (.int .i64 q)) => next1_any W w.heap.size q hcw HQs.out)
          by_cases hov : e < q + 1
          · have hR := HR.out
            rw [goF_over hlt hn hov] at hR
            injection hR with k1 k2
            subst k1 k2
            have f1 : decide (q + 1 ≤ e) = false := decide_eq_false (by omega)
            clear hbx hn hq hee hss h12 hov
            go_wp2_with (go_at_call 64; ((with_reducible refine (HY.out _ hc).mono ?_); rintro e3 w3 ⟨rfl, hu3⟩; have hf := frozen_up hu3 hc hf; have hc := cell_up hu3 hc; have HU := Lib.hid (HU.out.trans hu3); clear hu3))
            go_quiet (fail)
            go_wp2
            try rw [Exit.noGoto_ret]
            go_ret2
            exact ⟨rfl, HU.out.trans (Up.drewN _ _)⟩
          · have f1 : decide (q + 1 ≤ e) = true := decide_eq_true (by omega)
            have HR2 := Lib.hid ((goF_step hlt hn hov).symm.trans HR.out)
            have HQ2 := Lib.hid (show 0 ≤ q + 1 ∧ q + 1 ≤ 2199023255552 by omega)
            have HP2 := Lib.hid (show p + 1 ≤ s.size from hlt)
            have HLt := Lib.hid hlt
            clear hbx hn hq hee hss h12 hov
            go_wp2_with (go_at_call 64; ((with_reducible refine (HY.out _ hc).mono ?_); rintro e3 w3 ⟨rfl, hu3⟩; have hf := frozen_up hu3 hc hf; have hc := cell_up hu3 hc; have HU := Lib.hid (HU.out.trans hu3); clear hu3))
            go_roundg (s.size - (p + 1))
            case measure => rw [HG.out]; have := HLt.out; omega
            case rel => exact ⟨p + 1, q + 1, rfl, by go_num, World.cell?_setCell_same' _ _ _ (by rw [hc]; rfl), Lib.hid (froz_set hf _), Lib.hid (set_up0 HU.out (Nat.le_refl _) _), HP2, HQ2, HR2⟩
        · have f32 : decide (x = 32) = false := decide_eq_false h32
          have f32b : ((x : Int) == 32) = false := beq_false_of_ne (by omega)
          by_cases h9 : x = 9
          · subst h9
            have hn : nxC (bt s p) q size = some ((q / size + 1) * size) := nxC_tb hbx
            have HY := Lib.hid (fun (W : World) (hcw : W.cell? ⟨w.heap.size, 0, none⟩ = some (.int .i64 q)) => next_any W w.heap.size q size hcw HQs.out H1.out)
            obtain ⟨j1, j2, -⟩ := nxC_up h12.1 h12.2 hn
            obtain ⟨d, hd⟩ : ∃ d, (q / size + 1) * size = d := ⟨_, rfl⟩
            rw [hd] at hn j1 j2 HY
            clear hd
            by_cases hov : e < d
            · have hR := HR.out
              rw [goF_over hlt hn hov] at hR
              injection hR with k1 k2
              subst k1 k2
              have f1 : decide (d ≤ e) = false := decide_eq_false (by omega)
              clear hbx hn hq hee hss h12 hov j1 j2
              go_wp2_with (go_at_call 64; ((with_reducible refine (HY.out _ hc).mono ?_); rintro e3 w3 ⟨rfl, hu3⟩; have hf := frozen_up hu3 hc hf; have hc := cell_up hu3 hc; have HU := Lib.hid (HU.out.trans hu3); clear hu3))
              go_quiet (fail)
              go_wp2
              try rw [Exit.noGoto_ret]
              go_ret2
              exact ⟨rfl, HU.out.trans (Up.drewN _ _)⟩
            · have f1 : decide (d ≤ e) = true := decide_eq_true (by omega)
              have HR2 := Lib.hid ((goF_step hlt hn hov).symm.trans HR.out)
              have HQ2 := Lib.hid (show 0 ≤ d ∧ d ≤ 2199023255552 by omega)
              have HP2 := Lib.hid (show p + 1 ≤ s.size from hlt)
              have HLt := Lib.hid hlt
              clear hbx hn hq hee hss h12 hov j1 j2
              go_wp2_with (go_at_call 64; ((with_reducible refine (HY.out _ hc).mono ?_); rintro e3 w3 ⟨rfl, hu3⟩; have hf := frozen_up hu3 hc hf; have hc := cell_up hu3 hc; have HU := Lib.hid (HU.out.trans hu3); clear hu3))
              go_roundg (s.size - (p + 1))
              case measure => rw [HG.out]; have := HLt.out; omega
              case rel => exact ⟨p + 1, d, rfl, by go_num, World.cell?_setCell_same' _ _ _ (by rw [hc]; rfl), Lib.hid (froz_set hf _), Lib.hid (set_up0 HU.out (Nat.le_refl _) _), HP2, HQ2, HR2⟩
          · have f9 : ((x : Int) == 9) = false := beq_false_of_ne (by omega)
            have f9b : decide (x = 9) = false := decide_eq_false h9
            have hR := HR.out
            have hst := goF_stuck (s := s) (size := size) (e := e) (c := q) (a := p) (by rw [hbx]; exact h32) (by rw [hbx]; exact h9) (s.size - p)
            rw [hst] at hR
            injection hR with k1 k2
            subst k1 k2
            clear hbx hq hee hss h12 hst
            go_wp2
            go_quiet (fail)
            go_wp2
            try rw [Exit.noGoto_ret]
            go_ret2
            exact ⟨rfl, HU.out.trans (Up.drewN _ _)⟩
      · have hR := HR.out
        rw [goF_zero (by omega)] at hR
        injection hR with k1 k2
        subst k1 k2
        have f0 : decide (p < s.size) = false := decide_eq_false hlt
        clear hlt
        go_wp2
        go_quiet (fail)
        go_wp2
        try rw [Exit.noGoto_ret]
        go_ret2
        exact ⟨rfl, HU.out.trans (Up.drewN _ _)⟩
end Go.Proofs.YtmfcapbllbfjnaaGreatDoor
