/- The document's May, Take, Indent. -/
import Derived.Test.YtjlkdpnpkdchgaaDoorVMath2
import Derived.Deep.LoopGhost
import Derived.Deep.QuietTactic
import Derived.Lib.Hide
namespace Go.Proofs.YtjlkdpnpkdchgaaDoor
open Go.RowKit

abbrev I64v (x : Int) : Prop := -9223372036854775808 ≤ x ∧ x ≤ 9223372036854775807
set_option maxRecDepth 100000 in
set_option maxHeartbeats 2000000 in
theorem may_any (s : ByteArray) (a c size : Int) (w : World) : Calls Tryd.prog 16 #[.string s, .int .i64 a, .int .i64 c, .int .i64 size] w fun e w' => e = .returned (.bool (decide (mayT s a c size))) ∧ w = w' := by
  obtain ⟨Z, hZ⟩ : ∃ Z : Int, (s.size : Int) = Z := ⟨_, rfl⟩
  have hE : decide (mayT s a c size) = decide (0 ≤ a ∧ a ≤ Z ∧ 0 ≤ c ∧ c ≤ 1099511627776 ∧ 1 ≤ size ∧ size ≤ 64) := by unfold mayT; simp only [hZ]
  rw [hE]
  clear hE
  by_cases h0 : 0 ≤ a
  case neg =>
    have g : decide (0 ≤ a) = false := decide_eq_false h0
    rw [decide_eq_false (show ¬ _ by omega)]
    clear h0 
    go_enter Tryd.func16, Tryd.ntmps16
    go_wp2
    go_ret
    exact ⟨rfl, rfl⟩
  have f0 : decide (0 ≤ a) = true := decide_eq_true h0
  by_cases h1 : a ≤ Z
  case neg =>
    have g : decide (a ≤ Z) = false := decide_eq_false h1
    rw [decide_eq_false (show ¬ _ by omega)]
    clear h1 h0
    go_enter Tryd.func16, Tryd.ntmps16
    go_wp2
    go_ret
    exact ⟨rfl, rfl⟩
  have f1 : decide (a ≤ Z) = true := decide_eq_true h1
  by_cases h2 : 0 ≤ c
  case neg =>
    have g : decide (0 ≤ c) = false := decide_eq_false h2
    rw [decide_eq_false (show ¬ _ by omega)]
    clear h2 h0 h1
    go_enter Tryd.func16, Tryd.ntmps16
    go_wp2
    go_ret
    exact ⟨rfl, rfl⟩
  have f2 : decide (0 ≤ c) = true := decide_eq_true h2
  by_cases h3 : c ≤ 1099511627776
  case neg =>
    have g : decide (c ≤ 1099511627776) = false := decide_eq_false h3
    rw [decide_eq_false (show ¬ _ by omega)]
    clear h3 h0 h1 h2
    go_enter Tryd.func16, Tryd.ntmps16
    go_wp2
    go_ret
    exact ⟨rfl, rfl⟩
  have f3 : decide (c ≤ 1099511627776) = true := decide_eq_true h3
  by_cases h4 : 1 ≤ size
  case neg =>
    have g : decide (1 ≤ size) = false := decide_eq_false h4
    rw [decide_eq_false (show ¬ _ by omega)]
    clear h4 h0 h1 h2 h3
    go_enter Tryd.func16, Tryd.ntmps16
    go_wp2
    go_ret
    exact ⟨rfl, rfl⟩
  have f4 : decide (1 ≤ size) = true := decide_eq_true h4
  by_cases h5 : size ≤ 64
  case neg =>
    have g : decide (size ≤ 64) = false := decide_eq_false h5
    rw [decide_eq_false (show ¬ _ by omega)]
    clear h5 h0 h1 h2 h3 h4
    go_enter Tryd.func16, Tryd.ntmps16
    go_wp2
    go_ret
    exact ⟨rfl, rfl⟩
  have f5 : decide (size ≤ 64) = true := decide_eq_true h5
  rw [decide_eq_true (show _ by exact ⟨h0, h1, h2, h3, h4, h5⟩)]
  clear h0 h1 h2 h3 h4 h5
  go_enter Tryd.func16, Tryd.ntmps16
  go_wp2
  go_ret
  exact ⟨rfl, rfl⟩
theorem goF_zero {s : ByteArray} {size e c : Int} {p : Nat} (h : s.size ≤ p) : goF s size e (s.size - p) p c = (p, c) := by
  rw [show s.size - p = 0 from by omega]
  rfl
theorem goF_step {s : ByteArray} {size e c d : Int} {p : Nat} (h : p < s.size) (hn : nxC (bt s p) c size = some d) (he : ¬ e < d) : goF s size e (s.size - p) p c = goF s size e (s.size - (p + 1)) (p + 1) d := by
  rw [show s.size - p = (s.size - (p + 1)) + 1 from by omega]
  show (match nxC (bt s p) c size with | none => (p, c) | some d => if e < d then (p, c) else goF s size e (s.size - (p + 1)) (p + 1) d) = _
  rw [hn]
  dsimp only
  rw [if_neg he]
theorem goF_over {s : ByteArray} {size e c d : Int} {p : Nat} (h : p < s.size) (hn : nxC (bt s p) c size = some d) (he : e < d) : goF s size e (s.size - p) p c = (p, c) := by
  rw [show s.size - p = (s.size - (p + 1)) + 1 from by omega]
  show (match nxC (bt s p) c size with | none => (p, c) | some d => if e < d then (p, c) else goF s size e (s.size - (p + 1)) (p + 1) d) = _
  rw [hn]
  dsimp only
  rw [if_pos he]
theorem nxC_sp {x : Nat} {c size : Int} (h : x = 32) : nxC x c size = some (c + 1) := by unfold nxC; rw [if_pos h]
theorem nxC_tb {x : Nat} {c size : Int} (h : x = 9) : nxC x c size = some ((c / size + 1) * size) := by unfold nxC; rw [if_neg (by omega), if_pos h]
set_option maxRecDepth 100000 in
set_option maxHeartbeats 2000000 in
theorem refTake_loop (s : ByteArray) (a : Nat) (c want e size : Int) (w : World) (hs : (s.size : Int) ≤ 65536) (ha : a ≤ s.size) (hc0 : 0 ≤ c) (hc1 : c ≤ 1099511627776) (h1 : 1 ≤ size) (h2 : size ≤ 64) (he : c + wantC want = e) :
    Calls Tryd.prog 11 #[.string s, .int .i64 (a : Nat), .int .i64 c, .int .i64 want, .int .i64 size] w fun en w' => en = .returned (.tuple #[.int .i64 ((tkF s a c e size).1 : Nat), .int .i64 (tkF s a c e size).2]) ∧ w = w' := by
  have HM := Lib.hid (fun W => may_any s (a : Int) c size W)
  have hmay : mayT s (a : Int) c size := ⟨by omega, by omega, hc0, hc1, h1, h2⟩
  rw [decide_eq_true hmay] at HM
  have hw : 0 ≤ wantC want ∧ wantC want ≤ 1099511627776 := by unfold wantC; split <;> (try split) <;> omega
  have HS := Lib.hid hs
  have H1 := Lib.hid (And.intro h1 h2)
  have HE := Lib.hid (show 0 ≤ e ∧ e ≤ 2199023255552 by omega)
  have eE : IntKind.i64.wrap (c + wantC want) = e := (IntWalk.i64_in _ (by omega)).trans he
  obtain ⟨P, hP⟩ : ∃ P, (tkF s a c e size).1 = P := ⟨_, rfl⟩
  obtain ⟨Q, hQ⟩ : ∃ Q, (tkF s a c e size).2 = Q := ⟨_, rfl⟩
  rw [hP, hQ]
  have HT := Lib.hid (show goF s size e (s.size - a) a c = (P, Q) by rw [← hP, ← hQ]; rfl)
  have HC := Lib.hid (show 0 ≤ c ∧ c ≤ 2199023255552 by omega)
  have HA := Lib.hid ha
  have hz : ¬ size = 0 := by omega
  clear hmay hw hP hQ hs ha hc0 hc1 he
  obtain ⟨v, hv⟩ : ∃ v, wantC want = v := ⟨_, rfl⟩
  rw [hv] at eE
  have hwant : (want < 0 ∧ v = 0) ∨ (¬ want < 0 ∧ 1099511627776 < want ∧ v = 1099511627776) ∨ (¬ want < 0 ∧ ¬ 1099511627776 < want ∧ v = want) := by
    rw [← hv]
    unfold wantC
    split
    · exact .inl ⟨by assumption, rfl⟩
    · split
      · exact .inr (.inl ⟨by assumption, by assumption, rfl⟩)
      · exact .inr (.inr ⟨by assumption, by assumption, rfl⟩)
  clear hv
  rcases hwant with ⟨k1, rfl⟩ | ⟨k1, k2, rfl⟩ | ⟨k1, k2, rfl⟩
  case' inl => have eE0 : IntKind.i64.wrap c = e := by simpa using eE
  case' inr.inl => have g1 : decide (want < 0) = false := decide_eq_false k1
  case' inr.inr =>
    have g1 : decide (v < 0) = false := decide_eq_false k1
    have g2 : decide (1099511627776 < v) = false := decide_eq_false k2
    clear k1 k2
  all_goals
    go_enter Tryd.func11, Tryd.ntmps11
    go_wp2_with (go_at_call 16; ((with_reducible refine (HM.out _).mono ?_); rintro e1 w1 ⟨rfl, rfl⟩))
    go_loopg [1, 2, 13] (s.size - a) (fun g av cv _ wr => w = wr ∧ ∃ (p : Nat) (q : Int), g = s.size - p ∧ av = .int .i64 (p : Nat) ∧ cv = .int .i64 q ∧ Hid (p ≤ s.size) ∧ Hid (0 ≤ q ∧ q ≤ 2199023255552) ∧ Hid (goF s size e (s.size - p) p q = (P, Q)))
    case atStart => exact ⟨rfl, a, c, rfl, rfl, rfl, HA, HC, HT⟩
    case round =>
      obtain ⟨rfl, p, q, hg, rfl, rfl, HPs, HQs, HR⟩ := hrel
      have HG := Lib.hid hg
      clear hg
      by_cases hlt : p < s.size
      · obtain ⟨x, hx⟩ : ∃ x, s[p].toNat = x := ⟨_, rfl⟩
        have hbx : bt s p = x := by rw [← bt_eq hlt]; exact hx
        have hpp : (p : Int) < s.size := by omega
        have hp0 : (0 : Int) ≤ p := by omega
        have hq := HQs.out
        have hee := HE.out
        have hss := HS.out
        have h12 := H1.out
        by_cases h32 : x = 32
        · subst h32
          have hn : nxC (bt s p) q size = some (q + 1) := nxC_sp hbx
          have e1 : IntKind.i64.wrap (q + 1) = q + 1 := IntWalk.i64_in _ (by omega)
          have e2 : IntKind.i64.wrap ((p : Int) + 1) = (p : Int) + 1 := IntWalk.i64_in _ (by omega)
          by_cases hov : e < q + 1
          · have hR := HR.out
            rw [goF_over hlt hn hov] at hR
            injection hR with k1 k2
            subst k1 k2
            clear hbx hn hq hee hss h12
            go_wp2
            go_ret2
            exact ⟨rfl, rfl⟩
          · have f1 : decide (e < q + 1) = false := decide_eq_false hov
            have HR2 := Lib.hid ((goF_step hlt hn hov).symm.trans HR.out)
            have HQ2 := Lib.hid (show 0 ≤ q + 1 ∧ q + 1 ≤ 2199023255552 by omega)
            have HP2 := Lib.hid (show p + 1 ≤ s.size from hlt)
            have HLt := Lib.hid hlt
            clear hbx hn hq hee hss h12 hov
            go_wp2
            go_roundg (s.size - (p + 1))
            case measure => rw [HG.out]; have := HLt.out; omega
            case rel => exact ⟨rfl, p + 1, q + 1, rfl, by go_num, rfl, HP2, HQ2, HR2⟩
        · have f32 : decide (x = 32) = false := decide_eq_false h32
          have e2 : IntKind.i64.wrap ((p : Int) + 1) = (p : Int) + 1 := IntWalk.i64_in _ (by omega)
          by_cases h9 : x = 9
          · subst h9
            have hn : nxC (bt s p) q size = some ((q / size + 1) * size) := nxC_tb hbx
            obtain ⟨j1, j2, -⟩ := nxC_up h12.1 h12.2 hn
            obtain ⟨d, hd⟩ : ∃ d, (q / size + 1) * size = d := ⟨_, rfl⟩
            have hqs : 0 ≤ q / size ∧ q / size ≤ q := ⟨Int.ediv_nonneg hq.1 (by omega), Int.ediv_le_self _ hq.1⟩
            have e3 : IntKind.i64.wrap (q / size + 1) = q / size + 1 := IntWalk.i64_in _ (by omega)
            rw [hd] at hn j1 j2
            have e4 : IntKind.i64.wrap ((q / size + 1) * size) = d := by rw [hd]; exact IntWalk.i64_in _ (by omega)
            have e5 : Int.tdiv q size = q / size := Int.tdiv_eq_ediv_of_nonneg hq.1
            have e6 : IntKind.i64.wrap (q / size) = q / size := IntWalk.i64_in _ (by omega)
            clear hd
            by_cases hov : e < d
            · have hR := HR.out
              rw [goF_over hlt hn hov] at hR
              injection hR with k1 k2
              subst k1 k2
              clear hbx hn hq hee hss h12 hqs j1 j2
              go_wp2
              go_ret2
              exact ⟨rfl, rfl⟩
            · have f1 : decide (e < d) = false := decide_eq_false hov
              have HR2 := Lib.hid ((goF_step hlt hn hov).symm.trans HR.out)
              have HQ2 := Lib.hid (show 0 ≤ d ∧ d ≤ 2199023255552 by omega)
              have HP2 := Lib.hid (show p + 1 ≤ s.size from hlt)
              have HLt := Lib.hid hlt
              clear hbx hn hq hee hss h12 hov hqs j1 j2
              go_wp2
              go_roundg (s.size - (p + 1))
              case measure => rw [HG.out]; have := HLt.out; omega
              case rel => exact ⟨rfl, p + 1, d, rfl, by go_num, rfl, HP2, HQ2, HR2⟩
          · have f9 : decide (x = 9) = false := decide_eq_false h9
            have hR := HR.out
            have hst := goF_stuck (s := s) (size := size) (e := e) (c := q) (a := p) (by rw [hbx]; exact h32) (by rw [hbx]; exact h9) (s.size - p)
            rw [hst] at hR
            injection hR with k1 k2
            subst k1 k2
            clear hbx hq hee hss h12 hst
            go_wp2
            go_ret2
            exact ⟨rfl, rfl⟩
      · have hR := HR.out
        rw [goF_zero (by omega)] at hR
        injection hR with k1 k2
        subst k1 k2
        have f0 : decide (p < s.size) = false := decide_eq_false hlt
        clear hlt
        go_wp2
        go_ret2
        exact ⟨rfl, rfl⟩
set_option maxRecDepth 100000 in
set_option maxHeartbeats 2000000 in
theorem refTake_not (s : ByteArray) (a c want size : Int) (w : World) (h : ¬ mayT s a c size) : Calls Tryd.prog 11 #[.string s, .int .i64 a, .int .i64 c, .int .i64 want, .int .i64 size] w fun en w' => en = .returned (.tuple #[.int .i64 0, .int .i64 0]) ∧ w = w' := by
  have HM := Lib.hid (fun W => may_any s a c size W)
  rw [decide_eq_false h] at HM
  clear h
  go_enter Tryd.func11, Tryd.ntmps11
  go_wp2_with (go_at_call 16; ((with_reducible refine (HM.out _).mono ?_); rintro e1 w1 ⟨rfl, rfl⟩))
  go_ret2
  exact ⟨rfl, rfl⟩
theorem refTake_any (s : ByteArray) (a c want size : Int) (w : World) (hs : (s.size : Int) ≤ 65536) : Calls Tryd.prog 11 #[.string s, .int .i64 a, .int .i64 c, .int .i64 want, .int .i64 size] w fun en w' => en = .returned (.tuple #[.int .i64 (tkE s a c want size).1, .int .i64 (tkE s a c want size).2]) ∧ w = w' := by
  unfold tkE
  by_cases h : mayT s a c size
  · rw [if_pos h]
    obtain ⟨h0, h1, h2, h3, h4, h5⟩ := h
    obtain ⟨k, rfl⟩ : ∃ k : Nat, a = (k : Int) := ⟨a.toNat, by omega⟩
    rw [Int.toNat_natCast]
    exact refTake_loop s k c want _ size w hs (by omega) h2 h3 h4 h5 rfl
  · rw [if_neg h]
    exact refTake_not s a c want size w h
set_option maxRecDepth 100000 in
set_option maxHeartbeats 2000000 in
theorem refIndent_loop (s : ByteArray) (a : Nat) (c size : Int) (w : World) (hs : (s.size : Int) ≤ 65536) (ha : a ≤ s.size) (hc0 : 0 ≤ c) (hc1 : c ≤ 1099511627776) (h1 : 1 ≤ size) (h2 : size ≤ 64) :
    Calls Tryd.prog 9 #[.string s, .int .i64 (a : Nat), .int .i64 c, .int .i64 size] w fun en w' => en = .returned (.tuple #[.int .i64 ((tkF s a c farC size).1 : Nat), .int .i64 (tkF s a c farC size).2]) ∧ w = w' := by
  have HM := Lib.hid (fun W => may_any s (a : Int) c size W)
  have hmay : mayT s (a : Int) c size := ⟨by omega, by omega, hc0, hc1, h1, h2⟩
  rw [decide_eq_true hmay] at HM
  have HS := Lib.hid hs
  have H1 := Lib.hid (And.intro h1 h2)
  obtain ⟨P, hP⟩ : ∃ P, (tkF s a c farC size).1 = P := ⟨_, rfl⟩
  obtain ⟨Q, hQ⟩ : ∃ Q, (tkF s a c farC size).2 = Q := ⟨_, rfl⟩
  rw [hP, hQ]
  have HT := Lib.hid (show goF s size farC (s.size - a) a c = (P, Q) by rw [← hP, ← hQ]; rfl)
  have HC := Lib.hid (show 0 ≤ c ∧ c ≤ 1099511627776 + 64 * (a : Int) by omega)
  have HA := Lib.hid ha
  have hz : ¬ size = 0 := by omega
  clear hmay hP hQ hs ha hc0 hc1
  go_enter Tryd.func9, Tryd.ntmps9
  go_wp2_with (go_at_call 16; ((with_reducible refine (HM.out _).mono ?_); rintro e1 w1 ⟨rfl, rfl⟩))
  go_loopg [1, 2] (s.size - a) (fun g av cv wr => w = wr ∧ ∃ (p : Nat) (q : Int), g = s.size - p ∧ av = .int .i64 (p : Nat) ∧ cv = .int .i64 q ∧ Hid (p ≤ s.size) ∧ Hid (0 ≤ q ∧ q ≤ 1099511627776 + 64 * (p : Int)) ∧ Hid (goF s size farC (s.size - p) p q = (P, Q)))
  case atStart => exact ⟨rfl, a, c, rfl, rfl, rfl, HA, HC, HT⟩
  case round =>
    obtain ⟨rfl, p, q, hg, rfl, rfl, HPs, HQs, HR⟩ := hrel
    have HG := Lib.hid hg
    clear hg
    have hfar : farC = 2199023255552 := rfl
    by_cases hlt : p < s.size
    · obtain ⟨x, hx⟩ : ∃ x, s[p].toNat = x := ⟨_, rfl⟩
      have hbx : bt s p = x := by rw [← bt_eq hlt]; exact hx
      have hpp : (p : Int) < s.size := by omega
      have hp0 : (0 : Int) ≤ p := by omega
      have hq := HQs.out
      have hss := HS.out
      have h12 := H1.out
      have e2 : IntKind.i64.wrap ((p : Int) + 1) = (p : Int) + 1 := IntWalk.i64_in _ (by omega)
      by_cases h32 : x = 32
      · subst h32
        have hn : nxC (bt s p) q size = some (q + 1) := nxC_sp hbx
        have e1 : IntKind.i64.wrap (q + 1) = q + 1 := IntWalk.i64_in _ (by omega)
        have HR2 := Lib.hid ((goF_step hlt hn (by omega)).symm.trans HR.out)
        have HQ2 := Lib.hid (show 0 ≤ q + 1 ∧ q + 1 ≤ 1099511627776 + 64 * ((p + 1 : Nat) : Int) by omega)
        have HP2 := Lib.hid (show p + 1 ≤ s.size from hlt)
        have HLt := Lib.hid hlt
        clear hbx hn hq hss h12 hfar
        go_wp2
        go_roundg (s.size - (p + 1))
        case measure => rw [HG.out]; have := HLt.out; omega
        case rel => exact ⟨rfl, p + 1, q + 1, rfl, by go_num, rfl, HP2, HQ2, HR2⟩
      · have f32 : ((x : Int) == 32) = false := beq_false_of_ne (by omega)
        by_cases h9 : x = 9
        · subst h9
          have hn : nxC (bt s p) q size = some ((q / size + 1) * size) := nxC_tb hbx
          obtain ⟨j1, j2, -⟩ := nxC_up h12.1 h12.2 hn
          obtain ⟨d, hd⟩ : ∃ d, (q / size + 1) * size = d := ⟨_, rfl⟩
          have hqs : 0 ≤ q / size ∧ q / size ≤ q := ⟨Int.ediv_nonneg hq.1 (by omega), Int.ediv_le_self _ hq.1⟩
          have e3 : IntKind.i64.wrap (q / size + 1) = q / size + 1 := IntWalk.i64_in _ (by omega)
          rw [hd] at hn j1 j2
          have e4 : IntKind.i64.wrap ((q / size + 1) * size) = d := by rw [hd]; exact IntWalk.i64_in _ (by omega)
          have e5 : Int.tdiv q size = q / size := Int.tdiv_eq_ediv_of_nonneg hq.1
          have e6 : IntKind.i64.wrap (q / size) = q / size := IntWalk.i64_in _ (by omega)
          have HR2 := Lib.hid ((goF_step hlt hn (by omega)).symm.trans HR.out)
          have HQ2 := Lib.hid (show 0 ≤ d ∧ d ≤ 1099511627776 + 64 * ((p + 1 : Nat) : Int) by omega)
          have HP2 := Lib.hid (show p + 1 ≤ s.size from hlt)
          have HLt := Lib.hid hlt
          clear hd hbx hn hq hss h12 hqs j1 j2 hfar
          go_wp2
          go_roundg (s.size - (p + 1))
          case measure => rw [HG.out]; have := HLt.out; omega
          case rel => exact ⟨rfl, p + 1, d, rfl, by go_num, rfl, HP2, HQ2, HR2⟩
        · have f9 : ((x : Int) == 9) = false := beq_false_of_ne (by omega)
          have hR := HR.out
          have hst := goF_stuck (s := s) (size := size) (e := farC) (c := q) (a := p) (by rw [hbx]; exact h32) (by rw [hbx]; exact h9) (s.size - p)
          rw [hst] at hR
          injection hR with k1 k2
          subst k1 k2
          clear hbx hq hss h12 hst hfar
          go_wp2
          go_ret2
          exact ⟨rfl, rfl⟩
    · have hR := HR.out
      rw [goF_zero (by omega)] at hR
      injection hR with k1 k2
      subst k1 k2
      have f0 : decide (p < s.size) = false := decide_eq_false hlt
      clear hlt hfar
      go_wp2
      go_ret2
      exact ⟨rfl, rfl⟩
set_option maxRecDepth 100000 in
set_option maxHeartbeats 2000000 in
theorem refIndent_not (s : ByteArray) (a c size : Int) (w : World) (h : ¬ mayT s a c size) : Calls Tryd.prog 9 #[.string s, .int .i64 a, .int .i64 c, .int .i64 size] w fun en w' => en = .returned (.tuple #[.int .i64 0, .int .i64 0]) ∧ w = w' := by
  have HM := Lib.hid (fun W => may_any s a c size W)
  rw [decide_eq_false h] at HM
  clear h
  go_enter Tryd.func9, Tryd.ntmps9
  go_wp2_with (go_at_call 16; ((with_reducible refine (HM.out _).mono ?_); rintro e1 w1 ⟨rfl, rfl⟩))
  go_ret2
  exact ⟨rfl, rfl⟩
theorem refIndent_any (s : ByteArray) (a c size : Int) (w : World) (hs : (s.size : Int) ≤ 65536) : Calls Tryd.prog 9 #[.string s, .int .i64 a, .int .i64 c, .int .i64 size] w fun en w' => en = .returned (.tuple #[.int .i64 (inE s a c size).1, .int .i64 (inE s a c size).2]) ∧ w = w' := by
  unfold inE
  by_cases h : mayT s a c size
  · rw [if_pos h]
    obtain ⟨h0, h1, h2, h3, h4, h5⟩ := h
    obtain ⟨k, rfl⟩ : ∃ k : Nat, a = (k : Int) := ⟨a.toNat, by omega⟩
    rw [Int.toNat_natCast]
    exact refIndent_loop s k c size w hs (by omega) h2 h3 h4 h5
  · rw [if_neg h]
    exact refIndent_not s a c size w h
end Go.Proofs.YtjlkdpnpkdchgaaDoor
