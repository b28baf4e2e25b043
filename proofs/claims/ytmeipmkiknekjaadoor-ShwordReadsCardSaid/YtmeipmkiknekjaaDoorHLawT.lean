/- ShwordTile walked. -/
import Derived.Test.YtmeipmkiknekjaaDoorHTil
import Derived.Test.YtmeipmkiknekjaaDoorHLawA
import Derived.Test.YtmeipmkiknekjaaDoorHTile
namespace Go.Proofs.YtmeipmkiknekjaaDoor
open Go.RowKit
set_option linter.unusedVariables false

theorem til_last {L : List Nat} {M : Nat} : ∀ {e : Bool} {p : Nat} {ps : List Pc}, Til L M e p ps → M ≠ 0 → ∀ (h : ps ≠ []), (ps.getLast h).whole = false ∧ (ps.getLast h).b = L.length
  | e, p, [], _, _, h => absurd rfl h
  | e, p, [x], ht, hM, h => by
    unfold Til at ht
    exact ht.2.2.2.2.2.2.2.2.1 rfl hM
  | e, p, x :: y :: r, ht, hM, h => by
    unfold Til at ht
    rw [List.getLast_cons (by simp)]
    exact til_last ht.2.2.2.2.2.2.2.2.2 hM (by simp)
def mk3 (m : Nat) : Prop := m = 0 ∨ m = 39 ∨ m = 34
theorem rd_mark {L : List Nat} : ∀ (k mk p : Nat), con L - p ≤ k → mk3 mk → mk3 (rd L mk p).2
  | k, mk, p, hk, hm => by
    by_cases hp : con L ≤ p
    · rw [rd_end hp]; exact hm
    · obtain ⟨h1, h2⟩ := rd_step (mk := mk) [] (by omega : p < con L)
      rw [h2]
      have hb := nx_b (mk := mk) [] (by omega : p < con L)
      have hmk : mk3 (nxH L p mk []).2.1 := by
        unfold nxH
        split
        · exact hm
        · unfold tk
          split
          · exact hm
          · split
            · exact hm
            · split
              · exact hm
              · exact (wd_all _ 0 _ (Nat.le_refl _) (.inl rfl)).2.2.1
      match k, hk with
      | 0, hk => omega
      | k + 1, hk => exact rd_mark k (nxH L p mk []).2.1 (nxH L p mk []).1 (by omega) hmk
theorem rdE_mark (L : List Nat) (p m : Nat) (hp : p ≤ con L) : mk3 (rdE L (p : Int) m).2 ∧ ((rdE L (p : Int) m).1 = [] → (rdE L (p : Int) m).2 = 0) := by
  rw [rdE_eq' L p m hp]
  split
  · rename_i hm
    have hm2 : m = 39 ∨ m = 34 := by unfold sgM at hm; simpa using hm
    exact ⟨rd_mark _ _ _ (Nat.le_refl _) (wd_all _ m _ (Nat.le_refl _) (.inr hm2)).2.2.1, fun h => by simp at h⟩
  · exact ⟨rd_mark _ _ _ (Nat.le_refl _) (.inl rfl), fun h => rd_nil _ _ _ (Nat.le_refl _) h⟩
theorem rd_len {L : List Nat} : ∀ (k mk p : Nat), con L - p ≤ k → (rd L mk p).1.length ≤ k
  | k, mk, p, hk => by
    by_cases hp : con L ≤ p
    · rw [rd_end hp]; exact Nat.zero_le _
    · obtain ⟨h1, h2⟩ := rd_step (mk := mk) [] (by omega : p < con L)
      rw [List.nil_append] at h1
      have hb := nx_b (mk := mk) [] (by omega : p < con L)
      match k, hk with
      | 0, hk => omega
      | k + 1, hk =>
        have ih := rd_len (L := L) k (nxH L p mk []).2.1 (nxH L p mk []).1 (by omega)
        rw [h1, List.length_append]
        have := hb.2.2
        simp only [List.length_nil] at this
        omega
theorem rdE_len (L : List Nat) (p m : Nat) (hp : p ≤ con L) : (rdE L (p : Int) m).1.length ≤ con L + 1 := by
  rw [rdE_eq' L p m hp]
  split
  · have := rd_len (L := L) _ (wd m (L.drop p)).2.2 (wpc L p m).b (Nat.le_refl _)
    simp only [List.length_cons]
    omega
  · have := rd_len (L := L) _ 0 p (Nat.le_refl _)
    omega

set_option maxRecDepth 100000 in
set_option maxHeartbeats 4000000 in
theorem tile_far (W : World) (hT : TabH W) (line : ByteArray) (x y : Int) (h : (16384 : Int) < line.size) : Calls Tryd.prog 5 #[.string line, .int .i64 x, .int .u8 y] W fun e w' => e = .returned (.bool true) ∧ Up W w' := by
  have HK := Lib.hid (wakes_any W hT)
  clear hT
  go_enter Tryd.func5, Tryd.ntmps5
  go_wp2_with (first
    | (go_at_call 8; ((with_reducible refine (HK.out).mono ?_); rintro e w3 ⟨rfl, hu⟩; have HU := Lib.hid hu; clear hu)))
  go_ret
  exact ⟨rfl, HU.out⟩
theorem con_lf {s : ByteArray} (h0 : 0 < s.size) (h1 : bt s (s.size - 1) = 10) : con (bl s) = s.size - 1 := by
  have hl : (bl s).getLast? = some 10 := by rw [List.getLast?_eq_getElem?, bl_len, bl_at (by omega), h1]
  rw [con_last, hl, if_pos rfl, bl_len]
theorem con_no {s : ByteArray} (h : s.size = 0 ∨ bt s (s.size - 1) ≠ 10) : con (bl s) = s.size := by
  by_cases h0 : s.size = 0
  · have : bl s = [] := List.eq_nil_of_length_eq_zero (by rw [bl_len]; exact h0)
    rw [this, h0]
    rfl
  · have hl : (bl s).getLast? = some (bt s (s.size - 1)) := by rw [List.getLast?_eq_getElem?, bl_len, bl_at (by omega)]
    rw [con_last, hl, if_neg (by simpa using h.resolve_left h0), bl_len]
set_option maxRecDepth 100000 in
set_option maxHeartbeats 4000000 in
theorem tile_out_lf (W : World) (hT : TabH W) (line : ByteArray) (x : Int) (m : Nat) (hs : (line.size : Int) ≤ 16384) (h0 : 0 < line.size) (h1 : bt line (line.size - 1) = 10) (ho : x < 0 ∨ (con (bl line) : Int) < x) : Calls Tryd.prog 5 #[.string line, .int .i64 x, .int .u8 (m : Nat)] W fun e w' => e = .returned (.bool true) ∧ Up W w' := by
  have HR := Lib.hid (read_any W hT line x m (by omega))
  rw [show rdE (bl line) x m = ([], 0) from by unfold rdE; rw [if_pos ho]] at HR
  have HK := Lib.hid (fun w (h : TabH w) => wakes_any w h)
  have HT := Lib.hid hT
  have f0 : ¬ ((16384 : Int) < line.size) := by omega
  have f1 : decide ((16384 : Int) < line.size) = false := decide_eq_false f0
  have hcon := con_lf h0 h1
  obtain ⟨z, hz⟩ : ∃ z, line.size = z + 1 := ⟨line.size - 1, by omega⟩
  rw [show line.size - 1 = z from by omega] at h1 hcon
  have hzl : z < line.size := by omega
  have hzi : (z : Int) < line.size := by omega
  have hz0 : (0 : Int) ≤ (z : Int) := by omega
  have hp0 : (0 : Int) < line.size := by omega
  have hez : IntKind.i64.wrap ((line.size : Int) - 1) = (z : Nat) := (IntWalk.i64_in _ (by omega)).trans (by omega)
  have hx : line[z].toNat = 10 := by rw [bt_eq hzl]; exact h1
  have HZ := Lib.hid hz
  clear hz
  rw [hcon] at ho
  have hcase : x < 0 ∨ (¬ x < 0 ∧ ((z : Nat) : Int) < x) := by omega
  clear hT hcon ho
  rcases hcase with g0 | ⟨g0, g1⟩
  case' inr => have g2 : decide (x < 0) = false := decide_eq_false g0
  all_goals
    go_enter Tryd.func5, Tryd.ntmps5
    go_wp2_with (first
      | (go_at_call 9; ((with_reducible refine (HR.out).mono ?_); rintro e w1 ⟨⟨v, rfl, hrow⟩, hu⟩; obtain ⟨A, c, rfl⟩ := own_slice hrow; have HU := Lib.hid hu; clear hrow hu))
      | (go_at_call 8; ((with_reducible refine (HK.out _ (HT.out.up HU.out)).mono ?_); rintro e w3 ⟨rfl, hu⟩; have HU := Lib.hid (HU.out.trans hu); clear hu)))
    go_ret
    exact ⟨rfl, HU.out⟩
set_option maxRecDepth 100000 in
set_option maxHeartbeats 4000000 in
theorem tile_out_no (W : World) (hT : TabH W) (line : ByteArray) (x : Int) (m : Nat) (hs : (line.size : Int) ≤ 16384) (h0 : 0 < line.size) (h1 : bt line (line.size - 1) ≠ 10) (ho : x < 0 ∨ (con (bl line) : Int) < x) : Calls Tryd.prog 5 #[.string line, .int .i64 x, .int .u8 (m : Nat)] W fun e w' => e = .returned (.bool true) ∧ Up W w' := by
  have HR := Lib.hid (read_any W hT line x m (by omega))
  rw [show rdE (bl line) x m = ([], 0) from by unfold rdE; rw [if_pos ho]] at HR
  have HK := Lib.hid (fun w (h : TabH w) => wakes_any w h)
  have HT := Lib.hid hT
  have f0 : ¬ ((16384 : Int) < line.size) := by omega
  have f1 : decide ((16384 : Int) < line.size) = false := decide_eq_false f0
  have hcon := con_no (.inr h1)
  obtain ⟨z, hz⟩ : ∃ z, line.size = z + 1 := ⟨line.size - 1, by omega⟩
  rw [show line.size - 1 = z from by omega] at h1
  have hzl : z < line.size := by omega
  have hzi : (z : Int) < line.size := by omega
  have hz0 : (0 : Int) ≤ (z : Int) := by omega
  have hp0 : (0 : Int) < line.size := by omega
  have hez : IntKind.i64.wrap ((line.size : Int) - 1) = (z : Nat) := (IntWalk.i64_in _ (by omega)).trans (by omega)
  obtain ⟨y, hy⟩ : ∃ y, bt line z = y := ⟨_, rfl⟩
  have hx : line[z].toNat = y := by rw [bt_eq hzl]; exact hy
  rw [hy] at h1
  have hyn : ((y : Int) == 10) = false := beq_eq_false_iff_ne.2 (by omega)
  clear hy
  have HZ := Lib.hid hz
  clear hz
  rw [hcon] at ho
  have hcase : x < 0 ∨ (¬ x < 0 ∧ ((line.size : Nat) : Int) < x) := by omega
  clear hT hcon ho
  rcases hcase with g0 | ⟨g0, g1⟩
  case' inr => have g2 : decide (x < 0) = false := decide_eq_false g0
  all_goals
    go_enter Tryd.func5, Tryd.ntmps5
    go_wp2_with (first
      | (go_at_call 9; ((with_reducible refine (HR.out).mono ?_); rintro e w1 ⟨⟨v, rfl, hrow⟩, hu⟩; obtain ⟨A, c, rfl⟩ := own_slice hrow; have HU := Lib.hid hu; clear hrow hu))
      | (go_at_call 8; ((with_reducible refine (HK.out _ (HT.out.up HU.out)).mono ?_); rintro e w3 ⟨rfl, hu⟩; have HU := Lib.hid (HU.out.trans hu); clear hu)))
    go_ret
    exact ⟨rfl, HU.out⟩
set_option maxRecDepth 100000 in
set_option maxHeartbeats 4000000 in
theorem tile_out_em (W : World) (hT : TabH W) (line : ByteArray) (x : Int) (m : Nat) (hs : (line.size : Int) ≤ 16384) (h0 : line.size = 0) (ho : x < 0 ∨ (con (bl line) : Int) < x) : Calls Tryd.prog 5 #[.string line, .int .i64 x, .int .u8 (m : Nat)] W fun e w' => e = .returned (.bool true) ∧ Up W w' := by
  have HR := Lib.hid (read_any W hT line x m (by omega))
  rw [show rdE (bl line) x m = ([], 0) from by unfold rdE; rw [if_pos ho]] at HR
  have HK := Lib.hid (fun w (h : TabH w) => wakes_any w h)
  have HT := Lib.hid hT
  have f0 : ¬ ((16384 : Int) < line.size) := by omega
  have f1 : decide ((16384 : Int) < line.size) = false := decide_eq_false f0
  have hcon := con_no (.inl h0)
  have hp0 : ¬ ((0 : Int) < line.size) := by omega
  have hp1 : decide ((0 : Int) < line.size) = false := decide_eq_false hp0
  have hp2 : decide (0 < line.size) = false := decide_eq_false (by omega)
  have HZ := Lib.hid h0
  clear h0
  rw [hcon] at ho
  have hcase : x < 0 ∨ (¬ x < 0 ∧ ((line.size : Nat) : Int) < x) := by omega
  clear hT hcon ho
  rcases hcase with g0 | ⟨g0, g1⟩
  case' inr => have g2 : decide (x < 0) = false := decide_eq_false g0
  all_goals
    go_enter Tryd.func5, Tryd.ntmps5
    go_wp2_with (first
      | (go_at_call 9; ((with_reducible refine (HR.out).mono ?_); rintro e w1 ⟨⟨v, rfl, hrow⟩, hu⟩; obtain ⟨A, c, rfl⟩ := own_slice hrow; have HU := Lib.hid hu; clear hrow hu))
      | (go_at_call 8; ((with_reducible refine (HK.out _ (HT.out.up HU.out)).mono ?_); rintro e w3 ⟨rfl, hu⟩; have HU := Lib.hid (HU.out.trans hu); clear hu)))
    go_ret
    exact ⟨rfl, HU.out⟩
theorem blank_at (line : ByteArray) (u v : Nat) (X : Bool) (hs : (line.size : Int) ≤ 1000000) (hX : (((bl line).take v).drop u).all isW = X) (w : World) : Calls Tryd.prog 14 #[.string (line.extract u v)] w fun e w' => e = .returned (.bool X) ∧ w = w' := by
  have hz : ((line.extract u v).size : Int) ≤ 1000000 := by
    have : (line.extract u v).size ≤ line.size := by rw [ByteArray.size_extract]; omega
    omega
  have h := blank_any (line.extract u v) w hz
  rw [bl_extract, hX] at h
  exact h
set_option maxRecDepth 100000 in
set_option maxHeartbeats 16000000 in
theorem tile_in_lf (W : World) (hT : TabH W) (line : ByteArray) (p m : Nat) (hs : (line.size : Int) ≤ 16384) (h0 : 0 < line.size) (h1 : bt line (line.size - 1) = 10) (hp : p ≤ con (bl line)) : Calls Tryd.prog 5 #[.string line, .int .i64 (p : Nat), .int .u8 (m : Nat)] W fun e w' => e = .returned (.bool true) ∧ Up W w' := by
  have HR := Lib.hid (read_any W hT line (p : Int) m (by omega))
  have hTil := til_all (bl line) p m hp
  have hMK := rdE_mark (bl line) p m hp
  have hLen := rdE_len (bl line) p m hp
  obtain ⟨PS, hPS⟩ : ∃ PS, (rdE (bl line) (p : Int) m).1 = PS := ⟨_, rfl⟩
  obtain ⟨M, hM⟩ : ∃ M, (rdE (bl line) (p : Int) m).2 = M := ⟨_, rfl⟩
  rw [hPS, hM] at HR hTil hMK
  rw [hPS] at hLen
  have HK := Lib.hid (fun w (h : TabH w) => wakes_any w h)
  have HT := Lib.hid hT
  have HBL := Lib.hid (fun (u v : Nat) (X : Bool) (hX : (((bl line).take v).drop u).all isW = X) w => blank_at line u v X (by omega) hX w)
  have f0 : ¬ ((16384 : Int) < line.size) := by omega
  have f1 : decide ((16384 : Int) < line.size) = false := decide_eq_false f0
  have hcl := con_le (bl line)
  rw [bl_len] at hcl
  have HCL := Lib.hid hcl
  have HS := Lib.hid hs
  have hcon := con_lf h0 h1
  obtain ⟨z, hz⟩ : ∃ z, line.size = z + 1 := ⟨line.size - 1, by omega⟩
  rw [show line.size - 1 = z from by omega] at h1 hcon
  have hzl : z < line.size := by omega
  have hzi : (z : Int) < line.size := by omega
  have hz0 : (0 : Int) ≤ (z : Int) := by omega
  have hp0 : (0 : Int) < line.size := by omega
  have hez : IntKind.i64.wrap ((line.size : Int) - 1) = (z : Nat) := (IntWalk.i64_in _ (by omega)).trans (by omega)
  have hx : line[z].toNat = 10 := by rw [bt_eq hzl]; exact h1
  have HZ := Lib.hid hz
  clear hz
  rw [hcon] at hp hLen
  have HN := Lib.hid hcon
  have g0 : ¬ ((p : Int) < 0) := by omega
  have g1 : ¬ (((z : Nat) : Int) < (p : Int)) := by omega
  have g2 : decide (((z : Nat) : Int) < (p : Int)) = false := decide_eq_false g1
  have g3 : decide (z < p) = false := decide_eq_false (by omega)
  have HP := Lib.hid (show p ≤ line.size from by omega)
  have HTL := Lib.hid (show Til (bl line) M (decide (0 = 0) && sgM m) p (PS.drop 0) from by rw [List.drop_zero]; simpa using hTil)
  have HTLL := Lib.hid hTil
  have HMK := Lib.hid hMK
  have HLEN := Lib.hid (show PS.length ≤ 1000000 from by omega)
  clear hT hPS hM hTil hMK hLen hcon hs hp hcl
  go_enter Tryd.func5, Tryd.ntmps5
  go_wp2_with (first
      | (go_at_call 9; ((with_reducible refine (HR.out).mono ?_); rintro e w1 ⟨⟨v, rfl, hrow⟩, hu⟩; obtain ⟨A, c, rfl⟩ := own_slice hrow; have HROW := Lib.hid hrow; have HU := Lib.hid hu; clear hrow hu)))
  clear f0 f1 g0 g1 g2 g3 HR
  go_loopg [1, 10] PS.length (fun g u1 u10 wr => ∃ (i q : Nat), i ≤ PS.length ∧ g = PS.length - i ∧ u1 = .int .i64 (q : Nat) ∧ u10 = .int .i64 (i : Nat) ∧ Hid (Up w1 wr) ∧ Hid (q ≤ line.size) ∧ Hid (Til (bl line) M (decide (i = 0) && sgM m) q (PS.drop i)))
  case atStart => exact ⟨0, p, Nat.zero_le _, by simp, rfl, rfl, Lib.hid (Up.refl _), HP, HTL⟩
  case round =>
    clear HTL HP
    obtain ⟨i, q, hi, hg, rfl, rfl, HU1, HQ, HTL⟩ := hrel
    have HG := Lib.hid hg
    clear hg
    by_cases hlt : i < PS.length
    · have hne : PS ≠ [] := fun e => by rw [e] at hlt; exact absurd hlt (Nat.not_lt_zero _)
      obtain ⟨g, c', hv, hg0, hg1, hc⟩ := rowP_cells HROW.out hne
      injection hv with hv1 hv2 hv3
      subst hv1
      have htl := HTL.out
      rw [List.drop_eq_getElem_cons hlt] at htl
      unfold Til at htl
      obtain ⟨t1, t2, t3, t4, t5, t6, t7, t8, t9, t10⟩ := htl
      have c0 : wr.cell? ⟨g, i * 6, none⟩ = some (.int .u8 (PS[i].kind : Nat)) := cell_up HU1.out (hc i hlt 0 _ rfl)
      have c1 : wr.cell? ⟨g, i * 6 + 1, none⟩ = some (.int .i64 (PS[i].a : Nat)) := cell_up HU1.out (hc i hlt 1 _ rfl)
      have c2 : wr.cell? ⟨g, i * 6 + 2, none⟩ = some (.int .i64 (PS[i].b : Nat)) := cell_up HU1.out (hc i hlt 2 _ rfl)
      have c3 : wr.cell? ⟨g, i * 6 + 3, none⟩ = some (.string (toB PS[i].text)) := cell_up HU1.out (hc i hlt 3 _ rfl)
      have c4 : wr.cell? ⟨g, i * 6 + 4, none⟩ = some (.bool PS[i].raw) := cell_up HU1.out (hc i hlt 4 _ rfl)
      have c5 : wr.cell? ⟨g, i * 6 + 5, none⟩ = some (.bool PS[i].whole) := cell_up HU1.out (hc i hlt 5 _ rfl)
      have htz := toB_len PS[i].text
      obtain ⟨x, hx0⟩ : ∃ x, PS[i] = x := ⟨_, rfl⟩
      rw [hx0] at t1 t2 t3 t4 t5 t6 t7 t8 t9 t10 c0 c1 c2 c3 c4 c5 htz
      obtain ⟨kd, xa, xb, tx, rw1, wh⟩ := x
      simp only [] at t1 t2 t3 t4 t5 t6 t7 t8 t9 t10 c0 c1 c2 c3 c4 c5 htz
      rw [bl_len] at t3
      obtain ⟨X, hX⟩ : ∃ X, toB tx = X := ⟨_, rfl⟩
      rw [hX] at c3 htz
      have HTN := Lib.hid (show Til (bl line) M (decide (i + 1 = 0) && sgM m) xb (PS.drop (i + 1)) from by rw [show (decide (i + 1 = 0) && sgM m) = false from by simp]; exact t10)
      have HB1 := Lib.hid (HBL.out q xa true t5)
      have HXB := Lib.hid t3
      have d0 : (wr.alloc (.cells #[.int .u8 (kd : Nat), .int .i64 (xa : Nat), .int .i64 (xb : Nat), .string X, .bool rw1, .bool wh] PT)).cell? ⟨wr.heap.size, 0, none⟩ = some (.int .u8 (kd : Nat)) := cellOf (Go.heap_alloc_new _ _) rfl
      have d1 : (wr.alloc (.cells #[.int .u8 (kd : Nat), .int .i64 (xa : Nat), .int .i64 (xb : Nat), .string X, .bool rw1, .bool wh] PT)).cell? ⟨wr.heap.size, 1, none⟩ = some (.int .i64 (xa : Nat)) := cellOf (Go.heap_alloc_new _ _) rfl
      have d2 : (wr.alloc (.cells #[.int .u8 (kd : Nat), .int .i64 (xa : Nat), .int .i64 (xb : Nat), .string X, .bool rw1, .bool wh] PT)).cell? ⟨wr.heap.size, 2, none⟩ = some (.int .i64 (xb : Nat)) := cellOf (Go.heap_alloc_new _ _) rfl
      have d3 : (wr.alloc (.cells #[.int .u8 (kd : Nat), .int .i64 (xa : Nat), .int .i64 (xb : Nat), .string X, .bool rw1, .bool wh] PT)).cell? ⟨wr.heap.size, 3, none⟩ = some (.string X) := cellOf (Go.heap_alloc_new _ _) rfl
      have d4 : (wr.alloc (.cells #[.int .u8 (kd : Nat), .int .i64 (xa : Nat), .int .i64 (xb : Nat), .string X, .bool rw1, .bool wh] PT)).cell? ⟨wr.heap.size, 4, none⟩ = some (.bool rw1) := cellOf (Go.heap_alloc_new _ _) rfl
      have d5 : (wr.alloc (.cells #[.int .u8 (kd : Nat), .int .i64 (xa : Nat), .int .i64 (xb : Nat), .string X, .bool rw1, .bool wh] PT)).cell? ⟨wr.heap.size, 5, none⟩ = some (.bool wh) := cellOf (Go.heap_alloc_new _ _) rfl
      have hcat : ∀ {P : Prop}, ((xa < xb → P) → (¬ xa < xb → i = 0 → m = 39 → P) → (¬ xa < xb → i = 0 → m = 34 → P) → P) := fun {P} k1 k2 k3 => by
        by_cases hab : xa < xb
        · exact k1 hab
        · have h4 := t4.resolve_right hab
          simp only [Bool.and_eq_true, decide_eq_true_eq] at h4
          have hm2 : m = 39 ∨ m = 34 := by have := h4.2; unfold sgM at this; simpa using this
          rcases hm2 with h | h
          · exact k2 hab h4.1 h
          · exact k3 hab h4.1 h
      have a1 : ¬ ((xa : Int) < (q : Int)) := by omega
      have a2 : ¬ ((xb : Int) < (xa : Int)) := by omega
      have a3 : ¬ ((line.size : Int) < (xb : Int)) := by omega
      have a4 : IntKind.i64.wrap ((xb : Int) - (xa : Int)) = (xb : Int) - (xa : Int) := IntWalk.i64_in _ (by have := HS.out; omega)
      have a5 : ¬ ((xb : Int) - (xa : Int) < (X.size : Int)) := by omega
      have a6 : IntKind.i64.wrap ((i : Int) + 1) = (i : Int) + 1 := IntWalk.i64_in _ (by have := HLEN.out; omega)
      have a7 : IntKind.i64.wrap ((PS.length : Int) - 1) = (PS.length : Int) - 1 := IntWalk.i64_in _ (by have := HLEN.out; omega)
      have b0 : (0 : Int) ≤ (q : Int) := by omega
      have b1 : (q : Int) ≤ (xa : Int) := by omega
      have b2 : (xa : Int) ≤ line.size := by omega
      have b3 : q ≤ xa := t1
      have b4 : xa ≤ line.size := by omega
      have b5 : (0 : Int) ≤ (i : Int) := by omega
      have b6 : (i : Int) < (PS.length : Int) := by omega
      have hE : (((xa : Int) == (xb : Int)) = false) ∨ (((xa : Int) == (xb : Int)) = true ∧ decide (0 < i) = false ∧ ((m : Int) == 39) = true) ∨ (((xa : Int) == (xb : Int)) = true ∧ decide (0 < i) = false ∧ ((m : Int) == 39) = false ∧ ((m : Int) == 34) = true) := by
        refine hcat (fun h => .inl (beq_eq_false_iff_ne.2 (by omega))) (fun h1 h2 h3 => .inr (.inl ⟨beq_iff_eq.2 (by omega), decide_eq_false (by omega), beq_iff_eq.2 (by omega)⟩)) (fun h1 h2 h3 => .inr (.inr ⟨beq_iff_eq.2 (by omega), decide_eq_false (by omega), beq_eq_false_iff_ne.2 (by omega), beq_iff_eq.2 (by omega)⟩))
      obtain ⟨B, hB⟩ : ∃ B, ((kd : Int) == 51) = B := ⟨_, rfl⟩
      have hK : B = true ∨ (B = false ∧ X = ⟨#[]⟩ ∧ rw1 = false ∧ wh = false) := by
        by_cases hk : kd = 51
        · exact .inl (by rw [← hB]; exact beq_iff_eq.2 (by omega))
        · obtain ⟨s1, s2, s3⟩ := t6 hk
          refine .inr ⟨by rw [← hB]; exact beq_eq_false_iff_ne.2 (by omega), ?_, s2, s3⟩
          rw [← hX, s1]
          rfl
      have hF : xb ≤ z ∨ (z < xb ∧ i + 1 = PS.length ∧ (kd = 54 ∨ (kd ≠ 54 ∧ B = true ∧ M ≠ 0))) := by
        by_cases h : xb ≤ z
        · exact .inl h
        · obtain ⟨r1, r2⟩ := t8 (by rw [HN.out]; omega)
          have r3 := congrArg List.length r1
          rw [List.length_drop] at r3
          simp only [List.length_nil] at r3
          refine .inr ⟨by omega, by omega, ?_⟩
          rcases r2 with r2 | ⟨r2, r4⟩
          · exact .inl r2
          · exact .inr ⟨by omega, by rw [← hB]; exact beq_iff_eq.2 (by omega), r4⟩
      have HLT := Lib.hid hlt
      have H13 := Lib.hid (And.intro t1 (And.intro t2 t3))
      have H16 := Lib.hid (show X.size ≤ xb - xa from by omega)
      have HE := Lib.hid hE
      have HK2 := Lib.hid hK
      have HF := Lib.hid hF
      have HD := Lib.hid (And.intro d0 (And.intro d1 (And.intro d2 (And.intro d3 (And.intro d4 d5)))))
      clear t1 t2 t3 t4 t5 t6 t7 t8 t9 t10 htz hne hc hg0 hg1 hx0 hi hv2 hv3 hcat hX hE hK hF a1 a2 a3 a4 a5 a7 b0 b1 b2 b3 b4 d1 d3 d4 d5
      go_upto_region 13 with fail
      refine tile13 HD.out.2.1 HD.out.2.2.1 H13.out.1 H13.out.2.1 H13.out.2.2 HB1.out HE.out _ ?_
      intro y64 y65 y66 y67 y68 y69 y70 y71 y72 y73 y74 y75 y76 y77 y78 y79 y80 y81 y82 y83 y84 y85 y86 y87 y88 y89 y90 y91 y92 y93 y94 y95 y96 y97 y98 y99 y100 y101 y102 y103 y104 y105 y106 y107 y108
      go_upto_region 16 with fail
      refine tile16 HD.out.2.1 HD.out.2.2.1 HD.out.2.2.2.1 HD.out.2.2.2.2.1 HD.out.2.2.2.2.2 H13.out.2.1 (by have := H13.out.2.2; have := HS.out; omega) H16.out HK2.out _ ?_
      intro y113 y114 y115 y116 y117 y118 y119 y120 y121 y122 y123 y124 y125 y126 y127 y128 y129 y130 y131 y132 y133 y134 y135 y136 y137
      go_upto_region 18 with fail
      refine tile18 HD.out.1 HD.out.2.2.1 HLEN.out (by have := HLT.out; omega) HF.out _ ?_
      intro y139 y140 y141 y142 y143 y144 y145 y146 y147 y148 y149 y150 y151 y152 y153 y154 y155 y156 y157 y158 y159 y160 y161
      go_wp2
      go_roundg (PS.length - (i + 1))
      case measure => rw [HG.out]; have := HLT.out; omega
      case rel => exact ⟨i + 1, xb, HLT.out, rfl, rfl, by go_num, Lib.hid (HU1.out.trans (Up.alloc _ _)), HXB, HTN⟩
    · obtain rfl : i = PS.length := by omega
      have htl := HTL.out
      rw [List.drop_of_length_le (Nat.le_refl _)] at htl
      unfold Til at htl
      rw [HN.out] at htl
      have l1 : ¬ ((PS.length : Int) < (PS.length : Int)) := by omega
      have hM21 : M = 0 ∨ ((M = 39 ∨ M = 34) ∧ ∃ g j, A = some ⟨g, 0, none⟩ ∧ PS.length = j + 1 ∧ wr.cell? ⟨g, j * 6 + 5, none⟩ = some (.bool false) ∧ wr.cell? ⟨g, j * 6 + 2, none⟩ = some (.int .i64 (line.size : Nat))) := by
        rcases HMK.out.1 with h | h
        · exact .inl h
        · have hM0 : M ≠ 0 := by omega
          have hne : PS ≠ [] := fun e => hM0 (HMK.out.2 e)
          obtain ⟨g, c', hv, hg0, hg1, hc⟩ := rowP_cells HROW.out hne
          injection hv with hv1 hv2 hv3
          obtain ⟨j, hj⟩ : ∃ j, PS.length = j + 1 := ⟨PS.length - 1, by have := List.length_pos_iff.2 hne; omega⟩
          obtain ⟨q1, q2⟩ := til_last HTLL.out hM0 hne
          have hgl : PS.getLast hne = PS[j]'(by omega) := by rw [List.getLast_eq_getElem]; congr 1; omega
          rw [hgl] at q1 q2
          rw [bl_len] at q2
          refine .inr ⟨h, g, j, hv1, hj, ?_, ?_⟩
          · rw [← q1]; exact cell_up HU1.out (hc j (by omega) 5 _ rfl)
          · rw [← q2]; exact cell_up HU1.out (hc j (by omega) 2 _ rfl)
      obtain ⟨qm, hqm⟩ : ∃ qm, min q (z) = qm := ⟨_, rfl⟩
      rw [hqm] at htl
      have hmin : min (q : Int) ((z : Nat) : Int) = (qm : Nat) := by omega
      have b0 : (0 : Int) ≤ (qm : Int) := by omega
      have b1 : (qm : Int) ≤ ((z : Nat) : Int) := by omega
      have b2 : ((z : Nat) : Int) ≤ line.size := by have := HCL.out; have := HN.out; omega
      have b3 : qm ≤ z := by omega
      have b4 : z ≤ line.size := by omega
      have HB2 := Lib.hid (HBL.out qm (z) true htl)
      have HM21 := Lib.hid hM21
      have HU := Lib.hid (HU.out.trans HU1.out)
      clear htl hM21 hqm
      go_upto_region 21 with fail
      refine tile21 HLEN.out HM21.out _ ?_
      intro y165 y166 y167 y168 y169 y170 y171 y172 y173 y174 y175 y176 y177 y178 y179 y180 y181 y182 y183 y184 y185 y186 y187 y188 y189 y190 y191 y192 y193 y194 y195 y196 y197 y198 y199
      go_wp2_with (first
        | (go_at_call 14; ((with_reducible refine (HB2.out _).mono ?_); rintro e w4 ⟨rfl, rfl⟩))
        | (go_at_call 8; ((with_reducible refine (HK.out _ (HT.out.up HU.out)).mono ?_); rintro e w3 ⟨rfl, hu⟩; have HU := Lib.hid (HU.out.trans hu); clear hu)))
      go_ret
      exact ⟨rfl, HU.out⟩
set_option maxRecDepth 100000 in
set_option maxHeartbeats 16000000 in
theorem tile_in_no (W : World) (hT : TabH W) (line : ByteArray) (p m : Nat) (hs : (line.size : Int) ≤ 16384) (h0 : 0 < line.size) (h1 : bt line (line.size - 1) ≠ 10) (hp : p ≤ con (bl line)) : Calls Tryd.prog 5 #[.string line, .int .i64 (p : Nat), .int .u8 (m : Nat)] W fun e w' => e = .returned (.bool true) ∧ Up W w' := by
  have HR := Lib.hid (read_any W hT line (p : Int) m (by omega))
  have hTil := til_all (bl line) p m hp
  have hMK := rdE_mark (bl line) p m hp
  have hLen := rdE_len (bl line) p m hp
  obtain ⟨PS, hPS⟩ : ∃ PS, (rdE (bl line) (p : Int) m).1 = PS := ⟨_, rfl⟩
  obtain ⟨M, hM⟩ : ∃ M, (rdE (bl line) (p : Int) m).2 = M := ⟨_, rfl⟩
  rw [hPS, hM] at HR hTil hMK
  rw [hPS] at hLen
  have HK := Lib.hid (fun w (h : TabH w) => wakes_any w h)
  have HT := Lib.hid hT
  have HBL := Lib.hid (fun (u v : Nat) (X : Bool) (hX : (((bl line).take v).drop u).all isW = X) w => blank_at line u v X (by omega) hX w)
  have f0 : ¬ ((16384 : Int) < line.size) := by omega
  have f1 : decide ((16384 : Int) < line.size) = false := decide_eq_false f0
  have hcl := con_le (bl line)
  rw [bl_len] at hcl
  have HCL := Lib.hid hcl
  have HS := Lib.hid hs
  have hcon := con_no (.inr h1)
  obtain ⟨z, hz⟩ : ∃ z, line.size = z + 1 := ⟨line.size - 1, by omega⟩
  rw [show line.size - 1 = z from by omega] at h1
  have hzl : z < line.size := by omega
  have hzi : (z : Int) < line.size := by omega
  have hz0 : (0 : Int) ≤ (z : Int) := by omega
  have hp0 : (0 : Int) < line.size := by omega
  have hez : IntKind.i64.wrap ((line.size : Int) - 1) = (z : Nat) := (IntWalk.i64_in _ (by omega)).trans (by omega)
  obtain ⟨y, hy⟩ : ∃ y, bt line z = y := ⟨_, rfl⟩
  have hx : line[z].toNat = y := by rw [bt_eq hzl]; exact hy
  rw [hy] at h1
  have hyn : ((y : Int) == 10) = false := beq_eq_false_iff_ne.2 (by omega)
  clear hy
  have HZ := Lib.hid hz
  clear hz
  rw [hcon] at hp hLen
  have HN := Lib.hid hcon
  have g0 : ¬ ((p : Int) < 0) := by omega
  have g1 : ¬ (((line.size : Nat) : Int) < (p : Int)) := by omega
  have g2 : decide (((line.size : Nat) : Int) < (p : Int)) = false := decide_eq_false g1
  have g3 : decide (line.size < p) = false := decide_eq_false (by omega)
  have HP := Lib.hid (show p ≤ line.size from by omega)
  have HTL := Lib.hid (show Til (bl line) M (decide (0 = 0) && sgM m) p (PS.drop 0) from by rw [List.drop_zero]; simpa using hTil)
  have HTLL := Lib.hid hTil
  have HMK := Lib.hid hMK
  have HLEN := Lib.hid (show PS.length ≤ 1000000 from by omega)
  clear hT hPS hM hTil hMK hLen hcon hs hp hcl
  go_enter Tryd.func5, Tryd.ntmps5
  go_wp2_with (first
      | (go_at_call 9; ((with_reducible refine (HR.out).mono ?_); rintro e w1 ⟨⟨v, rfl, hrow⟩, hu⟩; obtain ⟨A, c, rfl⟩ := own_slice hrow; have HROW := Lib.hid hrow; have HU := Lib.hid hu; clear hrow hu)))
  clear f0 f1 g0 g1 g2 g3 HR
  go_loopg [1, 10] PS.length (fun g u1 u10 wr => ∃ (i q : Nat), i ≤ PS.length ∧ g = PS.length - i ∧ u1 = .int .i64 (q : Nat) ∧ u10 = .int .i64 (i : Nat) ∧ Hid (Up w1 wr) ∧ Hid (q ≤ line.size) ∧ Hid (Til (bl line) M (decide (i = 0) && sgM m) q (PS.drop i)))
  case atStart => exact ⟨0, p, Nat.zero_le _, by simp, rfl, rfl, Lib.hid (Up.refl _), HP, HTL⟩
  case round =>
    clear HTL HP
    obtain ⟨i, q, hi, hg, rfl, rfl, HU1, HQ, HTL⟩ := hrel
    have HG := Lib.hid hg
    clear hg
    by_cases hlt : i < PS.length
    · have hne : PS ≠ [] := fun e => by rw [e] at hlt; exact absurd hlt (Nat.not_lt_zero _)
      obtain ⟨g, c', hv, hg0, hg1, hc⟩ := rowP_cells HROW.out hne
      injection hv with hv1 hv2 hv3
      subst hv1
      have htl := HTL.out
      rw [List.drop_eq_getElem_cons hlt] at htl
      unfold Til at htl
      obtain ⟨t1, t2, t3, t4, t5, t6, t7, t8, t9, t10⟩ := htl
      have c0 : wr.cell? ⟨g, i * 6, none⟩ = some (.int .u8 (PS[i].kind : Nat)) := cell_up HU1.out (hc i hlt 0 _ rfl)
      have c1 : wr.cell? ⟨g, i * 6 + 1, none⟩ = some (.int .i64 (PS[i].a : Nat)) := cell_up HU1.out (hc i hlt 1 _ rfl)
      have c2 : wr.cell? ⟨g, i * 6 + 2, none⟩ = some (.int .i64 (PS[i].b : Nat)) := cell_up HU1.out (hc i hlt 2 _ rfl)
      have c3 : wr.cell? ⟨g, i * 6 + 3, none⟩ = some (.string (toB PS[i].text)) := cell_up HU1.out (hc i hlt 3 _ rfl)
      have c4 : wr.cell? ⟨g, i * 6 + 4, none⟩ = some (.bool PS[i].raw) := cell_up HU1.out (hc i hlt 4 _ rfl)
      have c5 : wr.cell? ⟨g, i * 6 + 5, none⟩ = some (.bool PS[i].whole) := cell_up HU1.out (hc i hlt 5 _ rfl)
      have htz := toB_len PS[i].text
      obtain ⟨x, hx0⟩ : ∃ x, PS[i] = x := ⟨_, rfl⟩
      rw [hx0] at t1 t2 t3 t4 t5 t6 t7 t8 t9 t10 c0 c1 c2 c3 c4 c5 htz
      obtain ⟨kd, xa, xb, tx, rw1, wh⟩ := x
      simp only [] at t1 t2 t3 t4 t5 t6 t7 t8 t9 t10 c0 c1 c2 c3 c4 c5 htz
      rw [bl_len] at t3
      obtain ⟨X, hX⟩ : ∃ X, toB tx = X := ⟨_, rfl⟩
      rw [hX] at c3 htz
      have HTN := Lib.hid (show Til (bl line) M (decide (i + 1 = 0) && sgM m) xb (PS.drop (i + 1)) from by rw [show (decide (i + 1 = 0) && sgM m) = false from by simp]; exact t10)
      have HB1 := Lib.hid (HBL.out q xa true t5)
      have HXB := Lib.hid t3
      have d0 : (wr.alloc (.cells #[.int .u8 (kd : Nat), .int .i64 (xa : Nat), .int .i64 (xb : Nat), .string X, .bool rw1, .bool wh] PT)).cell? ⟨wr.heap.size, 0, none⟩ = some (.int .u8 (kd : Nat)) := cellOf (Go.heap_alloc_new _ _) rfl
      have d1 : (wr.alloc (.cells #[.int .u8 (kd : Nat), .int .i64 (xa : Nat), .int .i64 (xb : Nat), .string X, .bool rw1, .bool wh] PT)).cell? ⟨wr.heap.size, 1, none⟩ = some (.int .i64 (xa : Nat)) := cellOf (Go.heap_alloc_new _ _) rfl
      have d2 : (wr.alloc (.cells #[.int .u8 (kd : Nat), .int .i64 (xa : Nat), .int .i64 (xb : Nat), .string X, .bool rw1, .bool wh] PT)).cell? ⟨wr.heap.size, 2, none⟩ = some (.int .i64 (xb : Nat)) := cellOf (Go.heap_alloc_new _ _) rfl
      have d3 : (wr.alloc (.cells #[.int .u8 (kd : Nat), .int .i64 (xa : Nat), .int .i64 (xb : Nat), .string X, .bool rw1, .bool wh] PT)).cell? ⟨wr.heap.size, 3, none⟩ = some (.string X) := cellOf (Go.heap_alloc_new _ _) rfl
      have d4 : (wr.alloc (.cells #[.int .u8 (kd : Nat), .int .i64 (xa : Nat), .int .i64 (xb : Nat), .string X, .bool rw1, .bool wh] PT)).cell? ⟨wr.heap.size, 4, none⟩ = some (.bool rw1) := cellOf (Go.heap_alloc_new _ _) rfl
      have d5 : (wr.alloc (.cells #[.int .u8 (kd : Nat), .int .i64 (xa : Nat), .int .i64 (xb : Nat), .string X, .bool rw1, .bool wh] PT)).cell? ⟨wr.heap.size, 5, none⟩ = some (.bool wh) := cellOf (Go.heap_alloc_new _ _) rfl
      have hcat : ∀ {P : Prop}, ((xa < xb → P) → (¬ xa < xb → i = 0 → m = 39 → P) → (¬ xa < xb → i = 0 → m = 34 → P) → P) := fun {P} k1 k2 k3 => by
        by_cases hab : xa < xb
        · exact k1 hab
        · have h4 := t4.resolve_right hab
          simp only [Bool.and_eq_true, decide_eq_true_eq] at h4
          have hm2 : m = 39 ∨ m = 34 := by have := h4.2; unfold sgM at this; simpa using this
          rcases hm2 with h | h
          · exact k2 hab h4.1 h
          · exact k3 hab h4.1 h
      have a1 : ¬ ((xa : Int) < (q : Int)) := by omega
      have a2 : ¬ ((xb : Int) < (xa : Int)) := by omega
      have a3 : ¬ ((line.size : Int) < (xb : Int)) := by omega
      have a4 : IntKind.i64.wrap ((xb : Int) - (xa : Int)) = (xb : Int) - (xa : Int) := IntWalk.i64_in _ (by have := HS.out; omega)
      have a5 : ¬ ((xb : Int) - (xa : Int) < (X.size : Int)) := by omega
      have a6 : IntKind.i64.wrap ((i : Int) + 1) = (i : Int) + 1 := IntWalk.i64_in _ (by have := HLEN.out; omega)
      have a7 : IntKind.i64.wrap ((PS.length : Int) - 1) = (PS.length : Int) - 1 := IntWalk.i64_in _ (by have := HLEN.out; omega)
      have b0 : (0 : Int) ≤ (q : Int) := by omega
      have b1 : (q : Int) ≤ (xa : Int) := by omega
      have b2 : (xa : Int) ≤ line.size := by omega
      have b3 : q ≤ xa := t1
      have b4 : xa ≤ line.size := by omega
      have b5 : (0 : Int) ≤ (i : Int) := by omega
      have b6 : (i : Int) < (PS.length : Int) := by omega
      have hE : (((xa : Int) == (xb : Int)) = false) ∨ (((xa : Int) == (xb : Int)) = true ∧ decide (0 < i) = false ∧ ((m : Int) == 39) = true) ∨ (((xa : Int) == (xb : Int)) = true ∧ decide (0 < i) = false ∧ ((m : Int) == 39) = false ∧ ((m : Int) == 34) = true) := by
        refine hcat (fun h => .inl (beq_eq_false_iff_ne.2 (by omega))) (fun h1 h2 h3 => .inr (.inl ⟨beq_iff_eq.2 (by omega), decide_eq_false (by omega), beq_iff_eq.2 (by omega)⟩)) (fun h1 h2 h3 => .inr (.inr ⟨beq_iff_eq.2 (by omega), decide_eq_false (by omega), beq_eq_false_iff_ne.2 (by omega), beq_iff_eq.2 (by omega)⟩))
      obtain ⟨B, hB⟩ : ∃ B, ((kd : Int) == 51) = B := ⟨_, rfl⟩
      have hK : B = true ∨ (B = false ∧ X = ⟨#[]⟩ ∧ rw1 = false ∧ wh = false) := by
        by_cases hk : kd = 51
        · exact .inl (by rw [← hB]; exact beq_iff_eq.2 (by omega))
        · obtain ⟨s1, s2, s3⟩ := t6 hk
          refine .inr ⟨by rw [← hB]; exact beq_eq_false_iff_ne.2 (by omega), ?_, s2, s3⟩
          rw [← hX, s1]
          rfl
      have hF : xb ≤ line.size ∨ (line.size < xb ∧ i + 1 = PS.length ∧ (kd = 54 ∨ (kd ≠ 54 ∧ B = true ∧ M ≠ 0))) := by
        by_cases h : xb ≤ line.size
        · exact .inl h
        · obtain ⟨r1, r2⟩ := t8 (by rw [HN.out]; omega)
          have r3 := congrArg List.length r1
          rw [List.length_drop] at r3
          simp only [List.length_nil] at r3
          refine .inr ⟨by omega, by omega, ?_⟩
          rcases r2 with r2 | ⟨r2, r4⟩
          · exact .inl r2
          · exact .inr ⟨by omega, by rw [← hB]; exact beq_iff_eq.2 (by omega), r4⟩
      have HLT := Lib.hid hlt
      have H13 := Lib.hid (And.intro t1 (And.intro t2 t3))
      have H16 := Lib.hid (show X.size ≤ xb - xa from by omega)
      have HE := Lib.hid hE
      have HK2 := Lib.hid hK
      have HF := Lib.hid hF
      have HD := Lib.hid (And.intro d0 (And.intro d1 (And.intro d2 (And.intro d3 (And.intro d4 d5)))))
      clear t1 t2 t3 t4 t5 t6 t7 t8 t9 t10 htz hne hc hg0 hg1 hx0 hi hv2 hv3 hcat hX hE hK hF a1 a2 a3 a4 a5 a7 b0 b1 b2 b3 b4 d1 d3 d4 d5
      go_upto_region 13 with fail
      refine tile13 HD.out.2.1 HD.out.2.2.1 H13.out.1 H13.out.2.1 H13.out.2.2 HB1.out HE.out _ ?_
      intro y64 y65 y66 y67 y68 y69 y70 y71 y72 y73 y74 y75 y76 y77 y78 y79 y80 y81 y82 y83 y84 y85 y86 y87 y88 y89 y90 y91 y92 y93 y94 y95 y96 y97 y98 y99 y100 y101 y102 y103 y104 y105 y106 y107 y108
      go_upto_region 16 with fail
      refine tile16 HD.out.2.1 HD.out.2.2.1 HD.out.2.2.2.1 HD.out.2.2.2.2.1 HD.out.2.2.2.2.2 H13.out.2.1 (by have := H13.out.2.2; have := HS.out; omega) H16.out HK2.out _ ?_
      intro y113 y114 y115 y116 y117 y118 y119 y120 y121 y122 y123 y124 y125 y126 y127 y128 y129 y130 y131 y132 y133 y134 y135 y136 y137
      go_upto_region 18 with fail
      refine tile18 HD.out.1 HD.out.2.2.1 HLEN.out (by have := HLT.out; omega) HF.out _ ?_
      intro y139 y140 y141 y142 y143 y144 y145 y146 y147 y148 y149 y150 y151 y152 y153 y154 y155 y156 y157 y158 y159 y160 y161
      go_wp2
      go_roundg (PS.length - (i + 1))
      case measure => rw [HG.out]; have := HLT.out; omega
      case rel => exact ⟨i + 1, xb, HLT.out, rfl, rfl, by go_num, Lib.hid (HU1.out.trans (Up.alloc _ _)), HXB, HTN⟩
    · obtain rfl : i = PS.length := by omega
      have htl := HTL.out
      rw [List.drop_of_length_le (Nat.le_refl _)] at htl
      unfold Til at htl
      rw [HN.out] at htl
      have l1 : ¬ ((PS.length : Int) < (PS.length : Int)) := by omega
      have hM21 : M = 0 ∨ ((M = 39 ∨ M = 34) ∧ ∃ g j, A = some ⟨g, 0, none⟩ ∧ PS.length = j + 1 ∧ wr.cell? ⟨g, j * 6 + 5, none⟩ = some (.bool false) ∧ wr.cell? ⟨g, j * 6 + 2, none⟩ = some (.int .i64 (line.size : Nat))) := by
        rcases HMK.out.1 with h | h
        · exact .inl h
        · have hM0 : M ≠ 0 := by omega
          have hne : PS ≠ [] := fun e => hM0 (HMK.out.2 e)
          obtain ⟨g, c', hv, hg0, hg1, hc⟩ := rowP_cells HROW.out hne
          injection hv with hv1 hv2 hv3
          obtain ⟨j, hj⟩ : ∃ j, PS.length = j + 1 := ⟨PS.length - 1, by have := List.length_pos_iff.2 hne; omega⟩
          obtain ⟨q1, q2⟩ := til_last HTLL.out hM0 hne
          have hgl : PS.getLast hne = PS[j]'(by omega) := by rw [List.getLast_eq_getElem]; congr 1; omega
          rw [hgl] at q1 q2
          rw [bl_len] at q2
          refine .inr ⟨h, g, j, hv1, hj, ?_, ?_⟩
          · rw [← q1]; exact cell_up HU1.out (hc j (by omega) 5 _ rfl)
          · rw [← q2]; exact cell_up HU1.out (hc j (by omega) 2 _ rfl)
      obtain ⟨qm, hqm⟩ : ∃ qm, min q (line.size) = qm := ⟨_, rfl⟩
      rw [hqm] at htl
      have hmin : min (q : Int) ((line.size : Nat) : Int) = (qm : Nat) := by omega
      have b0 : (0 : Int) ≤ (qm : Int) := by omega
      have b1 : (qm : Int) ≤ ((line.size : Nat) : Int) := by omega
      have b2 : ((line.size : Nat) : Int) ≤ line.size := by have := HCL.out; have := HN.out; omega
      have b3 : qm ≤ line.size := by omega
      have b4 : line.size ≤ line.size := by omega
      have HB2 := Lib.hid (HBL.out qm (line.size) true htl)
      have HM21 := Lib.hid hM21
      have HU := Lib.hid (HU.out.trans HU1.out)
      clear htl hM21 hqm
      go_upto_region 21 with fail
      refine tile21 HLEN.out HM21.out _ ?_
      intro y165 y166 y167 y168 y169 y170 y171 y172 y173 y174 y175 y176 y177 y178 y179 y180 y181 y182 y183 y184 y185 y186 y187 y188 y189 y190 y191 y192 y193 y194 y195 y196 y197 y198 y199
      go_wp2_with (first
        | (go_at_call 14; ((with_reducible refine (HB2.out _).mono ?_); rintro e w4 ⟨rfl, rfl⟩))
        | (go_at_call 8; ((with_reducible refine (HK.out _ (HT.out.up HU.out)).mono ?_); rintro e w3 ⟨rfl, hu⟩; have HU := Lib.hid (HU.out.trans hu); clear hu)))
      go_ret
      exact ⟨rfl, HU.out⟩
set_option maxRecDepth 100000 in
set_option maxHeartbeats 16000000 in
theorem tile_in_em (W : World) (hT : TabH W) (line : ByteArray) (p m : Nat) (hs : (line.size : Int) ≤ 16384) (h0 : line.size = 0) (hp : p ≤ con (bl line)) : Calls Tryd.prog 5 #[.string line, .int .i64 (p : Nat), .int .u8 (m : Nat)] W fun e w' => e = .returned (.bool true) ∧ Up W w' := by
  have HR := Lib.hid (read_any W hT line (p : Int) m (by omega))
  have hTil := til_all (bl line) p m hp
  have hMK := rdE_mark (bl line) p m hp
  have hLen := rdE_len (bl line) p m hp
  obtain ⟨PS, hPS⟩ : ∃ PS, (rdE (bl line) (p : Int) m).1 = PS := ⟨_, rfl⟩
  obtain ⟨M, hM⟩ : ∃ M, (rdE (bl line) (p : Int) m).2 = M := ⟨_, rfl⟩
  rw [hPS, hM] at HR hTil hMK
  rw [hPS] at hLen
  have HK := Lib.hid (fun w (h : TabH w) => wakes_any w h)
  have HT := Lib.hid hT
  have HBL := Lib.hid (fun (u v : Nat) (X : Bool) (hX : (((bl line).take v).drop u).all isW = X) w => blank_at line u v X (by omega) hX w)
  have f0 : ¬ ((16384 : Int) < line.size) := by omega
  have f1 : decide ((16384 : Int) < line.size) = false := decide_eq_false f0
  have hcl := con_le (bl line)
  rw [bl_len] at hcl
  have HCL := Lib.hid hcl
  have HS := Lib.hid hs
  have hcon := con_no (.inl h0)
  have hp0 : ¬ ((0 : Int) < line.size) := by omega
  have hp1 : decide ((0 : Int) < line.size) = false := decide_eq_false hp0
  have hp2 : decide (0 < line.size) = false := decide_eq_false (by omega)
  have HZ := Lib.hid h0
  clear h0
  rw [hcon] at hp hLen
  have HN := Lib.hid hcon
  have g0 : ¬ ((p : Int) < 0) := by omega
  have g1 : ¬ (((line.size : Nat) : Int) < (p : Int)) := by omega
  have g2 : decide (((line.size : Nat) : Int) < (p : Int)) = false := decide_eq_false g1
  have g3 : decide (line.size < p) = false := decide_eq_false (by omega)
  have HP := Lib.hid (show p ≤ line.size from by omega)
  have HTL := Lib.hid (show Til (bl line) M (decide (0 = 0) && sgM m) p (PS.drop 0) from by rw [List.drop_zero]; simpa using hTil)
  have HTLL := Lib.hid hTil
  have HMK := Lib.hid hMK
  have HLEN := Lib.hid (show PS.length ≤ 1000000 from by omega)
  clear hT hPS hM hTil hMK hLen hcon hs hp hcl
  go_enter Tryd.func5, Tryd.ntmps5
  go_wp2_with (first
      | (go_at_call 9; ((with_reducible refine (HR.out).mono ?_); rintro e w1 ⟨⟨v, rfl, hrow⟩, hu⟩; obtain ⟨A, c, rfl⟩ := own_slice hrow; have HROW := Lib.hid hrow; have HU := Lib.hid hu; clear hrow hu)))
  clear f0 f1 g0 g1 g2 g3 HR
  go_loopg [1, 10] PS.length (fun g u1 u10 wr => ∃ (i q : Nat), i ≤ PS.length ∧ g = PS.length - i ∧ u1 = .int .i64 (q : Nat) ∧ u10 = .int .i64 (i : Nat) ∧ Hid (Up w1 wr) ∧ Hid (q ≤ line.size) ∧ Hid (Til (bl line) M (decide (i = 0) && sgM m) q (PS.drop i)))
  case atStart => exact ⟨0, p, Nat.zero_le _, by simp, rfl, rfl, Lib.hid (Up.refl _), HP, HTL⟩
  case round =>
    clear HTL HP
    obtain ⟨i, q, hi, hg, rfl, rfl, HU1, HQ, HTL⟩ := hrel
    have HG := Lib.hid hg
    clear hg
    by_cases hlt : i < PS.length
    · have hne : PS ≠ [] := fun e => by rw [e] at hlt; exact absurd hlt (Nat.not_lt_zero _)
      obtain ⟨g, c', hv, hg0, hg1, hc⟩ := rowP_cells HROW.out hne
      injection hv with hv1 hv2 hv3
      subst hv1
      have htl := HTL.out
      rw [List.drop_eq_getElem_cons hlt] at htl
      unfold Til at htl
      obtain ⟨t1, t2, t3, t4, t5, t6, t7, t8, t9, t10⟩ := htl
      have c0 : wr.cell? ⟨g, i * 6, none⟩ = some (.int .u8 (PS[i].kind : Nat)) := cell_up HU1.out (hc i hlt 0 _ rfl)
      have c1 : wr.cell? ⟨g, i * 6 + 1, none⟩ = some (.int .i64 (PS[i].a : Nat)) := cell_up HU1.out (hc i hlt 1 _ rfl)
      have c2 : wr.cell? ⟨g, i * 6 + 2, none⟩ = some (.int .i64 (PS[i].b : Nat)) := cell_up HU1.out (hc i hlt 2 _ rfl)
      have c3 : wr.cell? ⟨g, i * 6 + 3, none⟩ = some (.string (toB PS[i].text)) := cell_up HU1.out (hc i hlt 3 _ rfl)
      have c4 : wr.cell? ⟨g, i * 6 + 4, none⟩ = some (.bool PS[i].raw) := cell_up HU1.out (hc i hlt 4 _ rfl)
      have c5 : wr.cell? ⟨g, i * 6 + 5, none⟩ = some (.bool PS[i].whole) := cell_up HU1.out (hc i hlt 5 _ rfl)
      have htz := toB_len PS[i].text
      obtain ⟨x, hx0⟩ : ∃ x, PS[i] = x := ⟨_, rfl⟩
      rw [hx0] at t1 t2 t3 t4 t5 t6 t7 t8 t9 t10 c0 c1 c2 c3 c4 c5 htz
      obtain ⟨kd, xa, xb, tx, rw1, wh⟩ := x
      simp only [] at t1 t2 t3 t4 t5 t6 t7 t8 t9 t10 c0 c1 c2 c3 c4 c5 htz
      rw [bl_len] at t3
      obtain ⟨X, hX⟩ : ∃ X, toB tx = X := ⟨_, rfl⟩
      rw [hX] at c3 htz
      have HTN := Lib.hid (show Til (bl line) M (decide (i + 1 = 0) && sgM m) xb (PS.drop (i + 1)) from by rw [show (decide (i + 1 = 0) && sgM m) = false from by simp]; exact t10)
      have HB1 := Lib.hid (HBL.out q xa true t5)
      have HXB := Lib.hid t3
      have d0 : (wr.alloc (.cells #[.int .u8 (kd : Nat), .int .i64 (xa : Nat), .int .i64 (xb : Nat), .string X, .bool rw1, .bool wh] PT)).cell? ⟨wr.heap.size, 0, none⟩ = some (.int .u8 (kd : Nat)) := cellOf (Go.heap_alloc_new _ _) rfl
      have d1 : (wr.alloc (.cells #[.int .u8 (kd : Nat), .int .i64 (xa : Nat), .int .i64 (xb : Nat), .string X, .bool rw1, .bool wh] PT)).cell? ⟨wr.heap.size, 1, none⟩ = some (.int .i64 (xa : Nat)) := cellOf (Go.heap_alloc_new _ _) rfl
      have d2 : (wr.alloc (.cells #[.int .u8 (kd : Nat), .int .i64 (xa : Nat), .int .i64 (xb : Nat), .string X, .bool rw1, .bool wh] PT)).cell? ⟨wr.heap.size, 2, none⟩ = some (.int .i64 (xb : Nat)) := cellOf (Go.heap_alloc_new _ _) rfl
      have d3 : (wr.alloc (.cells #[.int .u8 (kd : Nat), .int .i64 (xa : Nat), .int .i64 (xb : Nat), .string X, .bool rw1, .bool wh] PT)).cell? ⟨wr.heap.size, 3, none⟩ = some (.string X) := cellOf (Go.heap_alloc_new _ _) rfl
      have d4 : (wr.alloc (.cells #[.int .u8 (kd : Nat), .int .i64 (xa : Nat), .int .i64 (xb : Nat), .string X, .bool rw1, .bool wh] PT)).cell? ⟨wr.heap.size, 4, none⟩ = some (.bool rw1) := cellOf (Go.heap_alloc_new _ _) rfl
      have d5 : (wr.alloc (.cells #[.int .u8 (kd : Nat), .int .i64 (xa : Nat), .int .i64 (xb : Nat), .string X, .bool rw1, .bool wh] PT)).cell? ⟨wr.heap.size, 5, none⟩ = some (.bool wh) := cellOf (Go.heap_alloc_new _ _) rfl
      have hcat : ∀ {P : Prop}, ((xa < xb → P) → (¬ xa < xb → i = 0 → m = 39 → P) → (¬ xa < xb → i = 0 → m = 34 → P) → P) := fun {P} k1 k2 k3 => by
        by_cases hab : xa < xb
        · exact k1 hab
        · have h4 := t4.resolve_right hab
          simp only [Bool.and_eq_true, decide_eq_true_eq] at h4
          have hm2 : m = 39 ∨ m = 34 := by have := h4.2; unfold sgM at this; simpa using this
          rcases hm2 with h | h
          · exact k2 hab h4.1 h
          · exact k3 hab h4.1 h
      have a1 : ¬ ((xa : Int) < (q : Int)) := by omega
      have a2 : ¬ ((xb : Int) < (xa : Int)) := by omega
      have a3 : ¬ ((line.size : Int) < (xb : Int)) := by omega
      have a4 : IntKind.i64.wrap ((xb : Int) - (xa : Int)) = (xb : Int) - (xa : Int) := IntWalk.i64_in _ (by have := HS.out; omega)
      have a5 : ¬ ((xb : Int) - (xa : Int) < (X.size : Int)) := by omega
      have a6 : IntKind.i64.wrap ((i : Int) + 1) = (i : Int) + 1 := IntWalk.i64_in _ (by have := HLEN.out; omega)
      have a7 : IntKind.i64.wrap ((PS.length : Int) - 1) = (PS.length : Int) - 1 := IntWalk.i64_in _ (by have := HLEN.out; omega)
      have b0 : (0 : Int) ≤ (q : Int) := by omega
      have b1 : (q : Int) ≤ (xa : Int) := by omega
      have b2 : (xa : Int) ≤ line.size := by omega
      have b3 : q ≤ xa := t1
      have b4 : xa ≤ line.size := by omega
      have b5 : (0 : Int) ≤ (i : Int) := by omega
      have b6 : (i : Int) < (PS.length : Int) := by omega
      have hE : (((xa : Int) == (xb : Int)) = false) ∨ (((xa : Int) == (xb : Int)) = true ∧ decide (0 < i) = false ∧ ((m : Int) == 39) = true) ∨ (((xa : Int) == (xb : Int)) = true ∧ decide (0 < i) = false ∧ ((m : Int) == 39) = false ∧ ((m : Int) == 34) = true) := by
        refine hcat (fun h => .inl (beq_eq_false_iff_ne.2 (by omega))) (fun h1 h2 h3 => .inr (.inl ⟨beq_iff_eq.2 (by omega), decide_eq_false (by omega), beq_iff_eq.2 (by omega)⟩)) (fun h1 h2 h3 => .inr (.inr ⟨beq_iff_eq.2 (by omega), decide_eq_false (by omega), beq_eq_false_iff_ne.2 (by omega), beq_iff_eq.2 (by omega)⟩))
      obtain ⟨B, hB⟩ : ∃ B, ((kd : Int) == 51) = B := ⟨_, rfl⟩
      have hK : B = true ∨ (B = false ∧ X = ⟨#[]⟩ ∧ rw1 = false ∧ wh = false) := by
        by_cases hk : kd = 51
        · exact .inl (by rw [← hB]; exact beq_iff_eq.2 (by omega))
        · obtain ⟨s1, s2, s3⟩ := t6 hk
          refine .inr ⟨by rw [← hB]; exact beq_eq_false_iff_ne.2 (by omega), ?_, s2, s3⟩
          rw [← hX, s1]
          rfl
      have hF : xb ≤ line.size ∨ (line.size < xb ∧ i + 1 = PS.length ∧ (kd = 54 ∨ (kd ≠ 54 ∧ B = true ∧ M ≠ 0))) := by
        by_cases h : xb ≤ line.size
        · exact .inl h
        · obtain ⟨r1, r2⟩ := t8 (by rw [HN.out]; omega)
          have r3 := congrArg List.length r1
          rw [List.length_drop] at r3
          simp only [List.length_nil] at r3
          refine .inr ⟨by omega, by omega, ?_⟩
          rcases r2 with r2 | ⟨r2, r4⟩
          · exact .inl r2
          · exact .inr ⟨by omega, by rw [← hB]; exact beq_iff_eq.2 (by omega), r4⟩
      have HLT := Lib.hid hlt
      have H13 := Lib.hid (And.intro t1 (And.intro t2 t3))
      have H16 := Lib.hid (show X.size ≤ xb - xa from by omega)
      have HE := Lib.hid hE
      have HK2 := Lib.hid hK
      have HF := Lib.hid hF
      have HD := Lib.hid (And.intro d0 (And.intro d1 (And.intro d2 (And.intro d3 (And.intro d4 d5)))))
      clear t1 t2 t3 t4 t5 t6 t7 t8 t9 t10 htz hne hc hg0 hg1 hx0 hi hv2 hv3 hcat hX hE hK hF a1 a2 a3 a4 a5 a7 b0 b1 b2 b3 b4 d1 d3 d4 d5
      go_upto_region 13 with fail
      refine tile13 HD.out.2.1 HD.out.2.2.1 H13.out.1 H13.out.2.1 H13.out.2.2 HB1.out HE.out _ ?_
      intro y64 y65 y66 y67 y68 y69 y70 y71 y72 y73 y74 y75 y76 y77 y78 y79 y80 y81 y82 y83 y84 y85 y86 y87 y88 y89 y90 y91 y92 y93 y94 y95 y96 y97 y98 y99 y100 y101 y102 y103 y104 y105 y106 y107 y108
      go_upto_region 16 with fail
      refine tile16 HD.out.2.1 HD.out.2.2.1 HD.out.2.2.2.1 HD.out.2.2.2.2.1 HD.out.2.2.2.2.2 H13.out.2.1 (by have := H13.out.2.2; have := HS.out; omega) H16.out HK2.out _ ?_
      intro y113 y114 y115 y116 y117 y118 y119 y120 y121 y122 y123 y124 y125 y126 y127 y128 y129 y130 y131 y132 y133 y134 y135 y136 y137
      go_upto_region 18 with fail
      refine tile18 HD.out.1 HD.out.2.2.1 HLEN.out (by have := HLT.out; omega) HF.out _ ?_
      intro y139 y140 y141 y142 y143 y144 y145 y146 y147 y148 y149 y150 y151 y152 y153 y154 y155 y156 y157 y158 y159 y160 y161
      go_wp2
      go_roundg (PS.length - (i + 1))
      case measure => rw [HG.out]; have := HLT.out; omega
      case rel => exact ⟨i + 1, xb, HLT.out, rfl, rfl, by go_num, Lib.hid (HU1.out.trans (Up.alloc _ _)), HXB, HTN⟩
    · obtain rfl : i = PS.length := by omega
      have htl := HTL.out
      rw [List.drop_of_length_le (Nat.le_refl _)] at htl
      unfold Til at htl
      rw [HN.out] at htl
      have l1 : ¬ ((PS.length : Int) < (PS.length : Int)) := by omega
      have hM21 : M = 0 ∨ ((M = 39 ∨ M = 34) ∧ ∃ g j, A = some ⟨g, 0, none⟩ ∧ PS.length = j + 1 ∧ wr.cell? ⟨g, j * 6 + 5, none⟩ = some (.bool false) ∧ wr.cell? ⟨g, j * 6 + 2, none⟩ = some (.int .i64 (line.size : Nat))) := by
        rcases HMK.out.1 with h | h
        · exact .inl h
        · have hM0 : M ≠ 0 := by omega
          have hne : PS ≠ [] := fun e => hM0 (HMK.out.2 e)
          obtain ⟨g, c', hv, hg0, hg1, hc⟩ := rowP_cells HROW.out hne
          injection hv with hv1 hv2 hv3
          obtain ⟨j, hj⟩ : ∃ j, PS.length = j + 1 := ⟨PS.length - 1, by have := List.length_pos_iff.2 hne; omega⟩
          obtain ⟨q1, q2⟩ := til_last HTLL.out hM0 hne
          have hgl : PS.getLast hne = PS[j]'(by omega) := by rw [List.getLast_eq_getElem]; congr 1; omega
          rw [hgl] at q1 q2
          rw [bl_len] at q2
          refine .inr ⟨h, g, j, hv1, hj, ?_, ?_⟩
          · rw [← q1]; exact cell_up HU1.out (hc j (by omega) 5 _ rfl)
          · rw [← q2]; exact cell_up HU1.out (hc j (by omega) 2 _ rfl)
      obtain ⟨qm, hqm⟩ : ∃ qm, min q (line.size) = qm := ⟨_, rfl⟩
      rw [hqm] at htl
      have hmin : min (q : Int) ((line.size : Nat) : Int) = (qm : Nat) := by omega
      have b0 : (0 : Int) ≤ (qm : Int) := by omega
      have b1 : (qm : Int) ≤ ((line.size : Nat) : Int) := by omega
      have b2 : ((line.size : Nat) : Int) ≤ line.size := by have := HCL.out; have := HN.out; omega
      have b3 : qm ≤ line.size := by omega
      have b4 : line.size ≤ line.size := by omega
      have HB2 := Lib.hid (HBL.out qm (line.size) true htl)
      have HM21 := Lib.hid hM21
      have HU := Lib.hid (HU.out.trans HU1.out)
      clear htl hM21 hqm
      go_upto_region 21 with fail
      refine tile21 HLEN.out HM21.out _ ?_
      intro y165 y166 y167 y168 y169 y170 y171 y172 y173 y174 y175 y176 y177 y178 y179 y180 y181 y182 y183 y184 y185 y186 y187 y188 y189 y190 y191 y192 y193 y194 y195 y196 y197 y198 y199
      go_wp2_with (first
        | (go_at_call 14; ((with_reducible refine (HB2.out _).mono ?_); rintro e w4 ⟨rfl, rfl⟩))
        | (go_at_call 8; ((with_reducible refine (HK.out _ (HT.out.up HU.out)).mono ?_); rintro e w3 ⟨rfl, hu⟩; have HU := Lib.hid (HU.out.trans hu); clear hu)))
      go_ret
      exact ⟨rfl, HU.out⟩
theorem tile_walk (W : World) (hT : TabH W) (line : ByteArray) (x y : Int) (hy : (Lit.int .u8 y).wf = true) : Calls Tryd.prog 5 #[.string line, .int .i64 x, .int .u8 y] W fun e w' => e = .returned (.bool true) ∧ Up W w' := by
  have hyr := bounds_u8 hy
  obtain ⟨m, rfl⟩ : ∃ m : Nat, y = (m : Nat) := ⟨y.toNat, by omega⟩
  by_cases hs : (16384 : Int) < line.size
  · exact tile_far W hT line x m hs
  · have hs' : (line.size : Int) ≤ 16384 := by omega
    by_cases ho : x < 0 ∨ (con (bl line) : Int) < x
    · by_cases h0 : 0 < line.size
      · by_cases h1 : bt line (line.size - 1) = 10
        · exact tile_out_lf W hT line x m hs' h0 h1 ho
        · exact tile_out_no W hT line x m hs' h0 h1 ho
      · exact tile_out_em W hT line x m hs' (by omega) ho
    · obtain ⟨p, rfl⟩ : ∃ p : Nat, x = (p : Nat) := ⟨x.toNat, by omega⟩
      have hp : p ≤ con (bl line) := by omega
      by_cases h0 : 0 < line.size
      · by_cases h1 : bt line (line.size - 1) = 10
        · exact tile_in_lf W hT line p m hs' h0 h1 hp
        · exact tile_in_no W hT line p m hs' h0 h1 hp
      · exact tile_in_em W hT line p m hs' (by omega) hp
end Go.Proofs.YtmeipmkiknekjaaDoor
