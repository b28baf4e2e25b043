/- The tree that a text tells: the document's Parse. -/
import Derived.Test.YtidnldchdahgeaaDoorTParseP
import Derived.Test.YtidnldchdahgeaaDoorTRefNum
import Derived.Test.YtidnldchdahgeaaDoorTFit
namespace Go.Proofs.YtidnldchdahgeaaDoor
open Go.RowKit

theorem num_cut (e : UInt8) (l : List UInt8) : numT 255 e l = match numT 1099511627776 e l with
    | none => none
    | some (v, r) => if v ≤ 255 then some (v, r) else none := by
  unfold numT
  by_cases h : (rdN 0 l).2.length < l.length ∧ (rdN 0 l).1 ≤ 1099511627776 ∧ (l.head? = some 48 → (rdN 0 l).2.length + 1 = l.length) ∧ (rdN 0 l).2.head? = some e
  · rw [if_pos h]
    dsimp only
    by_cases hv : (rdN 0 l).1 ≤ 255
    · rw [if_pos ⟨h.1, hv, h.2.2⟩, if_pos hv]
    · rw [if_neg (fun c => hv c.2.1), if_neg hv]
  · rw [if_neg h, if_neg (fun c => h ⟨c.1, by have := c.2.1; omega, c.2.2⟩)]
def lin3 (d k a : Nat) (l : List UInt8) : Option (Nd × List UInt8) := match numT 1099511627776 10 l with
  | none => none
  | some (b, r) => some (((k : Nat), (a : Nat), (b : Nat), (d : Nat)), r)
def lin2 (d k : Nat) (l : List UInt8) : Option (Nd × List UInt8) := match numT 1099511627776 32 l with
  | none => none
  | some (a, r) => lin3 d k a r
def lin1 (d : Nat) (l : List UInt8) : Option (Nd × List UInt8) := match numT 255 32 l with
  | none => none
  | some (k, r) => lin2 d k r
theorem lin_all (l : List UInt8) : lineT l = match numT 1099511627776 32 l with
    | none => none
    | some (d, r) => lin1 d r := by
  unfold lineT
  split
  · rename_i h1; rw [h1]
  · rename_i d l1 h1
    rw [h1]
    show _ = lin1 d l1
    unfold lin1
    split
    · rename_i h2; rw [h2]
    · rename_i k l2 h2
      rw [h2]
      show _ = lin2 d k l2
      unfold lin2
      split
      · rename_i h3; rw [h3]
      · rename_i a l3 h3
        rw [h3]
        show _ = lin3 d k a l3
        unfold lin3
        split
        · rename_i h4; rw [h4]
        · rename_i b l4 h4; rw [h4]
/-- What a line's rest tells, so many numbers of it known. -/
def lk (j d k a b : Nat) (l : List UInt8) : Option (Nd × List UInt8) := if j = 0 then lineT l else if j = 1 then lin1 d l else if j = 2 then lin2 d k l else if j = 3 then lin3 d k a l else some (((k : Nat), (a : Nat), (b : Nat), (d : Nat)), l)
theorem lk_none {j d k a b : Nat} {l : List UInt8} (hj : j < 4) (h : numT 1099511627776 (endB j) l = none) : lk j d k a b l = none := by
  have h4 : j = 0 ∨ j = 1 ∨ j = 2 ∨ j = 3 := by omega
  rcases h4 with rfl | rfl | rfl | rfl
  · show lineT l = none
    rw [lin_all, show numT 1099511627776 32 l = none from h]
  · show lin1 d l = none
    unfold lin1
    rw [num_cut, show numT 1099511627776 32 l = none from h]
  · show lin2 d k l = none
    unfold lin2
    rw [show numT 1099511627776 32 l = none from h]
  · show lin3 d k a l = none
    unfold lin3
    rw [show numT 1099511627776 10 l = none from h]
theorem lk_big {d k a b v : Nat} {l r : List UInt8} (h : numT 1099511627776 (endB 1) l = some (v, r)) (hv : 255 < v) : lk 1 d k a b l = none := by
  show lin1 d l = none
  unfold lin1
  rw [num_cut, show numT 1099511627776 32 l = some (v, r) from h]
  dsimp only
  rw [if_neg (by omega)]
theorem lk_step {j d k a b v : Nat} {l r : List UInt8} (hj : j < 4) (h : numT 1099511627776 (endB j) l = some (v, r)) (hv : j = 1 → v ≤ 255) : lk j d k a b l = lk (j + 1) (if j = 0 then v else d) (if j = 1 then v else k) (if j = 2 then v else a) (if j = 3 then v else b) r := by
  have h4 : j = 0 ∨ j = 1 ∨ j = 2 ∨ j = 3 := by omega
  rcases h4 with rfl | rfl | rfl | rfl
  · show lineT l = lin1 v r
    rw [lin_all, show numT 1099511627776 32 l = some (v, r) from h]
  · show lin1 d l = lin2 d v r
    unfold lin1
    rw [num_cut, show numT 1099511627776 32 l = some (v, r) from h]
    dsimp only
    rw [if_pos (hv rfl)]
  · show lin2 d k l = lin3 d k v r
    unfold lin2
    rw [show numT 1099511627776 32 l = some (v, r) from h]
  · show lin3 d k a l = some _
    unfold lin3
    rw [show numT 1099511627776 10 l = some (v, r) from h]
    rfl
set_option maxRecDepth 100000 in
set_option maxHeartbeats 8000000 in
theorem refParse_any (s : ByteArray) (hs : s.size ≤ 65536) (w : World) :
    Calls Tryd.prog 31 #[.string s] w fun e w' => ∃ v, e = .returned (.tuple #[v, .int .i64 (parseE s)]) ∧ RowN w' w.heap.size v (parseL s) ∧ Up w w' := by
  have HS := Lib.hid hs
  have HNb := Lib.hid (refNumber_any s hs)
  have hs2 : s.size ≤ 70000 := by omega
  clear hs
  go_enter Tryd.func31, Tryd.ntmps31
  go_wp2
  go_loopg [4, 5, 6, 7, 8, 9, 10] s.size (fun g lv av _ _ _ _ _ wr => ∃ (p : Nat) (M : List Nd), g = s.size - p ∧ av = .int .i64 (p : Nat) ∧ p ≤ s.size ∧ M.length ≤ p ∧ Hid (parseT (rest s 0) = (parseT (rest s p)).map (M ++ ·)) ∧ Hid (RowN wr w.heap.size lv M) ∧ Hid (Up w wr))
  case atStart => exact ⟨0, [], rfl, rfl, Nat.zero_le _, Nat.le_refl _, Lib.hid (by cases parseT (rest s 0) <;> rfl), Lib.hid (World.ownsRow_nil _ _ _ _), Lib.hid (Up.refl _)⟩
  case round =>
    obtain ⟨p, M, hg, rfl, hp, hMp, HE, HR, HU⟩ := hrel
    have HG := Lib.hid hg
    clear hg
    by_cases hlt : p < s.size
    · have j1 : (p : Int) < s.size := by omega
      have HLt := Lib.hid hlt
      obtain ⟨B, hB⟩ : ∃ B, wr.heap.size = B := ⟨_, rfl⟩
      obtain ⟨w1, hw1⟩ : ∃ w1, wr.alloc (.cells #[.int .i64 0, .int .i64 0, .int .i64 0, .int .i64 0] 61) = w1 := ⟨_, rfl⟩
      have hbl : w1.heap[B]? = some (.cells #[.int .i64 0, .int .i64 0, .int .i64 0, .int .i64 0] 61 (0, 0)) := by rw [← hw1, ← hB]; exact Go.heap_alloc_new _ _
      have hup1 : Up wr w1 := by rw [← hw1]; exact Up.alloc _ _
      have HNe := Lib.hid (show u4.ownBlock = none ∨ u4.ownBlock ≠ some B by
        rcases HR.out.2 with ⟨rfl, _⟩ | ⟨g, cap, cur, rfl, h1, h2, _⟩
        · exact .inl rfl
        · refine .inr (fun e => ?_)
          have h3 : g = B := by injection e
          have h4 := (Array.getElem?_eq_some_iff.1 h2).1
          omega)
      have HWB := Lib.hid (show w.heap.size ≤ B by have := Below.size HU.out; omega)
      have HR1 := Lib.hid (rowN_up HR.out hup1)
      have HU1 := Lib.hid (HU.out.trans hup1)
      have HBl := Lib.hid hbl
      clear hbl hup1
      go_wp2
      try simp only [hB, hw1]
      clear hB hw1
      go_loopg [5, 7, 8, 9, 10] 4 (fun g av kv _ _ _ ws => ∃ (k q v0 v1 v2 v3 : Nat), g = 4 - k ∧ av = .int .i64 (q : Nat) ∧ kv = .int .i64 (k : Nat) ∧ k ≤ 4 ∧ p + k ≤ q ∧ q ≤ s.size ∧ v1 ≤ 255 ∧ Hid (lineT (rest s p) = lk k v0 v1 v2 v3 (rest s q)) ∧ Hid (ws.heap[B]? = some (.cells #[.int .i64 (v0 : Nat), .int .i64 (v1 : Nat), .int .i64 (v2 : Nat), .int .i64 (v3 : Nat)] 61 (0, 0))) ∧ Hid (RowN ws w.heap.size u4 M) ∧ Hid (Up w ws))
      case atStart => exact ⟨0, p, 0, 0, 0, 0, rfl, rfl, rfl, by omega, by omega, by omega, by omega, Lib.hid rfl, HBl, HR1, HU1⟩
      case round =>
        obtain ⟨k, q, v0, v1, v2, v3, hg, rfl, rfl, hk, hpq, hq, hv1, HK, HC, HRi, HUi⟩ := hrel
        have HG2 := Lib.hid hg
        clear hg
        have hBs : B < wr.heap.size := (Array.getElem?_eq_some_iff.1 HC.out).1
        by_cases hk0 : k = 0
        · obtain rfl := hk0
          cases hnum : numT 1099511627776 (endB 0) (rest s q) with
          | none =>
            have HN := Lib.hid (fun W => show Calls Tryd.prog 46 #[.string s, .int .i64 (q : Nat), .int .u8 32] W fun e w' => ∃ z : Int, e = .returned (.tuple #[.int .i64 z, .int .i64 (-1)]) ∧ W = w' from by
              refine (HNb.out q hq (endB 0) W).mono ?_
              rintro e w' ⟨z, p', rfl, h | ⟨v, q', -, -, h, -⟩, hw⟩
              · exact ⟨z, by rw [h.1], hw⟩
              · rw [hnum] at h; cases h)
            have HE2 := Lib.hid (show parseE s = 61 ∧ parseL s = [] by
              have h1 := HK.out
              rw [lk_none (by decide) hnum] at h1
              have h2 := HE.out
              rw [parseT_none (fun h => by have h3 := rest_len s p; rw [h] at h3; have := HLt.out; simp at h3; omega) h1] at h2
              unfold parseE parseL
              rw [← rest_zero, h2]
              exact ⟨rfl, rfl⟩)
            clear hnum
            go_wp2_with (go_at_call 46; ((with_reducible refine (HN.out _).mono ?_); rintro e wd ⟨z, rfl, rfl⟩))
            go_ret2
            exact ⟨.slice none 0 0, by rw [HE2.out.1]; rfl, by rw [HE2.out.2]; exact World.ownsRow_nil _ _ _ _, HUi.out⟩
          | some vr =>
            obtain ⟨v, r⟩ := vr
            have HN := Lib.hid (fun W => show Calls Tryd.prog 46 #[.string s, .int .i64 (q : Nat), .int .u8 32] W fun e w' => ∃ q' : Nat, e = .returned (.tuple #[.int .i64 (v : Nat), .int .i64 (q' : Nat)]) ∧ r = rest s q' ∧ q < q' ∧ q' ≤ s.size ∧ W = w' from by
              refine (HNb.out q hq (endB 0) W).mono ?_
              rintro e w' ⟨z, p', rfl, h | ⟨v', q', rfl, rfl, h, h1, h2⟩, hw⟩
              · rw [hnum] at h; cases h.2
              · rw [hnum] at h
                obtain ⟨rfl, rfl⟩ : v = v' ∧ r = rest s q' := by injection h with h; injection h with e1 e2; exact ⟨e1, e2⟩
                exact ⟨q', rfl, rfl, h1, h2, hw⟩)
            have HK2 := Lib.hid (HK.out.trans (lk_step (by decide) hnum (by intro h; cases h)))
            clear hnum
            have nc : wr.cell? ⟨B, 0, none⟩ = some (.int .i64 (v0 : Nat)) := cellOf HC.out rfl
            have nf : wr.frozen? ⟨B, 0, none⟩ = false := frozenOf HC.out
            go_wp2_with (go_at_call 46; ((with_reducible refine (HN.out _).mono ?_); rintro e wd ⟨q', rfl, hr, h1, h2, rfl⟩; have g4 : decide (((q' : Nat) : Int) < 0) = false := decide_eq_false (by omega)))
            have hset := setCell_grown wr B 0 (.int .i64 (v : Nat))
            have HC2 := Lib.hid (set_node (v := (.int .i64 (v : Nat))) (j := 0) HC.out (by rfl : _ = #[.int .i64 (v : Nat), .int .i64 (v1 : Nat), .int .i64 (v2 : Nat), .int .i64 (v3 : Nat)]))
            go_roundg (4 - (0 + 1))
            case measure => rw [HG2.out]; omega
            case rel => exact ⟨0 + 1, q', v, v1, v2, v3, rfl, rfl, by go_num, by omega, by omega, h2, by omega, Lib.hid (hr ▸ HK2.out), HC2, Lib.hid (World.ownsRow.kept HRi.out hset HNe.out), Lib.hid (HUi.out.setCell (p := ⟨B, 0, none⟩) HWB.out _)⟩
        by_cases hk1 : k = 1
        · obtain rfl := hk1
          cases hnum : numT 1099511627776 (endB 1) (rest s q) with
          | none =>
            have HN := Lib.hid (fun W => show Calls Tryd.prog 46 #[.string s, .int .i64 (q : Nat), .int .u8 32] W fun e w' => ∃ z : Int, e = .returned (.tuple #[.int .i64 z, .int .i64 (-1)]) ∧ W = w' from by
              refine (HNb.out q hq (endB 1) W).mono ?_
              rintro e w' ⟨z, p', rfl, h | ⟨v, q', -, -, h, -⟩, hw⟩
              · exact ⟨z, by rw [h.1], hw⟩
              · rw [hnum] at h; cases h)
            have HE2 := Lib.hid (show parseE s = 61 ∧ parseL s = [] by
              have h1 := HK.out
              rw [lk_none (by decide) hnum] at h1
              have h2 := HE.out
              rw [parseT_none (fun h => by have h3 := rest_len s p; rw [h] at h3; have := HLt.out; simp at h3; omega) h1] at h2
              unfold parseE parseL
              rw [← rest_zero, h2]
              exact ⟨rfl, rfl⟩)
            clear hnum
            go_wp2_with (go_at_call 46; ((with_reducible refine (HN.out _).mono ?_); rintro e wd ⟨z, rfl, rfl⟩))
            go_ret2
            exact ⟨.slice none 0 0, by rw [HE2.out.1]; rfl, by rw [HE2.out.2]; exact World.ownsRow_nil _ _ _ _, HUi.out⟩
          | some vr =>
            obtain ⟨v, r⟩ := vr
            have HN := Lib.hid (fun W => show Calls Tryd.prog 46 #[.string s, .int .i64 (q : Nat), .int .u8 32] W fun e w' => ∃ q' : Nat, e = .returned (.tuple #[.int .i64 (v : Nat), .int .i64 (q' : Nat)]) ∧ r = rest s q' ∧ q < q' ∧ q' ≤ s.size ∧ W = w' from by
              refine (HNb.out q hq (endB 1) W).mono ?_
              rintro e w' ⟨z, p', rfl, h | ⟨v', q', rfl, rfl, h, h1, h2⟩, hw⟩
              · rw [hnum] at h; cases h.2
              · rw [hnum] at h
                obtain ⟨rfl, rfl⟩ : v = v' ∧ r = rest s q' := by injection h with h; injection h with e1 e2; exact ⟨e1, e2⟩
                exact ⟨q', rfl, rfl, h1, h2, hw⟩)
            by_cases hv : 255 < v
            · have hv2 : (255 : Int) < (v : Nat) := by omega
              have HE2 := Lib.hid (show parseE s = 61 ∧ parseL s = [] by
                have h1 := HK.out
                rw [lk_big hnum hv] at h1
                have h2 := HE.out
                rw [parseT_none (fun h => by have h3 := rest_len s p; rw [h] at h3; have := HLt.out; simp at h3; omega) h1] at h2
                unfold parseE parseL
                rw [← rest_zero, h2]
                exact ⟨rfl, rfl⟩)
              clear hnum
              go_wp2_with (go_at_call 46; ((with_reducible refine (HN.out _).mono ?_); rintro e wd ⟨q', rfl, hr, h1, h2, rfl⟩))
              go_ret2
              exact ⟨.slice none 0 0, by rw [HE2.out.1]; rfl, by rw [HE2.out.2]; exact World.ownsRow_nil _ _ _ _, HUi.out⟩
            have hv2 : decide ((255 : Int) < (v : Nat)) = false := decide_eq_false (by omega)
            have hv3 : decide (255 < v) = false := decide_eq_false hv
            have hvb : v ≤ 255 := by omega
            have HK2 := Lib.hid (HK.out.trans (lk_step (by decide) hnum (by intro _; exact hvb)))
            clear hnum
            have nc : wr.cell? ⟨B, 1, none⟩ = some (.int .i64 (v1 : Nat)) := cellOf HC.out rfl
            have nf : wr.frozen? ⟨B, 1, none⟩ = false := frozenOf HC.out
            go_wp2_with (go_at_call 46; ((with_reducible refine (HN.out _).mono ?_); rintro e wd ⟨q', rfl, hr, h1, h2, rfl⟩; have g4 : decide (((q' : Nat) : Int) < 0) = false := decide_eq_false (by omega)))
            have hset := setCell_grown wr B 1 (.int .i64 (v : Nat))
            have HC2 := Lib.hid (set_node (v := (.int .i64 (v : Nat))) (j := 1) HC.out (by rfl : _ = #[.int .i64 (v0 : Nat), .int .i64 (v : Nat), .int .i64 (v2 : Nat), .int .i64 (v3 : Nat)]))
            go_roundg (4 - (1 + 1))
            case measure => rw [HG2.out]; omega
            case rel => exact ⟨1 + 1, q', v0, v, v2, v3, rfl, rfl, by go_num, by omega, by omega, h2, by omega, Lib.hid (hr ▸ HK2.out), HC2, Lib.hid (World.ownsRow.kept HRi.out hset HNe.out), Lib.hid (HUi.out.setCell (p := ⟨B, 1, none⟩) HWB.out _)⟩
        by_cases hk2 : k = 2
        · obtain rfl := hk2
          cases hnum : numT 1099511627776 (endB 2) (rest s q) with
          | none =>
            have HN := Lib.hid (fun W => show Calls Tryd.prog 46 #[.string s, .int .i64 (q : Nat), .int .u8 32] W fun e w' => ∃ z : Int, e = .returned (.tuple #[.int .i64 z, .int .i64 (-1)]) ∧ W = w' from by
              refine (HNb.out q hq (endB 2) W).mono ?_
              rintro e w' ⟨z, p', rfl, h | ⟨v, q', -, -, h, -⟩, hw⟩
              · exact ⟨z, by rw [h.1], hw⟩
              · rw [hnum] at h; cases h)
            have HE2 := Lib.hid (show parseE s = 61 ∧ parseL s = [] by
              have h1 := HK.out
              rw [lk_none (by decide) hnum] at h1
              have h2 := HE.out
              rw [parseT_none (fun h => by have h3 := rest_len s p; rw [h] at h3; have := HLt.out; simp at h3; omega) h1] at h2
              unfold parseE parseL
              rw [← rest_zero, h2]
              exact ⟨rfl, rfl⟩)
            clear hnum
            go_wp2_with (go_at_call 46; ((with_reducible refine (HN.out _).mono ?_); rintro e wd ⟨z, rfl, rfl⟩))
            go_ret2
            exact ⟨.slice none 0 0, by rw [HE2.out.1]; rfl, by rw [HE2.out.2]; exact World.ownsRow_nil _ _ _ _, HUi.out⟩
          | some vr =>
            obtain ⟨v, r⟩ := vr
            have HN := Lib.hid (fun W => show Calls Tryd.prog 46 #[.string s, .int .i64 (q : Nat), .int .u8 32] W fun e w' => ∃ q' : Nat, e = .returned (.tuple #[.int .i64 (v : Nat), .int .i64 (q' : Nat)]) ∧ r = rest s q' ∧ q < q' ∧ q' ≤ s.size ∧ W = w' from by
              refine (HNb.out q hq (endB 2) W).mono ?_
              rintro e w' ⟨z, p', rfl, h | ⟨v', q', rfl, rfl, h, h1, h2⟩, hw⟩
              · rw [hnum] at h; cases h.2
              · rw [hnum] at h
                obtain ⟨rfl, rfl⟩ : v = v' ∧ r = rest s q' := by injection h with h; injection h with e1 e2; exact ⟨e1, e2⟩
                exact ⟨q', rfl, rfl, h1, h2, hw⟩)
            have HK2 := Lib.hid (HK.out.trans (lk_step (by decide) hnum (by intro h; cases h)))
            clear hnum
            have nc : wr.cell? ⟨B, 2, none⟩ = some (.int .i64 (v2 : Nat)) := cellOf HC.out rfl
            have nf : wr.frozen? ⟨B, 2, none⟩ = false := frozenOf HC.out
            go_wp2_with (go_at_call 46; ((with_reducible refine (HN.out _).mono ?_); rintro e wd ⟨q', rfl, hr, h1, h2, rfl⟩; have g4 : decide (((q' : Nat) : Int) < 0) = false := decide_eq_false (by omega)))
            have hset := setCell_grown wr B 2 (.int .i64 (v : Nat))
            have HC2 := Lib.hid (set_node (v := (.int .i64 (v : Nat))) (j := 2) HC.out (by rfl : _ = #[.int .i64 (v0 : Nat), .int .i64 (v1 : Nat), .int .i64 (v : Nat), .int .i64 (v3 : Nat)]))
            go_roundg (4 - (2 + 1))
            case measure => rw [HG2.out]; omega
            case rel => exact ⟨2 + 1, q', v0, v1, v, v3, rfl, rfl, by go_num, by omega, by omega, h2, by omega, Lib.hid (hr ▸ HK2.out), HC2, Lib.hid (World.ownsRow.kept HRi.out hset HNe.out), Lib.hid (HUi.out.setCell (p := ⟨B, 2, none⟩) HWB.out _)⟩
        by_cases hk3 : k = 3
        · obtain rfl := hk3
          cases hnum : numT 1099511627776 (endB 3) (rest s q) with
          | none =>
            have HN := Lib.hid (fun W => show Calls Tryd.prog 46 #[.string s, .int .i64 (q : Nat), .int .u8 10] W fun e w' => ∃ z : Int, e = .returned (.tuple #[.int .i64 z, .int .i64 (-1)]) ∧ W = w' from by
              refine (HNb.out q hq (endB 3) W).mono ?_
              rintro e w' ⟨z, p', rfl, h | ⟨v, q', -, -, h, -⟩, hw⟩
              · exact ⟨z, by rw [h.1], hw⟩
              · rw [hnum] at h; cases h)
            have HE2 := Lib.hid (show parseE s = 61 ∧ parseL s = [] by
              have h1 := HK.out
              rw [lk_none (by decide) hnum] at h1
              have h2 := HE.out
              rw [parseT_none (fun h => by have h3 := rest_len s p; rw [h] at h3; have := HLt.out; simp at h3; omega) h1] at h2
              unfold parseE parseL
              rw [← rest_zero, h2]
              exact ⟨rfl, rfl⟩)
            clear hnum
            go_wp2_with (go_at_call 46; ((with_reducible refine (HN.out _).mono ?_); rintro e wd ⟨z, rfl, rfl⟩))
            go_ret2
            exact ⟨.slice none 0 0, by rw [HE2.out.1]; rfl, by rw [HE2.out.2]; exact World.ownsRow_nil _ _ _ _, HUi.out⟩
          | some vr =>
            obtain ⟨v, r⟩ := vr
            have HN := Lib.hid (fun W => show Calls Tryd.prog 46 #[.string s, .int .i64 (q : Nat), .int .u8 10] W fun e w' => ∃ q' : Nat, e = .returned (.tuple #[.int .i64 (v : Nat), .int .i64 (q' : Nat)]) ∧ r = rest s q' ∧ q < q' ∧ q' ≤ s.size ∧ W = w' from by
              refine (HNb.out q hq (endB 3) W).mono ?_
              rintro e w' ⟨z, p', rfl, h | ⟨v', q', rfl, rfl, h, h1, h2⟩, hw⟩
              · rw [hnum] at h; cases h.2
              · rw [hnum] at h
                obtain ⟨rfl, rfl⟩ : v = v' ∧ r = rest s q' := by injection h with h; injection h with e1 e2; exact ⟨e1, e2⟩
                exact ⟨q', rfl, rfl, h1, h2, hw⟩)
            have HK2 := Lib.hid (HK.out.trans (lk_step (by decide) hnum (by intro h; cases h)))
            clear hnum
            have nc : wr.cell? ⟨B, 3, none⟩ = some (.int .i64 (v3 : Nat)) := cellOf HC.out rfl
            have nf : wr.frozen? ⟨B, 3, none⟩ = false := frozenOf HC.out
            go_wp2_with (go_at_call 46; ((with_reducible refine (HN.out _).mono ?_); rintro e wd ⟨q', rfl, hr, h1, h2, rfl⟩; have g4 : decide (((q' : Nat) : Int) < 0) = false := decide_eq_false (by omega)))
            have hset := setCell_grown wr B 3 (.int .i64 (v : Nat))
            have HC2 := Lib.hid (set_node (v := (.int .i64 (v : Nat))) (j := 3) HC.out (by rfl : _ = #[.int .i64 (v0 : Nat), .int .i64 (v1 : Nat), .int .i64 (v2 : Nat), .int .i64 (v : Nat)]))
            go_roundg (4 - (3 + 1))
            case measure => rw [HG2.out]; omega
            case rel => exact ⟨3 + 1, q', v0, v1, v2, v, rfl, rfl, by go_num, by omega, by omega, h2, by omega, Lib.hid (hr ▸ HK2.out), HC2, Lib.hid (World.ownsRow.kept HRi.out hset HNe.out), Lib.hid (HUi.out.setCell (p := ⟨B, 3, none⟩) HWB.out _)⟩
        obtain rfl : k = 4 := by omega
        have HLn := Lib.hid (show lineT (rest s p) = some ((((v1 : Nat) : Int), ((v2 : Nat) : Int), ((v3 : Nat) : Int), ((v0 : Nat) : Int)), rest s q) from HK.out)
        have c0 : wr.cell? ⟨B, 0, none⟩ = some (.int .i64 (v0 : Nat)) := cellOf HC.out rfl
        have c1 : wr.cell? ⟨B, 1, none⟩ = some (.int .i64 (v1 : Nat)) := cellOf HC.out rfl
        have c2 : wr.cell? ⟨B, 2, none⟩ = some (.int .i64 (v2 : Nat)) := cellOf HC.out rfl
        have c3 : wr.cell? ⟨B, 3, none⟩ = some (.int .i64 (v3 : Nat)) := cellOf HC.out rfl
        have qk : IntKind.u8.wrap ((v1 : Nat) : Int) = ((v1 : Nat) : Int) := IntWalk.u8_in _ (by omega)
        have hsz : w.heap.size ≤ wr.heap.size := Below.size HUi.out
        have ho := HRi.out
        unfold RowN at ho
        have hM4 : M.length ≤ 70000 := by omega
        have HQ := Lib.hid (And.intro hpq (And.intro hq hMp))
        clear hpq hq hk hBs hk0 hk1 hk2 hk3
        go_wp2_with (at_builtin; (obtain ⟨i0, hi0, hz0, hz1, hz2⟩ := info_parts infoNode; refine wpList_append_own _ rfl _ _ 22 rfl w.heap.size 40 i0 (.agg #[.int .u8 0, .int .i64 0, .int .i64 0, .int .i64 0]) 4 32 Tryd.underlying22 hi0 hz0 hz1 hz2 rfl (by decide) _ _ _ rfl (ho.alloc _) ⟨wr.heap.size, 0, none⟩ 1 1 [.int .u8 (v1 : Nat), .int .i64 (v2 : Nat), .int .i64 (v3 : Nat), .int .i64 (v0 : Nat)] rfl rfl (World.news_of_block (cs := #[.int .u8 (v1 : Nat), .int .i64 (v2 : Nat), .int .i64 (v3 : Nat), .int .i64 (v0 : Nat)]) (t := 40) (fr := (0, 0)) (Go.heap_alloc_new wr _)) (by simp [Value.oneCell']) (by unfold maxLen; omega) (by omega) (by simp; omega) ?_; clear hi0 hz0 hz1 hz2; intro v5 w5 hown5 hgrow5 _))
        have HO5 := Lib.hid (show RowN w5 w.heap.size v5 (M ++ [(((v1 : Nat) : Int), ((v2 : Nat) : Int), ((v3 : Nat) : Int), ((v0 : Nat) : Int))]) by
          unfold RowN
          rw [ndCells_append, List.length_append]
          exact hown5)
        have HU5 := Lib.hid (show Up w w5 from (HUi.out.trans (Up.alloc wr _)).grown hgrow5 (by simp; omega) (fun q hq => own_base ho hq))
        have HE5 := Lib.hid (show parseT (rest s 0) = (parseT (rest s q)).map ((M ++ [(((v1 : Nat) : Int), ((v2 : Nat) : Int), ((v3 : Nat) : Int), ((v0 : Nat) : Int))]) ++ ·) by
          rw [HE.out, parseT_cons HLn.out]
          cases parseT (rest s q) with
          | none => rfl
          | some L => exact congrArg some (List.append_assoc M [_] L).symm)
        clear hown5 hgrow5 ho
        go_roundg (s.size - q)
        case measure => rw [HG.out]; have := HQ.out; have := HLt.out; omega
        case rel => exact ⟨q, _, rfl, rfl, HQ.out.2.1, by rw [List.length_append, List.length_singleton]; have := HQ.out; omega, HE5, HO5, HU5⟩
    · have h0 := HE.out
      rw [rest_nil (show s.size ≤ p by omega), parseT_nil] at h0
      have hpT : parseT (rest s 0) = some M := h0.trans (congrArg some (List.append_nil M))
      obtain ⟨hpr, hin, -⟩ := pr_parse _ (Nat.le_refl _) hpT
      have hM8 : M.length ≤ 10000 := by
        have h1 := prL_ge M
        rw [hpr, rest_len] at h1
        have := HS.out
        omega
      have hok : ∀ x ∈ M, NdOk x := fun x hx => ndin_ok (hin x hx)
      obtain ⟨A5, c5, hv5, hA5, hc5⟩ := own_arg HR.out hok
      subst hv5
      have HFi := Lib.hid ((refFit_any wr A5 M.length c5 M hA5 hM8).mono fun _ _ h => saysB_fit h)
      have f1 : decide ((p : Int) < s.size) = false := decide_eq_false (by omega)
      have f1b : decide (p < s.size) = false := decide_eq_false hlt
      have hpe : parseE s = fitE M ∧ parseL s = if fitB M = true then M else [] := by unfold parseE parseL; rw [← rest_zero, hpT]; exact ⟨rfl, rfl⟩
      cases hF : fitB M with
      | true =>
        rw [hF] at HFi
        have HE2 := Lib.hid (show parseE s = 0 ∧ parseL s = M by
          rw [hpe.1, hpe.2, hF, if_pos rfl]
          exact ⟨by unfold fitE; rw [hF, if_pos rfl], rfl⟩)
        clear hpe hF hin hpr h0 hpT hok hA5 hc5 hM8
        go_wp2_with (go_at_call 20; ((with_reducible refine HFi.out.mono ?_); rintro e w6 ⟨rfl, hu⟩; have HU6 := Lib.hid (HU.out.trans hu); have HR6 := Lib.hid (rowN_up HR.out hu); clear hu))
        go_ret2
        exact ⟨_, by rw [HE2.out.1]; rfl, by rw [HE2.out.2]; exact HR6.out, HU6.out⟩
      | false =>
        rw [hF] at HFi
        have HE2 := Lib.hid (show parseE s = 60 ∧ parseL s = [] by
          rw [hpe.1, hpe.2, hF, if_neg (by decide)]
          exact ⟨by unfold fitE; rw [hF, if_neg (by decide)], rfl⟩)
        clear hpe hF hin hpr h0 hpT hok hA5 hc5 hM8
        go_wp2_with (go_at_call 20; ((with_reducible refine HFi.out.mono ?_); rintro e w6 ⟨rfl, hu⟩; have HU6 := Lib.hid (HU.out.trans hu); clear hu))
        go_ret2
        exact ⟨.slice none 0 0, by rw [HE2.out.1]; rfl, by rw [HE2.out.2]; exact World.ownsRow_nil _ _ _ _, HU6.out⟩
end Go.Proofs.YtidnldchdahgeaaDoor
