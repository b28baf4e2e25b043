/- SeqMeanwhile, walked for any program whose rows answer so. -/
import Derived.Test.YthiiemjbigcinaaQMean
namespace Go.Proofs.Ythiiemjbigcinaa
open Go.RowKit Go.Shelf
attribute [local go_sem] Oper.semAt_some

/-- The boxes: the act's (w.heap.size), the result's (behind it), the row's. -/
def KM (w : World) (b5 : Nat) (i : Nat) : Prop := i = w.heap.size ∨ i = w.heap.size + 1 ∨ i = b5
/-- What stands between two rounds. -/
structure MnS (S : World → Nat → (Nat → Prop) → Row → Prop) (w : World) (xd xi xk : Int) (vA vB : Value) (b5 sb : Nat) (L : List Deed) (i : Nat) (W : World) : Prop where
  one : ∃ R, One S w sb (KM w b5) R W ∧ R.length ≤ cntN L i
  box : DBox w xd xi xk vA vB false W
  s : Boxed W b5 26 (ptr sb)
theorem infoStr : (Try.prog.info? 9).map (fun i => (i.zero, i.size, i.bytes)) = some (some (.string ⟨#[]⟩), 1, 16) := by kernel_rfl
theorem items_len (R : Row) : (itemsOf R).length = R.length := by unfold itemsOf; simp
theorem items_at {R : Row} {pre : List (Nat × ByteArray)} {x : Nat × ByteArray} (h : pre ++ [x] <+: itemsOf R) : x = (pre.length, nt R pre.length) ∧ pre.length < R.length := by
  have hl := h.length_le
  rw [items_len, List.length_append] at hl
  have hl2 : pre.length < R.length := hl
  refine ⟨?_, hl2⟩
  obtain ⟨s, hs⟩ := h
  have h1 : (itemsOf R)[pre.length]? = some x := by rw [← hs]; simp
  unfold itemsOf at h1
  rw [List.getElem?_map, List.getElem?_range hl2] at h1
  simpa using h1.symm
theorem DBox.turn {w W W' : World} {xd xi xk : Int} {vA vB : Value} {b : Bool} {P : Nat → Prop} (h : DBox w xd xi xk vA vB b W) (ht : Turn P W W') (h1 : ¬ P w.heap.size) (h2 : ¬ P (w.heap.size + 1)) (h3 : ∀ i, P i → w.heap.size ≤ i) : DBox w xd xi xk vA vB b W' :=
  ⟨(ht.block _ (Array.getElem?_eq_some_iff.1 h.box).1 h1).trans h.box, box_turn h.res ht h2, h.up.trans' ht h3⟩
section
variable {S : World → Nat → (Nat → Prop) → Row → Prop} (hC : SeqC S)
include hC
variable {w W W' : World} {xd xi xk : Int} {vA vB : Value} {b5 sb i : Nat} {L : List Deed} {R : Row}
theorem MnS.more (h : MnS S w xd xi xk vA vB b5 sb L i W) (hu : Up W W') : MnS S w xd xi xk vA vB b5 sb L i W' := by
  obtain ⟨R, h1, h2⟩ := h.one
  exact ⟨⟨R, h1.more hC hu, h2⟩, h.box.more hu, h.s.kept (Up.grownBy hu) (fun e => by cases e)⟩
theorem mn_splice {X : Deed} (h : MnS S w xd xi xk vA vB b5 sb L i W) (hX : AOk w X) (h1 : X.n ≤ 1000000) (h2 : X.m ≤ 1000000) (hc : cntN L (i + 1) = cntN L i + X.n) :
    Calls Try.prog 11 #[ptr sb, .int .i64 X.i, .int .i64 X.k, .slice X.A X.n X.c, .slice X.B X.m X.e] W fun e W' => (∃ v, e = .returned (.int .i64 v)) ∧ MnS S w xd xi xk vA vB b5 sb L (i + 1) W' ∧ Keep w (KM w b5) W W' := by
  obtain ⟨R, h3, h4⟩ := h.one
  have hlt : ∀ k, KM w b5 k → k < W.heap.size := by
    rintro k (rfl | rfl | rfl)
    · exact (Array.getElem?_eq_some_iff.1 h.box.box).1
    · exact h.box.res.lt
    · exact h.s.lt
  refine (one_splice hC h3 X.i X.k X.A X.n X.c X.L X.B X.m X.e X.Z (wf64 hX.i) (wf64 hX.k) (hX.x.up h3.up) (hX.z.up h3.up) h1 h2 (fun a e h0 => .inl (hX.x.lt a e h0)) (fun a e h0 => .inl (hX.z.lt a e h0)) hlt).mono ?_
  rintro e W' ⟨rfl, h6, h7⟩
  refine ⟨⟨_, rfl⟩, ⟨⟨_, h6, Nat.le_trans splR_len (by have := hX.x.txs.len; omega)⟩, ⟨?_, boxed_keep h.box.res h7 (.inr (.inl rfl)), h6.up⟩, boxed_keep h.s h7 (.inr (.inr rfl))⟩, h7⟩
  exact (h7.block _ (hlt _ (.inl rfl)) (fun g => g (.inr (.inl rfl)))).trans h.box.box
omit hC in
theorem ret_boxM (h : DBox w xd xi xk vA vB false W) : Boxed (W.setCell ⟨w.heap.size + 1, 0, none⟩ (.bool true)) (w.heap.size + 1) 4 (.bool true) ∧ Below w.heap.size w (W.setCell ⟨w.heap.size + 1, 0, none⟩ (.bool true)) :=
  ⟨Boxed.set _ h.res, Below.trans h.up (Turn.below (G := fun i => w.heap.size ≤ i) (Turn.set W (K := w.heap.size + 1) (Nat.le_succ _) 0 (.bool true)) (Below.size h.up) (fun _ h => h))⟩
set_option maxRecDepth 100000 in
set_option maxHeartbeats 8000000 in
theorem mean_in (hA : SeqA S) (hT : SeqT S) (w : World) (A : Option Addr) (n c : Nat) (L : List Deed) (hL : AArg w A n L) (X : Deed) (hX : AOk w X) : CallsIn Fence.wide 4 Try.prog 6 #[.slice A n c, .agg X.cells.toArray] w fun e w' => e = .returned (.bool true) ∧ Below w.heap.size w w' := by
  have HW := Lib.hid (fun W => wakes_any hC W)
  have HXo := Lib.hid hX
  have HL := Lib.hid hL
  obtain ⟨xd, xi, xk, xA, xn, xc, xL, xB, xm, xe, xZ⟩ := X
  unfold Deed.cells
  obtain ⟨W0, hW0⟩ : ∃ W0, (w.alloc (.cells #[.int .i64 xd, .int .i64 xi, .int .i64 xk, .slice xA xn xc, .slice xB xm xe] 25)).alloc (.cells #[.bool false] 4) = W0 := ⟨_, rfl⟩
  have HX : Hid (DBox w xd xi xk (.slice xA xn xc) (.slice xB xm xe) false W0) := Lib.hid (hW0 ▸ DBox.new w xd xi xk (.slice xA xn xc) (.slice xB xm xe))
  have HGr := Lib.hid (great_any W0 A n c L (hL.up HX.out.up))
  have HNw := Lib.hid (hC.new W0)
  have c1 := HX.out.c1
  have c2 := HX.out.c2
  have c3 := HX.out.c3
  have c4 := HX.out.c4
  clear hX hL
  refine callsIn_of_wp_marks Try.func6 rfl trivial (wpIn_wide.2 ?_) rfl
  simp only [Try.ntmps6, List.size_toArray, List.length_cons, List.length_nil, Nat.reduceAdd, Nat.reduceSub, Array.replicate_succ, Array.replicate_zero, List.push_toArray, List.append_toArray, List.nil_append, List.cons_append]
  by_cases h2 : 200 < xn
  · have f2 : (200 : Int) < xn := by omega
    clear h2
    go_wp2_with (first
      | (go_at_call 16; ((with_reducible refine HGr.out.mono ?_); rintro e w1 ⟨B, rfl, hB, rfl⟩; have HB := Lib.hid hB; clear hB; cases B))
      | (go_at_call 15; ((with_reducible refine (HW.out _).mono ?_); rintro e w6 ⟨rfl, hu⟩; have HX := Lib.hid (HX.out.more hu); have cr := HX.out.res.cell; have cf := HX.out.res.frozen; clear hu)))
    all_goals exact ⟨_, results_bool rfl _ _ _ true rfl (ret_boxM HX.out).1, rfl, (ret_boxM HX.out).2⟩
  have f2 : decide ((200 : Int) < xn) = false := decide_eq_false (by omega)
  have f2x := Lib.hid (show xn ≤ 200 by omega)
  clear h2
  go_wp2_with (first
    | (go_at_call 16; ((with_reducible refine HGr.out.mono ?_); rintro e w1 ⟨B, rfl, hB, rfl⟩; have HB := Lib.hid hB; clear hB; cases B))
    | (go_at_call 15; ((with_reducible refine (HW.out _).mono ?_); rintro e w6 ⟨rfl, hu⟩; have HX := Lib.hid (HX.out.more hu); have cr := HX.out.res.cell; have cf := HX.out.res.frozen; clear hu))
    | (go_at_call 17; ((with_reducible refine HNw.out.mono ?_); rintro e w1 ⟨sb, rfl, hn1, hu1⟩; have HN1 := Lib.hid hn1; have HU1 := Lib.hid hu1; clear hn1 hu1)))
  · have HN80 := Lib.hid (HB.out trivial)
    have hn80 := HN80.out.1
    obtain ⟨b5, hb5⟩ : ∃ b5, w1.heap.size = b5 := ⟨_, rfl⟩
    obtain ⟨W3, hW3⟩ : ∃ W3, w1.alloc (.cells #[ptr sb] 26) = W3 := ⟨_, rfl⟩
    have hP : MnS S w xd xi xk (.slice xA xn xc) (.slice xB xm xe) b5 sb L 0 W3 := by
      have hu1 : Up w1 W3 := hW3 ▸ Up.alloc w1 _
      have hs := Boxed.new w1 26 (ptr sb)
      rw [hW3, hb5] at hs
      have l1 := HX.out.res.lt
      have l2 := Below.size HU1.out
      refine ⟨⟨[], ⟨⟨fun q => W0.heap.size ≤ q ∧ q < w1.heap.size, hC.up (hC.mono HN1.out (fun q h g => ⟨g, h⟩)) hu1, fun q hq g => ?_, fun q g => Nat.lt_of_lt_of_le g.2 (Below.size hu1)⟩, HX.out.up.trans (HU1.out.trans hu1)⟩, Nat.zero_le _⟩, HX.out.more (HU1.out.trans hu1), hs⟩
      rcases hq with hq | hq | hq | hq <;> omega
    simp only [hW3, hb5]
    have HP := Lib.hid hP
    clear hP hW3 hb5 HB HN1 HNw HU1 HGr HX hW0 f2 c1 c2 c3 c4
    go_loopg [6] n (fun g jv wr => ∃ j : Nat, g = n - j ∧ jv = .int .i64 (j : Nat) ∧ j ≤ n ∧ Hid (MnS S w xd xi xk (.slice xA xn xc) (.slice xB xm xe) b5 sb L j wr))
    case atStart => exact ⟨0, rfl, rfl, Nat.zero_le _, HP⟩
    case round =>
      clear HP
      obtain ⟨j, hg, rfl, hj, HP⟩ := hrel
      have HG := Lib.hid hg
      clear hg
      by_cases hlt : j < n
      · have hil : j < L.length := by have := HL.out.len; omega
        obtain ⟨bl, o, rfl, hbl, d0, d1, d2, d3, d4⟩ := (HL.out.up HP.out.box.up).at_ j hil
        have hok := HL.out.ok _ (List.getElem_mem hil)
        rw [act_eq hil] at d0 d1 d2 d3 d4 hok
        obtain ⟨Y, hY⟩ : ∃ Y, L.getD j act0 = Y := ⟨_, rfl⟩
        have hc1 : cntN L (j + 1) = cntN L j + Y.n := by rw [← hY]; rfl
        have hb1 : Y.n ≤ 2000 ∧ Y.m ≤ 2000 := by rw [← hY]; exact HN80.out.2.2 j hlt
        rw [hY] at d0 d1 d2 d3 d4 hok
        have hjj : (j : Int) < n := by omega
        have HLT := Lib.hid hlt
        have hblw : Hid (bl < w.heap.size) := Lib.hid (by obtain ⟨b2, o2, e2, hb2, -⟩ := HL.out.at_ j hil; injection e2 with e2; injection e2 with e2; omega)
        have HSp := Lib.hid (mn_splice hC (HP.out.more hC (Up.drew wr)) hok (by omega) (by omega) hc1)
        have HSk := Lib.hid (show MnS S w xd xi xk (.slice xA xn xc) (.slice xB xm xe) b5 sb L (j + 1) wr from (by obtain ⟨R, h1, h2⟩ := HP.out.one; exact ⟨⟨R, h1, by omega⟩, HP.out.box, HP.out.s⟩))
        have c5 := HP.out.s.cell
        obtain ⟨yd, yi, yk, yA, yn, yc, yL, yB, ym, ye, yZ⟩ := Y
        dsimp only at d0 d1 d2 d3 d4 HSp
        by_cases hd : yd = 0
        · subst hd
          have hS : wr.cell? ⟨bl, o + j * 5 + 1, none⟩ = some (.int .i64 yi) ∧ wr.cell? ⟨bl, o + j * 5 + 2, none⟩ = some (.int .i64 yk) ∧ wr.cell? ⟨bl, o + j * 5 + 3, none⟩ = some (.slice yA yn yc) ∧ wr.cell? ⟨bl, o + j * 5 + 4, none⟩ = some (.slice yB ym ye) ∧ wr.cell? ⟨b5, 0, none⟩ = some (ptr sb) := ⟨d1, d2, d3, d4, c5⟩
          clear hY hbl hil hlt hok hc1 hb1 HP
          go_wp2
          clear d0 d1 d2 d3 d4 c5
          go_region_held3 (fun w' => w'.cell? ⟨bl, o + j * 5 + 1, none⟩ = some (.int .i64 yi) ∧ w'.cell? ⟨bl, o + j * 5 + 2, none⟩ = some (.int .i64 yk) ∧ w'.cell? ⟨bl, o + j * 5 + 3, none⟩ = some (.slice yA yn yc) ∧ w'.cell? ⟨bl, o + j * 5 + 4, none⟩ = some (.slice yB ym ye) ∧ w'.cell? ⟨b5, 0, none⟩ = some (ptr sb))
            (first | assumption | with_reducible exact ⟨cell_up (Up.drew _) (by assumption : _ ∧ _).1, cell_up (Up.drew _) (by assumption : _ ∧ _).2.1, cell_up (Up.drew _) (by assumption : _ ∧ _).2.2.1, cell_up (Up.drew _) (by assumption : _ ∧ _).2.2.2.1, cell_up (Up.drew _) (by assumption : _ ∧ _).2.2.2.2⟩ | exact ⟨h5k.cell hnG hS.1, h5k.cell hnG hS.2.1, h5k.cell hnG hS.2.2.1, h5k.cell hnG hS.2.2.2.1, h5m.s.cell⟩)
            ((go_at_call 11; ((with_reducible refine HSp.out.mono ?_); rintro e w5 ⟨⟨v5, rfl⟩, h5m, h5k⟩; have hnG : ¬ ¬ (bl < w.heap.size ∨ KM w b5 bl) := (fun h => h (.inl hblw.out)))))
          have HS5 := Lib.hid h5m
          clear hS h5m h5k hnG
          go_wp2
          go_roundg (n - (j + 1))
          case measure => rw [HG.out]; have := HLT.out; omega
          case rel => exact ⟨j + 1, rfl, by go_num, by have := HLT.out; omega, HS5⟩
        · have f1 : decide (yd = 0) = false := decide_eq_false hd
          clear hY hbl hil hlt hok hc1 hb1 HP d1 d2 d3 d4
          go_wp2
          go_roundg (n - (j + 1))
          case measure => rw [HG.out]; have := HLT.out; omega
          case rel => exact ⟨j + 1, rfl, by go_num, by have := HLT.out; omega, HSk⟩
      · obtain rfl : j = n := by omega
        obtain ⟨gf, eg, hall⟩ := hA.all
        have hnf : ∀ (W : World) (lb : Array Value), (binOp .eql 35 (.func (.func gf) #[] lb) .nilFunc).run Try.prog W = .ok (.bool false) W := fun W lb => by kernel_rfl
        obtain ⟨R, hone, hRl⟩ := HP.out.one
        obtain ⟨G, h1, h4, h5⟩ := hone.ex
        obtain ⟨W4, hW4⟩ : ∃ W4, wr.alloc (.cells #[.slice none 0 0] 22) = W4 := ⟨_, rfl⟩
        have hu4 : Up wr W4 := hW4 ▸ Up.alloc wr _
        have hb4 : Boxed W4 wr.heap.size 22 (.slice none 0 0) := hW4 ▸ Boxed.new wr _ _
        have HAl := Lib.hid (hall W4 sb G R (hC.up h1 hu4))
        have c5 := (HP.out.s.kept (Up.grownBy hu4) (fun e => by cases e)).cell
        have f0 : decide (j < j) = false := decide_eq_false hlt
        have HAll := Lib.hid hall
        clear hall hlt
        go_wp2_with (go_at_call 10; ((with_reducible refine HAl.out.mono ?_); rintro e w5 ⟨lb, Fz, rfl, hu5, hfz, ht5⟩; have HFz := Lib.hid hfz; have HU5 := Lib.hid hu5; have HT5 := Lib.hid ht5; clear hu5 ht5 hfz))
        obtain ⟨bw, hbw⟩ : ∃ bw, wr.heap.size = bw := ⟨_, rfl⟩
        obtain ⟨n5, hn5⟩ : ∃ n5, w5.heap.size = n5 := ⟨_, rfl⟩
        have hs4 : W4.heap.size = bw + 1 := by rw [← hW4, ← hbw]; simp
        have hs5 := Below.size HU5.out
        have hl5 : bw < n5 := by omega
        have B5 : Boxed w5 bw 22 (.slice none 0 0) := by rw [← hbw]; exact hb4.kept (Up.grownBy HU5.out) (fun e => by cases e)
        have D5 := Lib.hid (HP.out.box.more (hu4.trans HU5.out))
        have S5 := Lib.hid (HP.out.s.kept (Up.grownBy (hu4.trans HU5.out)) (fun e => by cases e))
        have R5 := Lib.hid (hC.up h1 (hu4.trans HU5.out))
        have GB := Lib.hid (show ∀ i, G i → i < bw from fun i g => hbw ▸ h5 i g)
        have LO := Lib.hid (show w.heap.size + 1 < bw ∧ b5 < bw ∧ ¬ G w.heap.size ∧ ¬ G (w.heap.size + 1) ∧ ¬ G b5 ∧ ∀ i, i < w.heap.size → ¬ G i from ⟨hbw ▸ HP.out.box.res.lt, hbw ▸ HP.out.s.lt, h4 _ (.inr (.inl rfl)), h4 _ (.inr (.inr (.inl rfl))), h4 _ (.inr (.inr (.inr rfl))), fun i hi => h4 i (.inl hi)⟩)
        have HF1 := Lib.hid (show ∀ i, Fz i → i < n5 ∧ i ≠ bw from fun i hi => by
          rcases HFz.out i hi with g | g
          · have := GB.out i g.1; omega
          · omega)
        have HRn := Lib.hid (hC.ok h1).len
        simp only [hbw]
        clear hs4 hs5 hb4 hu4 h1 h4 h5 hbw hW4 HP hone HFz HU5 hRl c5
        refine wpIn_wide.1 (range_tells (n := 4) rfl (by omega) (gf := gf) (lb := lb) rfl trivial eg HT5.out no_cells kpS_t kpS_b (fun _ => rfl)
          (fun pre W => ∃ v, Mn1 n5 bw w5 pre W v) ?hI ⟨_, ⟨B5, by rw [List.length_nil]; exact World.ownsRow_nil _ _ _ _, Turn.refl _ _⟩⟩ ?a1 ?assign ?body ?done)
        case assign =>
          intro l x W K' hK'
          gi_wp2
          exact hK'
        case hI =>
          rintro s X Y row ⟨v, k1⟩ hg hr
          exact ⟨v, k1.grown hg (fun r e => ⟨by have := (hr r e).1; omega, by obtain ⟨-, ob, y1, y2⟩ := hr r e; exact ⟨ob, y1, y2.elim id False.elim⟩⟩)⟩
        case body =>
          rintro l pre x W ⟨v, hK⟩ hpre
          have hpl := (items_at hpre).2
          have hRn := HRn.out
          have hsz := hK.tn.size
          have hv := hK.bx
          have cw := hK.bx.cell
          have hrow := hK.row
          obtain ⟨m, hm⟩ : ∃ m, pre.length = m := ⟨_, rfl⟩
          rw [hm] at hrow
          have HM := Lib.hid hm
          have HK := Lib.hid hK
          obtain ⟨i0, hi0, hz0, hz1, hz2⟩ := info_parts infoStr
          clear hK hpre
          gi_wp2_with (gi_at_builtin; (refine wpListIn_append_own _ rfl _ _ 22 rfl n5 9 i0 (.string ⟨#[]⟩) 1 16 Try.underlying22 hi0 hz0 hz1 hz2 rfl (by decide) _ _ _ rfl (hrow.alloc _) ⟨W.heap.size, 0, none⟩ 1 1 [.string x.2] rfl rfl (cell_one_new _ _ _) (by simp [Value.oneCell']) (by unfold maxLen; omega) (by omega) (by simp; omega) ?_; intro v' w3 hown' hgrow _; obtain ⟨g', cap', rfl⟩ := ownsRow_succ hown'; have hv1 : Boxed w3 bw 22 v := (hv.alloc _).kept hgrow (hv.not_row (by decide) hrow); have hc1 := hv1.cell; have hf1 := hv1.frozen))
          have hfin := Mn1.app (Fz := Fz) (x := x) (g := g') (cap := cap') (m := m) HK.out HF1.out (by rw [List.length_append, HM.out, List.map_append]; exact hown') hgrow
          exact ⟨hfin.1, hfin.2.1, _, hfin.2.2⟩
        case done =>
          rintro D W hD ⟨v, hK⟩ hDD
          obtain ⟨va, vc, rfl, hwas⟩ := hK.was
          obtain ⟨bk, hbk⟩ : ∃ bk, W.heap.size = bk := ⟨_, rfl⟩
          have hsz := hK.tn.size
          have hnk : n5 ≤ bk := by omega
          obtain ⟨W6, hW6⟩ : ∃ W6, W.alloc (.cells #[.int .i64 0] 3) = W6 := ⟨_, rfl⟩
          have hu6 : Up W W6 := hW6 ▸ Up.alloc W _
          have hs6 : W6.heap.size = bk + 1 := by rw [← hW6, ← hbk]; simp
          have Bk6 : Boxed W6 bk 3 (.int .i64 0) := by rw [← hW6, ← hbk]; exact Boxed.new W _ _
          have t56 : Turn (fun i => i = bw ∨ n5 ≤ i) w5 W6 := hK.tn.trans (.of_up _ hu6)
          have lo := LO.out
          have D6 := D5.out.turn t56 (by omega) (by omega) (fun i k => by omega)
          have S6 := box_turn S5.out t56 (by omega)
          have R6 := hC.turn R5.out t56 (fun i _ g k => by have := GB.out i g; omega)
          have B6 : Boxed W6 bw 22 (.slice va R.length vc) := hK.bx.kept (Up.grownBy hu6) (fun e => by cases e)
          have w6 : ∀ i, i < R.length → ∃ g, va = some ⟨g, 0, none⟩ ∧ n5 ≤ g ∧ g < bk ∧ W6.cell? ⟨g, i, none⟩ = some (.string (nt R i)) := fun i hi => by
            obtain ⟨g, y1, y2, y3⟩ := hwas i hi
            exact ⟨g, y1, y2, hbk ▸ World.block_lt_of_cell? W ⟨g, i, none⟩ y3, cell_up hu6 y3⟩
          have DD6 := keepD hDD hu6
          have hDk : D < bk := by rw [← hbk]; exact (Array.getElem?_eq_some_iff.1 hDD).1
          have HAl2 := Lib.hid (HAll.out (W.alloc (.cells #[.int .i64 0] 3)) sb G R (by rw [hW6]; exact R6))
          have c5 : (W.alloc (.cells #[.int .i64 0] 3)).cell? ⟨b5, 0, none⟩ = some (ptr sb) := by rw [hW6]; exact S6.cell
          have HE6 := Lib.hid hW6
          have HBK := Lib.hid hbk
          have HD6 := Lib.hid D6
          have HS6 := Lib.hid S6
          have HR6 := Lib.hid R6
          have HB6 := Lib.hid B6
          have HW6 := Lib.hid w6
          have HDD := Lib.hid DD6
          have HBk := Lib.hid Bk6
          have H6 := Lib.hid (show n5 ≤ bk ∧ D < bk ∧ n5 ≤ D ∧ W6.heap.size = bk + 1 from ⟨hnk, hDk, by omega, hs6⟩)
          clear hK hDD hwas hsz hnk hu6 hs6 t56 lo hbk D6 S6 R6 B6 w6 DD6 hDk Bk6 hD HT5 B5 hW6
          go_wp2_with (go_at_call 10; ((with_reducible refine HAl2.out.mono ?_); rintro e w7 ⟨lb2, Fz2, rfl, hu7, hfz2, ht7⟩; rw [HE6.out] at hu7 hfz2; have HFz2 := Lib.hid hfz2; have HU7 := Lib.hid hu7; have HT7 := Lib.hid ht7; clear hu7 ht7 hfz2))
          simp only [HBK.out]
          obtain ⟨n7, hn7⟩ : ∃ n7, w7.heap.size = n7 := ⟨_, rfl⟩
          have hs7 := Below.size HU7.out
          have h6 := H6.out
          have hk7 : bk < n7 := by omega
          have D7 := Lib.hid (HD6.out.more HU7.out)
          have S7 := Lib.hid (HS6.out.kept (Up.grownBy HU7.out) (fun e => by cases e))
          have B7 := Lib.hid (HB6.out.kept (Up.grownBy HU7.out) (fun e => by cases e))
          have R7 := hC.up HR6.out HU7.out
          have K7 : Boxed w7 bk 3 (.int .i64 0) := HBk.out.kept (Up.grownBy HU7.out) (fun e => by cases e)
          have HW7 := Lib.hid (fun i (hi : i < R.length) => (HW6.out i hi).imp fun g hg => (show va = some ⟨g, 0, none⟩ ∧ n5 ≤ g ∧ g < bk ∧ w7.cell? ⟨g, i, none⟩ = some (.string (nt R i)) from ⟨hg.1, hg.2.1, hg.2.2.1, cell_up HU7.out hg.2.2.2⟩))
          have DD7 := Lib.hid (keepD HDD.out HU7.out)
          have hsb : sb < bw := GB.out sb (hT.head R7)
          have HF2 := Lib.hid (show ∀ i, Fz2 i → ¬ (i = sb ∨ i = bk) from fun i hi => by
            rcases HFz2.out i hi with g | g
            · have := GB.out i g.1; have := g.2; omega
            · omega)
          have HGk := Lib.hid (show ¬ G bk from fun g => by have := GB.out bk g; omega)
          have hgs := hT.head R7
          have lo := LO.out
          have H7 := Lib.hid (show (w.heap.size ≠ sb ∧ w.heap.size + 1 ≠ sb ∧ b5 ≠ sb ∧ w.heap.size ≤ sb) ∧ sb < bw ∧ bw < n5 ∧ n5 ≤ bk ∧ bk < n7 ∧ D < bk ∧ n5 ≤ D ∧ n7 = w7.heap.size from ⟨⟨fun e => lo.2.2.1 (e ▸ hgs), fun e => lo.2.2.2.1 (e ▸ hgs), fun e => lo.2.2.2.2.1 (e ▸ hgs), Nat.le_of_not_lt fun e => lo.2.2.2.2.2 sb e hgs⟩, hsb, hl5, h6.1, hk7, h6.2.1, h6.2.2.1, hn7.symm⟩)
          obtain ⟨rl, hrl⟩ : ∃ rl, R.length = rl := ⟨_, rfl⟩
          rw [hrl] at B7 HRn
          have HRL := Lib.hid hrl
          have M0 : Mn2 S w7 sb bk G 0 w7 := ⟨⟨_, R, hT.cells R7, fun i g => g.2, fun i _ g => g.1⟩, Turn.refl _ _, K7⟩
          clear hgs lo hs7 h6 hk7 R7 K7 hsb HD6 HS6 HB6 HR6 HBk HW6 HDD H6 HAl2 HFz2 HBK hn7 hrl HU7 HF1 HAll R5 S5 D5 HE6 c5 hl5 hn5
          refine wpIn_wide.1 (range_tells (n := 4) rfl (by omega) (gf := gf) (lb := lb2) rfl trivial eg HT7.out no_cells kpS_t kpS_b (fun _ => rfl)
            (fun pre W => Mn2 S w7 sb bk G pre.length W) ?hI2 M0 ?a2 ?assign2 ?body2 ?done2)
          case assign2 =>
            intro l x W K' hK'
            gi_wp2
            exact hK'
          case hI2 =>
            rintro s X Y row k1 hg hr
            exact k1.grown hC hg (fun r e => ⟨(hr r e).1, by obtain ⟨-, ob, y1, y2⟩ := hr r e; exact ⟨ob, y1, y2.elim id False.elim⟩⟩)
          case body2 =>
            rintro l pre x X hM hpre
            obtain ⟨hx, hpl⟩ := items_at hpre
            obtain ⟨m, hm⟩ : ∃ m, pre.length = m := ⟨_, rfl⟩
            rw [hm] at hM hx hpl
            obtain ⟨g, hva, hg5, hgk, hgc⟩ := HW7.out m hpl
            obtain ⟨Tx, hTx⟩ : ∃ Tx, nt R m = Tx := ⟨_, rfl⟩
            rw [hTx] at hx hgc
            subst hx hva
            have h7 := H7.out
            have lo := LO.out
            have tn := hM.tn
            have hml : m < rl := HRL.out ▸ hpl
            have hml2 : (m : Int) < rl := by omega
            have hm0 : (0 : Int) ≤ m := by omega
            have e1 : IntKind.i64.wrap ((m : Int) + 1) = ((m + 1 : Nat) : Int) := (IntWalk.i64_in _ (by have := HRn.out; omega)).trans (by omega)
            have cw := (box_turn B7.out tn (by omega)).cell
            have cg : X.cell? ⟨g, m, none⟩ = some (.string Tx) := tn.cell (by omega) hgc
            have ck := hM.bk.cell
            have fk := hM.bk.frozen
            have cs := (box_turn S7.out tn (by omega)).cell
            have HDx := Lib.hid (D7.out.turn tn (by omega) (by omega) (fun i k => by omega))
            have HMx := Lib.hid hM
            have HM := Lib.hid hm
            have HLN := Lib.hid (hM.len hC)
            have hg0 : ∀ (q : Nat) (W : World), q = q := fun _ _ => rfl
            clear hg0 hM hpre hpl hgc hg5 hgk hm h7 lo tn hTx
            by_cases h55 : m < 5
            · have h5 : (m : Int) < 5 := by omega
              have d1 := HDx.out.c1
              have d2 := HDx.out.c2
              have d3 := HDx.out.c3
              have d4 := HDx.out.c4
              clear h55
              have HSp1 := Lib.hid (HMx.out.splice hT (by have := H7.out; omega) xi xk xA xn xc xL xB xm xe xZ (wf64 HXo.out.i) (wf64 HXo.out.k) (HXo.out.x.up HDx.out.up) (HXo.out.z.up HDx.out.up) (by have := f2x.out; omega))
              gi_wp2_with (refine ⟨trivial, ?_⟩; gi_at_call 11; ((with_reducible refine (CallsIn.inRound l ((callsIn_wide (n := 1)).2 HSp1.out)).mono ?_); rintro e w8 ⟨⟨v8, rfl⟩, hM8, ht8⟩; have cs := ht8.cell (fun e => H7.out.1.2.2.1 e) cs; have HM8 := Lib.hid hM8; have HT8 := Lib.hid ht8; clear hM8 ht8))
              have hud := Up.drew w8
              have HM8d := Lib.hid (HM8.out.up hC hud)
              obtain ⟨ln, hln0, hln⟩ := HM8d.out.len hC
              have HLen := Lib.hid hln
              have HSp2 := Lib.hid (fun Y (hu : Up w8.drew Y) (q : Int) (hq : I64 q) => (HM8d.out.up hC hu).splice hT (by have := H7.out; omega) 0 q none 0 0 [] none 0 0 [] (by unfold I64; omega) hq ⟨⟨rfl, fun i h => absurd h (Nat.not_lt_zero _)⟩, fun x hx => by (cases hx), Nat.le_refl _, Nat.zero_le _, fun _ => rfl⟩ ⟨⟨rfl, fun i h => absurd h (Nat.not_lt_zero _)⟩, fun x hx => by (cases hx), Nat.le_refl _, Nat.zero_le _, fun _ => rfl⟩ (by omega))
              have cs := cell_up hud cs
              have HUd := Lib.hid hud
              clear hud hln d1 d2 d3 d4 ck fk cw cg HLN
              have hmx : Try.prog.follows .mixedOrders = true := by kernel_rfl
              have hln3 : ln = 0 ∨ ln = 1 ∨ 1 < ln := by omega
              rcases hln3 with rfl | rfl | hl
              all_goals
                first | (have hl1 : (1 : Int) < ln := by omega) | skip
                first | (have hl2 : (1 : Int) ≤ ln := by omega) | skip
                first | (have hl3 : decide ((ln : Int) < 1) = false := decide_eq_false (by omega)) | skip
                gi_region_with_o (first
                  | (refine ⟨trivial, ?_⟩; gi_at_call 12; ((with_reducible refine (CallsIn.inRound l ((callsIn_wide (n := 1)).2 HLen.out)).mono ?_); rintro e w9 ⟨rfl, hu9⟩; have cs := cell_up hu9 cs; have HU9 := Lib.hid hu9; clear hu9))
                  | (refine ⟨trivial, ?_⟩; gi_at_call 11; ((with_reducible refine (CallsIn.inRound l ((callsIn_wide (n := 1)).2 (HSp2.out _ HU9.out _ (by unfold I64; omega)))).mono ?_); rintro e w10 ⟨⟨v10, rfl⟩, hM10, ht10⟩; have ck := hM10.bk.cell; have fk := hM10.bk.frozen; have HM10 := Lib.hid hM10; have HT10 := Lib.hid ht10; clear hM10 ht10)))
              all_goals
                have hTs := Lib.hid (show Turn (fun j => j = sb ∨ j = bk) X w10 from (((HT8.out.mono fun _ _ e => .inl e).trans (.of_up _ HUd.out)).trans (.of_up _ HU9.out)).trans (HT10.out.mono fun _ _ e => .inl e))
                clear cs hmx HSp1 HSp2 HLen HM8 HM8d
                gi_wp2
                have ht := hTs.out.trans (Turn.set w10 (G := fun j => j = sb ∨ j = bk) (K := bk) (.inr rfl) 0 (.int .i64 ((m + 1 : Nat) : Int)))
                refine ⟨HMx.out.keeps hT ht, kpS_turn ht HF2.out, ?_⟩
                show Mn2 S w7 sb bk G (pre ++ [(m, Tx)]).length _
                rw [List.length_append, HM.out]
                exact HM10.out.set hC HGk.out (by have := H7.out; omega) (m + 1)
            · have h5 : decide ((m : Int) < 5) = false := decide_eq_false (by omega)
              clear HLN
              gi_wp2
              have ht := Turn.set X (G := fun j => j = sb ∨ j = bk) (K := bk) (.inr rfl) 0 (.int .i64 ((m + 1 : Nat) : Int))
              refine ⟨HMx.out.keeps hT ht, kpS_turn ht HF2.out, ?_⟩
              show Mn2 S w7 sb bk G (pre ++ [(m, Tx)]).length _
              rw [List.length_append, HM.out]
              exact HMx.out.set hC HGk.out (by have := H7.out; omega) (m + 1)
          case done2 =>
            rintro D2 X hD2 hM hDD2
            have h7 := H7.out
            have lo := LO.out
            have tn := hM.tn
            have hk := hM.bk
            rw [items_len, HRL.out] at hk
            have ck := hk.cell
            have cw := (box_turn B7.out tn (by omega)).cell
            have HDx := Lib.hid (D7.out.turn tn (by omega) (by omega) (fun i k => by omega))
            have HD1 := Lib.hid (show X.heap[D]? = some (.deferred (some [])) from (tn.block D (by omega) (by omega)).trans DD7.out)
            have HD2 := Lib.hid hDD2
            have HNe := Lib.hid (show D ≠ w.heap.size + 1 ∧ D2 ≠ w.heap.size + 1 ∧ D ≠ D2 ∧ w.heap.size ≤ D ∧ w.heap.size ≤ D2 from by omega)
            clear hM tn hk h7 lo hD2 hDD2
            go_wp2_with (go_at_call 15; ((with_reducible refine (HW.out _).mono ?_); rintro e w9 ⟨rfl, hu⟩; have HDx := Lib.hid (HDx.out.more hu); have HD1 := Lib.hid (keepD HD1.out hu); have HD2 := Lib.hid (keepD HD2.out hu); have cr := HDx.out.res.cell; have cf := HDx.out.res.frozen; clear hu))
            have hst := setCell_grown w9 (w.heap.size + 1) 0 (.bool true)
            have hE2 : (w9.setCell ⟨w.heap.size + 1, 0, none⟩ (.bool true)).heap[D2]? = some (.deferred (some [])) := (hst.block D2 (Array.getElem?_eq_some_iff.1 HD2.out).1 (fun e => HNe.out.2.1 (Option.some.inj e))).trans HD2.out
            have hE0 : (w9.setCell ⟨w.heap.size + 1, 0, none⟩ (.bool true)).heap[D]? = some (.deferred (some [])) := (hst.block D (Array.getElem?_eq_some_iff.1 HD1.out).1 (fun e => HNe.out.1 (Option.some.inj e))).trans HD1.out
            have hE1 : ((w9.setCell ⟨w.heap.size + 1, 0, none⟩ (.bool true)).putObj D2 (.deferred none)).heap[D]? = some (.deferred (some [])) := (World.putObj_heap_other (fun e => HNe.out.2.2.1 e)).trans hE0
            refine ⟨by simp, .inl ⟨_, _, rfl, run_takeDeferred hE2, ?_⟩⟩
            refine ⟨by simp, .inl ⟨_, _, rfl, run_takeDeferred hE1, ?_⟩⟩
            refine ⟨_, results_bool rfl _ _ _ true rfl ((World.putObj_heap_other (fun e => HNe.out.1 e.symm)).trans ((World.putObj_heap_other (fun e => HNe.out.2.1 e.symm)).trans (ret_boxM HDx.out).1)), rfl, ?_⟩
            exact Below.trans (ret_boxM HDx.out).2 (Below.trans (belowK_b (w := w) (Nat.le_refl _) _ D2 _ _ HNe.out.2.2.2.2 hE2 rfl rfl) (belowK_b (w := w) (Nat.le_refl _) _ D _ _ HNe.out.2.2.2.1 hE1 rfl rfl))
  · exact ⟨_, results_bool rfl _ _ _ true rfl (ret_boxM HX.out).1, rfl, (ret_boxM HX.out).2⟩
theorem mean_walk (hA : SeqA S) (hT : SeqT S) (w : World) (A : Option Addr) (n c : Nat) (L : List Deed) (hL : AArg w A n L) (X : Deed) (hX : AOk w X) : Calls Try.prog 6 #[.slice A n c, .agg X.cells.toArray] w fun e w' => e = .returned (.bool true) ∧ Below w.heap.size w w' := (callsIn_wide (n := 4)).1 (mean_in hC hA hT w A n c L hL X hX)
end
end Go.Proofs.Ythiiemjbigcinaa
