/- The program's Scan and End. -/
import Derived.Test.YtmfcapbllbfjnaaGreatDoorOC
namespace Go.Proofs.YtmfcapbllbfjnaaGreatDoor
open Go.RowKit
attribute [local go_sem ↓] ldS_eq stS_eq elS_eq neS_eq zrS_eq bdS_eq bdR_eq stR_eq zrR_eq
attribute [local go_sem] ldS_run stS_run elS_run neS_run zrS_run bdS_run0 bdS_run1 g0_rule ldV_drew ldV_drewN zrR_run

theorem rd_state {w0 W : World} {b E p : Nat} {s : LSt} {line : ByteArray} {v : Value} {es : List LEv} (h : RdP w0 W b (svP s) line E p v es) (hs : LOk s) : ldV (.pointer (some ⟨b, 0, none⟩)) W = some (.agg (stA s)) := by
  refine ldV_of (stA_is hs) (fun j u hj => ?_)
  rw [Nat.zero_add]
  have hj' : (svL (svP s))[j]? = some u := by unfold stA svA at hj; simpa using hj
  refine h.cell ?_
  unfold rdC
  rw [List.getElem?_append_left (by have := (List.getElem?_eq_some_iff.1 hj').1; exact this)]
  exact hj'
theorem lenF : ∀ (f p : Nat) (l : List Nat) (st : PSt), StOk st → (scanF f p l st).1.length ≤ l.length
  | 0, _, _, _, _ => Nat.zero_le _
  | f + 1, p, l, st, hs => by
    by_cases hl : l = []
    · rw [scanF, if_pos hl]; exact Nat.zero_le _
    · cases hq : tokL st.mark st.depth l with
      | none =>
        rw [scanF_none hl hq]
        have := lenF f (p + 1) (l.drop 1) st hs
        rw [List.length_drop] at this
        omega
      | some t =>
        have hk := tokL_ok hq hs.mark hs.d0 hs.d1
        have h1 := hk.pos
        have h2 := hk.len
        rw [scanF_some hl hq]
        have := lenF f (p + t.len) (l.drop t.len) _ (aft_ok hs hq)
        rw [List.length_drop] at this
        rw [List.length_cons]
        omega
theorem lenE (l : List Nat) (a : Int) (m : Nat) (d : Int) : (scanE l a m d).1.length ≤ l.length := by
  have h : (scanE l a m d).1.length ≤ ((l.take (endL l)).drop (max a 0).toNat).length := lenF _ _ _ _ (st0_ok m d)
  refine Nat.le_trans h ?_
  rw [List.length_drop, List.length_take]
  omega
/-- What Scan answers. -/
def ScannedP (W : World) (s : LSt) (l : List Nat) (e : Ending) (w' : World) : Prop := ∃ v, e = .returned (.tuple #[v, .agg (stA (scanP s l).2)]) ∧ RowL w' W.heap.size v (scanP s l).1 ∧ Up W w'
theorem own_setCells {W : World} {B n k bx o : Nat} {T : TypeId} {v : Value} {xs l : List Value} (ho : W.ownsRow B T k v n xs) (ha : ∀ g, v.ownBlock = some g → bx ≠ g) : (W.setCells bx o l).ownsRow B T k v n xs := by
  refine ⟨ho.1, ?_⟩
  rcases ho.2 with hn | ⟨g, cap, cur, rfl, hb, hg, rest⟩
  · exact .inl hn
  · exact .inr ⟨g, cap, cur, rfl, hb, by rw [far_heap bx g (ha g rfl)]; exact hg, rest⟩
/-- The result's cell, and what is told, behind the reader. -/
structure FinP (W w5 : World) (S : LSt) (v : Value) (es : List LEv) : Prop where
  ld : ldV (.pointer (some ⟨W.heap.size + 1, 0, none⟩)) w5 = some (.agg (stA S))
  row : RowL w5 W.heap.size v es
  up : Up W w5
theorem fin_any {W w2 w4 : World} {b E p : Nat} {S : LSt} {line : ByteArray} {v : Value} {es : List LEv} (h : RdP w2 w4 b (svP S) line E p v es) (hS : LOk S) (hu : Up W w2) (ht : w2.there (W.heap.size + 1) 0 82) :
    stV (.pointer (some ⟨W.heap.size + 1, 0, none⟩)) (.agg (stA S)) w4.drew = some (w4.drew.setCells (W.heap.size + 1) 0 (stA S).toList) ∧ FinP W (w4.drew.setCells (W.heap.size + 1) 0 (stA S).toList) S v es := by
  have hx := stA_is hS
  have ht4 := there_up (h.up.trans (Up.drew w4)) ht
  have hlt : W.heap.size + 1 < w2.heap.size := by
    have h0 := (ht 0 (by omega)).1
    obtain ⟨u, hu⟩ := Option.isSome_iff_exists.1 h0
    exact World.block_lt_of_cell? w2 _ hu
  refine ⟨stV_of hx ht4, set_ld hx ht4, own_low (own_setCells (own_up h.row (Up.drew w4)) (fun g e => ?_)) (by omega), set_upS ((hu.trans h.up).trans (Up.drew w4)) (by omega)⟩
  have := own_base h.row e
  omega
theorem scanP_empty {s : LSt} {line : ByteArray} (hm : s.mode = 0) (h : (indL (bl line) 0).1 = endL (bl line) ∨ bt line (indL (bl line) 0).1 = 35) :
    scanP s (bl line) = ((if (indL (bl line) 0).1 = endL (bl line) then [] else [evL 18 (indL (bl line) 0).1 (endL (bl line))]), s) := by
  unfold scanP
  rw [if_pos hm]
  by_cases h1 : (indL (bl line) 0).1 = endL (bl line)
  · rw [if_pos h1, if_pos h1]
  · rw [if_neg h1, if_neg h1]
    have hlt : (indL (bl line) 0).1 < line.size := by have := ind_end (bl line); have h2 := endL_le (bl line); rw [bl_len] at h2; omega
    rw [if_pos]
    rw [List.getD_eq_getElem?_getD, bl_at hlt]
    exact h.resolve_left h1
theorem scanP_full {s : LSt} {line : ByteArray} (hm : s.mode = 0) (h : ¬ ((indL (bl line) 0).1 = endL (bl line) ∨ bt line (indL (bl line) 0).1 = 35)) :
    scanP s (bl line) = ((layL s.cols s.flags (indL (bl line) 0).1 (indL (bl line) 0).2).1 ++ [evO 11 (indL (bl line) 0).1] ++ (readL (layL s.cols s.flags (indL (bl line) 0).1 (indL (bl line) 0).2).2 s.flags (scanE (bl line) (indL (bl line) 0).1 s.mark s.count) (endL (bl line))).1,
      (readL (layL s.cols s.flags (indL (bl line) 0).1 (indL (bl line) 0).2).2 s.flags (scanE (bl line) (indL (bl line) 0).1 s.mark s.count) (endL (bl line))).2) := by
  unfold scanP
  rw [if_pos hm, if_neg (fun k => h (.inl k))]
  have hlt : (indL (bl line) 0).1 < line.size := by have := ind_end (bl line); have h2 := endL_le (bl line); rw [bl_len] at h2; omega
  rw [if_neg]
  rw [List.getD_eq_getElem?_getD, bl_at hlt]
  exact fun k => h (.inr k)
set_option maxRecDepth 100000 in
set_option maxHeartbeats 16000000 in
theorem pscan_in (W : World) (hT : TabsP W) (x : Array Value) (s : LSt) (hx : IsS x) (hc : Cnt x s) (line : ByteArray) (hs : (line.size : Int) ≤ 65536) (hm : s.mode = 1) :
    Calls Tryz.prog 4 #[.agg x, .string line] W (ScannedP W s (bl line)) := by
  have hok := hc.1
  have HCN := Lib.hid (fun W' => counted_any W' x s hx hc)
  have HEN := Lib.hid (fun W' => endOf_any line W' (by omega))
  have hsp : scanP s (bl line) = readL s.cols s.flags (scanE (bl line) ((0 : Nat) : Int) s.mark s.count) (endL (bl line)) := by unfold scanP; rw [if_neg (by omega)]; rfl
  have HRE := Lib.hid (fun w0 W' b v (h1 : TabsP W') (h : RdP w0 W' b (svP s) line (endL (bl line)) 0 v []) => read_any w0 W' b (endL (bl line)) 0 s line v [] h1 h hs (by simp) (by rcases hok.line with h | h <;> omega) (scanE_ok _ _ _ _) (by have := lenE (bl line) ((0 : Nat) : Int) s.mark s.count; rw [bl_len] at this; omega))
  have hl : ldV (.pointer (some ⟨W.heap.size, 0, none⟩)) ((W.alloc (.cells x TS)).alloc (.cells z0 TS)) = some (.agg x) := ldV_up (Up.alloc _ _) (ldV_of hx (range_box W x TS))
  have ht : ((W.alloc (.cells x TS)).alloc (.cells z0 TS)).there (W.heap.size + 1) 0 82 := by have := there_box (W.alloc (.cells x TS)) z0_is TS; rwa [World.size_alloc] at this
  have HTH := Lib.hid ht
  have HU := Lib.hid ((Up.alloc W (.cells x TS)).trans (Up.alloc _ (.cells z0 TS)))
  have HT := Lib.hid hT
  have HOK2 := Lib.hid (scanP_ok (l := bl line) hok (by rw [bl_len]; omega))
  unfold ScannedP
  rw [hsp] at HOK2 ⊢
  generalize hR : readL s.cols s.flags (scanE (bl line) ((0 : Nat) : Int) s.mark s.count) (endL (bl line)) = R at HOK2 ⊢
  have HRR := Lib.hid hR
  generalize hE : endL (bl line) = E at HEN HRE HRR
  have hbd := fun w => bdR_run (svP s) line E w
  have hstr := fun w => stR_run w (svP s) line E 0
  have HST := Lib.hid (fun w2 => rd_start w2 w2 (svP s) line E (Up.refl w2))
  have HMO := Lib.hid hm
  have hsv : svA (svP s) = stA s := rfl
  rw [hsv] at hbd
  generalize hy : rdV (svP s) line E 0 (.slice none 0 0) = y at hbd hstr HST
  generalize hst0 : stA s = st0' at HCN hbd
  clear hx hc hs hm hsp ht hT hok hR hE hsv hy hst0
  go_enter Tryz.func4, Tryz.ntmps4
  go_upto_region 2 with (first
    | (go_at_call 8; ((with_reducible refine (HCN.out _).mono ?_); rintro e w1 ⟨rfl, hu⟩; have HU1 := Lib.hid (HU.out.trans hu); have HT1 := Lib.hid (there_up hu HTH.out); clear hu hl))
    | (go_at_call 9; ((with_reducible refine (HEN.out _).mono ?_); rintro e w2 ⟨rfl, hu⟩; have HU2 := Lib.hid (HU1.out.trans hu); have HT2 := Lib.hid (there_up hu HT1.out); clear hu)))
  have hrd := HST.out w2
  have hup := whole_up w2 (z := zR) LT y.toList
  have HT3 := Lib.hid (there_up hup HT2.out)
  have HU3 := Lib.hid (HU2.out.trans hup)
  clear hup hbd hstr
  have hbl : w2.heap.size ≠ W.heap.size + 1 := by
    have h := (HT2.out 0 (by omega)).1
    obtain ⟨u, hu⟩ := Option.isSome_iff_exists.1 h
    have := World.block_lt_of_cell? w2 _ hu
    have h3 : W.heap.size + 1 < w2.heap.size := this
    omega
  generalize hbb : w2.heap.size = bb at hrd HT3 HU3 hbl ⊢
  generalize hw3 : World.setCells _ _ _ _ = w3 at hrd HT3 HU3 ⊢
  have HRD := Lib.hid hrd
  have cm : w3.cell? ⟨bb, 65, none⟩ = some (.int .u8 1) := by have := hrd.mode; change _ = some (Value.int .u8 ((s.mode : Nat) : Int)) at this; rw [HMO.out] at this; exact this
  have HBL := Lib.hid hbl
  clear hbl
  clear hrd hw3 hbb
  go_upto_region 9 with (go_at_call 14; ((with_reducible refine (HRE.out _ _ _ _ (HT.out.up HU3.out) HRD.out).mono ?_); rintro e w4 ⟨rfl, v4, h4⟩; have HRD4 := Lib.hid h4; clear h4))
  rw [HRR.out, List.nil_append] at HRD4
  have cv := HRD4.out.ev
  have hld := rd_state HRD4.out HOK2.out
  obtain ⟨hst2, hfin⟩ := fin_any HRD4.out HOK2.out HU2.out HT2.out
  have HLD := Lib.hid hfin.ld
  have HFIN := Lib.hid hfin
  clear cm hfin
  generalize hxr : stA R.2 = xr at hst2 HLD hld
  have HXR := Lib.hid hxr
  clear hxr
  go_region
  all_goals
    go_wp2
    refine bodyPost_ret (res_S2 rfl _ _ _ _ rfl HLD.out) rfl ?_
    refine ⟨v4, ?_, by rw [← HXR.out]; exact HFIN.out.row, by rw [← HXR.out]; exact HFIN.out.up⟩
    rw [HXR.out]
    rfl
set_option maxRecDepth 100000 in
set_option maxHeartbeats 16000000 in
theorem pscan_empty (W : World) (hT : TabsP W) (x : Array Value) (s : LSt) (hx : IsS x) (hc : Cnt x s) (line : ByteArray) (hs : (line.size : Int) ≤ 65536) (hm : s.mode = 0) (hem : (indL (bl line) 0).1 = endL (bl line) ∨ bt line (indL (bl line) 0).1 = 35) :
    Calls Tryz.prog 4 #[.agg x, .string line] W (ScannedP W s (bl line)) := by
  have hok := hc.1
  have HCN := Lib.hid (fun W' => counted_any W' x s hx hc)
  have HEN := Lib.hid (fun W' => endOf_any line W' (by omega))
  have hsp := scanP_empty hm hem
  have HIN := Lib.hid (fun w0 W' b v es (h : RdP w0 W' b (svP s) line (endL (bl line)) 0 v es) => indent_any w0 W' b (endL (bl line)) 0 (svP s) line v es h hs)
  have hie : (indL (bl line) 0).1 ≤ endL (bl line) := ind_end (bl line)
  have hel : endL (bl line) ≤ line.size := by have := endL_le (bl line); rwa [bl_len] at this
  have HIE := Lib.hid (fun w0 W' b v es (h : RdP w0 W' b (svP s) line (endL (bl line)) (indL (bl line) 0).1 v es) => isEmpty_any w0 W' b (endL (bl line)) _ (svP s) line v es h hie hel)
  rw [decide_eq_true hem] at HIE
  have HCO := Lib.hid (fun w0 W' b v (h : RdP w0 W' b (svP s) line (endL (bl line)) (indL (bl line) 0).1 v []) => comment_any w0 W' b (endL (bl line)) _ (svP s) line v [] h (by simp) hie)
  generalize (indL (bl line) 0).2 = col at HIN
  have hl : ldV (.pointer (some ⟨W.heap.size, 0, none⟩)) ((W.alloc (.cells x TS)).alloc (.cells z0 TS)) = some (.agg x) := ldV_up (Up.alloc _ _) (ldV_of hx (range_box W x TS))
  have ht : ((W.alloc (.cells x TS)).alloc (.cells z0 TS)).there (W.heap.size + 1) 0 82 := by have := there_box (W.alloc (.cells x TS)) z0_is TS; rwa [World.size_alloc] at this
  have HTH := Lib.hid ht
  have HU := Lib.hid ((Up.alloc W (.cells x TS)).trans (Up.alloc _ (.cells z0 TS)))
  have HT := Lib.hid hT
  have HOK2 := Lib.hid (scanP_ok (l := bl line) hok (by rw [bl_len]; omega))
  unfold ScannedP
  rw [hsp] at HOK2 ⊢
  generalize hR : (if (indL (bl line) 0).1 = endL (bl line) then [] else [evL 18 (indL (bl line) 0).1 (endL (bl line))]) = R at HCO ⊢
  have hs2 : stA s = stA s := rfl
  generalize (indL (bl line) 0).1 = ti at HIN HIE HCO
  generalize hE : endL (bl line) = E at HEN HIN HIE HCO
  have hbd := fun w => bdR_run (svP s) line E w
  have hstr := fun w => stR_run w (svP s) line E 0
  have HST := Lib.hid (fun w2 => rd_start w2 w2 (svP s) line E (Up.refl w2))
  have HMO := Lib.hid hm
  have hsv : svA (svP s) = stA s := rfl
  rw [hsv] at hbd
  generalize hy : rdV (svP s) line E 0 (.slice none 0 0) = y at hbd hstr HST
  generalize hst0 : stA s = st0' at HCN hbd ⊢
  have HST0 := Lib.hid hst0
  clear hx hc hs hm hsp ht hT hok hR hE hsv hy hst0 hem hie hel hs2
  go_enter Tryz.func4, Tryz.ntmps4
  go_upto_region 2 with (first
    | (go_at_call 8; ((with_reducible refine (HCN.out _).mono ?_); rintro e w1 ⟨rfl, hu⟩; have HU1 := Lib.hid (HU.out.trans hu); have HT1 := Lib.hid (there_up hu HTH.out); clear hu hl))
    | (go_at_call 9; ((with_reducible refine (HEN.out _).mono ?_); rintro e w2 ⟨rfl, hu⟩; have HU2 := Lib.hid (HU1.out.trans hu); have HT2 := Lib.hid (there_up hu HT1.out); clear hu)))
  have hrd := HST.out w2
  have hup := whole_up w2 (z := zR) LT y.toList
  have HT3 := Lib.hid (there_up hup HT2.out)
  have HU3 := Lib.hid (HU2.out.trans hup)
  clear hup hbd hstr
  have hbl : w2.heap.size ≠ W.heap.size + 1 := by
    have h := (HT2.out 0 (by omega)).1
    obtain ⟨u, hu⟩ := Option.isSome_iff_exists.1 h
    have := World.block_lt_of_cell? w2 _ hu
    have h3 : W.heap.size + 1 < w2.heap.size := this
    omega
  generalize hbb : w2.heap.size = bb at hrd HT3 HU3 hbl ⊢
  generalize hw3 : World.setCells _ _ _ _ = w3 at hrd HT3 HU3 ⊢
  have HRD := Lib.hid hrd
  have cm : w3.cell? ⟨bb, 65, none⟩ = some (.int .u8 0) := by have := hrd.mode; change _ = some (Value.int .u8 ((s.mode : Nat) : Int)) at this; rw [HMO.out] at this; exact this
  have HBL := Lib.hid hbl
  clear hbl
  clear hrd hw3 hbb
  go_upto_region 6 with (first
    | (go_at_call 10; ((with_reducible refine (HIN.out _ _ _ _ _ HRD.out).mono ?_); rintro e w5 ⟨rfl, h5⟩; have HRD5 := Lib.hid h5; clear h5))
    | (go_at_call 11; ((with_reducible refine (HIE.out _ _ _ _ _ HRD5.out).mono ?_); rintro e w6 ⟨rfl, h6⟩; have HRD6 := Lib.hid h6; clear h6))
    | (go_at_call 12; ((with_reducible refine (HCO.out _ _ _ _ HRD6.out).mono ?_); rintro e w4 ⟨rfl, v4, h4⟩; have HRD4 := Lib.hid h4; clear h4)))
  rw [List.nil_append] at HRD4
  have cv := HRD4.out.ev
  have hld := rd_state HRD4.out HOK2.out
  obtain ⟨hst2, hfin⟩ := fin_any HRD4.out HOK2.out HU2.out HT2.out
  have HLD := Lib.hid hfin.ld
  have HFIN := Lib.hid hfin
  clear cm hfin
  generalize hxr : stA s = xr at hst2 HLD hld
  have HXR := Lib.hid hxr
  clear hxr
  go_region
  all_goals
    go_wp2
    refine bodyPost_ret (res_S2 rfl _ _ _ _ rfl HLD.out) rfl ?_
    refine ⟨v4, ?_, by rw [← HXR.out]; exact HFIN.out.row, by rw [← HXR.out]; exact HFIN.out.up⟩
    rw [← HST0.out, HXR.out]
    rfl
set_option maxRecDepth 100000 in
set_option maxHeartbeats 16000000 in
theorem pscan_full (W : World) (hT : TabsP W) (x : Array Value) (s : LSt) (hx : IsS x) (hc : Cnt x s) (line : ByteArray) (hs : (line.size : Int) ≤ 65536) (hm : s.mode = 0) (hem : ¬ ((indL (bl line) 0).1 = endL (bl line) ∨ bt line (indL (bl line) 0).1 = 35)) :
    Calls Tryz.prog 4 #[.agg x, .string line] W (ScannedP W s (bl line)) := by
  have hok := hc.1
  have HCN := Lib.hid (fun W' => counted_any W' x s hx hc)
  have HEN := Lib.hid (fun W' => endOf_any line W' (by omega))
  have hsp := scanP_full hm hem
  have HIN := Lib.hid (fun w0 W' b v es (h : RdP w0 W' b (svP s) line (endL (bl line)) 0 v es) => indent_any w0 W' b (endL (bl line)) 0 (svP s) line v es h hs)
  have hie : (indL (bl line) 0).1 ≤ endL (bl line) := ind_end (bl line)
  have hel : endL (bl line) ≤ line.size := by have := endL_le (bl line); rwa [bl_len] at this
  have hfl : s.flags ≤ 1 := by rcases hok.line with h | h <;> omega
  have HIE := Lib.hid (fun w0 W' b v es (h : RdP w0 W' b (svP s) line (endL (bl line)) (indL (bl line) 0).1 v es) => isEmpty_any w0 W' b (endL (bl line)) _ (svP s) line v es h hie hel)
  rw [decide_eq_false hem] at HIE
  have HLA := Lib.hid (fun w0 W' b v (h : RdP w0 W' b (svP s) line (endL (bl line)) (indL (bl line) 0).1 v []) => lay_any w0 W' b (endL (bl line)) (indL (bl line) 0).1 (indL (bl line) 0).2 s line v [] h (by simp) hok hfl)
  have hll : ((layL s.cols s.flags (indL (bl line) 0).1 (indL (bl line) 0).2).1 ++ [evO 11 (indL (bl line) 0).1]).length ≤ 100 := by
    rw [lay_set, List.length_append, List.length_append]
    have := set_len s (indL (bl line) 0).2 hok.len
    split <;> simp <;> omega
  have HRE := Lib.hid (fun w0 W' b v (h1 : TabsP W') (h : RdP w0 W' b (svP (withC s (layL s.cols s.flags (indL (bl line) 0).1 (indL (bl line) 0).2).2)) line (endL (bl line)) (indL (bl line) 0).1 v ((layL s.cols s.flags (indL (bl line) 0).1 (indL (bl line) 0).2).1 ++ [evO 11 (indL (bl line) 0).1])) => read_any w0 W' b (endL (bl line)) (indL (bl line) 0).1 (withC s (layL s.cols s.flags (indL (bl line) 0).1 (indL (bl line) 0).2).2) line v _ h1 h hs hll (by show s.mark < 256; rcases hok.line with h | h <;> omega) (scanE_ok _ _ _ _) (by have := lenE (bl line) (((indL (bl line) 0).1 : Nat) : Int) s.mark s.count; rw [bl_len] at this; show (scanE (bl line) _ s.mark s.count).1.length ≤ _; omega))
  have hl : ldV (.pointer (some ⟨W.heap.size, 0, none⟩)) ((W.alloc (.cells x TS)).alloc (.cells z0 TS)) = some (.agg x) := ldV_up (Up.alloc _ _) (ldV_of hx (range_box W x TS))
  have ht : ((W.alloc (.cells x TS)).alloc (.cells z0 TS)).there (W.heap.size + 1) 0 82 := by have := there_box (W.alloc (.cells x TS)) z0_is TS; rwa [World.size_alloc] at this
  have HTH := Lib.hid ht
  have HU := Lib.hid ((Up.alloc W (.cells x TS)).trans (Up.alloc _ (.cells z0 TS)))
  have HT := Lib.hid hT
  have HOK2 := Lib.hid (scanP_ok (l := bl line) hok (by rw [bl_len]; omega))
  unfold ScannedP
  rw [hsp] at HOK2 ⊢
  have hwc : ∀ (c : List Nat), (withC s c).cols = c ∧ (withC s c).flags = s.flags ∧ (withC s c).mark = s.mark ∧ (withC s c).count = s.count := fun c => ⟨rfl, rfl, rfl, rfl⟩
  simp only [(hwc _).1, (hwc _).2.1, (hwc _).2.2.1, (hwc _).2.2.2] at HRE
  generalize hL : layL s.cols s.flags (indL (bl line) 0).1 (indL (bl line) 0).2 = L at HLA HRE HOK2 ⊢
  generalize hR : readL L.2 s.flags (scanE (bl line) (indL (bl line) 0).1 s.mark s.count) (endL (bl line)) = R at HRE HOK2 ⊢
  generalize (indL (bl line) 0).1 = ti at HIN HIE HLA HRE ⊢
  generalize (indL (bl line) 0).2 = col at HIN HLA
  generalize hE : endL (bl line) = E at HEN HIN HIE HLA HRE
  have hbd := fun w => bdR_run (svP s) line E w
  have hstr := fun w => stR_run w (svP s) line E 0
  have HST := Lib.hid (fun w2 => rd_start w2 w2 (svP s) line E (Up.refl w2))
  have HMO := Lib.hid hm
  have hsv : svA (svP s) = stA s := rfl
  rw [hsv] at hbd
  generalize hy : rdV (svP s) line E 0 (.slice none 0 0) = y at hbd hstr HST
  generalize hst0 : stA s = st0' at HCN hbd
  clear hx hc hs hm hsp ht hT hok hR hL hE hsv hy hst0 hem hie hel hfl hll hwc
  go_enter Tryz.func4, Tryz.ntmps4
  go_upto_region 2 with (first
    | (go_at_call 8; ((with_reducible refine (HCN.out _).mono ?_); rintro e w1 ⟨rfl, hu⟩; have HU1 := Lib.hid (HU.out.trans hu); have HT1 := Lib.hid (there_up hu HTH.out); clear hu hl))
    | (go_at_call 9; ((with_reducible refine (HEN.out _).mono ?_); rintro e w2 ⟨rfl, hu⟩; have HU2 := Lib.hid (HU1.out.trans hu); have HT2 := Lib.hid (there_up hu HT1.out); clear hu)))
  have hrd := HST.out w2
  have hup := whole_up w2 (z := zR) LT y.toList
  have HT3 := Lib.hid (there_up hup HT2.out)
  have HU3 := Lib.hid (HU2.out.trans hup)
  clear hup hbd hstr
  have hbl : w2.heap.size ≠ W.heap.size + 1 := by
    have h := (HT2.out 0 (by omega)).1
    obtain ⟨u, hu⟩ := Option.isSome_iff_exists.1 h
    have := World.block_lt_of_cell? w2 _ hu
    have h3 : W.heap.size + 1 < w2.heap.size := this
    omega
  generalize hbb : w2.heap.size = bb at hrd HT3 HU3 hbl ⊢
  generalize hw3 : World.setCells _ _ _ _ = w3 at hrd HT3 HU3 ⊢
  have HRD := Lib.hid hrd
  have cm : w3.cell? ⟨bb, 65, none⟩ = some (.int .u8 0) := by have := hrd.mode; change _ = some (Value.int .u8 ((s.mode : Nat) : Int)) at this; rw [HMO.out] at this; exact this
  have HBL := Lib.hid hbl
  clear hbl
  clear hrd hw3 hbb
  go_upto_region 9 with (first
    | (go_at_call 10; ((with_reducible refine (HIN.out _ _ _ _ _ HRD.out).mono ?_); rintro e w5 ⟨rfl, h5⟩; have HRD5 := Lib.hid h5; clear h5))
    | (go_at_call 11; ((with_reducible refine (HIE.out _ _ _ _ _ HRD5.out).mono ?_); rintro e w6 ⟨rfl, h6⟩; have HRD6 := Lib.hid h6; clear h6))
    | (go_at_call 13; ((with_reducible refine (HLA.out _ _ _ _ HRD6.out).mono ?_); rintro e w7 ⟨rfl, v7, h7⟩; have HRD7 := Lib.hid h7; clear h7))
    | (go_at_call 14; ((with_reducible refine (HRE.out _ _ _ _ (HT.out.up (HU2.out.trans HRD7.out.up)) (by have h := HRD7.out; rw [List.nil_append] at h; exact h)).mono ?_); rintro e w4 ⟨rfl, v4, h4⟩; have HRD4 := Lib.hid h4; clear h4)))
  have cv := HRD4.out.ev
  have hld := rd_state HRD4.out HOK2.out
  obtain ⟨hst2, hfin⟩ := fin_any HRD4.out HOK2.out HU2.out HT2.out
  have HLD := Lib.hid hfin.ld
  have HFIN := Lib.hid hfin
  clear cm hfin
  generalize hxr : stA R.2 = xr at hst2 HLD hld
  have HXR := Lib.hid hxr
  clear hxr
  go_region
  all_goals
    go_wp2
    refine bodyPost_ret (res_S2 rfl _ _ _ _ rfl HLD.out) rfl ?_
    refine ⟨v4, ?_, by rw [← HXR.out]; exact HFIN.out.row, by rw [← HXR.out]; exact HFIN.out.up⟩
    rw [HXR.out]
    rfl
/-- The program's Scan, from any state. -/
theorem pscan_any (W : World) (hT : TabsP W) (x : Array Value) (s : LSt) (hx : IsS x) (hc : Cnt x s) (line : ByteArray) (hs : (line.size : Int) ≤ 65536) :
    Calls Tryz.prog 4 #[.agg x, .string line] W (ScannedP W s (bl line)) := by
  by_cases hm : s.mode = 1
  · exact pscan_in W hT x s hx hc line hs hm
  · have h0 : s.mode = 0 := by rcases hc.1.line with h | h <;> omega
    by_cases hem : (indL (bl line) 0).1 = endL (bl line) ∨ bt line (indL (bl line) 0).1 = 35
    · exact pscan_empty W hT x s hx hc line hs h0 hem
    · exact pscan_full W hT x s hx hc line hs h0 hem
theorem own_one {w : World} {B : Nat} (hB : B ≤ w.heap.size) (a b c d : Value) : (w.alloc (.cells #[a, b, c, d] ET)).ownsRow B ET 4 (.slice (some ⟨w.heap.size, 0, none⟩) 1 1) 1 [a, b, c, d] :=
  ⟨rfl, .inr ⟨w.heap.size, 1, #[a, b, c, d], rfl, hB, Go.heap_alloc_new _ _, Nat.le_refl _, by unfold maxLen; omega, rfl, rfl⟩⟩
end Go.Proofs.YtmfcapbllbfjnaaGreatDoor
