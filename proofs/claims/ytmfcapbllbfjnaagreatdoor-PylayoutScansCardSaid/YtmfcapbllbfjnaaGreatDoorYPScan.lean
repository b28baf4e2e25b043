/- The program's Scan. -/
import Derived.Test.YtmfcapbllbfjnaaGreatDoorYPGo
import Derived.Test.YtmfcapbllbfjnaaGreatDoorYScanA
import Derived.Laws.EntriesVeiled
namespace Go.Proofs.YtmfcapbllbfjnaaGreatDoor
open Go.RowKit

abbrev OP : TypeId := 56
abbrev TT : TypeId := 76
def turnV (k : Nat) : Value := .func (.func (fnK k)) #[] #[]
def turnA : Array Value := #[turnV 0, turnV 1, turnV 2, turnV 3, turnV 4, turnV 5, turnV 6, turnV 7, turnV 8]
def zeroO : Array Value := #[.slice none 0 0, .int .u8 0, .int .i64 0, .bool false, .bool false, .bool false]
/-- What stays as it is while the line is read: the box of the answer, the list of turns. -/
def Oth (g b : Nat) (i : Nat) (o : Obj) : Prop := (i = g ∧ o = .cells zeroO OP) ∨ (i = b + 1 ∧ o = .cells turnA TT)
theorem oth_noev {g b i : Nat} {o : Obj} (h : Oth g b i o) : NoEv o := by
  intro cs fr e
  rcases h with ⟨-, rfl⟩ | ⟨-, rfl⟩
  · injection e with _ e; exact absurd e (by decide +kernel)
  · injection e with _ e; exact absurd e (by decide +kernel)
set_option maxRecDepth 100000 in
theorem ixT (k : Nat) (h : k < 9) (W : World) : (Instr.index TT (.agg #[turnV 0, turnV 1, turnV 2, turnV 3, turnV 4, turnV 5, turnV 6, turnV 7, turnV 8]) (.int .i64 (k : Nat))).run Tryz.prog W = .ok (.func (.func (fnK k)) #[] #[]) W := by
  match k, h with
  | 0, _ => rfl
  | 1, _ => rfl
  | 2, _ => rfl
  | 3, _ => rfl
  | 4, _ => rfl
  | 5, _ => rfl
  | 6, _ => rfl
  | 7, _ => rfl
  | 8, _ => rfl
theorem enter_K (k : Nat) (h : k < 9) (args : Array Value) (W : World) : (callFunc (fnK k) args).run Tryz.prog W = .ok (.enter (fnK k) args) W := by
  match k, h with
  | 0, _ => exact enters_of Tryz.func47 (by kernel_rfl) rfl args W
  | 1, _ => exact enters_of Tryz.func48 (by kernel_rfl) rfl args W
  | 2, _ => exact enters_of Tryz.func49 (by kernel_rfl) rfl args W
  | 3, _ => exact enters_of Tryz.func50 (by kernel_rfl) rfl args W
  | 4, _ => exact enters_of Tryz.func51 (by kernel_rfl) rfl args W
  | 5, _ => exact enters_of Tryz.func52 (by kernel_rfl) rfl args W
  | 6, _ => exact enters_of Tryz.func53 (by kernel_rfl) rfl args W
  | 7, _ => exact enters_of Tryz.func54 (by kernel_rfl) rfl args W
  | 8, _ => exact enters_of Tryz.func55 (by kernel_rfl) rfl args W
theorem oth_at {w0 W : World} {g b p : Nat} {L : ByteArray} {v : Value} {es : List PEv} {st : PSt} (h : RdAt w0 W (Oth g b) b L p v es st) (k : Nat) (u : Value) (hu : turnA[k]? = some u) : W.cell? ⟨b + 1, k, none⟩ = some u := cellOf (h.oth (b + 1) _ (.inr ⟨rfl, rfl⟩)).1 hu
/-- What has been told and what is still to be told are all. -/
theorem scan_next {L : ByteArray} {p : Nat} {st : PSt} {es : List PEv} {R : List PEv × PSt} (hp : p < L.size) (hst : StOk st) (hl : es.length ≤ p) (h : (es ++ (scanC p ((bl L).drop p) st).1, (scanC p ((bl L).drop p) st).2) = R) :
    (nxE p st ((bl L).drop p) es ++ (scanC (nxP p st ((bl L).drop p)) ((bl L).drop (nxP p st ((bl L).drop p))) (nxS st ((bl L).drop p))).1, (scanC (nxP p st ((bl L).drop p)) ((bl L).drop (nxP p st ((bl L).drop p))) (nxS st ((bl L).drop p))).2) = R ∧
      StOk (nxS st ((bl L).drop p)) ∧ p < nxP p st ((bl L).drop p) ∧ (nxE p st ((bl L).drop p) es).length ≤ nxP p st ((bl L).drop p) := by
  cases ht : tokL st.mark st.depth ((bl L).drop p) with
  | none =>
    have e1 : nxP p st ((bl L).drop p) = p + 1 := by unfold nxP; rw [ht]
    have e2 : nxE p st ((bl L).drop p) es = es := by unfold nxE; rw [ht]
    have e3 : nxS st ((bl L).drop p) = st := by unfold nxS; rw [ht]
    rw [e1, e2, e3]
    refine ⟨?_, hst, by omega, by omega⟩
    have hd := bl_drop hp
    rw [hd] at ht h
    rw [scanC_blank ht] at h
    exact h
  | some t =>
    obtain ⟨e1, e2, e3⟩ := nx_some (p := p) (es := es) ht
    have hk := tokL_ok ht hst.mark hst.d0 hst.d1
    have hpos := hk.pos
    rw [e1, e2, e3]
    refine ⟨?_, aft_ok hst ht, by omega, by rw [List.length_append, List.length_singleton]; omega⟩
    rw [scanC_tok hst ht, List.drop_drop] at h
    rw [← h, List.append_assoc]
    rfl
/-- The block of an answer that has been written. -/
theorem box_set6 {W : World} {g : Nat} {v : Value} {st : PSt} (h : W.heap[g]? = some (.cells zeroO OP)) :
    ((((((W.setCell ⟨g, 0, none⟩ v).setCell ⟨g, 1, none⟩ (.int .u8 (st.mark : Nat))).setCell ⟨g, 2, none⟩ (.int .i64 st.depth)).setCell ⟨g, 3, none⟩ (.bool st.j)).setCell ⟨g, 4, none⟩ (.bool st.s)).setCell ⟨g, 5, none⟩ (.bool st.c)).heap[g]? = some (.cells (outA v st) OP) :=
  heap_setCell_same _ _ _ _ _ _ (heap_setCell_same _ _ _ _ _ _ (heap_setCell_same _ _ _ _ _ _ (heap_setCell_same _ _ _ _ _ _ (heap_setCell_same _ _ _ _ _ _ (heap_setCell_same _ _ _ _ _ _ h)))))
theorem row_far {W : World} {B g k : Nat} {u v : Value} {es : List PEv} (h : RowE W B v es) (hg : ∀ q, v.ownBlock = some q → q ≠ g) : RowE (W.setCell ⟨g, k, none⟩ u) B v es := by
  unfold RowE at h ⊢
  refine ⟨h.1, ?_⟩
  rcases h.2 with hn | ⟨q, cap, cur, rfl, hb, hgg, rest⟩
  · exact .inl hn
  · exact .inr ⟨q, cap, cur, rfl, hb, by rw [setCell_far W g k u q (fun e => hg q rfl e.symm)]; exact hgg, rest⟩
set_option maxRecDepth 100000 in
set_option maxHeartbeats 8000000 in
theorem scan_core (w : World) (hT : TabsP w) (line : ByteArray) (a : Int) (m : Nat) (d : Int) (hs : (line.size : Int) ≤ 1000000) (hm : m < 256) :
    Calls Tryz.prog 27 #[.string line, .int .i64 a, .int .u8 (m : Nat), .int .i64 d] w fun e w' => ∃ v, e = .returned (.agg (outA v (scanE (bl line) a m d).2)) ∧ RowE w' w.heap.size v (scanE (bl line) a m d).1 ∧ Up w w' := by
  obtain ⟨R, hR⟩ : ∃ R, scanE (bl line) a m d = R := ⟨_, rfl⟩
  rw [hR]
  obtain ⟨L, hL⟩ : ∃ L, ownB line = L := ⟨_, rfl⟩
  have hLs : (L.size : Int) ≤ 1000000 := by rw [← hL, ownB, ByteArray.size_extract]; omega
  have HOW := Lib.hid (fun W => own_any line W hs)
  rw [hL] at HOW
  obtain ⟨p, hpa⟩ : ∃ p : Nat, max a 0 = (p : Int) := ⟨(max a 0).toNat, by omega⟩
  obtain ⟨D, hdd⟩ : ∃ D : Int, min (max d 0) 1048576 = D := ⟨_, rfl⟩
  have hD : depE d = D := by rw [← hdd]; unfold depE; (repeat' split) <;> omega
  obtain ⟨st, hst⟩ : ∃ st, st0 m d = st := ⟨_, rfl⟩
  have HST := Lib.hid (show StOk st from by rw [← hst]; exact st0_ok m d)
  have HRE := Lib.hid (show (([] : List PEv) ++ (scanC p ((bl L).drop p) st).1, (scanC p ((bl L).drop p) st).2) = R from by
    rw [← hR, List.nil_append, ← hst]
    unfold scanE
    rw [hpa, scanL_eq, ← ownB_bl, hL]
    rfl)
  have HT := Lib.hid hT
  have HLS := Lib.hid hLs
  obtain ⟨mm, hmm⟩ : ∃ mm : Nat, markE m = mm := ⟨_, rfl⟩
  obtain rfl : st = ⟨mm, D, false, false, false⟩ := by rw [← hst]; unfold st0; rw [hmm, hD]
  have e1 : IntKind.i64.wrap (m : Int) = (m : Int) := IntWalk.i64_in _ (by omega)
  have hcond : (m < 5 ∧ mm = m) ∨ (¬ m < 5 ∧ mm = 0) := by
    rw [← hmm]
    unfold markE
    by_cases h : m ≤ 4
    · exact .inl ⟨by omega, if_pos h⟩
    · exact .inr ⟨by omega, if_neg h⟩
  clear hs hm hR hT hLs hL hst hmm hD
  rcases hcond with ⟨h5, h6⟩ | ⟨h5, h6⟩
  · have m1 : (m : Int) < 5 := by omega
    have H6 := Lib.hid h6
    clear h5 h6
    go_enter Tryz.func27, Tryz.ntmps27
    go_wp2_with (go_at_call 46; ((with_reducible refine (HOW.out _).mono ?_); rintro e w1 ⟨rfl, hu⟩; have HU1 := Lib.hid hu; clear hu))
    have H6' : mm = m := H6.out
    subst H6'
    clear e1 m1 H6 HOW
    obtain ⟨b, hb⟩ : ∃ b, w1.heap.size = b := ⟨_, rfl⟩
    have hus := Below.size HU1.out
    rw [World.size_alloc] at hus
    have hr0 : RdAt w ((w1.alloc (.cells (rdA L p (.slice none 0 0) ⟨mm, D, false, false, false⟩) RT)).alloc (.cells turnA TT)) (Oth w.heap.size b) b L p (.slice none 0 0) [] ⟨mm, D, false, false, false⟩ := by
      have hu2 := (Up.alloc w1 (.cells (rdA L p (.slice none 0 0) ⟨mm, D, false, false, false⟩) RT)).trans (Up.alloc _ (.cells turnA TT))
      refine ⟨?_, fun g o k => ⟨?_, ?_, oth_noev k⟩, World.ownsRow_nil _ _ _ _, by omega, (Up.alloc w (.cells zeroO OP)).trans (HU1.out.trans hu2)⟩
      · rw [← hb, Below.block (Up.alloc (w1.alloc _) _) w1.heap.size (by rw [World.size_alloc]; omega)]
        exact Go.heap_alloc_new _ _
      · rcases k with ⟨rfl, rfl⟩ | ⟨rfl, rfl⟩
        · rw [Below.block hu2 _ (by omega), Below.block HU1.out _ (by rw [World.size_alloc]; omega)]
          exact Go.heap_alloc_new _ _
        · have := Go.heap_alloc_new (w1.alloc (.cells (rdA L p (.slice none 0 0) ⟨mm, D, false, false, false⟩) RT)) (.cells turnA TT)
          rw [World.size_alloc, hb] at this
          exact this
      · rcases k with ⟨rfl, -⟩ | ⟨rfl, -⟩ <;> omega
    have HR0 := Lib.hid hr0
    clear hus hr0
    obtain ⟨br, hbr⟩ : ∃ br, w.heap.size = br := ⟨_, rfl⟩
    have HBR := Lib.hid hbr
    rw [hbr] at HR0
    simp only [hbr, hb]
    clear hbr hb hpa hdd
    go_loopg [12] (L.size - p) (fun g _ wr => ∃ (q : Nat) (es : List PEv) (st : PSt) (v : Value), g = L.size - q ∧ Hid (RdAt w wr (Oth br b) b L q v es st) ∧ Hid (StOk st) ∧ Hid (es.length ≤ q) ∧ Hid ((es ++ (scanC q ((bl L).drop q) st).1, (scanC q ((bl L).drop q) st).2) = R))
    case atStart => exact ⟨p, [], ⟨mm, D, false, false, false⟩, .slice none 0 0, rfl, HR0, HST, Lib.hid (Nat.zero_le _), HRE⟩
    case round =>
      clear HR0 HST HRE
      obtain ⟨q, es, st, v, hg, HRD, HSO, HEL, HEQ⟩ := hrel
      have HG := Lib.hid hg
      clear hg
      have x0 : wr.cell? ⟨b, 0, none⟩ = some (.string L) := HRD.out.cell rfl
      have x1 : wr.cell? ⟨b, 1, none⟩ = some (.int .i64 (q : Nat)) := HRD.out.cell rfl
      by_cases hlt : q < L.size
      · have y0 := oth_at HRD.out 0 (turnV 0) rfl
        have y1 := oth_at HRD.out 1 (turnV 1) rfl
        have y2 := oth_at HRD.out 2 (turnV 2) rfl
        have y3 := oth_at HRD.out 3 (turnV 3) rfl
        have y4 := oth_at HRD.out 4 (turnV 4) rfl
        have y5 := oth_at HRD.out 5 (turnV 5) rfl
        have y6 := oth_at HRD.out 6 (turnV 6) rfl
        have y7 := oth_at HRD.out 7 (turnV 7) rfl
        have y8 := oth_at HRD.out 8 (turnV 8) rfl
        obtain ⟨i, hi8, hci, hbi⟩ := cnd_first st.mark (bt L q) ((bl L).drop q)
        have HI := Lib.hid (show i ≤ 8 ∧ q < L.size ∧ cnd st.mark (bt L q) ((bl L).drop q) i = true ∧ ∀ j, j < i → cnd st.mark (bt L q) ((bl L).drop q) j = false from ⟨hi8, hlt, hci, hbi⟩)
        clear hi8 hci hbi
        go_wp2
        clear y0 y1 y2 y3 y4 y5 y6 y7 y8 x0 x1 hlt
        go_loopg [37] 9 (fun g iv wx => ∃ (k : Nat), g = 9 - k ∧ iv = .int .i64 (k : Nat) ∧ Hid (k ≤ i) ∧ Hid (∃ v', RdAt w wx (Oth br b) b L q v' es st))
        case atStart => exact ⟨0, rfl, rfl, Lib.hid (Nat.zero_le _), Lib.hid ⟨v, HRD.out⟩⟩
        case round =>
          clear HRD
          obtain ⟨k, hg2, rfl, HK, HRD⟩ := hrel
          have HG2 := Lib.hid hg2
          clear hg2
          obtain ⟨v2, hr2⟩ := HRD.out
          have hk9 : k < 9 := by have := HK.out; have := HI.out.1; omega
          have hix := ixT k hk9
          have hen := enter_K k hk9
          have j9 : (k : Int) < 9 := by omega
          by_cases hki : k = i
          · have hq6 : (L.size : Int) ≤ 1000000 := HLS.out
            have HC := Lib.hid (turn_yes k (by omega) hr2 HT.out HI.out.2.1 hq6 (by have := HEL.out; have := HI.out.2.1; omega) HSO.out (by rw [hki]; exact HI.out.2.2.1) (by rw [hki]; exact HI.out.2.2.2))
            obtain ⟨n1, n2, n3, n4⟩ := scan_next HI.out.2.1 HSO.out HEL.out HEQ.out
            have HN1 := Lib.hid n1
            have HN2 := Lib.hid n2
            have HN3 := Lib.hid n3
            have HN4 := Lib.hid n4
            clear hr2 hki hk9 hq6 n1 n2 n3 n4
            generalize nxP q st ((bl L).drop q) = q2 at *
            generalize nxE q st ((bl L).drop q) es = es2 at *
            generalize nxS st ((bl L).drop q) = st2 at *
            go_wp2_with ((with_reducible refine (HC.out).mono ?_); rintro e w3 ⟨rfl, v3, hr3⟩; have HR3 := Lib.hid hr3; clear hr3)
            go_roundg (L.size - q2)
            case measure => rw [HG.out]; have := HI.out.2.1; have := HN3.out; omega
            case rel => exact ⟨q2, es2, st2, v3, rfl, HR3, HN2, HN4, HN1⟩
          · have hq6 : (L.size : Int) ≤ 1000000 := HLS.out
            have hlt2 : k < i := by have := HK.out; omega
            have HC := Lib.hid (turn_no k (by have := HI.out.1; omega) hr2 HT.out HI.out.2.1 hq6 (by have := HEL.out; have := HI.out.2.1; omega) (HI.out.2.2.2 k hlt2))
            have HK2 := Lib.hid (show k + 1 ≤ i from hlt2)
            have HK9 := Lib.hid hk9
            have e2 : IntKind.i64.wrap ((k : Int) + 1) = (k : Int) + 1 := IntWalk.i64_in _ (by omega)
            clear hr2 hki hk9 hq6 hlt2
            go_wp2_with ((with_reducible refine (HC.out).mono ?_); rintro e w3 ⟨rfl, v3, hr3⟩; have HR3 := Lib.hid hr3; clear hr3)
            go_roundg (9 - (k + 1))
            case measure => rw [HG2.out]; have := HK9.out; omega
            case rel => exact ⟨k + 1, rfl, by go_num, HK2, Lib.hid ⟨v3, HR3.out⟩⟩
      · have hR := HEQ.out
        rw [bl_end (by omega), scanC_nil, List.append_nil] at hR
        have hR' : (es, st) = R := hR
        subst hR'
        have f0 : decide (q < L.size) = false := decide_eq_false hlt
        have x2 : wr.cell? ⟨b, 2, none⟩ = some v := HRD.out.cell rfl
        have x3 : wr.cell? ⟨b, 3, none⟩ = some (.int .u8 (st.mark : Nat)) := HRD.out.cell rfl
        have x4 : wr.cell? ⟨b, 4, none⟩ = some (.int .i64 st.depth) := HRD.out.cell rfl
        have x5 : wr.cell? ⟨b, 5, none⟩ = some (.bool st.j) := HRD.out.cell rfl
        have x6 : wr.cell? ⟨b, 6, none⟩ = some (.bool st.s) := HRD.out.cell rfl
        have x7 : wr.cell? ⟨b, 7, none⟩ = some (.bool st.c) := HRD.out.cell rfl
        have hbox := (HRD.out.oth br _ (.inl ⟨rfl, rfl⟩)).1
        have HB := Lib.hid hbox
        have r0 : wr.cell? ⟨br, 0, none⟩ = some (.slice none 0 0) := cellOf hbox rfl
        have r1 : wr.cell? ⟨br, 1, none⟩ = some (.int .u8 0) := cellOf hbox rfl
        have r2 : wr.cell? ⟨br, 2, none⟩ = some (.int .i64 0) := cellOf hbox rfl
        have r3 : wr.cell? ⟨br, 3, none⟩ = some (.bool false) := cellOf hbox rfl
        have r4 : wr.cell? ⟨br, 4, none⟩ = some (.bool false) := cellOf hbox rfl
        have r5 : wr.cell? ⟨br, 5, none⟩ = some (.bool false) := cellOf hbox rfl
        have rz : ∀ k, wr.frozen? ⟨br, k, none⟩ = false := fun k => frozenOf hbox
        obtain ⟨A, c, hv⟩ := own_slice HRD.out.row
        subst hv
        clear hlt hbox hR
        go_wp2
        (try simp only [Exit.inBlock, Exit.then]); refine bodyPost_ret (results_cell_row (ty := OP) rfl _ _ br _ _ _ _ rfl (box_set6 (st := st) (v := .slice A es.length c) HB.out) Tryz.underlying56 rfl (by kernel_rfl)) rfl ?_
        have hap : ∀ q', (Value.slice A es.length c).ownBlock = some q' → q' ≠ br := fun q' e hq' => (HRD.out.apart e).2 _ (.inl ⟨hq', rfl⟩)
        have hle : w.heap.size ≤ br := Nat.le_of_eq HBR.out
        refine ⟨_, rfl, row_far (row_far (row_far (row_far (row_far (row_far HRD.out.row hap) hap) hap) hap) hap) hap, ?_⟩
        exact Below.setCell (p := ⟨br, 5, none⟩) (Below.setCell (p := ⟨br, 4, none⟩) (Below.setCell (p := ⟨br, 3, none⟩) (Below.setCell (p := ⟨br, 2, none⟩) (Below.setCell (p := ⟨br, 1, none⟩) (Below.setCell (p := ⟨br, 0, none⟩) HRD.out.up hle _) hle _) hle _) hle _) hle _) hle _
  · have m1 : decide ((m : Int) < 5) = false := decide_eq_false (by omega)
    have H6 := Lib.hid h6
    clear h5 h6
    go_enter Tryz.func27, Tryz.ntmps27
    go_wp2_with (go_at_call 46; ((with_reducible refine (HOW.out _).mono ?_); rintro e w1 ⟨rfl, hu⟩; have HU1 := Lib.hid hu; clear hu))
    have H6' : mm = 0 := H6.out
    subst H6'
    clear e1 m1 H6 HOW
    obtain ⟨b, hb⟩ : ∃ b, w1.heap.size = b := ⟨_, rfl⟩
    have hus := Below.size HU1.out
    rw [World.size_alloc] at hus
    have hr0 : RdAt w ((w1.alloc (.cells (rdA L p (.slice none 0 0) ⟨0, D, false, false, false⟩) RT)).alloc (.cells turnA TT)) (Oth w.heap.size b) b L p (.slice none 0 0) [] ⟨0, D, false, false, false⟩ := by
      have hu2 := (Up.alloc w1 (.cells (rdA L p (.slice none 0 0) ⟨0, D, false, false, false⟩) RT)).trans (Up.alloc _ (.cells turnA TT))
      refine ⟨?_, fun g o k => ⟨?_, ?_, oth_noev k⟩, World.ownsRow_nil _ _ _ _, by omega, (Up.alloc w (.cells zeroO OP)).trans (HU1.out.trans hu2)⟩
      · rw [← hb, Below.block (Up.alloc (w1.alloc _) _) w1.heap.size (by rw [World.size_alloc]; omega)]
        exact Go.heap_alloc_new _ _
      · rcases k with ⟨rfl, rfl⟩ | ⟨rfl, rfl⟩
        · rw [Below.block hu2 _ (by omega), Below.block HU1.out _ (by rw [World.size_alloc]; omega)]
          exact Go.heap_alloc_new _ _
        · have := Go.heap_alloc_new (w1.alloc (.cells (rdA L p (.slice none 0 0) ⟨0, D, false, false, false⟩) RT)) (.cells turnA TT)
          rw [World.size_alloc, hb] at this
          exact this
      · rcases k with ⟨rfl, -⟩ | ⟨rfl, -⟩ <;> omega
    have HR0 := Lib.hid hr0
    clear hus hr0
    obtain ⟨br, hbr⟩ : ∃ br, w.heap.size = br := ⟨_, rfl⟩
    have HBR := Lib.hid hbr
    rw [hbr] at HR0
    simp only [hbr, hb]
    clear hbr hb hpa hdd
    go_loopg [12] (L.size - p) (fun g _ wr => ∃ (q : Nat) (es : List PEv) (st : PSt) (v : Value), g = L.size - q ∧ Hid (RdAt w wr (Oth br b) b L q v es st) ∧ Hid (StOk st) ∧ Hid (es.length ≤ q) ∧ Hid ((es ++ (scanC q ((bl L).drop q) st).1, (scanC q ((bl L).drop q) st).2) = R))
    case atStart => exact ⟨p, [], ⟨0, D, false, false, false⟩, .slice none 0 0, rfl, HR0, HST, Lib.hid (Nat.zero_le _), HRE⟩
    case round =>
      clear HR0 HST HRE
      obtain ⟨q, es, st, v, hg, HRD, HSO, HEL, HEQ⟩ := hrel
      have HG := Lib.hid hg
      clear hg
      have x0 : wr.cell? ⟨b, 0, none⟩ = some (.string L) := HRD.out.cell rfl
      have x1 : wr.cell? ⟨b, 1, none⟩ = some (.int .i64 (q : Nat)) := HRD.out.cell rfl
      by_cases hlt : q < L.size
      · have y0 := oth_at HRD.out 0 (turnV 0) rfl
        have y1 := oth_at HRD.out 1 (turnV 1) rfl
        have y2 := oth_at HRD.out 2 (turnV 2) rfl
        have y3 := oth_at HRD.out 3 (turnV 3) rfl
        have y4 := oth_at HRD.out 4 (turnV 4) rfl
        have y5 := oth_at HRD.out 5 (turnV 5) rfl
        have y6 := oth_at HRD.out 6 (turnV 6) rfl
        have y7 := oth_at HRD.out 7 (turnV 7) rfl
        have y8 := oth_at HRD.out 8 (turnV 8) rfl
        obtain ⟨i, hi8, hci, hbi⟩ := cnd_first st.mark (bt L q) ((bl L).drop q)
        have HI := Lib.hid (show i ≤ 8 ∧ q < L.size ∧ cnd st.mark (bt L q) ((bl L).drop q) i = true ∧ ∀ j, j < i → cnd st.mark (bt L q) ((bl L).drop q) j = false from ⟨hi8, hlt, hci, hbi⟩)
        clear hi8 hci hbi
        go_wp2
        clear y0 y1 y2 y3 y4 y5 y6 y7 y8 x0 x1 hlt
        go_loopg [37] 9 (fun g iv wx => ∃ (k : Nat), g = 9 - k ∧ iv = .int .i64 (k : Nat) ∧ Hid (k ≤ i) ∧ Hid (∃ v', RdAt w wx (Oth br b) b L q v' es st))
        case atStart => exact ⟨0, rfl, rfl, Lib.hid (Nat.zero_le _), Lib.hid ⟨v, HRD.out⟩⟩
        case round =>
          clear HRD
          obtain ⟨k, hg2, rfl, HK, HRD⟩ := hrel
          have HG2 := Lib.hid hg2
          clear hg2
          obtain ⟨v2, hr2⟩ := HRD.out
          have hk9 : k < 9 := by have := HK.out; have := HI.out.1; omega
          have hix := ixT k hk9
          have hen := enter_K k hk9
          have j9 : (k : Int) < 9 := by omega
          by_cases hki : k = i
          · have hq6 : (L.size : Int) ≤ 1000000 := HLS.out
            have HC := Lib.hid (turn_yes k (by omega) hr2 HT.out HI.out.2.1 hq6 (by have := HEL.out; have := HI.out.2.1; omega) HSO.out (by rw [hki]; exact HI.out.2.2.1) (by rw [hki]; exact HI.out.2.2.2))
            obtain ⟨n1, n2, n3, n4⟩ := scan_next HI.out.2.1 HSO.out HEL.out HEQ.out
            have HN1 := Lib.hid n1
            have HN2 := Lib.hid n2
            have HN3 := Lib.hid n3
            have HN4 := Lib.hid n4
            clear hr2 hki hk9 hq6 n1 n2 n3 n4
            generalize nxP q st ((bl L).drop q) = q2 at *
            generalize nxE q st ((bl L).drop q) es = es2 at *
            generalize nxS st ((bl L).drop q) = st2 at *
            go_wp2_with ((with_reducible refine (HC.out).mono ?_); rintro e w3 ⟨rfl, v3, hr3⟩; have HR3 := Lib.hid hr3; clear hr3)
            go_roundg (L.size - q2)
            case measure => rw [HG.out]; have := HI.out.2.1; have := HN3.out; omega
            case rel => exact ⟨q2, es2, st2, v3, rfl, HR3, HN2, HN4, HN1⟩
          · have hq6 : (L.size : Int) ≤ 1000000 := HLS.out
            have hlt2 : k < i := by have := HK.out; omega
            have HC := Lib.hid (turn_no k (by have := HI.out.1; omega) hr2 HT.out HI.out.2.1 hq6 (by have := HEL.out; have := HI.out.2.1; omega) (HI.out.2.2.2 k hlt2))
            have HK2 := Lib.hid (show k + 1 ≤ i from hlt2)
            have HK9 := Lib.hid hk9
            have e2 : IntKind.i64.wrap ((k : Int) + 1) = (k : Int) + 1 := IntWalk.i64_in _ (by omega)
            clear hr2 hki hk9 hq6 hlt2
            go_wp2_with ((with_reducible refine (HC.out).mono ?_); rintro e w3 ⟨rfl, v3, hr3⟩; have HR3 := Lib.hid hr3; clear hr3)
            go_roundg (9 - (k + 1))
            case measure => rw [HG2.out]; have := HK9.out; omega
            case rel => exact ⟨k + 1, rfl, by go_num, HK2, Lib.hid ⟨v3, HR3.out⟩⟩
      · have hR := HEQ.out
        rw [bl_end (by omega), scanC_nil, List.append_nil] at hR
        have hR' : (es, st) = R := hR
        subst hR'
        have f0 : decide (q < L.size) = false := decide_eq_false hlt
        have x2 : wr.cell? ⟨b, 2, none⟩ = some v := HRD.out.cell rfl
        have x3 : wr.cell? ⟨b, 3, none⟩ = some (.int .u8 (st.mark : Nat)) := HRD.out.cell rfl
        have x4 : wr.cell? ⟨b, 4, none⟩ = some (.int .i64 st.depth) := HRD.out.cell rfl
        have x5 : wr.cell? ⟨b, 5, none⟩ = some (.bool st.j) := HRD.out.cell rfl
        have x6 : wr.cell? ⟨b, 6, none⟩ = some (.bool st.s) := HRD.out.cell rfl
        have x7 : wr.cell? ⟨b, 7, none⟩ = some (.bool st.c) := HRD.out.cell rfl
        have hbox := (HRD.out.oth br _ (.inl ⟨rfl, rfl⟩)).1
        have HB := Lib.hid hbox
        have r0 : wr.cell? ⟨br, 0, none⟩ = some (.slice none 0 0) := cellOf hbox rfl
        have r1 : wr.cell? ⟨br, 1, none⟩ = some (.int .u8 0) := cellOf hbox rfl
        have r2 : wr.cell? ⟨br, 2, none⟩ = some (.int .i64 0) := cellOf hbox rfl
        have r3 : wr.cell? ⟨br, 3, none⟩ = some (.bool false) := cellOf hbox rfl
        have r4 : wr.cell? ⟨br, 4, none⟩ = some (.bool false) := cellOf hbox rfl
        have r5 : wr.cell? ⟨br, 5, none⟩ = some (.bool false) := cellOf hbox rfl
        have rz : ∀ k, wr.frozen? ⟨br, k, none⟩ = false := fun k => frozenOf hbox
        obtain ⟨A, c, hv⟩ := own_slice HRD.out.row
        subst hv
        clear hlt hbox hR
        go_wp2
        (try simp only [Exit.inBlock, Exit.then]); refine bodyPost_ret (results_cell_row (ty := OP) rfl _ _ br _ _ _ _ rfl (box_set6 (st := st) (v := .slice A es.length c) HB.out) Tryz.underlying56 rfl (by kernel_rfl)) rfl ?_
        have hap : ∀ q', (Value.slice A es.length c).ownBlock = some q' → q' ≠ br := fun q' e hq' => (HRD.out.apart e).2 _ (.inl ⟨hq', rfl⟩)
        have hle : w.heap.size ≤ br := Nat.le_of_eq HBR.out
        refine ⟨_, rfl, row_far (row_far (row_far (row_far (row_far (row_far HRD.out.row hap) hap) hap) hap) hap) hap, ?_⟩
        exact Below.setCell (p := ⟨br, 5, none⟩) (Below.setCell (p := ⟨br, 4, none⟩) (Below.setCell (p := ⟨br, 3, none⟩) (Below.setCell (p := ⟨br, 2, none⟩) (Below.setCell (p := ⟨br, 1, none⟩) (Below.setCell (p := ⟨br, 0, none⟩) HRD.out.up hle _) hle _) hle _) hle _) hle _) hle _
end Go.Proofs.YtmfcapbllbfjnaaGreatDoor
