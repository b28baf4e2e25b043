/- The program's read. -/
import Derived.Test.YtmfcapbllbfjnaaGreatDoorOB
import Derived.Deep.CutBlock
namespace Go.Proofs.YtmfcapbllbfjnaaGreatDoor
open Go.RowKit

theorem keep4 {W W' : World} {b : Nat} {x y z u : Value} (hu : Up W W') (h : W.cell? ⟨b, 82, none⟩ = some x ∧ W.cell? ⟨b, 84, none⟩ = some y ∧ W.cell? ⟨b, 66, none⟩ = some z ∧ W.cell? ⟨b, 68, none⟩ = some u) : W'.cell? ⟨b, 82, none⟩ = some x ∧ W'.cell? ⟨b, 84, none⟩ = some y ∧ W'.cell? ⟨b, 66, none⟩ = some z ∧ W'.cell? ⟨b, 68, none⟩ = some u :=
  ⟨cell_up hu h.1, cell_up hu h.2.1, cell_up hu h.2.2.1, cell_up hu h.2.2.2⟩
theorem keep4s {W : World} {b g k : Nat} {x y z u q : Value} (hg : g ≠ b) (h : W.cell? ⟨b, 82, none⟩ = some x ∧ W.cell? ⟨b, 84, none⟩ = some y ∧ W.cell? ⟨b, 66, none⟩ = some z ∧ W.cell? ⟨b, 68, none⟩ = some u) : (W.setCell ⟨g, k, none⟩ q).cell? ⟨b, 82, none⟩ = some x ∧ (W.setCell ⟨g, k, none⟩ q).cell? ⟨b, 84, none⟩ = some y ∧ (W.setCell ⟨g, k, none⟩ q).cell? ⟨b, 66, none⟩ = some z ∧ (W.setCell ⟨g, k, none⟩ q).cell? ⟨b, 68, none⟩ = some u := by
  have f : ∀ i, (W.setCell ⟨g, k, none⟩ q).cell? ⟨b, i, none⟩ = W.cell? ⟨b, i, none⟩ := fun i => World.cell?_setCell_far _ _ _ _ hg
  rw [f, f, f, f]
  exact h
theorem boxQ {W w1 : World} {o : Obj} (hu : Up (W.alloc o) w1) : w1.heap[W.heap.size]? = some o := by
  rw [Below.block hu _ (by rw [World.size_alloc]; omega)]
  exact Go.heap_alloc_new _ _
theorem boxZ {W w1 : World} {o : Obj} (hu : Up (W.alloc o).drew w1) : w1.heap[W.heap.size]? = some o := by
  rw [Below.block ((Up.drew _).trans hu) _ (by rw [World.size_alloc]; omega)]
  exact Go.heap_alloc_new _ _
/-- Does a logical line end in a colon; does it go on. -/
def colP (fl : Nat) (st : PSt) : Bool := if st.s then st.c else fl == 2
def goP (st : PSt) : Bool := st.j || st.mark != 0 || decide (0 < st.depth)
theorem readL_go {cols : List Nat} {flags E : Nat} {R : List PEv × PSt} (h : goP R.2 = true) : readL cols flags R E = (R.1.map lfE, ⟨cols, 1, R.2.mark, if colP flags R.2 = true then 2 else 0, R.2.depth.toNat⟩) := by
  unfold readL
  unfold goP at h
  rw [if_pos h]
  rfl
theorem readL_end {cols : List Nat} {flags E : Nat} {R : List PEv × PSt} (h : goP R.2 = false) : readL cols flags R E = (R.1.map lfE ++ [evC (if colP flags R.2 = true then 12 else 11) E], ⟨cols, 0, 0, if colP flags R.2 = true then 1 else 0, 0⟩) := by
  unfold readL
  unfold goP at h
  rw [if_neg (by rw [h]; decide)]
  rfl
set_option maxRecDepth 100000 in
set_option maxHeartbeats 8000000 in
theorem read_any (w0 W : World) (b E p : Nat) (s : LSt) (line : ByteArray) (v : Value) (es : List LEv) (hT : TabsP W) (hr : RdP w0 W b (svP s) line E p v es) (hs : (line.size : Int) ≤ 65536) (hl : es.length ≤ 100) (hm : s.mark < 256) (hok : StOk (scanE (bl line) p s.mark s.count).2) (hlen : (scanE (bl line) p s.mark s.count).1.length ≤ 65536) :
    Calls Tryz.prog 14 #[.pointer (some ⟨b, 0, none⟩)] W (DoneP w0 b (svP (readL s.cols s.flags (scanE (bl line) p s.mark s.count) E).2) line E p (es ++ (readL s.cols s.flags (scanE (bl line) p s.mark s.count) E).1)) := by
  have HS := Lib.hid (fun W' (h : TabsP W') => scan_core W' h line p s.mark s.count (by omega) hm)
  have HR := Lib.hid hr
  have HT := Lib.hid hT
  have hS : W.cell? ⟨b, 82, none⟩ = some (.string line) ∧ W.cell? ⟨b, 84, none⟩ = some (.int .i64 (p : Nat)) ∧ W.cell? ⟨b, 66, none⟩ = some (.int .u8 (s.mark : Nat)) ∧ W.cell? ⟨b, 68, none⟩ = some (.int .i64 (s.count : Nat)) := ⟨hr.ln, hr.at_, hr.mark, hr.count⟩
  have hb : W.heap.size ≠ b := by have := hr.lt; omega
  generalize scanE (bl line) p s.mark s.count = RR at HS hok hlen ⊢
  obtain ⟨fs, st⟩ := RR
  have HOK := Lib.hid hok
  have HLEN := Lib.hid hlen
  clear hok hlen
  clear hr hs hm hT
  unfold outA at HS
  go_enter Tryz.func14, Tryz.ntmps14
  go_upto_region 0 with fail
  go_cut [2] (fun v2 wx => ∃ bx u, v2 = .pointer (some ⟨bx, 0, none⟩) ∧ Hid (GotP w0 W wx b (svP s) line E p v es bx u fs st))
  case first =>
    go_region_held3 (fun w' => w'.cell? ⟨b, 82, none⟩ = some (.string line) ∧ w'.cell? ⟨b, 84, none⟩ = some (.int .i64 (p : Nat)) ∧ w'.cell? ⟨b, 66, none⟩ = some (.int .u8 (s.mark : Nat)) ∧ w'.cell? ⟨b, 68, none⟩ = some (.int .i64 (s.count : Nat)))
      (((repeat with_reducible refine keep4s hb ?_); (with_reducible refine keep4 ?_ hS); (repeat first | with_reducible exact Up.refl _ | with_reducible refine Up.trans ?_ HUC.out | with_reducible refine Up.trans ?_ (Up.drew _) | with_reducible refine Up.trans ?_ (Up.alloc _ _))))
      ((go_at_call 27; ((with_reducible refine (HS.out _ (HT.out.up (by first | with_reducible exact Up.drew _ | with_reducible exact (Up.drew _).trans (Up.alloc _ _) | with_reducible exact (Up.alloc _ _).trans (Up.drew _)))).mono ?_); rintro e w1 ⟨u, rfl, hrow, hu⟩; obtain ⟨A, cp, rfl⟩ := own_slice hrow; have HUC := Lib.hid hu; have HROW := Lib.hid hrow; clear hrow; try (have hbx := boxZ hu; have y0 : w1.cell? ⟨W.heap.size, 0, none⟩ = some (.slice none 0 0) := cellOf hbx rfl; have y1 : w1.cell? ⟨W.heap.size, 1, none⟩ = some (.int .u8 0) := cellOf hbx rfl; have y2 : w1.cell? ⟨W.heap.size, 2, none⟩ = some (.int .i64 0) := cellOf hbx rfl; have y3 : w1.cell? ⟨W.heap.size, 3, none⟩ = some (.bool false) := cellOf hbx rfl; have y4 : w1.cell? ⟨W.heap.size, 4, none⟩ = some (.bool false) := cellOf hbx rfl; have y5 : w1.cell? ⟨W.heap.size, 5, none⟩ = some (.bool false) := cellOf hbx rfl; have yz : ∀ k, w1.frozen? ⟨W.heap.size, k, none⟩ = false := fun k => frozenOf hbx; clear hbx); clear hu)))
    all_goals
      go_wp2
      go_meet
      case rel =>
        first
        | (have e0 : Value.pointer (some ⟨w1.heap.size, 0, none⟩) = Value.pointer (some ⟨w1.heap.size, 0, none⟩) := rfl
           have h6 := got_new (st := st) HR.out ((Up.drew W).trans HUC.out) HROW.out
           refine ⟨w1.heap.size, .slice A fs.length cp, (by with_reducible exact e0), ?_⟩
           exact Lib.hid h6)
        | (have hz : RowE w1 (W.heap.size + 1) (.slice A fs.length cp) fs := by have := HROW.out; rwa [World.size_drew, World.size_alloc] at this
           have h6 := got_old (st := st) HR.out ((Up.drew _).trans HUC.out) hz
           refine ⟨W.heap.size, .slice A fs.length cp, rfl, ?_⟩
           exact Lib.hid h6)
  case rest =>
    clear hS hb HS HT
    obtain ⟨bx, u, rfl, HG⟩ := hcut
    obtain ⟨A, cp, hv⟩ := own_slice HR.out.row
    obtain ⟨A2, cp2, hu2⟩ := own_slice HG.out.row
    obtain ⟨n, hn⟩ : ∃ n, es.length = n := ⟨_, rfl⟩
    obtain ⟨m, hm⟩ : ∃ m, fs.length = m := ⟨_, rfl⟩
    rw [hn] at hv
    rw [hm] at hu2
    subst hv hu2
    obtain ⟨i0, hi0, hz0, hz1, hz2⟩ := info_parts infoEvent
    have s1 := HG.out.rd.ev
    have s2 := HG.out.rd.fr 85
    have b0 : wc.cell? ⟨bx, 0, none⟩ = some (.slice A2 m cp2) := cellOf HG.out.box rfl
    have HOWN : wc.ownsRow w0.heap.size ET 4 (.slice A n cp) n (levCells es) := by have h := HG.out.rd.row; unfold RowL at h; rwa [hn] at h
    have HSRC : wc.ownsRow W.heap.size ET 4 (.slice A2 m cp2) m (evCells fs) := by have h := HG.out.row; unfold RowE at h; rwa [hm] at h
    have hone := ev_one fs
    have hb0 := Below.size HG.out.rd.up
    have b1 : n + m ≤ maxLen := by have := HLEN.out; unfold maxLen; dsimp only at this; omega
    have b2 : (n + m) * 24 ≤ 140737488355328 := by have := HLEN.out; dsimp only at this; omega
    have HN := Lib.hid hn
    have HM := Lib.hid hm
    have HAP := Lib.hid (fun (w5 : World) (v5 : Value) (hg : wc.drew.grownBy w5 (Value.slice A n cp).ownBlock) (ho : w5.ownsRow w0.heap.size ET 4 v5 (es.length + (fs.map lfE).length) (levCells es ++ levCells (fs.map lfE))) => HG.out.rd.apps (fs := fs.map lfE) (Up.drew _) hg ho)
    have HB5 := Lib.hid (fun (w5 : World) (hg : wc.drew.grownBy w5 (Value.slice A n cp).ownBlock) => HG.out.rd.mid (Up.drew _) hg)
    have hbl : bx < wc.drew.heap.size := (Array.getElem?_eq_some_iff.1 HG.out.box).1
    have HBL := Lib.hid hbl
    have HBB := Lib.hid (show b ≠ bx from fun e => by have := HR.out.lt; have := HG.out.lo; omega)
    have HBV := Lib.hid (show some bx ≠ (Value.slice A n cp).ownBlock from fun e => by
      have h1 := HR.out.vlt (g := bx) e.symm
      have := HG.out.lo
      omega)
    have HLL := Lib.hid hl
    clear hn hm hl hbl
    go_upto_region 1 with fail
    go_cut [0, 2] (fun v0 v2 wx => v0 = .pointer (some ⟨b, 0, none⟩) ∧ v2 = .pointer (some ⟨bx, 0, none⟩) ∧ ∃ v', Hid (wx.heap[bx]? = some (.cells (outA (.slice A2 m cp2) st) PT)) ∧ Hid (RdP w0 wx b (svP s) line E p v' (es ++ fs.map lfE)))
    case first =>
      go_region_law (first
        | (refine step_append_row (by rfl) _ _ _ (by rfl) w0.heap.size W.heap.size ET i0 (.agg #[.int .u8 0, .int .u8 0, .int .i64 0, .int .i64 0]) 4 24 Tryz.underlying30 hi0 hz0 hz1 hz2 rfl (by decide) _ n (levCells es) (by rfl) HOWN _ m (evCells fs) (by rfl) HSRC hone b1 b2 hb0 ?_; intro A5 cap5 w5 hown5 hgrow; have hB5 := HB5.out _ hgrow; have c5 : w5.cell? ⟨b, 85, none⟩ = some (.slice A n cp) := cellOf hB5 rfl; have z5 : w5.frozen? ⟨b, 85, none⟩ = false := frozenOf hB5))
      all_goals
        have HF := Lib.hid (HAP.out _ _ hgrow (by rw [HN.out, List.length_map, HM.out, levCells_lf]; exact hown5))
        have HBX := Lib.hid (show (w5.setCell ⟨b, 85, none⟩ (.slice A5 (n + m) cap5)).heap[bx]? = some (.cells (outA (.slice A2 m cp2) st) PT) by
          rw [setCell_far w5 b 85 _ bx HBB.out, hgrow.block bx HBL.out HBV.out]
          exact HG.out.box)
        clear hown5 hgrow hB5 c5 z5
        go_wp2
        go_meet
        case rel => exact ⟨rfl, rfl, _, HBX, HF⟩
    case rest =>
      clear HG HAP HB5 HOWN HSRC hone hb0 b1 b2 s1 s2 b0 hi0 hz0 hz1 hz2 HBL HBB HBV HN HM 
      obtain ⟨rfl, rfl, v', HBX, HRD⟩ := hcut
      have HEL := Lib.hid (show (es ++ fs.map lfE).length ≤ 999999 by have h1 := HLEN.out; dsimp only at h1; rw [List.length_append, List.length_map]; have := HLL.out; omega)
      obtain ⟨ev, hev⟩ : ∃ ev, es ++ fs.map lfE = ev := ⟨_, rfl⟩
      rw [hev] at HRD HEL
      have HEV := Lib.hid hev
      clear hev
      obtain ⟨q1, q2, q3, q4⟩ := HOK.out
      dsimp only at q1 q2 q3 q4
      obtain ⟨mk, dp, jj, ss, cc⟩ := st
      dsimp only at q1 q2 q3 q4
      have k1 : wc.cell? ⟨bx, 1, none⟩ = some (.int .u8 (mk : Nat)) := cellOf HBX.out rfl
      have k2 : wc.cell? ⟨bx, 2, none⟩ = some (.int .i64 dp) := cellOf HBX.out rfl
      have k3 : wc.cell? ⟨bx, 3, none⟩ = some (.bool jj) := cellOf HBX.out rfl
      have k4 : wc.cell? ⟨bx, 4, none⟩ = some (.bool ss) := cellOf HBX.out rfl
      have k5 : wc.cell? ⟨bx, 5, none⟩ = some (.bool cc) := cellOf HBX.out rfl
      have k6 : wc.cell? ⟨b, 67, none⟩ = some (.int .u8 (s.flags : Nat)) := HRD.out.flags
      obtain ⟨C, hC⟩ : ∃ C, colP s.flags ⟨mk, dp, jj, ss, cc⟩ = C := ⟨_, rfl⟩
      have HCC := Lib.hid hC
      go_upto_region 2 with fail
      go_cut [0, 2, 3] (fun v0 v2 v3 wx => v0 = .pointer (some ⟨b, 0, none⟩) ∧ v2 = .pointer (some ⟨bx, 0, none⟩) ∧ v3 = .bool C ∧ Hid (Up wc wx))
      case first =>
        clear k1 k2 k3 HBX HRD
        cases cc with
        | true =>
          obtain rfl : true = C := by rw [← hC]; unfold colP; simp [(q4 rfl).1]
          clear hC q4
          go_wp2
          go_meet
          case rel => exact ⟨rfl, rfl, rfl, Lib.hid (by first | with_reducible exact Up.refl _ | with_reducible exact Up.drew _)⟩
        | false =>
          cases ss with
          | true =>
            obtain rfl : false = C := by rw [← hC]; unfold colP; simp
            clear hC q4
            go_wp2
            go_meet
            case rel => exact ⟨rfl, rfl, rfl, Lib.hid (by first | with_reducible exact Up.refl _ | with_reducible exact Up.drew _)⟩
          | false =>
            have hx : ((s.flags : Int) == 2) = C := by
              rw [← hC]; unfold colP
              simp only [Bool.false_eq_true, if_false]
              rw [Bool.eq_iff_iff, beq_iff_eq, beq_iff_eq]
              omega
            clear hC q4
            go_wp2
            go_meet
            case rel => exact ⟨rfl, rfl, rfl, Lib.hid (by first | with_reducible exact Up.refl _ | with_reducible exact Up.drew _)⟩
      case rest =>
        clear k1 k2 k3 k4 k5 k6 hC
        obtain ⟨rfl, rfl, rfl, HU⟩ := hcut
        have HRD2 := Lib.hid (HRD.out.more HU.out)
        have HBX2 := Lib.hid (show wc.heap[bx]? = _ from (Below.block HU.out bx (Array.getElem?_eq_some_iff.1 HBX.out).1).trans HBX.out)
        clear HRD HBX HU
        have k1 : wc.cell? ⟨bx, 1, none⟩ = some (.int .u8 (mk : Nat)) := cellOf HBX2.out rfl
        have k2 : wc.cell? ⟨bx, 2, none⟩ = some (.int .i64 dp) := cellOf HBX2.out rfl
        have m1 := HRD2.out.mark
        have m2 := HRD2.out.count
        have f1 := HRD2.out.fr 66
        have f2 := HRD2.out.fr 68
        have HBB := Lib.hid (show b ≠ bx from fun e => by have h1 := HRD2.out.box; have h2 := HBX2.out; rw [e, h2] at h1; injection h1 with h1; injection h1 with _ h1; exact absurd h1 (by decide +kernel))
        have HS1 := Lib.hid (show RdP w0 ((wc.setCell ⟨b, 66, none⟩ (.int .u8 (mk : Nat))).setCell ⟨b, 68, none⟩ (.int .i64 dp)) b (svP ⟨s.cols, s.mode, mk, s.flags, dp.toNat⟩) line E p v' ev from ((HRD2.out.setMa mk).setCo dp).congr (by
          have e : ((dp.toNat : Nat) : Int) = dp := by omega
          refine svL_ext (fun j hj h4 => rfl) (fun i hi => rfl) ?_
          show tlV _ _ _ _ dp _ _ _ _ = tlV _ _ _ _ ((dp.toNat : Nat) : Int) _ _ _ _
          rw [e]; rfl))
        have HS2 := Lib.hid (show RdP w0 ((wc.setCell ⟨b, 68, none⟩ (.int .i64 dp)).setCell ⟨b, 66, none⟩ (.int .u8 (mk : Nat))) b (svP ⟨s.cols, s.mode, mk, s.flags, dp.toNat⟩) line E p v' ev from ((HRD2.out.setCo dp).setMa mk).congr (by
          have e : ((dp.toNat : Nat) : Int) = dp := by omega
          refine svL_ext (fun j hj h4 => rfl) (fun i hi => rfl) ?_
          show tlV _ _ _ _ dp _ _ _ _ = tlV _ _ _ _ ((dp.toNat : Nat) : Int) _ _ _ _
          rw [e]; rfl))
        have HX1 := Lib.hid (show ((wc.setCell ⟨b, 66, none⟩ (.int .u8 (mk : Nat))).setCell ⟨b, 68, none⟩ (.int .i64 dp)).heap[bx]? = some (.cells (outA (.slice A2 m cp2) ⟨mk, dp, jj, ss, cc⟩) PT) by rw [setCell_far _ b _ _ bx HBB.out, setCell_far _ b _ _ bx HBB.out]; exact HBX2.out)
        have HX2 := Lib.hid (show ((wc.setCell ⟨b, 68, none⟩ (.int .i64 dp)).setCell ⟨b, 66, none⟩ (.int .u8 (mk : Nat))).heap[bx]? = some (.cells (outA (.slice A2 m cp2) ⟨mk, dp, jj, ss, cc⟩) PT) by rw [setCell_far _ b _ _ bx HBB.out, setCell_far _ b _ _ bx HBB.out]; exact HBX2.out)
        have g1 : (wc.setCell ⟨b, 66, none⟩ (.int .u8 (mk : Nat))).cell? ⟨bx, 2, none⟩ = some (.int .i64 dp) := by rw [World.cell?_setCell_far _ _ _ _ HBB.out]; exact k2
        have g2 : (wc.setCell ⟨b, 68, none⟩ (.int .i64 dp)).cell? ⟨bx, 1, none⟩ = some (.int .u8 (mk : Nat)) := by rw [World.cell?_setCell_far _ _ _ _ HBB.out]; exact k1
        clear HRD2 HBX2
        go_upto_region 3 with fail
        go_cut [0, 2, 3] (fun v0 v2 v3 wx => v0 = .pointer (some ⟨b, 0, none⟩) ∧ v2 = .pointer (some ⟨bx, 0, none⟩) ∧ v3 = .bool C ∧ Hid (RdP w0 wx b (svP ⟨s.cols, s.mode, mk, s.flags, dp.toNat⟩) line E p v' ev) ∧ Hid (wx.heap[bx]? = some (.cells (outA (.slice A2 m cp2) ⟨mk, dp, jj, ss, cc⟩) PT)))
        case first =>
          go_region
          all_goals
            go_wp2
            go_meet
            case rel =>
              first
              | exact ⟨rfl, rfl, rfl, Lib.hid (HS1.out.more (Up.drew _)), HX1⟩
              | exact ⟨rfl, rfl, rfl, Lib.hid (HS2.out.more (Up.drew _)), HX2⟩
        case rest =>
          clear k1 k2 m1 m2 f1 f2 HS1 HS2 HX1 HX2 g1 g2
          obtain ⟨rfl, rfl, rfl, HRD, HBX⟩ := hcut
          have k1 : wc.cell? ⟨bx, 1, none⟩ = some (.int .u8 (mk : Nat)) := cellOf HBX.out rfl
          have k2 : wc.cell? ⟨bx, 2, none⟩ = some (.int .i64 dp) := cellOf HBX.out rfl
          have k3 : wc.cell? ⟨bx, 3, none⟩ = some (.bool jj) := cellOf HBX.out rfl
          have HGO := Lib.hid (fun W' (h : RdP w0 W' b (svP ⟨s.cols, s.mode, mk, s.flags, dp.toNat⟩) line E p v' ev) => goOn_any w0 W' b E p ⟨s.cols, s.mode, mk, s.flags, dp.toNat⟩ line v' ev C h)
          have HFI := Lib.hid (fun W' (h : RdP w0 W' b (svP ⟨s.cols, s.mode, mk, s.flags, dp.toNat⟩) line E p v' ev) => finish_any w0 W' b E p ⟨s.cols, s.mode, mk, s.flags, dp.toNat⟩ line v' ev C h (by have := HEL.out; omega))
          cases jj with
          | true =>
            clear q1 q2 q3 q4
            go_wp2_with (go_at_call 28; ((with_reducible refine (HGO.out _ HRD.out).mono ?_); rintro e w6 ⟨rfl, v6, h6⟩; have HF := Lib.hid h6; clear h6))
            go_end0
            refine ⟨rfl, v6, ?_⟩
            rw [readL_go (by rfl), HCC.out, HEV.out]
            exact HF.out
          | false =>
            by_cases hz : mk = 0
            · subst hz
              by_cases hd : 0 < dp
              · have t0 : decide ((0 : Int) < dp) = true := decide_eq_true hd
                have HGOT := Lib.hid (show goP ⟨0, dp, false, ss, cc⟩ = true by unfold goP; simp [hd])
                clear q1 q2 q3 q4
                go_wp2_with (go_at_call 28; ((with_reducible refine (HGO.out _ (HRD.out.more (by first | with_reducible exact Up.refl _ | with_reducible exact Up.drew _))).mono ?_); rintro e w6 ⟨rfl, v6, h6⟩; have HF := Lib.hid h6; clear h6))
                go_end0
                refine ⟨rfl, v6, ?_⟩
                rw [readL_go HGOT.out, HCC.out, HEV.out]
                exact HF.out
              · obtain rfl : dp = 0 := by omega
                have HGOT := Lib.hid (show goP ⟨0, 0, false, ss, cc⟩ = false by rfl)
                clear q1 q2 q3 q4 hd
                go_wp2_with (go_at_call 29; ((with_reducible refine (HFI.out _ (HRD.out.more (by first | with_reducible exact Up.refl _ | with_reducible exact Up.drew _))).mono ?_); rintro e w6 ⟨rfl, v6, h6⟩; have HF := Lib.hid h6; clear h6))
                go_end0
                refine ⟨rfl, v6, ?_⟩
                rw [readL_end HGOT.out, HCC.out]
                rw [← List.append_assoc, HEV.out]
                exact HF.out
            · have t1 : ((mk : Int) == 0) = false := beq_eq_false_iff_ne.2 (by omega)
              have t2 : ((mk : Int) != 0) = true := by simp; omega
              have HGOT := Lib.hid (show goP ⟨mk, dp, false, ss, cc⟩ = true by unfold goP; simp [hz])
              clear q1 q2 q3 q4
              go_wp2_with (go_at_call 28; ((with_reducible refine (HGO.out _ (HRD.out.more (by first | with_reducible exact Up.refl _ | with_reducible exact Up.drew _))).mono ?_); rintro e w6 ⟨rfl, v6, h6⟩; have HF := Lib.hid h6; clear h6))
              go_end0
              refine ⟨rfl, v6, ?_⟩
              rw [readL_go HGOT.out, HCC.out, HEV.out]
              exact HF.out
end Go.Proofs.YtmfcapbllbfjnaaGreatDoor
