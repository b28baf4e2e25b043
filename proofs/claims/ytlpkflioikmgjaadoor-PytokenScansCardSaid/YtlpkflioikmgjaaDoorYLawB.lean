/- PytokenScans, walked over what the program and the document's Scan answer. -/
import Derived.Test.YtlpkflioikmgjaaDoorYLawA
namespace Go.Proofs.YtlpkflioikmgjaaDoor
open Go.RowKit

theorem scan_len : ∀ (f p : Nat) (l : List Nat) (st : PSt), StOk st → (scanF f p l st).1.length ≤ l.length
  | 0, _, _, _, _ => Nat.zero_le _
  | f + 1, p, l, st, hs => by
    by_cases hl : l = []
    · rw [scanF, if_pos hl]; exact Nat.zero_le _
    · cases hq : tokL st.mark st.depth l with
      | none =>
        rw [scanF_none hl hq]
        have := scan_len f (p + 1) (l.drop 1) st hs
        rw [List.length_drop] at this
        omega
      | some t =>
        have hk := tokL_ok hq hs.mark hs.d0 hs.d1
        have h1 := hk.pos
        have h2 := hk.len
        rw [scanF_some hl hq]
        have := scan_len f (p + t.len) (l.drop t.len) _ (aft_ok hs hq)
        rw [List.length_drop] at this
        rw [List.length_cons]
        omega
theorem scanE_len (l : List Nat) (a : Int) (m : Nat) (d : Int) : (scanE l a m d).1.length ≤ l.length := by
  have h : (scanE l a m d).1.length ≤ ((l.take (endL l)).drop (max a 0).toNat).length := scan_len _ _ _ _ (st0_ok m d)
  refine Nat.le_trans h ?_
  rw [List.length_drop, List.length_take]
  omega
/-- What the document's Scan answers. -/
structure RefC : Prop where
  scan : ∀ w (line : ByteArray) (a : Int) (m : Nat) (d : Int), (line.size : Int) ≤ 100000 → (Lit.int .i64 a).wf = true → m < 256 → (Lit.int .i64 d).wf = true →
    Calls Tryd.prog 7 #[.string line, .int .i64 a, .int .u8 (m : Nat), .int .i64 d] w fun e w' => ∃ v, e = .returned (.agg (outA v (scanE (bl line) a m d).2)) ∧ RowE w' w.heap.size v (scanE (bl line) a m d).1 ∧ Up w w'
set_option maxRecDepth 100000 in
set_option maxHeartbeats 1000000 in
theorem scans_walk (hC : ScanC) (hR : RefC) (w : World) (hT : TabsP w) (line : ByteArray) (a : Int) (m : Nat) (d : Int) (ha : (Lit.int .i64 a).wf = true) (hm : m < 256) (hd : (Lit.int .i64 d).wf = true) :
    Calls Tryd.prog 3 #[.string line, .int .i64 a, .int .u8 (m : Nat), .int .i64 d] w fun e w' => e = .returned (.bool true) ∧ Up w w' := by
  have HR := Lib.hid (fun W (h : TabsP W) => reads_any hC W h)
  have HT := Lib.hid hT
  by_cases hs : (line.size : Int) ≤ 3000
  · have H1 := Lib.hid (fun W (h : TabsP W) => hC.scan W h line a m d (by omega) ha hm hd)
    have H2 := Lib.hid (fun W => hR.scan W line a m d (by omega) ha hm hd)
    have HL := Lib.hid (show (scanE (bl line) a m d).1.length ≤ 1000000 by have := scanE_len (bl line) a m d; rw [bl_len] at this; omega)
    generalize scanE (bl line) a m d = R at H1 H2 HL
    obtain ⟨es, st⟩ := R
    have f0 : decide ((3000 : Int) < line.size) = false := decide_eq_false (by omega)
    clear hs ha hm hd hC hR hT
    go_enter Tryd.func3, Tryd.ntmps3
    go_wp2_with (first
      | (go_at_call 6; ((with_reducible refine (H1.out _ (HT.out.up (by first | with_reducible exact Up.refl _ | with_reducible exact HU.out | with_reducible exact HUU.out | with_reducible exact HW5.out | with_reducible exact HWU.out | with_reducible exact HU.out.trans (Up.alloc _ _) | with_reducible exact (HU.out.trans HU2.out).trans (Up.alloc _ _) | with_reducible exact HU1.out.trans HV.out | with_reducible exact HUA.out | with_reducible exact HUP.out | with_reducible exact HUZ.out | with_reducible exact HU1.out))).mono ?_); rintro e w1 ⟨v, rfl, hr, hu⟩; obtain ⟨A, c, rfl, he, -⟩ := evs_row hr; have HE := Lib.hid he; have HU := Lib.hid hu; clear hr he hu))
      | (go_at_call 7; ((with_reducible refine (H2.out _).mono ?_); rintro e w2 ⟨v, rfl, hr, hu⟩; obtain ⟨A2, c2, rfl, he, -⟩ := evs_row hr; have HE2 := Lib.hid he; have HE := Lib.hid (HE.out.up hu); have HU := Lib.hid (HU.out.trans hu); clear hr he hu))
      | (go_at_call 5; ((with_reducible refine (same_any _ _ _ _ _ _ es st HE.out HE2.out HL.out).mono ?_); rintro e w3 ⟨rfl, hu⟩; have HU := Lib.hid (HU.out.trans hu); clear hu))
      | (go_at_call 8; ((with_reducible refine (HR.out _ (HT.out.up (by first | with_reducible exact Up.refl _ | with_reducible exact HU.out | with_reducible exact HUU.out | with_reducible exact HW5.out | with_reducible exact HWU.out | with_reducible exact HU.out.trans (Up.alloc _ _) | with_reducible exact (HU.out.trans HU2.out).trans (Up.alloc _ _) | with_reducible exact HU1.out.trans HV.out | with_reducible exact HUA.out | with_reducible exact HUP.out | with_reducible exact HUZ.out | with_reducible exact HU1.out))).mono ?_); rintro e w4 ⟨rfl, hu⟩; have HU := Lib.hid (HU.out.trans hu); clear hu)))
    go_ret
    exact ⟨rfl, HU.out⟩
  · have f0 : (3000 : Int) < line.size := by omega
    clear hs ha hm hd hC hR hT HR
    go_enter Tryd.func3, Tryd.ntmps3
    go_wp2
    go_ret
    exact ⟨rfl, Up.refl _⟩
end Go.Proofs.YtlpkflioikmgjaaDoor
