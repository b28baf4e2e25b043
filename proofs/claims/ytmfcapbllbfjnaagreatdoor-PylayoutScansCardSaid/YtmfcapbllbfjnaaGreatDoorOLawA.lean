/- What the statements ask of the program's Scan and End; events in memory; the known lines. -/
import Derived.Test.YtmfcapbllbfjnaaGreatDoorOPScan
namespace Go.Proofs.YtmfcapbllbfjnaaGreatDoor
open Go.RowKit
attribute [local go_sem ↓] ldS_eq stS_eq elS_eq neS_eq zrS_eq bdS_eq
attribute [local go_sem] ldS_run stS_run elS_run neS_run zrS_run bdS_run0 bdS_run1 g0_rule ldV_drew ldV_drewN

/-- What the program must answer. -/
structure LayC : Prop where
  scan : ∀ W, TabsP W → ∀ (x : Array Value) (s : LSt), IsS x → Cnt x s → ∀ (line : ByteArray), (line.size : Int) ≤ 65536 → Calls Tryz.prog 4 #[.agg x, .string line] W (ScannedP W s (bl line))
theorem layC : LayC := ⟨fun W hT x s hx hc line hs => pscan_any W hT x s hx hc line hs⟩
/-- Events, as memory holds them. -/
structure Levs (w : World) (A : Option Addr) (n : Nat) (es : List LEv) : Prop where
  len : es.length = n
  at_ : ∀ i (h : i < es.length), ∃ b o, A = some ⟨b, o, none⟩ ∧ b < w.heap.size ∧ w.cell? ⟨b, o + i * 4, none⟩ = some (.int .u8 ((es[i]'h).op : Nat)) ∧ w.cell? ⟨b, o + i * 4 + 1, none⟩ = some (.int .u8 ((es[i]'h).kind : Nat)) ∧ w.cell? ⟨b, o + i * 4 + 2, none⟩ = some (.int .i64 ((es[i]'h).a : Nat)) ∧ w.cell? ⟨b, o + i * 4 + 3, none⟩ = some (.int .i64 ((es[i]'h).b : Nat))
theorem Levs.up {w w' : World} {A : Option Addr} {n : Nat} {es : List LEv} (h : Levs w A n es) (hu : Up w w') : Levs w' A n es := by
  refine ⟨h.len, fun i hi => ?_⟩
  obtain ⟨b, o, h1, h2, c0, c1, c2, c3⟩ := h.at_ i hi
  exact ⟨b, o, h1, Nat.lt_of_lt_of_le h2 (Below.size hu), cell_up hu c0, cell_up hu c1, cell_up hu c2, cell_up hu c3⟩
theorem levCells_at : ∀ (es : List LEv) (i : Nat) (h : i < es.length), (levCells es)[i * 4]? = some (.int .u8 (es[i].op : Nat)) ∧ (levCells es)[i * 4 + 1]? = some (.int .u8 (es[i].kind : Nat)) ∧ (levCells es)[i * 4 + 2]? = some (.int .i64 (es[i].a : Nat)) ∧ (levCells es)[i * 4 + 3]? = some (.int .i64 (es[i].b : Nat))
  | [], _, h => absurd h (Nat.not_lt_zero _)
  | e :: r, 0, _ => ⟨rfl, rfl, rfl, rfl⟩
  | e :: r, i + 1, h => by
    have ih := levCells_at r i (by simpa using h)
    have e1 : levCells (e :: r) = [.int .u8 (e.op : Nat), .int .u8 (e.kind : Nat), .int .i64 (e.a : Nat), .int .i64 (e.b : Nat)] ++ levCells r := rfl
    have g : ∀ k, (levCells (e :: r))[(i + 1) * 4 + k]? = (levCells r)[i * 4 + k]? := fun k => by
      rw [e1, List.getElem?_append_right (by simp; omega)]
      congr 1
      simp
      omega
    refine ⟨(g 0).trans ih.1, (g 1).trans ih.2.1, (g 2).trans ih.2.2.1, (g 3).trans ih.2.2.2⟩
theorem levs_row {w : World} {B : Nat} {v : Value} {es : List LEv} (h : RowL w B v es) : ∃ A c, v = .slice A es.length c ∧ Levs w A es.length es := by
  rcases owns_cell h with ⟨rfl, hz⟩ | ⟨g, cp, rfl, hg1, hg2, hcc⟩
  · obtain rfl : es = [] := List.eq_nil_of_length_eq_zero hz
    exact ⟨none, 0, rfl, ⟨rfl, fun i hi => absurd hi (Nat.not_lt_zero _)⟩⟩
  · refine ⟨some ⟨g, 0, none⟩, cp, rfl, ⟨rfl, fun i hi => ?_⟩⟩
    obtain ⟨k0, k1, k2, k3⟩ := levCells_at es i hi
    refine ⟨g, 0, rfl, hg2, ?_, ?_, ?_, ?_⟩
    · rw [Nat.zero_add]; exact hcc _ _ k0
    · rw [Nat.zero_add]; exact hcc _ _ k1
    · rw [Nat.zero_add]; exact hcc _ _ k2
    · rw [Nat.zero_add]; exact hcc _ _ k3
def sH : LSt := ⟨[], 0, 0, 1, 0⟩
def sB : LSt := ⟨[8], 0, 0, 0, 0⟩
theorem sH_ok : LOk sH := ⟨by decide, List.Pairwise.nil, (fun c h => by cases h), (fun c h => by cases h), .inl ⟨rfl, rfl, rfl, by decide⟩⟩
theorem sB_ok : LOk sB := ⟨by decide, List.pairwise_singleton _ _, (fun c h => by simp [sB] at h; omega), (fun c h => by simp [sB] at h; omega), .inl ⟨rfl, rfl, rfl, by decide⟩⟩
theorem bdS_H (w : World) : (bdS #[(4, .int .u8 1)]).run Tryz.prog w = .ok (.agg (stA sH)) w := by rw [← bdS_eq]; kernel_rfl
theorem scan_H : (scanP lst0 (bl ⟨#[105, 102, 32, 97, 58, 10]⟩)).2 = sH := by kernel_rfl
theorem scan_B : (scanP sH (bl ⟨#[9, 98, 10]⟩)).2 = sB ∧ (scanP sH (bl ⟨#[9, 98, 10]⟩)).1 = [⟨1, 10, 0, 0⟩, ⟨1, 11, 1, 0⟩, ⟨3, 13, 1, 2⟩, ⟨2, 11, 2, 0⟩] := ⟨by kernel_rfl, by kernel_rfl⟩
section
variable (hC : LayC)
include hC
set_option maxRecDepth 100000 in
set_option maxHeartbeats 8000000 in
theorem knows_any (W : World) (hT : TabsP W) : Calls Tryz.prog 7 #[] W fun e w' => e = .returned (.bool true) ∧ Up W w' := by
  have H1 := Lib.hid (hC.scan W hT (stA lst0) lst0 (stA_is lst0_ok) (cnt_self lst0_ok) ⟨#[105, 102, 32, 97, 58, 10]⟩ (by decide))
  have H2 := Lib.hid (fun W' (h : TabsP W') => hC.scan W' h (stA sH) sH (stA_is sH_ok) (cnt_self sH_ok) ⟨#[9, 98, 10]⟩ (by decide))
  unfold ScannedP at H1 H2
  rw [scan_H] at H1
  rw [scan_B.1, scan_B.2] at H2
  rw [← z0_lst] at H1
  have HT := Lib.hid hT
  have HH := Lib.hid (stA_is sH_ok)
  have HB := Lib.hid (stA_is sB_ok)
  have heq := eqV_of (stA_is sH_ok) (stA_is sH_ok)
  rw [eqS_self] at heq
  have hbd := bdS_H
  have kb : ∀ (w : World) (b : Nat), w.heap[b]? = some (.cells (stA sB) TS) → w.cell? ⟨b, 64, none⟩ = some (.int .i64 1) ∧ w.cell? ⟨b, 0, none⟩ = some (.int .u8 10) ∧ w.cell? ⟨b, 1, none⟩ = some (.int .u8 0) ∧ w.cell? ⟨b, 2, none⟩ = some (.int .u8 0) ∧ w.cell? ⟨b, 3, none⟩ = some (.int .i64 8) := fun w b h => ⟨cellOf h (svA_tl (svP sB) 0), cellOf h (svA_at (svP sB) (j := 0) (by omega)), cellOf h (svA_at (svP sB) (j := 1) (by omega)), cellOf h (svA_at (svP sB) (j := 2) (by omega)), cellOf h (svA_at (svP sB) (j := 3) (by omega))⟩
  have KB := Lib.hid kb
  clear hT hC kb
  generalize stA sH = xH at *
  generalize stA sB = xB at *
  go_enter Tryz.func7, Tryz.ntmps7
  go_upto_region 2 with (go_at_call 4; ((with_reducible refine (H1.out).mono ?_); rintro e w1 ⟨v1, rfl, hrow, hu⟩; have HU1 := Lib.hid hu; have hst := stV_of HH.out (there_box w1 z0_is TS); have hld := set_ld HH.out (there_box w1 z0_is TS); have HU2 := Lib.hid (hu.trans (whole_up w1 (z := z0) TS xH.toList)); clear hu hrow))
  generalize hw2 : World.setCells _ _ _ _ = w2 at hld HU2 ⊢
  clear hst hw2
  go_upto_region 3 with (go_at_call 4; ((with_reducible refine (H2.out _ (HT.out.up HU2.out)).mono ?_); rintro e w3 ⟨v3, rfl, hrow, hu⟩; obtain ⟨A, c, rfl, he⟩ := levs_row hrow; have hst := stV_of HB.out (there_box w3 z0_is TS); have hup := whole_up w3 (z := z0) TS xB.toList; have hld3 := ldV_up (hu.trans hup) hld; have HE := Lib.hid (he.up hup); have HU4 := Lib.hid ((HU2.out.trans hu).trans hup); have HWN := Lib.hid (whole_new w3 (z := z0) TS (show xB.size = z0.size by rw [HB.out.size, z0_is.size])); clear hu hup he hrow hld))
  have hld4 := hld3
  have hw4 := HWN.out
  generalize hw5 : World.setCells _ _ _ _ = w5 at hld3 HE HU4 hw4 ⊢
  obtain ⟨k0, k1, k2, k3, k4⟩ := KB.out _ _ hw4
  obtain ⟨be, o, rfl, -, c0, c1, c2, c3⟩ := HE.out.at_ 0 (by decide)
  rw [Nat.zero_mul, Nat.add_zero] at c0 c1 c2 c3
  clear hld4 hst hw5 hw4
  go_wp2
  go_ret
  exact ⟨rfl, HU4.out⟩
end
end Go.Proofs.YtmfcapbllbfjnaaGreatDoor
