/- PytokenOwn, walked over what the program's Scan answers. -/
import Derived.Test.YtogbgllmmdgaaaaDoorYLawC
import Derived.Test.YtogbgllmmdgaaaaDoorYEnds
namespace Go.Proofs.YtogbgllmmdgaaaaDoor
open Go.RowKit

theorem box_after {w1 w2 : World} {cs : Array Value} {T : TypeId} (hu : Up (w1.alloc (.cells cs T)) w2) : w2.heap[w1.heap.size]? = some (.cells cs T) := by
  rw [Below.block hu _ (by rw [World.size_alloc]; omega)]
  exact Go.heap_alloc_new _ _
theorem row_block {w : World} {B : Nat} {v : Value} {es : List PEv} (h : RowE w B v es) (h0 : 0 < es.length) : ∃ g c cur, v = .slice (some ⟨g, 0, none⟩) es.length c ∧ w.heap[g]? = some (.cells cur 33) ∧ es.length * 4 ≤ cur.size ∧ B ≤ g ∧ g < w.heap.size := by
  unfold RowE at h
  have hl : (evCells es).length = es.length * 4 := by
    clear h h0
    induction es with
    | nil => rfl
    | cons e r ih =>
      have e1 : evCells (e :: r) = [.int .u8 3, .int .u8 (e.kind : Nat), .int .i64 (e.a : Nat), .int .i64 (e.b : Nat)] ++ evCells r := rfl
      rw [e1, List.length_append, ih, List.length_cons]
      simp
      omega
  rcases h.2 with ⟨rfl, e⟩ | ⟨g, cap, cur, rfl, hg, hh, hn, hc, hs, ht⟩
  · omega
  · refine ⟨g, cap, cur, rfl, hh, ?_, hg, (Array.getElem?_eq_some_iff.1 hh).1⟩
    have := congrArg List.length ht
    rw [List.length_take, hl, Array.length_toList] at this
    omega
/-- A row of leaves, whose first cells' kinds may turn. -/
structure Loose (w : World) (A : Option Addr) (n : Nat) : Prop where
  ex : 0 < n → ∃ g cur, A = some ⟨g, 0, none⟩ ∧ w.heap[g]? = some (.cells cur 33) ∧ n * 4 ≤ cur.size
theorem Loose.up {w w' : World} {A : Option Addr} {n : Nat} (h : Loose w A n) (hu : Up w w') : Loose w' A n := ⟨fun h0 => by
  obtain ⟨g, cur, e, hg, hs⟩ := h.ex h0
  exact ⟨g, cur, e, by rw [Below.block hu g (Array.getElem?_eq_some_iff.1 hg).1]; exact hg, hs⟩⟩
/-- Only blocks below B may have turned. -/
structure Off (B : Nat) (W w : World) : Prop where
  size : W.heap.size ≤ w.heap.size
  block : ∀ k, B ≤ k → k < W.heap.size → w.heap[k]? = W.heap[k]?
theorem Off.refl (B : Nat) (W : World) : Off B W W := ⟨Nat.le_refl _, fun _ _ _ => rfl⟩
theorem Off.cell {B : Nat} {W w : World} (h : Off B W w) {b o : Nat} {v : Value} (hb : B ≤ b) (hc : W.cell? ⟨b, o, none⟩ = some v) : w.cell? ⟨b, o, none⟩ = some v :=
  (World.cell?_of_block (h.block b hb (World.block_lt_of_cell? W ⟨b, o, none⟩ hc))).trans hc
theorem Off.evs {B : Nat} {W w : World} (h : Off B W w) {A : Option Addr} {n : Nat} {es : List PEv} (hA : ∀ a, A = some a → B ≤ a.block) (he : Evs W A n es) : Evs w A n es := by
  refine ⟨he.len, fun i hi => ?_⟩
  obtain ⟨b, o, h1, h2, c0, c1, c2, c3⟩ := he.at_ i hi
  have hb := hA _ h1
  exact ⟨b, o, h1, Nat.lt_of_lt_of_le h2 h.size, h.cell hb c0, h.cell hb c1, h.cell hb c2, h.cell hb c3⟩
theorem Off.set {B : Nat} {W w : World} (h : Off B W w) {g k : Nat} (hg : g < B) (u : Value) : Off B W (w.setCell ⟨g, k, none⟩ u) := by
  refine ⟨by have := h.size; simp [World.setCell] at this ⊢; exact this, fun j hj hl => ?_⟩
  rw [setCell_far w g k u j (by omega)]
  exact h.block j hj hl
theorem size_set (w : World) (a : Addr) (v : Value) : (w.setCell a v).heap.size = w.heap.size := by simp [World.setCell]
/-- One kind of a loose row turns. -/
theorem Loose.set {w : World} {A : Option Addr} {n : Nat} (h : Loose w A n) {g k : Nat} (hA : A = some ⟨g, 0, none⟩) (u : Value) : Loose (w.setCell ⟨g, k, none⟩ u) A n := ⟨fun h0 => by
  obtain ⟨g', cur, e, hg, hs⟩ := h.ex h0
  rw [hA] at e
  obtain rfl : g = g' := by injection e with e; injection e
  exact ⟨g, _, hA, heap_setCell_same w g k _ _ u hg, by simpa using hs⟩⟩
set_option maxRecDepth 100000 in
set_option maxHeartbeats 4000000 in
theorem own_walk (hC : ScanC) (w : World) (hT : TabsP w) (line : ByteArray) (a : Int) (m : Nat) (ha : (Lit.int .i64 a).wf = true) (hm : m < 256) :
    Calls Tryd.prog 7 #[.string line, .int .i64 a, .int .u8 (m : Nat)] w fun e w' => e = .returned (.bool true) ∧ Up w w' := by
  have HR := Lib.hid (fun W (h : TabsP W) => reads_any hC W h)
  have HT := Lib.hid hT
  by_cases hs : (line.size : Int) ≤ 3000
  case neg =>
    have f0 : (3000 : Int) < line.size := by omega
    clear hT hs ha hm hC HR
    go_enter Tryd.func7, Tryd.ntmps7
    go_wp2
    go_ret
    exact ⟨rfl, Up.refl _⟩
  have HE := Lib.hid (fun W => end_any line W (by omega))
  have H1 := Lib.hid (fun W (h : TabsP W) => hC.scan W h line a m 0 (by omega) ha hm (by decide))
  have hle := endL_le (bl line)
  rw [bl_len] at hle
  obtain ⟨k, hk⟩ : ∃ k, min (max a 0).toNat (endL (bl line)) = k := ⟨_, rfl⟩
  have hown := scan_own (bl line) m 0 a k hk.symm
  have hbs : bl (line.extract k line.size) = (bl line).drop k := by
    rw [bl_extract, List.take_of_length_le (by rw [bl_len]; exact Nat.le_refl _)]
  have H3 := Lib.hid (fun W (h : TabsP W) => hC.scan W h (line.extract k line.size) 0 m 0 (by rw [ByteArray.size_extract]; omega) (by decide) hm (by decide))
  have hcov := covA_of (scanE_cov (bl line |>.drop k |> fun l => l) m 0 |>.1 |> fun h => by rw [← hbs] at h; exact h)
  rw [hbs] at H3 hcov
  have hlen := scanE_len ((bl line).drop k) 0 m 0
  rw [List.length_drop, bl_len] at hlen
  rw [hown] at H1
  generalize scanE ((bl line).drop k) 0 m 0 = RR at H1 H3 hlen hcov
  obtain ⟨es, mk, dp, fj, fs, fc⟩ := RR
  dsimp only at H1 H3 hlen hcov
  obtain ⟨ES, hES⟩ : ∃ ES, es.map (shE k) = ES := ⟨_, rfl⟩
  rw [hES] at H1
  obtain ⟨n, hn⟩ : ∃ n, es.length = n := ⟨_, rfl⟩
  have hn2 : ES.length = n := by rw [← hES, List.length_map, hn]
  have HAT := Lib.hid (fun i (h : i < es.length) (h2 : i < ES.length) => (show ES[i] = shE k es[i] from by subst hES; rw [List.getElem_map]))
  have HN := Lib.hid hn
  have HN2 := Lib.hid hn2
  have HCOV := Lib.hid hcov
  have HNS := Lib.hid (show n ≤ 3000 by omega)
  have HKE := Lib.hid hk
  have HS := Lib.hid hs
  have HA := Lib.hid ha
  have HLE := Lib.hid hle
  obtain ⟨E, hE⟩ : ∃ E, endL (bl line) = E := ⟨_, rfl⟩
  rw [hE] at HE HKE HLE
  have f0 : decide ((3000 : Int) < line.size) = false := decide_eq_false (by omega)
  clear hT hs ha hm hC hcov hle hk hown hbs hlen hES hn hn2 hE
  unfold outA at H1 H3
  go_enter Tryd.func7, Tryd.ntmps7
  go_upto_region 4 with (go_at_call 10; ((with_reducible refine (H1.out _ (HT.out.up (by first | with_reducible exact Up.refl _ | with_reducible exact HU.out | with_reducible exact HUU.out | with_reducible exact HW5.out | with_reducible exact HWU.out | with_reducible exact HU.out.trans (Up.alloc _ _) | with_reducible exact (HU.out.trans HU2.out).trans (Up.alloc _ _) | with_reducible exact HU1.out.trans HV.out | with_reducible exact HUA.out | with_reducible exact HUP.out | with_reducible exact HUZ.out | with_reducible exact HU1.out))).mono ?_); rintro e w1 ⟨v, rfl, hr, hu⟩; obtain ⟨A1, c1, rfl, he, hb⟩ := evs_row hr; have HLO := Lib.hid (show Loose w1 A1 n from ⟨fun h0 => by obtain ⟨g, c', cur, e1, e2, e3, -, -⟩ := row_block hr (by rw [HN2.out]; exact h0); injection e1 with e1; exact ⟨g, cur, e1, e2, by rw [HN2.out] at e3; exact e3⟩⟩); have HB1 := Lib.hid hb; have HU := Lib.hid hu; rw [HN2.out]; clear hr he hu hb))
  go_upto_region 5 with (go_at_call 10; ((with_reducible refine (H1.out _ (HT.out.up (by first | with_reducible exact Up.refl _ | with_reducible exact HU.out | with_reducible exact HUU.out | with_reducible exact HW5.out | with_reducible exact HWU.out | with_reducible exact HU.out.trans (Up.alloc _ _) | with_reducible exact (HU.out.trans HU2.out).trans (Up.alloc _ _) | with_reducible exact HU1.out.trans HV.out | with_reducible exact HUA.out | with_reducible exact HUP.out | with_reducible exact HUZ.out | with_reducible exact HU1.out))).mono ?_); rintro e w2 ⟨v, rfl, hr, hu⟩; obtain ⟨A2, c2, rfl, he, hb⟩ := evs_row hr; have HBA := Lib.hid (box_after hu); have HEV2 := Lib.hid he; have HB2 := Lib.hid hb; have HLO := Lib.hid (HLO.out.up ((Up.alloc _ _).trans hu)); have HU2 := Lib.hid ((Up.alloc _ _).trans hu); rw [HN2.out]; clear hr he hu hb))
  go_upto_region 6 with (go_at_call 13; ((with_reducible refine (HE.out _).mono ?_); rintro e w9 ⟨rfl, rfl⟩))
  have hmx : max (0 : Int) (min a (E : Int)) = ((k : Nat) : Int) := by
    have := HKE.out
    omega
  rw [hmx]
  have k0 : (0 : Int) ≤ k := by omega
  have k1 : (k : Int) ≤ line.size := by have := HKE.out; have := HLE.out; omega
  have hu12 := HU2.out
  clear hmx hu12
  go_upto_region 7 with (go_at_call 10; ((with_reducible refine (H3.out _ (HT.out.up (by first | with_reducible exact Up.refl _ | with_reducible exact HU.out | with_reducible exact HUU.out | with_reducible exact HW5.out | with_reducible exact HWU.out | with_reducible exact HU.out.trans (Up.alloc _ _) | with_reducible exact (HU.out.trans HU2.out).trans (Up.alloc _ _) | with_reducible exact HU1.out.trans HV.out | with_reducible exact HUA.out | with_reducible exact HUP.out | with_reducible exact HUZ.out | with_reducible exact HU1.out))).mono ?_); rintro e w3 ⟨v, rfl, hr, hu⟩; obtain ⟨A3, c3, rfl, he, hb⟩ := evs_row hr; have HBB := Lib.hid (box_after hu); have HBA := Lib.hid ((Below.block hu w1.heap.size (by have := (Array.getElem?_eq_some_iff.1 HBA.out).1; rw [World.size_alloc]; omega)).trans ((Below.block (Up.alloc w2 _) w1.heap.size (Array.getElem?_eq_some_iff.1 HBA.out).1).trans HBA.out)); have HEV3 := Lib.hid he; have HEV2 := Lib.hid (HEV2.out.up ((Up.alloc _ _).trans hu)); have HB3 := Lib.hid hb; have HLO := Lib.hid (HLO.out.up ((Up.alloc _ _).trans hu)); have HU3 := Lib.hid (HU2.out.trans ((Up.alloc _ _).trans hu)); have HZ := Lib.hid (show w2.heap.size < w3.heap.size from (Array.getElem?_eq_some_iff.1 HBB.out).1); rw [HN.out]; clear hr he hu hb))
  have HBC := Lib.hid (box_after (Up.refl (w3.alloc (.cells #[.slice A3 n c3, .int .u8 (mk : Nat), .int .i64 dp, .bool fj, .bool fs, .bool fc] 25))))
  have HUF := Lib.hid (Up.alloc w3 (.cells #[.slice A3 n c3, .int .u8 (mk : Nat), .int .i64 dp, .bool fj, .bool fs, .bool fc] 25))
  generalize hW : World.alloc w3 _ = W3
  rw [hW] at HBC HUF
  have HBA := Lib.hid ((Below.block HUF.out _ (Array.getElem?_eq_some_iff.1 HBA.out).1).trans HBA.out)
  have HBB := Lib.hid ((Below.block HUF.out _ (Array.getElem?_eq_some_iff.1 HBB.out).1).trans HBB.out)
  have HEV2 := Lib.hid (HEV2.out.up HUF.out)
  have HEV3 := Lib.hid (HEV3.out.up HUF.out)
  have HLO := Lib.hid (HLO.out.up HUF.out)
  have HUP := Lib.hid (HU.out.trans (HU3.out.trans HUF.out))
  rw [HN2.out] at HEV2
  rw [HN.out] at HEV3
  clear hW
  have a0 : W3.cell? ⟨w1.heap.size, 0, none⟩ = some (.slice A1 n c1) := cellOf HBA.out rfl
  have b0 : W3.cell? ⟨w2.heap.size, 0, none⟩ = some (.slice A2 n c2) := cellOf HBB.out rfl
  have d0 : W3.cell? ⟨w3.heap.size, 0, none⟩ = some (.slice A3 n c3) := cellOf HBC.out rfl
  have b1 : W3.cell? ⟨w2.heap.size, 1, none⟩ = some (.int .u8 (mk : Nat)) := cellOf HBB.out rfl
  have b2 : W3.cell? ⟨w2.heap.size, 2, none⟩ = some (.int .i64 dp) := cellOf HBB.out rfl
  have b5 : W3.cell? ⟨w2.heap.size, 5, none⟩ = some (.bool fc) := cellOf HBB.out rfl
  have d1 : W3.cell? ⟨w3.heap.size, 1, none⟩ = some (.int .u8 (mk : Nat)) := cellOf HBC.out rfl
  have d2 : W3.cell? ⟨w3.heap.size, 2, none⟩ = some (.int .i64 dp) := cellOf HBC.out rfl
  have d5 : W3.cell? ⟨w3.heap.size, 5, none⟩ = some (.bool fc) := cellOf HBC.out rfl
  go_cut [62] (fun cv wx => cv = .bool false ∧ W3 = wx)
  case first => as_aux_lemma =>
    cases fc with
    | true =>
      go_wp2
      all_goals (go_meet; case rel => exact ⟨rfl, rfl⟩)
    | false =>
      go_wp2
      all_goals (go_meet; case rel => exact ⟨rfl, rfl⟩)
  case' rest =>
    obtain ⟨rfl, hwc⟩ := hcut
    subst hwc
    clear b1 b2 b5 d1 d2 d5
  go_wp2
  go_loopg [11] n (fun g iv wr => ∃ i : Nat, g = n - i ∧ iv = .int .i64 (i : Nat) ∧ Hid (i ≤ n) ∧ Hid (Up W3 wr))
  case atStart => exact ⟨0, rfl, rfl, Lib.hid (Nat.zero_le _), Lib.hid (Up.refl _)⟩
  case round =>
    clear a0 b0 d0
    obtain ⟨i, hg, rfl, HI, HV⟩ := hrel
    have HG := Lib.hid hg
    clear hg
    have b0 : wr.cell? ⟨w2.heap.size, 0, none⟩ = some (.slice A2 n c2) := cell_up HV.out (cellOf HBB.out rfl)
    have d0 : wr.cell? ⟨w3.heap.size, 0, none⟩ = some (.slice A3 n c3) := cell_up HV.out (cellOf HBC.out rfl)
    by_cases hlt : i < n
    · have hl3 : i < es.length := by rw [HN.out]; exact hlt
      have hl2 : i < ES.length := by rw [HN2.out]; exact hlt
      obtain ⟨g2, o2, hA2, -, x0, x1, x2, x3⟩ := (HEV2.out.up HV.out).at_ i hl2
      obtain ⟨g3, o3, hA3, -, y0, y1, y2, y3⟩ := (HEV3.out.up HV.out).at_ i hl3
      have hev := HCOV.out.ev i hl3
      have hat := HAT.out i hl3 hl2
      rw [hat] at x1 x2 x3
      obtain ⟨⟨ek, ea, eb⟩, hr⟩ : ∃ r, es[i] = r := ⟨_, rfl⟩
      rw [hr] at x1 x2 x3 y1 y2 y3 hev
      dsimp only [shE] at x1 x2 x3 y1 y2 y3 hev
      subst hA2 hA3
      obtain ⟨p2, hp2⟩ : ∃ p2, ea + k = p2 := ⟨_, rfl⟩
      obtain ⟨p3, hp3⟩ : ∃ p3, eb + k = p3 := ⟨_, rfl⟩
      rw [hp2] at x2
      rw [hp3] at x3
      have hcl := HCOV.out.le
      rw [ByteArray.size_extract] at hcl
      have hkl := HKE.out
      have hSl := HS.out
      have i0 : (0 : Int) ≤ i := by omega
      have i1 : (i : Int) < n := by omega
      have e2 : IntKind.i64.wrap ((ea : Int) + k) = (p2 : Int) := (IntWalk.i64_in _ (by have := HLE.out; omega)).trans (by omega)
      have e3 : IntKind.i64.wrap ((eb : Int) + k) = (p3 : Int) := (IntWalk.i64_in _ (by have := HLE.out; omega)).trans (by omega)
      have e0 : IntKind.i64.wrap ((i : Int) + 1) = (i : Int) + 1 := IntWalk.i64_in _ (by have := HNS.out; omega)
      have HLT := Lib.hid hlt
      clear hr hat hev hcl hkl hSl hp2 hp3 hl2 hl3 hlt
      go_wp2
      go_quiet (fail)
      go_wp2
      go_roundg (n - (i + 1))
      case measure => rw [HG.out]; have := HLT.out; omega
      case rel => exact ⟨i + 1, rfl, by go_num, Lib.hid HLT.out, Lib.hid (HV.out.trans (Up.drewN _ _))⟩
    · have hi : i = n := by have := HI.out; omega
      have g0 : decide (i < n) = false := decide_eq_false hlt
      have a0 : wr.cell? ⟨w1.heap.size, 0, none⟩ = some (.slice A1 n c1) := cell_up HV.out (cellOf HBA.out rfl)
      clear hlt hi
      obtain ⟨V3, hV3⟩ : ∃ V3, V3 = wr := ⟨_, rfl⟩
      subst hV3
      have HLO := Lib.hid (HLO.out.up HV.out)
      have HWU := Lib.hid (HUP.out.trans HV.out)
      have HB1L := Lib.hid (fun b => (HB1.out b))
      have HSZ1 := Lib.hid (show w1.heap.size ≤ w2.heap.size from Below.size HU2.out)
      go_wp2
      go_loopg [12] n (fun g iv ws => ∃ j : Nat, g = n - j ∧ iv = .int .i64 (j : Nat) ∧ Hid (j ≤ n) ∧ Hid (Loose ws A1 n) ∧ Hid (Off w1.heap.size V3 ws) ∧ Hid (Up w ws))
      case atStart => exact ⟨0, rfl, rfl, Lib.hid (Nat.zero_le _), HLO, Lib.hid (Off.refl _ _), HWU⟩
      case round =>
        clear a0 b0 d0 HLO HWU
        obtain ⟨j, hg3, rfl, HJ, HLO, HOF, HWU⟩ := hrel
        have HG3 := Lib.hid hg3
        clear hg3
        have a0 : wr.cell? ⟨w1.heap.size, 0, none⟩ = some (.slice A1 n c1) := HOF.out.cell (Nat.le_refl _) (cell_up HV.out (cellOf HBA.out rfl))
        by_cases hlt : j < n
        · obtain ⟨g1, cur, hA1, hg1, hcs⟩ := HLO.out.ex (by omega)
          obtain ⟨hgl, hgu, -⟩ := HB1L.out _ hA1
          dsimp only at hgl hgu
          have hjc : j * 4 + 1 < cur.size := by omega
          obtain ⟨zv, hz⟩ : ∃ zv, cur[j * 4 + 1]? = some zv := ⟨_, Array.getElem?_eq_getElem hjc⟩
          have z1 : wr.cell? ⟨g1, j * 4 + 1, none⟩ = some zv := cellOf hg1 hz
          have z2 : wr.frozen? ⟨g1, j * 4 + 1, none⟩ = false := frozenOf hg1
          have HLO2 := Lib.hid (HLO.out.set (k := j * 4 + 1) hA1 (.int .u8 99))
          have HOF2 := Lib.hid (HOF.out.set (k := j * 4 + 1) hgu (.int .u8 99))
          have HWU2 := Lib.hid (Below.setCell HWU.out (p := ⟨g1, j * 4 + 1, none⟩) hgl (.int .u8 99))
          subst hA1
          have j0 : (0 : Int) ≤ j := by omega
          have j1 : (j : Int) < n := by omega
          have e0 : IntKind.i64.wrap ((j : Int) + 1) = (j : Int) + 1 := IntWalk.i64_in _ (by have := HNS.out; omega)
          have HLT := Lib.hid hlt
          clear hg1 hcs hjc hgl hgu hlt hz
          go_wp2
          go_roundg (n - (j + 1))
          case measure => rw [HG3.out]; have := HLT.out; omega
          case rel => exact ⟨j + 1, rfl, by go_num, Lib.hid HLT.out, HLO2, HOF2, HWU2⟩
        · have g3 : decide (j < n) = false := decide_eq_false hlt
          have b0 : wr.cell? ⟨w2.heap.size, 0, none⟩ = some (.slice A2 n c2) := HOF.out.cell HSZ1.out (cell_up HV.out (cellOf HBB.out rfl))
          have HEV2 := Lib.hid (HOF.out.evs (fun a e => by have := (HB2.out a e).1; rw [World.size_alloc] at this; omega) (HEV2.out.up HV.out))
          clear hlt
          go_wp2_with (first
            | (go_at_call 10; ((with_reducible refine (H1.out _ (HT.out.up (by first | with_reducible exact Up.refl _ | with_reducible exact HU.out | with_reducible exact HUU.out | with_reducible exact HW5.out | with_reducible exact HWU.out | with_reducible exact HU.out.trans (Up.alloc _ _) | with_reducible exact (HU.out.trans HU2.out).trans (Up.alloc _ _) | with_reducible exact HU1.out.trans HV.out | with_reducible exact HUA.out | with_reducible exact HUP.out | with_reducible exact HUZ.out | with_reducible exact HU1.out))).mono ?_); rintro e w4 ⟨v, rfl, hr, hu⟩; obtain ⟨A4, c4, rfl, he, hb⟩ := evs_row hr; rw [HN2.out]; have HEV4 := Lib.hid he; have HEV2 := Lib.hid (HEV2.out.up hu); have hb4 : ∀ ob, (w4.alloc ob).cell? ⟨w2.heap.size, 0, none⟩ = some (.slice A2 n c2) := fun ob => cell_up (Up.alloc w4 ob) (cell_up hu b0); have HW4 := Lib.hid (HWU.out.trans hu); clear hr he hu hb))
            | (go_at_call 15; ((with_reducible refine (sameEv_any _ _ _ _ _ _ ES (HEV2.out.up (Up.alloc _ _)) (by have h4 := HEV4.out; rw [HN2.out] at h4; exact h4.up (Up.alloc _ _)) (by have := HNS.out; omega)).mono ?_); rintro e w5 ⟨rfl, hu⟩; have HW5 := Lib.hid (HW4.out.trans ((Up.alloc _ _).trans hu)); clear hu))
            | (go_at_call 12; ((with_reducible refine (HR.out _ (HT.out.up (by first | with_reducible exact Up.refl _ | with_reducible exact HU.out | with_reducible exact HUU.out | with_reducible exact HW5.out | with_reducible exact HWU.out | with_reducible exact HU.out.trans (Up.alloc _ _) | with_reducible exact (HU.out.trans HU2.out).trans (Up.alloc _ _) | with_reducible exact HU1.out.trans HV.out | with_reducible exact HUA.out | with_reducible exact HUP.out | with_reducible exact HUZ.out | with_reducible exact HU1.out))).mono ?_); rintro e w6 ⟨rfl, hu⟩; have HW6 := Lib.hid (HW5.out.trans hu); clear hu)))
          go_ret
          exact ⟨rfl, HW6.out⟩
end Go.Proofs.YtogbgllmmdgaaaaDoor
