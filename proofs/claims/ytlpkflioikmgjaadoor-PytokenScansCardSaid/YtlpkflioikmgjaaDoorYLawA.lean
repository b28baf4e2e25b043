/- What the statements ask of the program's Scan; leaves in memory; what two scans tell is the same; the known line. -/
import Derived.Test.YtlpkflioikmgjaaDoorYScanA
import Derived.Test.YtlpkflioikmgjaaDoorYRefE
import Derived.Test.YtlpkflioikmgjaaDoorYPTabs
namespace Go.Proofs.YtlpkflioikmgjaaDoor
open Go.RowKit

/-- Leaves, as memory holds them. -/
structure Evs (w : World) (A : Option Addr) (n : Nat) (es : List PEv) : Prop where
  len : es.length = n
  at_ : ∀ i (h : i < es.length), ∃ b o, A = some ⟨b, o, none⟩ ∧ b < w.heap.size ∧ w.cell? ⟨b, o + i * 4, none⟩ = some (.int .u8 3) ∧ w.cell? ⟨b, o + i * 4 + 1, none⟩ = some (.int .u8 ((es[i]'h).kind : Nat)) ∧ w.cell? ⟨b, o + i * 4 + 2, none⟩ = some (.int .i64 ((es[i]'h).a : Nat)) ∧ w.cell? ⟨b, o + i * 4 + 3, none⟩ = some (.int .i64 ((es[i]'h).b : Nat))
theorem Evs.up {w w' : World} {A : Option Addr} {n : Nat} {es : List PEv} (h : Evs w A n es) (hu : Up w w') : Evs w' A n es := by
  refine ⟨h.len, fun i hi => ?_⟩
  obtain ⟨b, o, h1, h2, c0, c1, c2, c3⟩ := h.at_ i hi
  exact ⟨b, o, h1, Nat.lt_of_lt_of_le h2 (Below.size hu), cell_up hu c0, cell_up hu c1, cell_up hu c2, cell_up hu c3⟩
theorem evCells_at : ∀ (es : List PEv) (i : Nat) (h : i < es.length), (evCells es)[i * 4]? = some (.int .u8 3) ∧ (evCells es)[i * 4 + 1]? = some (.int .u8 (es[i].kind : Nat)) ∧ (evCells es)[i * 4 + 2]? = some (.int .i64 (es[i].a : Nat)) ∧ (evCells es)[i * 4 + 3]? = some (.int .i64 (es[i].b : Nat))
  | [], _, h => absurd h (Nat.not_lt_zero _)
  | e :: r, 0, _ => ⟨rfl, rfl, rfl, rfl⟩
  | e :: r, i + 1, h => by
    have ih := evCells_at r i (by simpa using h)
    have e1 : evCells (e :: r) = [.int .u8 3, .int .u8 (e.kind : Nat), .int .i64 (e.a : Nat), .int .i64 (e.b : Nat)] ++ evCells r := rfl
    have g : ∀ k, (evCells (e :: r))[(i + 1) * 4 + k]? = (evCells r)[i * 4 + k]? := fun k => by
      rw [e1, List.getElem?_append_right (by simp; omega)]
      congr 1
      simp
      omega
    refine ⟨(g 0).trans ih.1, (g 1).trans ih.2.1, (g 2).trans ih.2.2.1, (g 3).trans ih.2.2.2⟩
theorem evs_row {w : World} {B : Nat} {v : Value} {es : List PEv} (h : RowE w B v es) : ∃ A c, v = .slice A es.length c ∧ Evs w A es.length es ∧ ∀ a, A = some a → B ≤ a.block ∧ a.block < w.heap.size ∧ a = ⟨a.block, 0, none⟩ := by
  rcases owns_cell h with ⟨rfl, hz⟩ | ⟨g, cp, rfl, hg1, hg2, hcc⟩
  · obtain rfl : es = [] := List.eq_nil_of_length_eq_zero hz
    exact ⟨none, 0, rfl, ⟨rfl, fun i hi => absurd hi (Nat.not_lt_zero _)⟩, fun a e => by cases e⟩
  · refine ⟨some ⟨g, 0, none⟩, cp, rfl, ⟨rfl, fun i hi => ?_⟩, fun a e => by injection e with e; subst e; exact ⟨hg1, hg2, rfl⟩⟩
    obtain ⟨k0, k1, k2, k3⟩ := evCells_at es i hi
    refine ⟨g, 0, rfl, hg2, ?_, ?_, ?_, ?_⟩
    · rw [Nat.zero_add]; exact hcc _ _ k0
    · rw [Nat.zero_add]; exact hcc _ _ k1
    · rw [Nat.zero_add]; exact hcc _ _ k2
    · rw [Nat.zero_add]; exact hcc _ _ k3
/-- What the program must answer. -/
structure ScanC : Prop where
  scan : ∀ w, TabsP w → ∀ (line : ByteArray) (a : Int) (m : Nat) (d : Int), (line.size : Int) ≤ 100000 → (Lit.int .i64 a).wf = true → m < 256 → (Lit.int .i64 d).wf = true →
    Calls Tryd.prog 6 #[.string line, .int .i64 a, .int .u8 (m : Nat), .int .i64 d] w fun e w' => ∃ v, e = .returned (.agg (outA v (scanE (bl line) a m d).2)) ∧ RowE w' w.heap.size v (scanE (bl line) a m d).1 ∧ Up w w'
set_option maxRecDepth 100000 in
set_option maxHeartbeats 1000000 in
theorem sameEv_any (w : World) (A B : Option Addr) (n c c' : Nat) (es : List PEv) (hL : Evs w A n es) (hM : Evs w B n es) (hn : n ≤ 1000000) :
    Calls Tryd.prog 9 #[.slice A n c, .slice B n c'] w fun e w' => e = .returned (.bool true) ∧ Up w w' := by
  have HL := Lib.hid hL
  have HM := Lib.hid hM
  have HN := Lib.hid hL.len
  clear hL hM
  go_enter Tryd.func9, Tryd.ntmps9
  go_wp2
  go_loopg [5] n (fun g iv wr => ∃ i : Nat, g = n - i ∧ iv = .int .i64 (i : Nat) ∧ i ≤ n ∧ Hid (Up w wr))
  case atStart => exact ⟨0, rfl, rfl, Nat.zero_le _, Lib.hid (Up.refl w)⟩
  case round =>
    obtain ⟨i, hg, rfl, hi, HU⟩ := hrel
    have HG := Lib.hid hg
    clear hg
    by_cases hlt : i < n
    · have hiL : i < es.length := by have := HN.out; omega
      obtain ⟨b, o, hA, -, c0, c1, c2, c3⟩ := (HL.out.up HU.out).at_ i hiL
      obtain ⟨b2, o2, hB, -, d0, d1, d2, d3⟩ := (HM.out.up HU.out).at_ i hiL
      subst hA hB
      obtain ⟨⟨r1, r2, r3⟩, hr⟩ : ∃ r, es[i] = r := ⟨_, rfl⟩
      rw [hr] at c1 c2 c3 d1 d2 d3
      dsimp only at c1 c2 c3 d1 d2 d3
      have hii : (i : Int) < n := by omega
      clear hr hiL
      go_wp2
      go_quiet (fail)
      go_wp2
      go_roundg (n - (i + 1))
      case measure => rw [HG.out]; omega
      case rel => exact ⟨i + 1, rfl, by go_num, by omega, Lib.hid (HU.out.trans (Up.drewN _ _))⟩
    · obtain rfl : i = n := by omega
      have f0 : decide (i < i) = false := decide_eq_false hlt
      clear hlt
      go_wp2
      go_ret
      exact ⟨rfl, HU.out⟩
set_option maxRecDepth 100000 in
set_option maxHeartbeats 1000000 in
theorem same_any (w : World) (A B : Option Addr) (n c c' : Nat) (es : List PEv) (st : PSt) (hL : Evs w A n es) (hM : Evs w B n es) (hn : n ≤ 1000000) :
    Calls Tryd.prog 5 #[.agg (outA (.slice A n c) st), .agg (outA (.slice B n c') st)] w fun e w' => e = .returned (.bool true) ∧ Up w w' := by
  obtain ⟨m, d, j, s, cc⟩ := st
  have u1 := (Up.alloc w (.cells (outA (.slice A n c) ⟨m, d, j, s, cc⟩) 25)).trans (Up.alloc (w.alloc (.cells (outA (.slice A n c) ⟨m, d, j, s, cc⟩) 25)) (.cells (outA (.slice B n c') ⟨m, d, j, s, cc⟩) 27))
  have HS := Lib.hid (sameEv_any _ A B n c c' es (hL.up u1) (hM.up u1) hn)
  have HU := Lib.hid u1
  have HB := Lib.hid (fun (w1 : World) (h : Up ((w.alloc (.cells (outA (.slice A n c) ⟨m, d, j, s, cc⟩) 25)).alloc (.cells (outA (.slice B n c') ⟨m, d, j, s, cc⟩) 27)) w1) =>
    (show w1.heap[w.heap.size]? = some (.cells #[.slice A n c, .int .u8 (m : Nat), .int .i64 d, .bool j, .bool s, .bool cc] 25) ∧ w1.heap[w.heap.size + 1]? = some (.cells #[.slice B n c', .int .u8 (m : Nat), .int .i64 d, .bool j, .bool s, .bool cc] 27) from ⟨by
      rw [Below.block h _ (by rw [World.size_alloc, World.size_alloc]; omega), Below.block (Up.alloc (w.alloc _) _) w.heap.size (by rw [World.size_alloc]; omega)]
      exact Go.heap_alloc_new _ _, by
      rw [Below.block h _ (by rw [World.size_alloc, World.size_alloc]; omega)]
      have := Go.heap_alloc_new (w.alloc (.cells (outA (.slice A n c) ⟨m, d, j, s, cc⟩) 25)) (.cells (outA (.slice B n c') ⟨m, d, j, s, cc⟩) 27)
      rwa [World.size_alloc] at this⟩))
  unfold outA at HS HU HB ⊢
  clear u1 hL hM
  go_enter Tryd.func5, Tryd.ntmps5
  go_wp2_with (go_at_call 9; ((with_reducible refine (HS.out).mono ?_); rintro e w1 ⟨rfl, hu⟩; have hb := HB.out _ hu; have a1 : w1.cell? ⟨w.heap.size, 1, none⟩ = _ := cellOf hb.1 rfl; have a2 : w1.cell? ⟨w.heap.size, 2, none⟩ = _ := cellOf hb.1 rfl; have a3 : w1.cell? ⟨w.heap.size, 3, none⟩ = _ := cellOf hb.1 rfl; have a4 : w1.cell? ⟨w.heap.size, 4, none⟩ = _ := cellOf hb.1 rfl; have a5 : w1.cell? ⟨w.heap.size, 5, none⟩ = _ := cellOf hb.1 rfl; have b1 : w1.cell? ⟨w.heap.size + 1, 1, none⟩ = _ := cellOf hb.2 rfl; have b2 : w1.cell? ⟨w.heap.size + 1, 2, none⟩ = _ := cellOf hb.2 rfl; have b3 : w1.cell? ⟨w.heap.size + 1, 3, none⟩ = _ := cellOf hb.2 rfl; have b4 : w1.cell? ⟨w.heap.size + 1, 4, none⟩ = _ := cellOf hb.2 rfl; have b5 : w1.cell? ⟨w.heap.size + 1, 5, none⟩ = _ := cellOf hb.2 rfl; have HU2 := Lib.hid (HU.out.trans hu); clear hu hb))
  go_ret
  exact ⟨by simp, HU2.out⟩
theorem known0 : scanE (bl ⟨#[105, 102, 32, 120, 40]⟩) 0 0 0 = ([⟨13, 0, 2⟩, ⟨13, 3, 4⟩, ⟨17, 4, 5⟩], ⟨0, 1, false, true, false⟩) := by kernel_rfl
section
variable (hC : ScanC)
include hC
set_option maxRecDepth 100000 in
set_option maxHeartbeats 1000000 in
theorem reads_any (w : World) (hT : TabsP w) : Calls Tryd.prog 8 #[] w fun e w' => e = .returned (.bool true) ∧ Up w w' := by
  have h0 := hC.scan w hT ⟨#[105, 102, 32, 120, 40]⟩ 0 0 0 (by decide) (by decide) (by decide) (by decide)
  rw [known0, show ((0 : Nat) : Int) = 0 from rfl] at h0
  unfold outA at h0
  have H0 := Lib.hid h0
  clear hC h0 hT
  go_enter Tryd.func8, Tryd.ntmps8
  go_wp2_with (go_at_call 6; ((with_reducible refine (H0.out).mono ?_); rintro e w1 ⟨v, rfl, hr, hu⟩; obtain ⟨A, c, rfl, he, -⟩ := evs_row hr; obtain ⟨b, o, rfl, -, c0, c1, c2, c3⟩ := he.at_ 2 (by decide); have k0 : ∀ ob, (w1.alloc ob).cell? ⟨b, o + 8, none⟩ = some (.int .u8 3) := fun ob => cell_up (Up.alloc w1 ob) c0; have k1 : ∀ ob, (w1.alloc ob).cell? ⟨b, o + 8 + 1, none⟩ = some (.int .u8 17) := fun ob => cell_up (Up.alloc w1 ob) c1; have k2 : ∀ ob, (w1.alloc ob).cell? ⟨b, o + 8 + 2, none⟩ = some (.int .i64 4) := fun ob => cell_up (Up.alloc w1 ob) c2; have k3 : ∀ ob, (w1.alloc ob).cell? ⟨b, o + 8 + 3, none⟩ = some (.int .i64 5) := fun ob => cell_up (Up.alloc w1 ob) c3; have HU := Lib.hid hu; clear hr he hu c0 c1 c2 c3))
  go_ret
  exact ⟨rfl, HU.out.trans (Up.alloc _ _)⟩
end
end Go.Proofs.YtlpkflioikmgjaaDoor
