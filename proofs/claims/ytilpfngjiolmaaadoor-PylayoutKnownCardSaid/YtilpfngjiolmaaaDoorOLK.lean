/- The known lines' makers of events, and what tells a list of lines. The known lines: what tells a list of lines. The known lines: literal rows. The known lines: the loop's lines and states. The known lines: states that are none. Pieces of PylayoutKnown's code, by their regions' numbers. -/
import Derived.Test.YtilpfngjiolmaaaDoorOLawB
import Derived.Test.YtilpfngjiolmaaaDoorOLawC
import Derived.Deep.CutBlock
namespace Go.Proofs.YtilpfngjiolmaaaDoor
open Go.RowKit
attribute [local go_sem ↓] ldS_eq stS_eq elS_eq neS_eq zrS_eq bsS_eq bdS_eq
attribute [local go_sem] ldS_run stS_run elS_run neS_run zrS_run bsS_run bdS_run0 bdS_run1 g0_rule ldV_drew ldV_drewN

theorem kLeaf_any (W : World) (k a b : Int) : Calls Tryd.prog 11 #[.int .u8 k, .int .i64 a, .int .i64 b] W fun e w' => e = .returned (.agg #[.int .u8 3, .int .u8 k, .int .i64 a, .int .i64 b]) ∧ Up W w' := by
  go_enter Tryd.func11, Tryd.ntmps11
  go_wp2
  (try simp only [Exit.inBlock, Exit.then])
  refine bodyPost_ret (v := .agg #[.int .u8 3, .int .u8 k, .int .i64 a, .int .i64 b]) (by simp [results, Tryd.results11, go_sem]) rfl ⟨rfl, Up.alloc _ _⟩
theorem kOpens_any (W : World) (k a : Int) : Calls Tryd.prog 10 #[.int .u8 k, .int .i64 a] W fun e w' => e = .returned (.agg #[.int .u8 1, .int .u8 k, .int .i64 a, .int .i64 0]) ∧ Up W w' := by
  go_enter Tryd.func10, Tryd.ntmps10
  go_wp2
  (try simp only [Exit.inBlock, Exit.then])
  refine bodyPost_ret (v := .agg #[.int .u8 1, .int .u8 k, .int .i64 a, .int .i64 0]) (by simp [results, Tryd.results10, go_sem]) rfl ⟨rfl, Up.alloc _ _⟩
theorem kEnds_any (W : World) (k a : Int) : Calls Tryd.prog 12 #[.int .u8 k, .int .i64 a] W fun e w' => e = .returned (.agg #[.int .u8 2, .int .u8 k, .int .i64 a, .int .i64 0]) ∧ Up W w' := by
  go_enter Tryd.func12, Tryd.ntmps12
  go_wp2
  (try simp only [Exit.inBlock, Exit.then])
  refine bodyPost_ret (v := .agg #[.int .u8 2, .int .u8 k, .int .i64 a, .int .i64 0]) (by simp [results, Tryd.results12, go_sem]) rfl ⟨rfl, Up.alloc _ _⟩
end Go.Proofs.YtilpfngjiolmaaaDoor

namespace Go.Proofs.YtilpfngjiolmaaaDoor
open Go.RowKit
attribute [local go_sem ↓] ldS_eq stS_eq elS_eq neS_eq zrS_eq bsS_eq bdS_eq
attribute [local go_sem] ldS_run stS_run elS_run neS_run zrS_run bsS_run bdS_run0 bdS_run1 g0_rule ldV_drew ldV_drewN

/-- Lines and their events, as memory holds them. -/
structure Steps (w : World) (A : Option Addr) (n : Nat) (l : List (ByteArray × List LEv)) : Prop where
  len : l.length = n
  at_ : ∀ i (h : i < l.length), ∃ b o, A = some ⟨b, o, none⟩ ∧ w.cell? ⟨b, o + i * 2, none⟩ = some (.string (l[i]'h).1) ∧ ∃ B c, w.cell? ⟨b, o + i * 2 + 1, none⟩ = some (.slice B (l[i]'h).2.length c) ∧ Levs w B (l[i]'h).2.length (l[i]'h).2
theorem Steps.up {w w' : World} {A : Option Addr} {n : Nat} {l : List (ByteArray × List LEv)} (h : Steps w A n l) (hu : Up w w') : Steps w' A n l := by
  refine ⟨h.len, fun i hi => ?_⟩
  obtain ⟨b, o, h1, c0, B, c, c1, he⟩ := h.at_ i hi
  exact ⟨b, o, h1, cell_up hu c0, B, c, cell_up hu c1, he.up hu⟩
theorem keepL {w W' : World} {p u v : Value} {b o : Nat} (hu : Up w W') (h : ldV p w = some u ∧ w.cell? ⟨b, o, none⟩ = some v) : ldV p W' = some u ∧ W'.cell? ⟨b, o, none⟩ = some v := ⟨ldV_up hu h.1, cell_up hu h.2⟩
theorem keepE4 {w W' : World} {b o : Nat} {x y z u : Value} (hu : Up w W') (h : w.cell? ⟨b, o, none⟩ = some x ∧ w.cell? ⟨b, o + 1, none⟩ = some y ∧ w.cell? ⟨b, o + 2, none⟩ = some z ∧ w.cell? ⟨b, o + 3, none⟩ = some u) : W'.cell? ⟨b, o, none⟩ = some x ∧ W'.cell? ⟨b, o + 1, none⟩ = some y ∧ W'.cell? ⟨b, o + 2, none⟩ = some z ∧ W'.cell? ⟨b, o + 3, none⟩ = some u := ⟨cell_up hu h.1, cell_up hu h.2.1, cell_up hu h.2.2.1, cell_up hu h.2.2.2⟩
theorem levs_set {w : World} {B bx o c : Nat} {l : List Value} {A : Option Addr} {es : List LEv} (hr : RowL w B (.slice A es.length c) es) (hb : bx < B) : Levs (w.setCells bx o l) A es.length es := by
  obtain ⟨A', c', e, h⟩ := levs_row (show RowL (w.setCells bx o l) B (.slice A es.length c) es from own_setCells hr (fun g hk => by have := own_base hr hk; omega))
  injection e with e1
  subst e1
  exact h
/-- Lines tell events from a state to a state. -/
def Tells : LSt → List (ByteArray × List LEv) → LSt → Prop
  | s, [], T => s = T
  | s, (x, e) :: r, T => (scanP s (bl x)).1 = e ∧ Tells (scanP s (bl x)).2 r T
set_option maxRecDepth 100000 in
set_option maxHeartbeats 8000000 in
theorem told_any (hC : LayC) (W : World) (hT : TabsP W) (A : Option Addr) (n c : Nat) (l : List (ByteArray × List LEv)) (hl : Steps W A n l) (hn : n ≤ 1000) (hsz : ∀ p ∈ l, p.1.size ≤ 1000) (T : LSt) (hTl : Tells lst0 l T) (wrong : Bool) (hw : (endP T = [] ∧ wrong = false) ∨ (endP T = [evL 2 0 0] ∧ wrong = true)) :
    Calls Tryd.prog 13 #[.slice A n c, .bool wrong] W fun e w' => e = .returned (.bool true) ∧ Up W w' := by
  have HT := Lib.hid hT
  have HL := Lib.hid hl
  have HTL := Lib.hid hTl
  have HSZ := Lib.hid hsz
  have HW := Lib.hid hw
  have HN := Lib.hid hn
  have HLN := Lib.hid hl.len
  have hld0 : ldV (.pointer (some ⟨W.heap.size, 0, none⟩)) (W.alloc (.cells z0 TS)) = some (.agg z0) := ldV_of z0_is (range_box W z0 TS)
  have HU0 := Lib.hid (Up.alloc W (.cells z0 TS))
  have HTH0 := Lib.hid (there_box W z0_is TS)
  clear hT hl hTl hsz hw hn
  go_enter Tryd.func13, Tryd.ntmps13
  go_wp2
  go_loopg [6] n (fun g iv wr => ∃ (k : Nat) (s : LSt), g = n - k ∧ iv = .int .i64 (k : Nat) ∧ Hid (k ≤ n) ∧ Hid (LOk s ∧ Tells s (l.drop k) T) ∧ Hid (ldV (.pointer (some ⟨W.heap.size, 0, none⟩)) wr = some (.agg (stA s))) ∧ Hid (wr.there W.heap.size 0 82) ∧ Hid (Up W wr))
  case atStart => exact ⟨0, lst0, rfl, rfl, Lib.hid (Nat.zero_le _), Lib.hid ⟨lst0_ok, by rw [List.drop_zero]; exact HTL.out⟩, Lib.hid (by rw [← z0_lst]; exact hld0), HTH0, HU0⟩
  case round =>
    obtain ⟨k, s, hg, rfl, HK, HS, HLD, HTH, HU⟩ := hrel
    have HG := Lib.hid hg
    clear hg hld0
    by_cases hlt : k < n
    · have hkl : k < l.length := by have := HLN.out; omega
      obtain ⟨b, o, hA, c0, B, cB, c1, he⟩ := HL.out.at_ k hkl
      have ht := HS.out.2
      rw [List.drop_eq_getElem_cons hkl] at ht
      have hsz := HSZ.out _ (List.getElem_mem hkl)
      generalize l[k]'hkl = p at c0 c1 he ht hsz
      obtain ⟨x, es⟩ := p
      dsimp only at c0 c1 he hsz
      obtain ⟨ht1, ht2⟩ := ht
      have hok := scanP_ok (l := bl x) HS.out.1 (by rw [bl_len]; omega)
      have HSC := Lib.hid (fun W' (h : TabsP W') => hC.scan W' h (stA s) s (stA_is HS.out.1) (cnt_self HS.out.1) x (by omega))
      unfold ScannedP at HSC
      rw [ht1] at HSC
      generalize (scanP s (bl x)).2 = S2 at HSC ht2 hok
      subst hA
      have hc0 := cell_up HU.out c0
      have hc1 := cell_up HU.out c1
      have HE := Lib.hid (he.up HU.out)
      have HTT := Lib.hid ht2
      have HOK := Lib.hid hok
      have HSI := Lib.hid (stA_is HS.out.1)
      have HTI := Lib.hid (stA_is hok)
      have HLT := Lib.hid hlt
      have HEL := Lib.hid (show es.length ≤ 1000000 by have := scanP_len (l := bl x) HS.out.1; rw [ht1, bl_len] at this; omega)
      have i0 : (0 : Int) ≤ k := by omega
      have i1 : (k : Int) < n := by omega
      have e4 : IntKind.i64.wrap ((k : Int) + 1) = (k : Int) + 1 := IntWalk.i64_in _ (by have := HN.out; omega)
      have hl := HLD.out
      generalize hys : stA s = y at HSC HSI hl
      generalize hyt : stA S2 = z at HSC HTI
      have HYT := Lib.hid hyt
      have hbW : W.heap.size ≤ wr.heap.size := Below.size HU.out
      clear hlt hkl c0 c1 he ht1 ht2 hok hsz hys hyt HS
      go_upto_region 5 with fail
      go_cut [7, 8] (fun v7 v8 wx => ∃ A2 c2 b8, v7 = .slice A2 es.length c2 ∧ v8 = .pointer (some ⟨b8, 0, none⟩) ∧ Hid (Levs wx A2 es.length es) ∧ Hid (ldV (.pointer (some ⟨b8, 0, none⟩)) wx = some (.agg z)) ∧ Hid (Up wr wx))
      case first =>
        have hS : ldV (.pointer (some ⟨W.heap.size, 0, none⟩)) wr = some (.agg y) ∧ wr.cell? ⟨b, o + k * 2, none⟩ = some (.string x) := ⟨hl, hc0⟩
        go_region_held3 (fun w' => ldV (.pointer (some ⟨W.heap.size, 0, none⟩)) w' = some (.agg y) ∧ w'.cell? ⟨b, o + k * 2, none⟩ = some (.string x))
          (((with_reducible refine keepL ?_ hS); (repeat first | with_reducible exact Up.refl _ | with_reducible refine Up.trans ?_ HUC.out | with_reducible refine Up.trans ?_ (Up.drew _) | with_reducible refine Up.trans ?_ (Up.alloc _ _) | (with_reducible refine set_upS ?_ (by first | exact HUC2.out | exact Nat.le_refl _)))))
          (first | (go_at_call 7; ((with_reducible refine (HSC.out _ (HT.out.up (by repeat first | with_reducible exact HU.out | with_reducible refine Up.trans ?_ (Up.drew _) | with_reducible refine Up.trans ?_ (Up.alloc _ _)))).mono ?_); rintro e w3 ⟨v3, rfl, hrow, hu⟩; obtain ⟨A2, c2, rfl, he2⟩ := levs_row hrow; have hst := stV_of HTI.out (there_box w3 z0_is TS); (try (have hst2 := stV_of HTI.out (there_up hu (there_box _ z0_is TS)))); have HUC := Lib.hid hu; have HUC2 : Hid (wr.heap.size ≤ w3.heap.size) := Lib.hid (Below.size (Up.trans (by repeat first | with_reducible exact Up.refl _ | with_reducible refine Up.trans ?_ (Up.drew _) | with_reducible refine Up.trans ?_ (Up.alloc _ _)) hu)); have HEV := Lib.hid he2; have HRW := Lib.hid hrow; clear hrow hu he2)))
        all_goals
          go_wp2
          go_meet
          case rel =>
            first
            | exact ⟨A2, c2, _, rfl, rfl, Lib.hid (HEV.out.up (whole_up w3 (z := z0) TS z.toList)), Lib.hid (set_ld HTI.out (there_box w3 z0_is TS)), Lib.hid (set_upS (((Up.drew wr).trans HUC.out).trans (Up.alloc _ _)) HUC2.out)⟩
            | exact ⟨A2, c2, _, rfl, rfl, Lib.hid (levs_set HRW.out (Array.getElem?_eq_some_iff.1 (Go.heap_alloc_new wr _)).1), Lib.hid (set_ld HTI.out (there_up HUC.out (there_box _ z0_is TS))), Lib.hid (set_upS (((Up.alloc wr _).trans (Up.drew _)).trans HUC.out) (Nat.le_refl _))⟩
      case rest =>
        obtain ⟨A2, c2, b8, rfl, rfl, HE2, HL8, HX⟩ := hcut
        have hc1 := cell_up HX.out hc1
        go_upto_region 6 with fail
        go_wp2_with (go_at_call 21; ((with_reducible refine (lsame_any _ _ _ _ _ _ es HE2.out (HE.out.up HX.out) HEL.out).mono ?_); rintro e w4 ⟨rfl, hu⟩; have hl8 := ldV_up hu HL8.out; have hst := stV_of HTI.out (there_up (HX.out.trans hu) HTH.out); have HX4 := Lib.hid (HX.out.trans hu); clear hu))
        go_roundg (n - (k + 1))
        case measure => rw [HG.out]; have := HLT.out; omega
        case rel => exact ⟨k + 1, S2, rfl, by go_num, Lib.hid HLT.out, Lib.hid ⟨HOK.out, HTT.out⟩, Lib.hid (by rw [HYT.out]; exact set_ld HTI.out (there_up HX4.out HTH.out)), Lib.hid (World.there_setCells (there_up HX4.out HTH.out) _ _ _), Lib.hid (set_upS (HU.out.trans HX4.out) (Nat.le_refl _))⟩
    · obtain rfl : k = n := by have := HK.out; omega
      have f0 : decide (k < k) = false := decide_eq_false (Nat.lt_irrefl _)
      have hTs := HS.out.2
      rw [show l.drop k = [] from List.drop_eq_nil_of_le (by have := HLN.out; omega)] at hTs
      obtain rfl : s = T := hTs
      have HEN := Lib.hid (fun W' => hC.end_ W' (stA s) s (stA_is HS.out.1) (cnt_self HS.out.1))
      have hl := HLD.out
      have HLF := Lib.hid (fun W' => kLeaf_any W' 2 0 0)
      clear hlt HG HS HTH HLD
      rcases HW.out with ⟨h, rfl⟩ | ⟨h, rfl⟩
      · rw [h] at HEN
        clear h
        go_upto_region 10 with (go_at_call 8; ((with_reducible refine (HEN.out _).mono ?_); rintro e w4 ⟨v, rfl, hrow, hu⟩; obtain ⟨A2, c2, rfl, -⟩ := levs_row hrow; have HU4 := Lib.hid (HU.out.trans hu); clear hrow hu hl))
        go_region
        go_wp2
        go_ret
        exact ⟨rfl, by first | exact HU4.out | exact HU4.out.trans (Up.drew _)⟩
      · rw [h] at HEN
        clear h
        go_upto_region 10 with (go_at_call 8; ((with_reducible refine (HEN.out _).mono ?_); rintro e w4 ⟨v, rfl, hrow, hu⟩; obtain ⟨A2, c2, rfl, he⟩ := levs_row hrow; obtain ⟨be, o, rfl, -, c0, c1, c2, c3⟩ := he.at_ 0 (by decide); have HU4 := Lib.hid (HU.out.trans hu); clear hrow hu hl))
        rw [Nat.zero_mul, Nat.add_zero] at c0 c1 c2 c3
        have d0 : w4.cell? ⟨be, o, none⟩ = some (.int .u8 3) := c0
        have d1 : w4.cell? ⟨be, o + 1, none⟩ = some (.int .u8 2) := c1
        have d2 : w4.cell? ⟨be, o + 2, none⟩ = some (.int .i64 0) := c2
        have d3 : w4.cell? ⟨be, o + 3, none⟩ = some (.int .i64 0) := c3
        have hS := keepE4 (Up.refl w4) ⟨d0, d1, d2, d3⟩
        clear c0 c1 c2 c3 he d0 d1 d2 d3
        go_region_held3 (fun w' => w'.cell? ⟨be, o, none⟩ = some (.int .u8 3) ∧ w'.cell? ⟨be, o + 1, none⟩ = some (.int .u8 2) ∧ w'.cell? ⟨be, o + 2, none⟩ = some (.int .i64 0) ∧ w'.cell? ⟨be, o + 3, none⟩ = some (.int .i64 0))
          (((with_reducible refine keepE4 ?_ hS); (repeat first | with_reducible exact Up.refl _ | with_reducible refine Up.trans ?_ HUC.out | with_reducible refine Up.trans ?_ (Up.drew _) | with_reducible refine Up.trans ?_ (Up.alloc _ _))))
          (first | (go_at_call 11; ((with_reducible refine (HLF.out _).mono ?_); rintro e w5 ⟨rfl, hu⟩; have HUC := Lib.hid hu; clear hu)))
        all_goals
          go_wp2
          go_ret
          exact ⟨rfl, by repeat first | with_reducible exact HU4.out | with_reducible refine Up.trans ?_ HUC.out | with_reducible refine Up.trans ?_ (Up.drew _) | with_reducible refine Up.trans ?_ (Up.alloc _ _)⟩
end Go.Proofs.YtilpfngjiolmaaaDoor

namespace Go.Proofs.YtilpfngjiolmaaaDoor
open Go.RowKit
attribute [local go_sem ↓] ldS_eq stS_eq elS_eq neS_eq zrS_eq bsS_eq bdS_eq
attribute [local go_sem] ldS_run stS_run elS_run neS_run zrS_run bsS_run bdS_run0 bdS_run1 g0_rule ldV_drew ldV_drewN

theorem keep2 {w W' : World} {b i j : Nat} {x y : Value} (hu : Up w W') (h : w.cell? ⟨b, i, none⟩ = some x ∧ w.cell? ⟨b, j, none⟩ = some y) : W'.cell? ⟨b, i, none⟩ = some x ∧ W'.cell? ⟨b, j, none⟩ = some y := ⟨cell_up hu h.1, cell_up hu h.2⟩
theorem upHid {a b c : World} (h : Hid (Up b c)) (k : Up a b) : Up a c := k.trans h.out
theorem size_new (w : World) (a : Obj) : w.heap.size + 1 = (w.alloc a).heap.size := (show (w.heap.push a).size = _ from Array.size_push ..).symm
theorem size_new2 (w : World) (a b : Obj) : w.heap.size + 1 + 1 = ((w.alloc a).alloc b).heap.size := by rw [← size_new (w.alloc a) b, ← size_new w a]
theorem heap_new1 (w : World) (a o : Obj) : ((w.alloc a).alloc o).heap[w.heap.size + 1]? = some o := by
  rw [size_new w a]
  exact Go.heap_alloc_new (w.alloc a) o
theorem lev_new {w W' : World} {z : Array Value} {es : List LEv} {n : Nat} (hu : Up (w.alloc (.cells z ET)) W') (hz : z = (levCells es).toArray) (hn : n = es.length) : Levs W' (some ⟨w.heap.size, 0, none⟩) n es := by
  subst hz hn
  have h := (Below.block hu _ (Array.getElem?_eq_some_iff.1 (Go.heap_alloc_new w (.cells (levCells es).toArray ET))).1).trans (Go.heap_alloc_new w (.cells (levCells es).toArray ET))
  refine ⟨rfl, fun i hi => ?_⟩
  obtain ⟨k0, k1, k2, k3⟩ := levCells_at es i hi
  refine ⟨_, 0, rfl, (Array.getElem?_eq_some_iff.1 h).1, ?_, ?_, ?_, ?_⟩ <;> rw [Nat.zero_add]
  · exact cellOf h (by simpa using k0)
  · exact cellOf h (by simpa using k1)
  · exact cellOf h (by simpa using k2)
  · exact cellOf h (by simpa using k3)
theorem lev_new1 {w W' : World} {a : Obj} {z : Array Value} {es : List LEv} {n : Nat} (hu : Up ((w.alloc a).alloc (.cells z ET)) W') (hz : z = (levCells es).toArray) (hn : n = es.length) : Levs W' (some ⟨w.heap.size + 1, 0, none⟩) n es := by
  rw [size_new w a]
  exact lev_new hu hz hn
theorem steps3 {w W' : World} {T : TypeId} {x0 x1 x2 : ByteArray} {A0 A1 A2 : Option Addr} {n0 n1 n2 c0 c1 c2 b : Nat} {e0 e1 e2 : List LEv} (hu : Up (w.alloc (.cells #[.string x0, .slice A0 n0 c0, .string x1, .slice A1 n1 c1, .string x2, .slice A2 n2 c2] T)) W') (hb : b = w.heap.size) (h0 : Levs W' A0 n0 e0) (h1 : Levs W' A1 n1 e1) (h2 : Levs W' A2 n2 e2) : Steps W' (some ⟨b, 0, none⟩) 3 [(x0, e0), (x1, e1), (x2, e2)] := by
  subst hb
  have h := (Below.block hu _ (Array.getElem?_eq_some_iff.1 (Go.heap_alloc_new w (.cells #[.string x0, .slice A0 n0 c0, .string x1, .slice A1 n1 c1, .string x2, .slice A2 n2 c2] T))).1).trans (Go.heap_alloc_new w _)
  obtain rfl := h0.len
  obtain rfl := h1.len
  obtain rfl := h2.len
  refine ⟨rfl, fun i hi => ?_⟩
  refine ⟨_, 0, rfl, ?_⟩
  match i, hi with
  | 0, _ => exact ⟨cellOf h rfl, _, _, cellOf h rfl, h0⟩
  | 1, _ => exact ⟨cellOf h rfl, _, _, cellOf h rfl, h1⟩
  | 2, _ => exact ⟨cellOf h rfl, _, _, cellOf h rfl, h2⟩
  | i + 3, hi => exact absurd hi (by simp)
theorem steps2 {w W' : World} {T : TypeId} {x0 x1 : ByteArray} {A0 A1 : Option Addr} {n0 n1 c0 c1 b : Nat} {e0 e1 : List LEv} (hu : Up (w.alloc (.cells #[.string x0, .slice A0 n0 c0, .string x1, .slice A1 n1 c1] T)) W') (hb : b = w.heap.size) (h0 : Levs W' A0 n0 e0) (h1 : Levs W' A1 n1 e1) : Steps W' (some ⟨b, 0, none⟩) 2 [(x0, e0), (x1, e1)] := by
  subst hb
  have h := (Below.block hu _ (Array.getElem?_eq_some_iff.1 (Go.heap_alloc_new w (.cells #[.string x0, .slice A0 n0 c0, .string x1, .slice A1 n1 c1] T))).1).trans (Go.heap_alloc_new w _)
  obtain rfl := h0.len
  obtain rfl := h1.len
  refine ⟨rfl, fun i hi => ?_⟩
  refine ⟨_, 0, rfl, ?_⟩
  match i, hi with
  | 0, _ => exact ⟨cellOf h rfl, _, _, cellOf h rfl, h0⟩
  | 1, _ => exact ⟨cellOf h rfl, _, _, cellOf h rfl, h1⟩
  | i + 2, hi => exact absurd hi (by simp)
theorem steps1 {w W' : World} {T : TypeId} {x0 : ByteArray} {A0 : Option Addr} {n0 c0 b : Nat} {e0 : List LEv} (hu : Up (w.alloc (.cells #[.string x0, .slice A0 n0 c0] T)) W') (hb : b = w.heap.size) (h0 : Levs W' A0 n0 e0) : Steps W' (some ⟨b, 0, none⟩) 1 [(x0, e0)] := by
  subst hb
  have h := (Below.block hu _ (Array.getElem?_eq_some_iff.1 (Go.heap_alloc_new w (.cells #[.string x0, .slice A0 n0 c0] T))).1).trans (Go.heap_alloc_new w _)
  obtain rfl := h0.len
  refine ⟨rfl, fun i hi => ?_⟩
  refine ⟨_, 0, rfl, ?_⟩
  match i, hi with
  | 0, _ => exact ⟨cellOf h rfl, _, _, cellOf h rfl, h0⟩
  | i + 1, hi => exact absurd hi (by simp)
/-- The lines of the statement, one list each. -/
def eHead : List LEv := [⟨1, 11, 0, 0⟩, ⟨3, 13, 0, 2⟩, ⟨3, 13, 3, 4⟩, ⟨3, 17, 4, 5⟩, ⟨2, 12, 5, 0⟩]
def xHead : ByteArray := ⟨#[105, 102, 32, 97, 58, 10]⟩
@[reducible] def t1L : List (ByteArray × List LEv) := [(xHead, eHead), (⟨#[32, 32, 98, 10]⟩, [⟨1, 10, 0, 0⟩, ⟨1, 11, 2, 0⟩, ⟨3, 13, 2, 3⟩, ⟨2, 11, 3, 0⟩]), (⟨#[99]⟩, [⟨2, 0, 0, 0⟩, ⟨1, 11, 0, 0⟩, ⟨3, 13, 0, 1⟩, ⟨2, 11, 1, 0⟩])]
theorem t1LS : ∃ T, Tells lst0 t1L T ∧ endP T = [] := ⟨_, ⟨by kernel_rfl, by kernel_rfl, by kernel_rfl, rfl⟩, by kernel_rfl⟩
theorem t1LT (hC : LayC) (W : World) (A : Option Addr) (c : Nat) (h : TabsP W) (hs : Steps W A 3 t1L) : Calls Tryd.prog 13 #[.slice A 3 c, .bool false] W fun e w' => e = .returned (.bool true) ∧ Up W w' := by
  obtain ⟨T, h1, h2⟩ := t1LS
  exact told_any hC W h A 3 c t1L hs (by omega) (by decide) T h1 false (.inl ⟨h2, rfl⟩)
@[reducible] def t2L : List (ByteArray × List LEv) := [(⟨#[97, 10]⟩, [⟨1, 11, 0, 0⟩, ⟨3, 13, 0, 1⟩, ⟨2, 11, 1, 0⟩]), (⟨#[32, 32, 98, 13, 10]⟩, [⟨3, 2, 0, 2⟩, ⟨1, 11, 2, 0⟩, ⟨3, 13, 2, 3⟩, ⟨2, 11, 3, 0⟩])]
theorem t2LS : ∃ T, Tells lst0 t2L T ∧ endP T = [] := ⟨_, ⟨by kernel_rfl, by kernel_rfl, rfl⟩, by kernel_rfl⟩
theorem t2LT (hC : LayC) (W : World) (A : Option Addr) (c : Nat) (h : TabsP W) (hs : Steps W A 2 t2L) : Calls Tryd.prog 13 #[.slice A 2 c, .bool false] W fun e w' => e = .returned (.bool true) ∧ Up W w' := by
  obtain ⟨T, h1, h2⟩ := t2LS
  exact told_any hC W h A 2 c t2L hs (by omega) (by decide) T h1 false (.inl ⟨h2, rfl⟩)
@[reducible] def t3L : List (ByteArray × List LEv) := [(xHead, eHead), (⟨#[98]⟩, [⟨3, 2, 0, 0⟩, ⟨1, 11, 0, 0⟩, ⟨3, 13, 0, 1⟩, ⟨2, 11, 1, 0⟩])]
theorem t3LS : ∃ T, Tells lst0 t3L T ∧ endP T = [] := ⟨_, ⟨by kernel_rfl, by kernel_rfl, rfl⟩, by kernel_rfl⟩
theorem t3LT (hC : LayC) (W : World) (A : Option Addr) (c : Nat) (h : TabsP W) (hs : Steps W A 2 t3L) : Calls Tryd.prog 13 #[.slice A 2 c, .bool false] W fun e w' => e = .returned (.bool true) ∧ Up W w' := by
  obtain ⟨T, h1, h2⟩ := t3LS
  exact told_any hC W h A 2 c t3L hs (by omega) (by decide) T h1 false (.inl ⟨h2, rfl⟩)
@[reducible] def t4L : List (ByteArray × List LEv) := [(xHead, eHead)]
theorem t4LS : ∃ T, Tells lst0 t4L T ∧ endP T = [evL 2 0 0] := ⟨_, ⟨by kernel_rfl, rfl⟩, by kernel_rfl⟩
theorem t4LT (hC : LayC) (W : World) (A : Option Addr) (c : Nat) (h : TabsP W) (hs : Steps W A 1 t4L) : Calls Tryd.prog 13 #[.slice A 1 c, .bool true] W fun e w' => e = .returned (.bool true) ∧ Up W w' := by
  obtain ⟨T, h1, h2⟩ := t4LS
  exact told_any hC W h A 1 c t4L hs (by omega) (by decide) T h1 true (.inr ⟨h2, rfl⟩)
@[reducible] def t5L : List (ByteArray × List LEv) := [(xHead, eHead), (⟨#[32, 32, 98, 10]⟩, [⟨1, 10, 0, 0⟩, ⟨1, 11, 2, 0⟩, ⟨3, 13, 2, 3⟩, ⟨2, 11, 3, 0⟩]), (⟨#[32, 99]⟩, [⟨2, 0, 0, 0⟩, ⟨3, 2, 0, 1⟩, ⟨1, 11, 1, 0⟩, ⟨3, 13, 1, 2⟩, ⟨2, 11, 2, 0⟩])]
theorem t5LS : ∃ T, Tells lst0 t5L T ∧ endP T = [] := ⟨_, ⟨by kernel_rfl, by kernel_rfl, by kernel_rfl, rfl⟩, by kernel_rfl⟩
theorem t5LT (hC : LayC) (W : World) (A : Option Addr) (c : Nat) (h : TabsP W) (hs : Steps W A 3 t5L) : Calls Tryd.prog 13 #[.slice A 3 c, .bool false] W fun e w' => e = .returned (.bool true) ∧ Up W w' := by
  obtain ⟨T, h1, h2⟩ := t5LS
  exact told_any hC W h A 3 c t5L hs (by omega) (by decide) T h1 false (.inl ⟨h2, rfl⟩)
@[reducible] def t6L : List (ByteArray × List LEv) := [(⟨#[97, 32, 61, 32, 40, 10]⟩, [⟨1, 11, 0, 0⟩, ⟨3, 13, 0, 1⟩, ⟨3, 17, 2, 3⟩, ⟨3, 17, 4, 5⟩]), (⟨#[35, 32, 120, 10]⟩, [⟨3, 18, 0, 3⟩]), (⟨#[41, 10]⟩, [⟨3, 17, 0, 1⟩, ⟨2, 11, 1, 0⟩])]
theorem t6LS : ∃ T, Tells lst0 t6L T ∧ endP T = [] := ⟨_, ⟨by kernel_rfl, by kernel_rfl, by kernel_rfl, rfl⟩, by kernel_rfl⟩
theorem t6LT (hC : LayC) (W : World) (A : Option Addr) (c : Nat) (h : TabsP W) (hs : Steps W A 3 t6L) : Calls Tryd.prog 13 #[.slice A 3 c, .bool false] W fun e w' => e = .returned (.bool true) ∧ Up W w' := by
  obtain ⟨T, h1, h2⟩ := t6LS
  exact told_any hC W h A 3 c t6L hs (by omega) (by decide) T h1 false (.inl ⟨h2, rfl⟩)
@[reducible] def t7L : List (ByteArray × List LEv) := [(⟨#[40, 10]⟩, [⟨1, 11, 0, 0⟩, ⟨3, 17, 0, 1⟩])]
theorem t7LS : ∃ T, Tells lst0 t7L T ∧ endP T = [evL 2 0 0] := ⟨_, ⟨by kernel_rfl, rfl⟩, by kernel_rfl⟩
theorem t7LT (hC : LayC) (W : World) (A : Option Addr) (c : Nat) (h : TabsP W) (hs : Steps W A 1 t7L) : Calls Tryd.prog 13 #[.slice A 1 c, .bool true] W fun e w' => e = .returned (.bool true) ∧ Up W w' := by
  obtain ⟨T, h1, h2⟩ := t7LS
  exact told_any hC W h A 1 c t7L hs (by omega) (by decide) T h1 true (.inr ⟨h2, rfl⟩)
@[reducible] def t8L : List (ByteArray × List LEv) := [(⟨#[97, 58, 92, 10]⟩, [⟨1, 11, 0, 0⟩, ⟨3, 13, 0, 1⟩, ⟨3, 17, 1, 2⟩, ⟨3, 19, 2, 3⟩]), (⟨#[10]⟩, [⟨2, 12, 0, 0⟩])]
theorem t8LS : ∃ T, Tells lst0 t8L T ∧ endP T = [evL 2 0 0] := ⟨_, ⟨by kernel_rfl, by kernel_rfl, rfl⟩, by kernel_rfl⟩
theorem t8LT (hC : LayC) (W : World) (A : Option Addr) (c : Nat) (h : TabsP W) (hs : Steps W A 2 t8L) : Calls Tryd.prog 13 #[.slice A 2 c, .bool true] W fun e w' => e = .returned (.bool true) ∧ Up W w' := by
  obtain ⟨T, h1, h2⟩ := t8LS
  exact told_any hC W h A 2 c t8L hs (by omega) (by decide) T h1 true (.inr ⟨h2, rfl⟩)
end Go.Proofs.YtilpfngjiolmaaaDoor

namespace Go.Proofs.YtilpfngjiolmaaaDoor
open Go.RowKit
/-- The lines of the loop, each a blank deeper than the one ahead, and the states ahead of them. -/
def kLn : Nat → ByteArray
  | 0 => ⟨#[97, 58, 10]⟩
  | i + 1 => (⟨#[32]⟩ : ByteArray) ++ kLn i
def kSt : Nat → LSt
  | 0 => lst0
  | i + 1 => (scanP (kSt i) (bl (kLn i))).2
theorem kLn_size : ∀ i, (kLn i).size = i + 3
  | 0 => rfl
  | i + 1 => by rw [kLn, ByteArray.size_append, kLn_size i]; show 1 + (i + 3) = _; omega
theorem kSt_ok : ∀ i, i ≤ 18 → LOk (kSt i)
  | 0, _ => lst0_ok
  | i + 1, h => scanP_ok (kSt_ok i (by omega)) (by rw [bl_len, kLn_size]; omega)
def kOk12 (i : Nat) : Bool := (kSt (i + 1)).cols.length == min i 16 && decide (0 < (scanP (kSt i) (bl (kLn i))).1.length) && (((scanP (kSt i) (bl (kLn i))).1.map (fun e => e.kind == 2)).getD 0 false == decide (16 < i))
theorem kAll12 : (List.range 18).all kOk12 = true := by decide +kernel
theorem kOne12 {i : Nat} (h : i < 18) : (kSt (i + 1)).cols.length = min i 16 ∧ ∃ hk : 0 < (scanP (kSt i) (bl (kLn i))).1.length, (((scanP (kSt i) (bl (kLn i))).1[0]'hk).kind = 2 ↔ 16 < i) := by
  have := List.all_eq_true.1 kAll12 i (List.mem_range.2 h)
  unfold kOk12 at this
  rw [Bool.and_eq_true, Bool.and_eq_true] at this
  obtain ⟨⟨h1, h2⟩, h3⟩ := this
  have hk := of_decide_eq_true h2
  refine ⟨beq_iff_eq.1 h1, hk, ?_⟩
  have h4 := beq_iff_eq.1 h3
  rw [List.getD_eq_getElem?_getD, List.getElem?_map, List.getElem?_eq_getElem hk] at h4
  simp only [Option.map_some, Option.getD_some] at h4
  rw [← decide_eq_true_iff (p := 16 < i), ← h4, beq_iff_eq]
end Go.Proofs.YtilpfngjiolmaaaDoor

namespace Go.Proofs.YtilpfngjiolmaaaDoor
open Go.RowKit
def oG (f0 f4 : Nat) (c0 c1 d : Int) (mo ma fl : Nat) (co wa : Int) (q : Bool) : SV := ⟨fun j => if j = 0 then f0 else if j = 4 then f4 else 0, fun i => if i = 0 then c0 else if i = 1 then c1 else 0, d, mo, ma, fl, co, fun _ => ByteArray.empty, fun _ => false, fun k => if k = 1 then q else false, wa⟩
def oV (i : Nat) : SV := [oG 0 0 0 0 17 0 0 0 0 0 false, oG 0 0 0 0 (-1) 0 0 0 0 0 false, oG 0 0 0 0 1 0 0 0 0 0 false, oG 10 10 3 3 2 0 0 0 0 0 false, oG 0 0 0 0 0 2 0 0 0 0 false, oG 0 0 0 0 0 0 1 0 0 0 false, oG 0 0 0 0 0 1 5 0 0 0 false, oG 0 0 0 0 0 1 0 0 (-1) 0 false, oG 0 0 0 0 0 1 0 0 1048577 0 false, oG 0 0 0 0 0 0 0 2 0 0 false, oG 0 0 0 0 0 1 0 1 0 0 false, oG 0 0 0 0 0 0 0 0 0 1 false, oG 0 0 0 0 0 0 0 0 0 0 true, oG 0 0 1 0 0 0 0 0 0 0 false, oG 10 0 8388609 0 1 0 0 0 0 0 false].getD i (oG 0 0 0 0 0 0 0 0 0 0 false)
def oWf (f0 f4 : Nat) (c0 c1 d : Int) (mo ma fl : Nat) (co wa : Int) : Bool := decide (f0 < 256) && decide (f4 < 256) && (Lit.int .i64 c0).wf && (Lit.int .i64 c1).wf && (Lit.int .i64 d).wf && decide (mo < 256) && decide (ma < 256) && decide (fl < 256) && (Lit.int .i64 co).wf && (Lit.int .i64 wa).wf
theorem oG_ok {f0 f4 : Nat} {c0 c1 d : Int} {mo ma fl : Nat} {co wa : Int} {q : Bool} (h : oWf f0 f4 c0 c1 d mo ma fl co wa = true) : SvOk (oG f0 f4 c0 c1 d mo ma fl co wa q) := by
  unfold oWf at h
  simp only [Bool.and_eq_true, decide_eq_true_eq] at h
  obtain ⟨⟨⟨⟨⟨⟨⟨⟨⟨h1, h2⟩, h3⟩, h4⟩, h5⟩, h6⟩, h7⟩, h8⟩, h9⟩, h10⟩ := h
  refine ⟨fun j => ?_, fun i => ?_, h5, h6, h7, h8, h9, fun _ => Nat.zero_le _, h10⟩
  · show (if j = 0 then f0 else if j = 4 then f4 else 0) < 256
    split
    · exact h1
    · split
      · exact h2
      · decide
  · show (Lit.int .i64 (if i = 0 then c0 else if i = 1 then c1 else 0)).wf = true
    split
    · exact h3
    · split
      · exact h4
      · rfl
theorem oV_ok : ∀ i, i < 15 → SvOk (oV i)
  | 0, _ => oG_ok (by decide)
  | 1, _ => oG_ok (by decide)
  | 2, _ => oG_ok (by decide)
  | 3, _ => oG_ok (by decide)
  | 4, _ => oG_ok (by decide)
  | 5, _ => oG_ok (by decide)
  | 6, _ => oG_ok (by decide)
  | 7, _ => oG_ok (by decide)
  | 8, _ => oG_ok (by decide)
  | 9, _ => oG_ok (by decide)
  | 10, _ => oG_ok (by decide)
  | 11, _ => oG_ok (by decide)
  | 12, _ => oG_ok (by decide)
  | 13, _ => oG_ok (by decide)
  | 14, _ => oG_ok (by decide)
  | i + 15, h => absurd h (by omega)
@[irreducible] def oA (i : Nat) : Array Value := svA (oV i)
theorem oA_is {i : Nat} (h : i < 15) : IsS (oA i) := by unfold oA; exact sv_is (oV_ok i h)
theorem oV_not : ∀ i, i < 15 → ¬ (condV (oV i) ∧ svL (oV i) = svL (svO (oV i) (oV i).d.toNat))
  | 0, _ => by
    rintro ⟨⟨h1, h2, h3, h4⟩, h5⟩
    exact absurd h2 (by decide)
  | 1, _ => by
    rintro ⟨⟨h1, h2, h3, h4⟩, h5⟩
    exact absurd h1 (by decide)
  | 2, _ => by
    rintro ⟨⟨h1, h2, h3, h4⟩, h5⟩
    exact absurd (h4 0 (by decide)).1 (by decide)
  | 3, _ => by
    rintro ⟨⟨h1, h2, h3, h4⟩, h5⟩
    exact absurd (h4 1 (by decide)).1 (by decide)
  | 4, _ => by
    rintro ⟨⟨h1, h2, h3, h4⟩, h5⟩
    exact absurd h3 (by decide)
  | 5, _ => by
    rintro ⟨⟨h1, h2, h3, h4⟩, h5⟩
    exact absurd h3 (by decide)
  | 6, _ => by
    rintro ⟨⟨h1, h2, h3, h4⟩, h5⟩
    exact absurd h3 (by decide)
  | 7, _ => by
    rintro ⟨⟨h1, h2, h3, h4⟩, h5⟩
    exact absurd h3 (by decide)
  | 8, _ => by
    rintro ⟨⟨h1, h2, h3, h4⟩, h5⟩
    exact absurd h3 (by decide)
  | 9, _ => by
    rintro ⟨⟨h1, h2, h3, h4⟩, h5⟩
    exact absurd h3 (by decide)
  | 10, _ => by
    rintro ⟨⟨h1, h2, h3, h4⟩, h5⟩
    exact absurd h3 (by decide)
  | 11, _ => by
    rintro ⟨⟨h1, h2, h3, h4⟩, h5⟩
    have h : (some (.int .i64 1) : Option Value) = some (.int .i64 0) := congrArg (fun l => l[81]?) h5
    simp at h
  | 12, _ => by
    rintro ⟨⟨h1, h2, h3, h4⟩, h5⟩
    have h : (some (.bool true) : Option Value) = some (.bool false) := congrArg (fun l => l[74]?) h5
    simp at h
  | 13, _ => by
    rintro ⟨⟨h1, h2, h3, h4⟩, h5⟩
    have h : (some (.int .i64 1) : Option Value) = some (.int .i64 0) := congrArg (fun l => l[3]?) h5
    simp at h
  | 14, _ => by
    rintro ⟨⟨h1, h2, h3, h4⟩, h5⟩
    exact absurd (h4 0 (by decide)).2 (by decide)
  | i + 15, h => absurd h (by omega)
theorem oA_cnt {i : Nat} (h : i < 15) : Cnt (oA i) lst0 := by
  refine ⟨lst0_ok, .inr ⟨fun k => ?_, rfl⟩⟩
  unfold oA at k
  have h2 := pyB_true.2 k
  rw [pyB_false (oV_not i h)] at h2
  cases h2
theorem bd_0 (w : World) : (bdS #[(1, .int .i64 17)]).run Tryd.prog w = .ok (.agg (oA 0)) w := by unfold oA; rw [← bdS_eq]; kernel_rfl
theorem bd_1 (w : World) : (bdS #[(1, .int .i64 (-1))]).run Tryd.prog w = .ok (.agg (oA 1)) w := by unfold oA; rw [← bdS_eq]; kernel_rfl
theorem bd_2 (w : World) : (bdS #[(1, .int .i64 1)]).run Tryd.prog w = .ok (.agg (oA 2)) w := by unfold oA; rw [← bdS_eq]; kernel_rfl
theorem bd_3 (w : World) : (bdS #[(1, .int .i64 2), (0, .agg #[.int .u8 10, .int .u8 0, .int .u8 0, .int .i64 3, .int .u8 10, .int .u8 0, .int .u8 0, .int .i64 3, .int .u8 0, .int .u8 0, .int .u8 0, .int .i64 0, .int .u8 0, .int .u8 0, .int .u8 0, .int .i64 0, .int .u8 0, .int .u8 0, .int .u8 0, .int .i64 0, .int .u8 0, .int .u8 0, .int .u8 0, .int .i64 0, .int .u8 0, .int .u8 0, .int .u8 0, .int .i64 0, .int .u8 0, .int .u8 0, .int .u8 0, .int .i64 0, .int .u8 0, .int .u8 0, .int .u8 0, .int .i64 0, .int .u8 0, .int .u8 0, .int .u8 0, .int .i64 0, .int .u8 0, .int .u8 0, .int .u8 0, .int .i64 0, .int .u8 0, .int .u8 0, .int .u8 0, .int .i64 0, .int .u8 0, .int .u8 0, .int .u8 0, .int .i64 0, .int .u8 0, .int .u8 0, .int .u8 0, .int .i64 0, .int .u8 0, .int .u8 0, .int .u8 0, .int .i64 0, .int .u8 0, .int .u8 0, .int .u8 0, .int .i64 0])]).run Tryd.prog w = .ok (.agg (oA 3)) w := by unfold oA; rw [← bdS_eq]; kernel_rfl
theorem bd_4 (w : World) : (bdS #[(2, .int .u8 2)]).run Tryd.prog w = .ok (.agg (oA 4)) w := by unfold oA; rw [← bdS_eq]; kernel_rfl
theorem bd_5 (w : World) : (bdS #[(3, .int .u8 1)]).run Tryd.prog w = .ok (.agg (oA 5)) w := by unfold oA; rw [← bdS_eq]; kernel_rfl
theorem bd_6 (w : World) : (bdS #[(2, .int .u8 1), (3, .int .u8 5)]).run Tryd.prog w = .ok (.agg (oA 6)) w := by unfold oA; rw [← bdS_eq]; kernel_rfl
theorem bd_7 (w : World) : (bdS #[(2, .int .u8 1), (5, .int .i64 (-1))]).run Tryd.prog w = .ok (.agg (oA 7)) w := by unfold oA; rw [← bdS_eq]; kernel_rfl
theorem bd_8 (w : World) : (bdS #[(2, .int .u8 1), (5, .int .i64 1048577)]).run Tryd.prog w = .ok (.agg (oA 8)) w := by unfold oA; rw [← bdS_eq]; kernel_rfl
theorem bd_9 (w : World) : (bdS #[(4, .int .u8 2)]).run Tryd.prog w = .ok (.agg (oA 9)) w := by unfold oA; rw [← bdS_eq]; kernel_rfl
theorem bd_10 (w : World) : (bdS #[(2, .int .u8 1), (4, .int .u8 1)]).run Tryd.prog w = .ok (.agg (oA 10)) w := by unfold oA; rw [← bdS_eq]; kernel_rfl
theorem bd_11 (w : World) : (bdS #[(7, .int .i64 1)]).run Tryd.prog w = .ok (.agg (oA 11)) w := by unfold oA; rw [← bdS_eq]; kernel_rfl
theorem bd_12 (w : World) : (bdS #[(6, .agg #[.string ⟨#[]⟩, .bool false, .bool false, .string ⟨#[]⟩, .bool false, .bool true, .string ⟨#[]⟩, .bool false, .bool false, .string ⟨#[]⟩, .bool false, .bool false])]).run Tryd.prog w = .ok (.agg (oA 12)) w := by unfold oA; rw [← bdS_eq]; kernel_rfl
theorem bd_13 (w : World) : (bdS #[(0, .agg #[.int .u8 0, .int .u8 0, .int .u8 0, .int .i64 1, .int .u8 0, .int .u8 0, .int .u8 0, .int .i64 0, .int .u8 0, .int .u8 0, .int .u8 0, .int .i64 0, .int .u8 0, .int .u8 0, .int .u8 0, .int .i64 0, .int .u8 0, .int .u8 0, .int .u8 0, .int .i64 0, .int .u8 0, .int .u8 0, .int .u8 0, .int .i64 0, .int .u8 0, .int .u8 0, .int .u8 0, .int .i64 0, .int .u8 0, .int .u8 0, .int .u8 0, .int .i64 0, .int .u8 0, .int .u8 0, .int .u8 0, .int .i64 0, .int .u8 0, .int .u8 0, .int .u8 0, .int .i64 0, .int .u8 0, .int .u8 0, .int .u8 0, .int .i64 0, .int .u8 0, .int .u8 0, .int .u8 0, .int .i64 0, .int .u8 0, .int .u8 0, .int .u8 0, .int .i64 0, .int .u8 0, .int .u8 0, .int .u8 0, .int .i64 0, .int .u8 0, .int .u8 0, .int .u8 0, .int .i64 0, .int .u8 0, .int .u8 0, .int .u8 0, .int .i64 0])]).run Tryd.prog w = .ok (.agg (oA 13)) w := by unfold oA; rw [← bdS_eq]; kernel_rfl
theorem bd_14 (w : World) : (bdS #[(1, .int .i64 1), (0, .agg #[.int .u8 10, .int .u8 0, .int .u8 0, .int .i64 8388609, .int .u8 0, .int .u8 0, .int .u8 0, .int .i64 0, .int .u8 0, .int .u8 0, .int .u8 0, .int .i64 0, .int .u8 0, .int .u8 0, .int .u8 0, .int .i64 0, .int .u8 0, .int .u8 0, .int .u8 0, .int .i64 0, .int .u8 0, .int .u8 0, .int .u8 0, .int .i64 0, .int .u8 0, .int .u8 0, .int .u8 0, .int .i64 0, .int .u8 0, .int .u8 0, .int .u8 0, .int .i64 0, .int .u8 0, .int .u8 0, .int .u8 0, .int .i64 0, .int .u8 0, .int .u8 0, .int .u8 0, .int .i64 0, .int .u8 0, .int .u8 0, .int .u8 0, .int .i64 0, .int .u8 0, .int .u8 0, .int .u8 0, .int .i64 0, .int .u8 0, .int .u8 0, .int .u8 0, .int .i64 0, .int .u8 0, .int .u8 0, .int .u8 0, .int .i64 0, .int .u8 0, .int .u8 0, .int .u8 0, .int .i64 0, .int .u8 0, .int .u8 0, .int .u8 0, .int .i64 0])]).run Tryd.prog w = .ok (.agg (oA 14)) w := by unfold oA; rw [← bdS_eq]; kernel_rfl
def oL : List (Array Value) := (List.range 15).map oA
def oAll : Array Value := (oL.flatMap fun x => x.toList).toArray
theorem flat_at : ∀ (l : List (Array Value)) (_ : ∀ x ∈ l, x.size = 82) (i j : Nat) (hi : i < l.length), j < 82 → (l.flatMap fun x => x.toList)[i * 82 + j]? = (l[i]'hi).toList[j]?
  | [], _, _, _, hi, _ => absurd hi (Nat.not_lt_zero _)
  | x :: r, h, 0, j, _, hj => by
    have hx : x.size = 82 := h x (List.mem_cons_self ..)
    rw [List.flatMap_cons, List.getElem?_append_left (by simp; omega)]
    simp
  | x :: r, h, i + 1, j, hi, hj => by
    have hx : x.size = 82 := h x (List.mem_cons_self ..)
    rw [List.flatMap_cons, List.getElem?_append_right (by simp; omega)]
    have := flat_at r (fun y hy => h y (List.mem_cons_of_mem _ hy)) i j (by simpa using hi) hj
    rw [show (i + 1) * 82 + j - x.toList.length = i * 82 + j by simp; omega, this]
    rfl
theorem oAll_at {i j : Nat} (h : i < 15) (hj : j < 82) : oAll[i * 82 + j]? = (oA i).toList[j]? := by
  have := flat_at oL (fun x hx => by
    unfold oL at hx
    obtain ⟨k, hk, rfl⟩ := List.mem_map.1 hx
    exact (oA_is (List.mem_range.1 hk)).size) i j (by simpa [oL] using h) hj
  unfold oAll
  rw [List.getElem?_toArray, this]
  simp [oL]
theorem odd_range {w : World} {b : Nat} (hb : w.heap[b]? = some (.cells oAll TS)) {i : Nat} (h : i < 15) : w.rangeAt b (i * 82) (oA i).toList := fun j v hv => by
  have hj : j < 82 := by
    have := (List.getElem?_eq_some_iff.1 hv).1
    have hs := (oA_is h).size
    simpa [hs] using this
  exact cellOf hb (by rw [oAll_at h hj]; exact hv)
theorem odd_ld {w : World} {b : Nat} (hb : w.heap[b]? = some (.cells oAll TS)) {i : Nat} (h : i < 15) : ldV (.pointer (some ⟨b, i * 82, none⟩)) w = some (.agg (oA i)) := ldV_of (oA_is h) (odd_range hb h)
theorem odd_scan : (scanP lst0 (bl ⟨#[97, 10]⟩)).1.length = 3 ∧ (scanP lst0 (bl ⟨#[97, 10]⟩)).2 = lst0 := ⟨by kernel_rfl, by kernel_rfl⟩
theorem bs_15 (w : World) : (bsS 15 #[(0, .agg (oA 0)), (1, .agg (oA 1)), (2, .agg (oA 2)), (3, .agg (oA 3)), (4, .agg (oA 4)), (5, .agg (oA 5)), (6, .agg (oA 6)), (7, .agg (oA 7)), (8, .agg (oA 8)), (9, .agg (oA 9)), (10, .agg (oA 10)), (11, .agg (oA 11)), (12, .agg (oA 12)), (13, .agg (oA 13)), (14, .agg (oA 14))]).run Tryd.prog w = .ok (.slice (some ⟨w.heap.size, 0, none⟩) 15 15) (w.alloc (.cells oAll TS)) := by
  rw [← bsS_eq]
  obtain ⟨i, h1, h2, h3⟩ := sInfo'
  have hz := z0_is.size
  have hw := Great.fill_whole (s := 82) (by omega) ([.agg (oA 0), .agg (oA 1), .agg (oA 2), .agg (oA 3), .agg (oA 4), .agg (oA 5), .agg (oA 6), .agg (oA 7), .agg (oA 8), .agg (oA 9), .agg (oA 10), .agg (oA 11), .agg (oA 12), .agg (oA 13), .agg (oA 14)] : List Value) ((Array.range (15 * i.size)).map ((Value.agg z0).cells[· % (Value.agg z0).cells.size]!)) (fun v hv => by
    simp only [List.mem_cons, List.not_mem_nil, or_false] at hv
    rcases hv with rfl | rfl | rfl | rfl | rfl | rfl | rfl | rfl | rfl | rfl | rfl | rfl | rfl | rfl | rfl <;> exact (oA_is (by decide)).size) (by simp [h3])
  refine run_buildSlice w 49 TS 15 #[(0, .agg (oA 0)), (1, .agg (oA 1)), (2, .agg (oA 2)), (3, .agg (oA 3)), (4, .agg (oA 4)), (5, .agg (oA 5)), (6, .agg (oA 6)), (7, .agg (oA 7)), (8, .agg (oA 8)), (9, .agg (oA 9)), (10, .agg (oA 10)), (11, .agg (oA 11)), (12, .agg (oA 12)), (13, .agg (oA 13)), (14, .agg (oA 14))] oAll i (.agg z0) Tryd.underlying49 h1 h2 (by rw [h3]; omega) (by rw [h3]; omega) ?_
  rw [h3] at hw ⊢
  rw [show (#[(0, .agg (oA 0)), (1, .agg (oA 1)), (2, .agg (oA 2)), (3, .agg (oA 3)), (4, .agg (oA 4)), (5, .agg (oA 5)), (6, .agg (oA 6)), (7, .agg (oA 7)), (8, .agg (oA 8)), (9, .agg (oA 9)), (10, .agg (oA 10)), (11, .agg (oA 11)), (12, .agg (oA 12)), (13, .agg (oA 13)), (14, .agg (oA 14))] : Array (Nat × Value)).toList = ((([.agg (oA 0), .agg (oA 1), .agg (oA 2), .agg (oA 3), .agg (oA 4), .agg (oA 5), .agg (oA 6), .agg (oA 7), .agg (oA 8), .agg (oA 9), .agg (oA 10), .agg (oA 11), .agg (oA 12), .agg (oA 13), .agg (oA 14)] : List Value).zipIdx 0).map fun y => (y.2, y.1)) from rfl, hw]
  rfl
end Go.Proofs.YtilpfngjiolmaaaDoor

namespace Go.Proofs.YtilpfngjiolmaaaDoor
open Go.RowKit

/-- The region of a number in a code. -/
def fReg (n : Nat) : Code → Option Code
  | .region k o m => if k = n then some (.region k o m) else none
  | .loop c => fReg n c
  | .seq a b => (fReg n a).or (fReg n b)
  | .block _ c => fReg n c
  | .scope c => fReg n c
  | .cond _ a b => (fReg n a).or (fReg n b)
  | _ => none
noncomputable def reg12_2 : Code := ((Tryd.f5.body.bind (fReg 2)).getD .skip)
noncomputable def reg12_4 : Code := ((Tryd.f5.body.bind (fReg 4)).getD .skip)
noncomputable def reg12_6 : Code := ((Tryd.f5.body.bind (fReg 6)).getD .skip)
noncomputable def reg12_8 : Code := ((Tryd.f5.body.bind (fReg 8)).getD .skip)
end Go.Proofs.YtilpfngjiolmaaaDoor
