/- InternPlays, walked. -/
import Derived.Test.YtjdcbbleefepoaaIPlay
namespace Go.Proofs.Ytjdcbbleefepoaa
open Go.RowKit
attribute [local go_sem ↓] ldS_eq stS_eq elS_eq neS_eq zrS_eq bsS_eq bdS_eq ldSA_eq stSA_eq zrSA_eq
attribute [local go_sem] ldS_run stS_run elS_run neS_run zrS_run bsS_run bdS_run0 bdS_run1 g0_rule ldV_drew ldV_drewN ldSA_run stSA_run zrSA_run ldV_drewA ldV_drewNA

section
variable {S : World → Nat → (Nat → Prop) → List (Array Value) → Prop} (hC : IntC S)
include hC
set_option maxRecDepth 100000 in
set_option maxHeartbeats 4000000 in
theorem iplay_walk (w : World) (A : Option Addr) (n c : Nat) (L : List Deed) (hL : DeL w A n L) : Calls Try.prog 3 #[.slice A n c] w fun e w' => e = .returned (.bool true) ∧ Up w w' := by
  have HW := Lib.hid (fun W => iwakes_any hC W)
  by_cases hn : 300 < n
  · have hU := Up.refl w
    have hn2 : (300 : Int) < n := by omega
    clear hC hL
    go_enter Try.func3, Try.ntmps3
    go_wp2_with (go_at_call 6; ((with_reducible refine (HW.out _).mono ?_); rintro e w5 ⟨rfl, hu⟩; have hU := hU.trans hu; clear hu))
    go_ret
    exact ⟨rfl, hU⟩
  have g0 : decide ((300 : Int) < n) = false := decide_eq_false (by omega)
  have HC := Lib.hid hC
  have HL := Lib.hid hL
  have HN := Lib.hid (show n ≤ 300 by omega)
  have H0 := Lib.hid (hC.new w)
  clear hC hL hn
  go_enter Try.func3, Try.ntmps3
  go_wp2_with (go_at_call 7; ((with_reducible refine H0.out.mono ?_); rintro e w1 ⟨sb, rfl, hs, hu⟩; have HS := Lib.hid (NewS.mk hs hu); clear hs hu))
  clear H0 g0
  have hT0 : Two S w sb w1.heap.size [] [] (fun _ => False) (w1.alloc (.cells #[.slice none 0 0] 29)) :=
    ⟨⟨fun j => w.heap.size ≤ j ∧ j < w1.heap.size, .slice none 0 0, HC.out.up (HC.out.mono HS.out.s (fun j hj k => ⟨k, hj⟩)) (Up.alloc _ _), ⟨Nat.zero_le _, Go.heap_alloc_new _ _, World.ownsRow_nil _ _ _ _, (fun e => by cases e), fun x hx => by cases hx⟩,
      fun j hj => ⟨hj.1, by rw [World.size_alloc]; omega, fun k => k, by omega, fun e => by cases e⟩, fun k => k, Below.size HS.out.up, fun g e => by cases e⟩, HS.out.up.trans (Up.alloc _ _)⟩
  obtain ⟨tb, htb⟩ : ∃ tb, w1.heap.size = tb := ⟨_, rfl⟩
  rw [htb] at hT0
  have HT0 := Lib.hid hT0
  simp only [htb]
  clear hT0 HS htb
  go_loopg [5] n (fun gh s5 wr => ∃ i : Nat, i ≤ n ∧ gh = n - i ∧ s5 = .int .i64 (i : Nat) ∧ ∃ T, T.length ≤ i ∧ Hid (Two S w sb tb T T (fun _ => False) wr))
  case atStart => exact ⟨0, Nat.zero_le _, rfl, rfl, [], Nat.le_refl _, HT0⟩
  case round =>
    clear HT0
    obtain ⟨i, hi, hg, rfl, T, hTl, HT⟩ := hrel
    have HG := Lib.hid hg
    have HTl := Lib.hid hTl
    clear hg hTl
    by_cases hlt : i < n
    · have hiL : i < L.length := by rw [HL.out.len]; exact hlt
      obtain ⟨b, o, hA, hb, hr⟩ := HL.out.at_ i hiL
      subst hA
      obtain ⟨a, ha⟩ : ∃ a, L[i] = a := ⟨_, rfl⟩
      have haO : DOk a := by rw [← ha]; exact HL.out.ok _ (List.getElem_mem hiL)
      rw [ha] at hr
      obtain ⟨y, hy⟩ : ∃ y : Array Value, a.cells.toArray = y := ⟨_, rfl⟩
      have hyl : y.toList = a.cells := by rw [← hy]
      have hyD : IsD y := ⟨a, haO, hy.symm⟩
      rw [← hyl] at hr
      have hl := ldV_ofA hyD (range_up HT.out.up hr)
      have hst := stV_ofA hyD (there_boxA wr TA)
      have HU8 := Lib.hid (set_upS (b := wr.heap.size) (o := 0) (l := y.toList) (Up.alloc wr (.cells zA TA)) (Nat.le_refl _))
      have hbx := deed_box haO (there_boxA wr TA)
      rw [← hyl] at hbx
      have HBX := Lib.hid hbx
      have HAO := Lib.hid haO
      have p0 : (0 : Int) ≤ i := by omega
      have p1 : (i : Int) < n := by omega
      have e2 : IntKind.i64.wrap ((i : Int) + 1) = (i : Int) + 1 := IntWalk.i64_in _ (by have := HN.out; omega)
      have HK := Lib.hid hlt
      clear hr hyD hy hyl hbx haO ha hb hiL
      go_upto_region 9 with fail
      obtain ⟨W8, hW8⟩ : ∃ W8, (wr.alloc (.cells zA TA)).setCells wr.heap.size 0 y.toList = W8 := ⟨_, rfl⟩
      rw [hW8] at HBX HU8
      simp only [hW8]
      clear hst hl
      obtain ⟨c0, c1, lx⟩ := HBX.out
      clear HBX
      have HT8 := Lib.hid (HT.out.box HC.out (K' := fun k => k = wr.heap.size) HU8.out (fun k e => .inr (by omega)))
      have h6 : wr.heap.size < W8.heap.size := World.block_lt_of_cell? W8 ⟨wr.heap.size, 0, none⟩ c0
      obtain ⟨b6, hb6⟩ : ∃ b6, wr.heap.size = b6 := ⟨_, rfl⟩
      rw [hb6] at c0 c1 lx h6 HT8
      simp only [hb6]
      have H6 := Lib.hid h6
      clear hW8 HU8 hb6 h6 HT
      obtain ⟨x, hx⟩ : ∃ x, a.x = x := ⟨_, rfl⟩
      have hxS : IsS x := by rw [← hx]; exact HAO.out.x
      have HXS := Lib.hid hxS
      rw [hx] at lx
      obtain ⟨d, hd⟩ : ∃ d, a.d = d := ⟨_, rfl⟩
      obtain ⟨k, hk⟩ : ∃ k, a.k = k := ⟨_, rfl⟩
      have HKw := Lib.hid (show (Lit.int .i64 k).wf = true by rw [← hk]; exact HAO.out.k)
      rw [hd] at c0
      rw [hk] at c1
      have HT2 := Lib.hid (show T.length ≤ 1000000 by have := HTl.out; have := HN.out; omega)
      clear hx hxS hd hk HAO
      by_cases h0 : d = 0
      · subst h0
        have HI := Lib.hid (fun (W : World) (h : Two S w sb tb T T (fun k => k = b6) W) (hb : b6 < W.heap.size) => two_id HC.out h HXS.out HT2.out (fun k e => by rw [e]; exact hb))
        have HR := Lib.hid (fun (W : World) (h : Two S w sb tb (addS T x) T (fun k => k = b6) W) (hb : b6 < W.heap.size) => two_rid HC.out h HXS.out HT2.out (fun k e => by rw [e]; exact hb))
        obtain ⟨q, hq⟩ : ∃ q, fI T x = q := ⟨_, rfl⟩
        rw [hq] at HI HR
        clear hq
        go_upto_region 15 with fail
        go_region_held3 (fun w' => ldV (.pointer (some ⟨b6, 2, none⟩)) w' = some (.agg x))
          (first | assumption | exact ldV_turn (Turn.drew (fun _ => False) _) id (by assumption) | exact ldV_turn t5 (fun k => k.2 rfl) (by assumption) | exact ldV_turn t6 (fun k => k.2 rfl) (by assumption))
          (first
            | (go_at_call 8; (refine (HI.out _ (HT8.out.more HC.out (Up.drew _)) H6.out).mono ?_; rintro e w5 ⟨rfl, hT5, t5⟩; have HT5 := Lib.hid hT5; have hz5 := t5.size; clear hT5))
            | (go_at_call 9; (refine (HR.out _ HT5.out (Nat.lt_of_lt_of_le H6.out hz5)).mono ?_; rintro e w6 ⟨rfl, hT6, t6⟩; have HT9 := Lib.hid hT6; clear hT6)))
        have HTl9 := Lib.hid (show (addS T x).length ≤ i + 1 by have := addS_len T x; have := HTl.out; omega)
        clear t5 t6 HT5 hz5 HI HR
        obtain ⟨A', cap', hcA⟩ := two_cell HT9.out
        have hcB := cell_up (Up.drew _) hcA
        obtain ⟨m, hm⟩ : ∃ m, (addS T x).length = m := ⟨_, rfl⟩
        have H4 := Lib.hid (fun (W : World) (h : Two S w sb tb (addS T x) (addS T x) (fun k => k = b6) W) => two_len HC.out h)
        rw [hm] at H4 hcA hcB
        clear hm
        go_wp2
        go_region_held3 (fun w' => w'.cell? ⟨tb, 0, none⟩ = some (.slice A' m cap'))
          (first | assumption | exact cell_up (Up.drew _) (by assumption) | exact cell_up hu9 (by assumption))
          (first | (go_at_call 14; (refine (H4.out _ (HT9.out.more HC.out (Up.drew _))).mono ?_; rintro e w9 ⟨rfl, hu9⟩)))
        go_wp2
        go_roundg (n - (i + 1))
        case measure => rw [HG.out]; have := HK.out; omega
        case rel => exact ⟨i + 1, HK.out, rfl, by go_num, _, HTl9.out, Lib.hid (HT9.out.box HC.out ((Up.drew _).trans hu9) (fun _ k => k.elim))⟩
      have f0 : ((d : Int) == 0) = false := beq_false_of_ne h0
      have f0b : decide (d = 0) = false := decide_eq_false h0
      have HTl9 := Lib.hid (show T.length ≤ i + 1 by have := HTl.out; omega)
      by_cases h1 : d = 1
      · subst h1
        have HI := Lib.hid (fun (W : World) (h : Two S w sb tb T T (fun k => k = b6) W) => two_find HC.out h HXS.out HT2.out)
        have HR := Lib.hid (fun (W : World) (h : Two S w sb tb T T (fun k => k = b6) W) => two_rfind h HXS.out HT2.out)
        obtain ⟨q, hq⟩ : ∃ q, fE T x = q := ⟨_, rfl⟩
        obtain ⟨B, hB⟩ : ∃ B, fB T x = B := ⟨_, rfl⟩
        rw [hq, hB] at HI HR
        clear hq hB h0
        go_upto_region 22 with (first
          | (go_at_call 10; ((with_reducible refine (HI.out _ HT8.out).mono ?_); rintro e w5 ⟨rfl, hu⟩; have lx := ldV_up hu lx; have HT5 := Lib.hid (HT8.out.more HC.out hu); clear hu))
          | (go_at_call 11; ((with_reducible refine (HR.out _ HT5.out).mono ?_); rintro e w6 ⟨rfl, hu⟩; have HT9 := Lib.hid (HT5.out.more HC.out hu); clear hu)))
        obtain ⟨A', cap', hcA⟩ := two_cell HT9.out
        have hcB := cell_up (Up.drew _) hcA
        obtain ⟨m, hm⟩ : ∃ m, T.length = m := ⟨_, rfl⟩
        have H4 := Lib.hid (fun (W : World) (h : Two S w sb tb T T (fun k => k = b6) W) => two_len HC.out h)
        rw [hm] at H4 hcA hcB
        clear hm
        go_wp2
        go_region_held3 (fun w' => w'.cell? ⟨tb, 0, none⟩ = some (.slice A' m cap'))
          (first | assumption | exact cell_up (Up.drew _) (by assumption) | exact cell_up hu9 (by assumption))
          (first | (go_at_call 14; (refine (H4.out _ (HT9.out.more HC.out (Up.drew _))).mono ?_; rintro e w9 ⟨rfl, hu9⟩)))
        go_wp2
        go_roundg (n - (i + 1))
        case measure => rw [HG.out]; have := HK.out; omega
        case rel => exact ⟨i + 1, HK.out, rfl, by go_num, _, HTl9.out, Lib.hid (HT9.out.box HC.out ((Up.drew _).trans hu9) (fun _ k => k.elim))⟩
      · have f1 : ((d : Int) == 1) = false := beq_false_of_ne h1
        have f1b : decide (d = 1) = false := decide_eq_false h1
        have HI := Lib.hid (fun (W : World) (h : Two S w sb tb T T (fun k => k = b6) W) => two_state HC.out h HT2.out HKw.out)
        have HR := Lib.hid (fun (W : World) (h : Two S w sb tb T T (fun k => k = b6) W) => two_rstate h k)
        have hyS : IsS (stT T k) := stT_is (by obtain ⟨G, v, -, h2, -⟩ := HT8.out.ex; exact h2.st) k
        obtain ⟨y2, hy2⟩ : ∃ y2, stT T k = y2 := ⟨_, rfl⟩
        obtain ⟨E, hE⟩ : ∃ E, stE T.length k = E := ⟨_, rfl⟩
        rw [hy2] at hyS
        rw [hy2, hE] at HI HR
        have q1 := eqV_of hyS hyS
        rw [eqS_self] at q1
        have HYS := Lib.hid hyS
        clear hy2 hE h0 h1 hyS
        go_upto_region 22 with (first
          | (go_at_call 12; ((with_reducible refine (HI.out _ HT8.out).mono ?_); rintro e w5 ⟨rfl, hu⟩; have hst5 := stV_of HYS.out (there_box w5 z0_is TS); have hu2 := hu.trans (set_upS (b := w5.heap.size) (o := 0) (l := y2.toList) (Up.alloc w5 (.cells z0 TS)) (Nat.le_refl _)); have h11 := set_ld HYS.out (there_box w5 z0_is TS); have c1 := cell_up hu2 c1; have HT5 := Lib.hid (HT8.out.more HC.out hu2); clear hu hu2))
          | (go_at_call 13; ((with_reducible refine (HR.out _ HT5.out).mono ?_); rintro e w6 ⟨rfl, hu⟩; have hst6 := stV_of HYS.out (there_box w6 z0_is TS); have hu2 := hu.trans (set_upS (b := w6.heap.size) (o := 0) (l := y2.toList) (Up.alloc w6 (.cells z0 TS)) (Nat.le_refl _)); have h11 := ldV_up hu2 h11; have h13 := set_ld HYS.out (there_box w6 z0_is TS); have HT9 := Lib.hid (HT5.out.more HC.out hu2); clear hu hu2)))
        obtain ⟨A', cap', hcA⟩ := two_cell HT9.out
        have hcB := cell_up (Up.drew _) hcA
        obtain ⟨m, hm⟩ : ∃ m, T.length = m := ⟨_, rfl⟩
        have H4 := Lib.hid (fun (W : World) (h : Two S w sb tb T T (fun k => k = b6) W) => two_len HC.out h)
        rw [hm] at H4 hcA hcB
        clear hm
        go_wp2
        go_region_held3 (fun w' => w'.cell? ⟨tb, 0, none⟩ = some (.slice A' m cap'))
          (first | assumption | exact cell_up (Up.drew _) (by assumption) | exact cell_up hu9 (by assumption))
          (first | (go_at_call 14; (refine (H4.out _ (HT9.out.more HC.out (Up.drew _))).mono ?_; rintro e w9 ⟨rfl, hu9⟩)))
        go_wp2
        go_roundg (n - (i + 1))
        case measure => rw [HG.out]; have := HK.out; omega
        case rel => exact ⟨i + 1, HK.out, rfl, by go_num, _, HTl9.out, Lib.hid (HT9.out.box HC.out ((Up.drew _).trans hu9) (fun _ k => k.elim))⟩
    · have f5 : decide (i < n) = false := decide_eq_false hlt
      clear hlt
      go_wp2_with (go_at_call 6; ((with_reducible refine (HW.out _).mono ?_); rintro e w5 ⟨rfl, hu⟩; have HU := Lib.hid (HT.out.up.trans hu); clear hu))
      go_ret
      exact ⟨rfl, HU.out⟩
end
end Go.Proofs.Ytjdcbbleefepoaa
