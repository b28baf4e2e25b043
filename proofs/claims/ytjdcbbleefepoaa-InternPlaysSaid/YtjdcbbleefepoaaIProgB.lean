/- The program's Id. -/
import Derived.Test.YtjdcbbleefepoaaIProgA
namespace Go.Proofs.Ytjdcbbleefepoaa
open Go.RowKit
attribute [local go_sem ↓] ldS_eq stS_eq elS_eq neS_eq zrS_eq bsS_eq bdS_eq
attribute [local go_sem] ldS_run stS_run elS_run neS_run zrS_run bsS_run bdS_run0 bdS_run1 g0_rule ldV_drew ldV_drewN

set_option maxRecDepth 100000 in
set_option maxHeartbeats 2000000 in
theorem tId_in (w : World) (tb mb : Nat) (v : Value) (L : List (Array Value)) (x : Array Value) (hT : TabI w tb mb v L) (hx : IsS x) (hn : L.length ≤ 1000000) (hin : fI L x < L.length) :
    Calls Try.prog 8 #[ptr tb, .agg x] w fun e w' => e = .returned (.int .i64 (fI L x : Nat)) ∧ Up w w' := by
  have hu := Up.alloc w (.cells x TS)
  have HF := Lib.hid (fun (W : World) (h : TabI W tb mb v L) => tFind W tb mb v L x h hx hn)
  have hl := ldV_of hx (range_box w x TS)
  have HT := Lib.hid hT
  have HU := Lib.hid hu
  have e1 : fE L x = fI L x := by unfold fE; rw [if_pos hin]
  have e2 : fB L x = true := by unfold fB; exact decide_eq_true hin
  rw [e1, e2] at HF
  generalize fI L x = n at HF ⊢
  clear hT hu hin e1 e2 hn hx
  go_enter Try.func8, Try.ntmps8
  go_wp2_with (go_at_call 10; ((with_reducible refine (HF.out _ (HT.out.up HU.out)).mono ?_); rintro e1 w1 ⟨rfl, hu⟩))
  go_ret
  exact ⟨rfl, HU.out.trans hu⟩
set_option maxRecDepth 100000 in
set_option maxHeartbeats 4000000 in
theorem tId_out (w : World) (tb mb : Nat) (v : Value) (L : List (Array Value)) (x : Array Value) (hT : TabI w tb mb v L) (hx : IsS x) (hn : L.length ≤ 1000000) (hin : ¬ fI L x < L.length) :
    Calls Try.prog 8 #[ptr tb, .agg x] w fun e w' => e = .returned (.int .i64 (L.length : Nat)) ∧ ∃ v', TabI w' tb mb v' (L ++ [x]) ∧ (∀ g, v'.ownBlock = some g → v.ownBlock = some g ∨ w.heap.size ≤ g) ∧ Turn (fun i => i = tb ∨ i = mb ∨ v.ownBlock = some i) w w' := by
  have hu := Up.alloc w (.cells x TS)
  have HF := Lib.hid (fun (W : World) (h : TabI W tb mb v L) => tFind W tb mb v L x h hx hn)
  have HA := Lib.hid (fun W => apart_any W x hx)
  have hl := ldV_of hx (range_box w x TS)
  have HTH := Lib.hid (there_box w hx TS)
  have HT := Lib.hid hT
  have HU := Lib.hid hu
  have HX := Lib.hid hx
  have HIN := Lib.hid hin
  have HONE := Lib.hid (show addS L x = L ++ [x] by unfold addS; rw [if_neg hin])
  have e1 : fE L x = 0 := by unfold fE; rw [if_neg hin]
  have e2 : fB L x = false := by unfold fB; exact decide_eq_false hin
  rw [e1, e2] at HF
  obtain ⟨A, cap, rfl⟩ := none_form hT.own
  have HNN := Lib.hid hn
  obtain ⟨n, hln⟩ : ∃ n, L.length = n := ⟨_, rfl⟩
  have HN := Lib.hid hln
  rw [hln] at hn ⊢
  obtain ⟨i0, hi0, hz0, hz1⟩ := sInfo'
  have hz2 : i0.bytes = 384 := by have := sBytes; rw [hi0] at this; simpa using this
  have hzs := z0_is.size
  have hxs : x.toList.length = 1 * 82 := by rw [Array.length_toList, hx.size]
  have hx1 : ∀ u ∈ x.toList, u.oneCell' = true := fun u hm => (Array.all_eq_true_iff_forall_mem.1 hx.one) u (by simpa using hm)
  have b1 : n + 1 ≤ maxLen := by unfold maxLen; omega
  have b2 : (n + 1) * 384 ≤ 140737488355328 := by omega
  have HB := Lib.hid (show (n : Int) ≤ 1000000 by omega)
  have c0 : (w.alloc (.cells x TS)).cell? ⟨tb, 0, none⟩ = some (.slice A n cap) := by rw [← hln]; exact cell_up hu (cellOf hT.box rfl)
  clear hT hu hin e1 e2 hln hn
  go_enter Try.func8, Try.ntmps8
  go_wp2_with (first
    | (go_at_call 10; ((with_reducible refine (HF.out _ (HT.out.up HU.out)).mono ?_); rintro e1 w1 ⟨rfl, hu⟩; have HU1 := Lib.hid (HU.out.trans hu); have hl := ldV_up hu hl; have c0 := cell_up hu c0; have HTH1 := Lib.hid (there_up hu HTH.out); clear hu))
    | (go_at_call 15; ((with_reducible refine (HA.out _).mono ?_); rintro e2 w2 ⟨rfl, hu⟩; have hst := stV_of HX.out (there_up hu HTH1.out); have hld3 := set_ld HX.out (there_up hu HTH1.out); have HU3 := Lib.hid (set_upS (b := w.heap.size) (o := 0) (l := x.toList) (HU1.out.trans hu) (Nat.le_refl _)); obtain ⟨w3, hw3⟩ : ∃ w3, w2.setCells w.heap.size 0 x.toList = w3 := ⟨_, rfl⟩; rw [hw3] at hst hld3 HU3; clear hu hw3 hl c0)))
  have HR := Lib.hid (HT.out.up HU3.out)
  obtain ⟨F, hF⟩ : ∃ F : Nat → Prop, F = fun i => (Value.slice A L.length cap).ownBlock = some i := ⟨_, rfl⟩
  have HF1 := Lib.hid (show ∀ g, (Value.slice A L.length cap).ownBlock = some g → F g from fun g e => by rw [hF]; exact e)
  have HF3 := Lib.hid (show ∀ g, F g → g < w.heap.size from fun g e => by
    rw [hF] at e
    rcases HT.out.own.2 with ⟨h0, -⟩ | ⟨g', cap', cur, h0, -, hg, -⟩
    · rw [h0] at e; cases e
    · rw [h0] at e
      obtain rfl := Option.some.inj e
      exact (Array.getElem?_eq_some_iff.1 hg).1)
  clear hF
  have hok := okS_of HX.out
  have s1 : w3.cell? ⟨tb, 0, none⟩ = some (.slice A n cap) := by rw [← HN.out]; exact cellOf HR.out.box rfl
  have s2 : w3.frozen? ⟨tb, 0, none⟩ = false := frozenOf HR.out.box
  have s3 : (w3.drew.alloc (.cells x TS)).cell? ⟨tb, 0, none⟩ = some (.slice A n cap) := cell_up (Up.alloc w3.drew _) s1
  have s4 : (w3.alloc (.cells x TS)).cell? ⟨tb, 0, none⟩ = some (.slice A n cap) := cell_up (Up.alloc w3 _) s1
  have hlt : tb < w3.heap.size := (Array.getElem?_eq_some_iff.1 HR.out.box).1
  have HB5 := Lib.hid (fun (w5 : World) (hg : (w3.alloc (.cells x TS)).drew.grownBy w5 (Value.slice A n cap).ownBlock) => ((hg.block tb (by show tb < (w3.alloc (.cells x TS)).heap.size; rw [World.size_alloc]; omega) (fun e => HR.out.apart.1 (by rw [HN.out]; exact e.symm))).trans ((Below.block (Up.alloc w3 (.cells x TS)) tb hlt).trans (by rw [← HN.out]; exact HR.out.box)) : w5.heap[tb]? = some (.cells #[.slice A n cap, .map (some mb)] 53)))
  have HLT := Lib.hid hlt
  have hwlt : w.heap.size < w3.heap.size := by have := Below.size HU1.out; obtain ⟨y, b, o, hb, -, hy, hr⟩ := ldV_inv hld3; injection hb with hb; injection hb with hb; injection hb with hb _; subst hb; exact World.block_lt_of_cell? w3 _ (hr 0 (y.toList[0]'(by rw [Array.length_toList, hy.size]; omega)) (by simp))
  have HWLT := Lib.hid hwlt
  have HLD := Lib.hid hld3
  clear hlt hwlt hst
  have HOWN : w3.ownsRow 0 TS 82 (.slice A n cap) n (rows L) := by have hz := HR.out.own; rw [HN.out] at hz; exact hz
  go_region_law (first
    | (refine step_append_lies _ (by rfl) _ _ _ (by rfl) 0 TS i0 (.agg z0) 82 384 Try.underlying27 hi0 hz0 hz1 hz2 hzs (by decide) _ n (rows L) (by rfl) (HOWN.alloc _) ⟨w3.heap.size, 0, none⟩ 1 1 x.toList (by rfl) hxs (World.news_of_block (cs := x) (t := TS) (fr := (0, 0)) (heap_alloc_new w3 _)) hx1 (by omega) b1 b2 (Nat.zero_le _) (w3.heap.size + 1) (by simp) ?_; intro g5 cap5 w5 hown5 hgrow hat5 hlt5; have hB5 := HB5.out _ hgrow; have c5 : w5.cell? ⟨tb, 0, none⟩ = some (.slice A n cap) := cellOf hB5 rfl; have z5 : w5.frozen? ⟨tb, 0, none⟩ = false := frozenOf hB5))
  all_goals
    have HOWN5 := Lib.hid hown5
    have HGR := Lib.hid hgrow
    have HAT := Lib.hid hat5
    have HBB := Lib.hid hB5
    clear hown5 hgrow hat5 hB5 HOWN hlt5 c5 z5 s1 s2 s3 s4
    obtain ⟨W6, hW6⟩ : ∃ W6, w5.setCell ⟨tb, 0, none⟩ (.slice (some ⟨g5, 0, none⟩) (n + 1) cap5) = W6 := ⟨_, rfl⟩
    have hb6 : W6.heap[tb]? = some (.cells #[.slice (some ⟨g5, 0, none⟩) (n + 1) cap5, .map (some mb)] 53) := by rw [← hW6]; exact heap_setCell_same w5 tb 0 _ _ _ HBB.out
    have c6 : W6.cell? ⟨tb, 1, none⟩ = some (.map (some mb)) := cellOf hb6 rfl
    have t5 : Turn (fun i => i = tb ∨ (Value.slice A n cap).ownBlock = some i) w3 W6 := by
      rw [← hW6]
      exact ((Turn.of_up _ ((Up.alloc w3 (.cells x TS)).trans (Up.drew _))).trans (Turn.grown HGR.out (fun r e _ => .inr e))).trans (Turn.set w5 (.inl rfl) 0 _)
    have t6 : Turn (fun i => i = tb ∨ (Value.slice A n cap).ownBlock = some i) w W6 := (Turn.of_up _ HU3.out).trans t5
    have k1 : w.heap.size ≠ tb := fun e => by have := (Array.getElem?_eq_some_iff.1 HT.out.box).1; omega
    have k2 : (Value.slice A n cap).ownBlock ≠ some w.heap.size := fun e => by have := HF3.out _ (HF1.out _ (by rw [HN.out]; exact e)); omega
    have k3 : (Value.slice A n cap).ownBlock ≠ some mb := by rw [← HN.out]; exact HT.out.apart.2.1
    have k4 : tb ≠ mb := HT.out.apart.2.2
    have l6 := ldV_turn (b := w.heap.size) t5 (fun h => h.elim k1 k2) HLD.out
    have m6 : MapS W6 mb L := HR.out.map.turn t5 (fun h => h.elim (fun e => k4 e.symm) k3)
    obtain ⟨W7, hrun, hm7, ht7⟩ := MapS.store (w := W6.drew) (mb := mb) (L := L) (m6.up (Up.drew _)) HX.out HIN.out HNN.out
    rw [HN.out] at hrun
    have HM7 := Lib.hid hm7
    have HT7 := Lib.hid ht7
    have HB6 := Lib.hid hb6
    have HT6 := Lib.hid t6
    have HW6 := Lib.hid hW6
    have K3 := Lib.hid k3
    have K4 := Lib.hid k4
    clear hm7 ht7 hb6 t5 t6 k1 k2 k3 k4 m6
    go_wp2
    try simp only [hW6]
    clear hW6
    go_region
    go_wp2
    go_ret
    have hmlt : mb < w3.heap.size := HR.out.map.lt
    have hm5 : W7.heap[tb]? = some (.cells #[.slice (some ⟨g5, 0, none⟩) (n + 1) cap5, .map (some mb)] 53) := by
      rw [HT7.out.block tb (by show tb < W6.heap.size; exact (Array.getElem?_eq_some_iff.1 HB6.out).1) K4.out]
      exact HB6.out
    have hlt := HLT.out
    have g1 : g5 ≠ tb := fun e => by
      rcases HAT.out with k | k
      · exact HR.out.apart.1 (by rw [HN.out, k, e])
      · omega
    have g2 : g5 ≠ mb := fun e => by
      rcases HAT.out with k | k
      · exact HR.out.apart.2.1 (by rw [HN.out, k, e])
      · omega
    have hup := HWLT.out
    refine ⟨rfl, .slice (some ⟨g5, 0, none⟩) (n + 1) cap5, ⟨hm5, ?_, HM7.out, ⟨fun e => g1 (Option.some.inj e), fun e => g2 (Option.some.inj e), K4.out⟩, ?_, ?_⟩, ?_, ?_⟩
    · have hl2 : (L ++ [x]).length = n + 1 := by rw [List.length_append, HN.out]; rfl
      rw [rows_snoc, hl2]
      have o6 := owns_turn HOWN5.out (Turn.set w5 (G := fun i => i = tb) rfl 0 (.slice (some ⟨g5, 0, none⟩) (n + 1) cap5)) (fun g e k => g1 (by rw [← k]; exact Option.some.inj e))
      rw [HW6.out] at o6
      exact owns_turn o6 ((Turn.drew (fun i => i = mb) W6).trans HT7.out) (fun g e k => g2 (by rw [← k]; exact Option.some.inj e))
    · intro y hy
      rcases List.mem_append.1 hy with h | h
      · exact HT.out.st y h
      · rw [List.mem_singleton] at h
        subst h
        exact HX.out
    · have := once_add HT.out.once x
      rwa [HONE.out] at this
    · intro g e
      obtain rfl := Option.some.inj e
      rcases HAT.out with k | k
      · exact .inl k
      · right
        show w.heap.size ≤ g5
        omega
    · refine (HT6.out.mono fun i _ k => ?_).trans (((Turn.drew (fun i => i = mb) W6).trans HT7.out).mono fun i _ k => .inr (.inl k))
      rcases k with k | k
      · exact .inl k
      · exact .inr (.inr k)
end Go.Proofs.Ytjdcbbleefepoaa
