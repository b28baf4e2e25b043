/- A node's sum does not hang on where it stands: the statement TreeMoved, walked. -/
import Derived.Test.YtidnldchdahgeaaDoorTLawC
namespace Go.Proofs.YtidnldchdahgeaaDoor
open Go.RowKit

theorem wf64_mk {a : Int} (h : -9223372036854775808 ≤ a ∧ a ≤ 9223372036854775807) : (Lit.int .i64 a).wf = true := by
  simpa [Lit.wf, IntKind.min, IntKind.max, IntKind.signed, IntKind.bits] using h
theorem mov_ok {L : List Nd} {by_ : Int} (hF : Fit L) (hok : ∀ x ∈ L, NdOk x) (hl : L.length ≤ 10000) (h0 : 0 ≤ by_) (h1 : by_ ≤ 1048576) : ∀ x ∈ movL by_ L, NdOk x := by
  intro x hx
  obtain ⟨i, hi, rfl⟩ := mem_nd hx
  rw [movL_len] at hi
  obtain ⟨⟨⟨a0, a1⟩, ⟨a2, a3⟩, ⟨a4, a5⟩, ⟨a6, a7⟩⟩, -⟩ := fit_in hF hok hl (i + 1) i (Nat.lt_succ_self i) hi
  have h5 := (nd_ok hok i)
  rw [nd_mov hi]
  unfold movN
  refine ⟨h5.1, ?_, wf64_mk (by dsimp only; omega), h5.2.2.2⟩
  dsimp only
  split
  · exact wf64_mk (by omega)
  · exact wf64_mk (by omega)
theorem mov_take {L : List Nd} {by_ : Int} {k : Nat} (h : k < L.length) : (movL by_ L).take (k + 1) = (movL by_ L).take k ++ [movN by_ k (nd L k)] := by
  rw [take_next (by rw [movL_len]; exact h), nd_mov h]
set_option maxRecDepth 100000 in
set_option maxHeartbeats 8000000 in
theorem tmoved_walk (w : World) (hT : Tab w) (A : Option Addr) (n c : Nat) (L : List Nd) (hL : NArg w A n L) (_ : n ≤ c) (hz : A = none → n = 0 ∧ c = 0) (i p : Int) :
    Calls Tryd.prog 10 #[.slice A n c, .int .i64 i, .int .i64 p] w fun e w' => e = .returned (.bool true) ∧ Up w w' := by
  have HW := Lib.hid (fun W (hu : Up w W) => wakes_any W (hT.up hu))
  by_cases h : (300 : Int) < n
  · clear hL hz hT
    go_enter Tryd.func10, Tryd.ntmps10
    go_wp2_with (go_at_call 11; ((with_reducible refine (HW.out _ (Up.refl _)).mono ?_); rintro e w1 ⟨rfl, hu⟩; have HU := Lib.hid hu; clear hu))
    go_ret
    exact ⟨rfl, HU.out⟩
  have f0 : decide ((300 : Int) < n) = false := decide_eq_false h
  by_cases hp0 : p < 0
  · clear hL hz hT h
    go_enter Tryd.func10, Tryd.ntmps10
    go_wp2_with (go_at_call 11; ((with_reducible refine (HW.out _ (Up.refl _)).mono ?_); rintro e w1 ⟨rfl, hu⟩; have HU := Lib.hid hu; clear hu))
    go_ret
    exact ⟨rfl, HU.out⟩
  have f1 : decide (p < 0) = false := decide_eq_false hp0
  by_cases hp1 : 524288 < p
  · clear hL hz hT h hp0
    go_enter Tryd.func10, Tryd.ntmps10
    go_wp2_with (go_at_call 11; ((with_reducible refine (HW.out _ (Up.refl _)).mono ?_); rintro e w1 ⟨rfl, hu⟩; have HU := Lib.hid hu; clear hu))
    go_ret
    exact ⟨rfl, HU.out⟩
  have f2 : decide (524288 < p) = false := decide_eq_false hp1
  have hn : n ≤ 10000 := by omega
  have hl := hL.nds.len
  have HO := Lib.hid (ownArg_any w A n c L hL hz (by omega))
  have HH := Lib.hid (fun W A' c' (h1 : NArg W A' n L) (h2 : n ≤ c') => (callsIn_wide (n := 4)).1 (hash_in W A' n c' L h1 h2 hn i))
  by_cases hwr : wrongT L i = 0
  case neg =>
    obtain ⟨x, hx⟩ : ∃ x, wrongT L i = x := ⟨_, rfl⟩
    rw [hx] at HH hwr
    have g0 : (x == 0) = false := beq_false_of_ne hwr
    have g1 : (x != 0) = true := bne_iff_ne.2 hwr
    clear hL hz hT h hl hn hwr hx hp0 hp1
    go_enter Tryd.func10, Tryd.ntmps10
    go_wp2_with (first
      | (go_at_call 13; ((with_reducible refine HO.out.mono ?_); rintro e w1 ⟨A', c', rfl, h1, h2, hu⟩; have HU := Lib.hid hu; have H1 := Lib.hid h1; have H2 := Lib.hid h2; clear hu h1 h2))
      | (go_at_call 33; ((with_reducible refine (HH.out _ _ _ H1.out H2.out).mono ?_); rintro e w2 ⟨rfl, hu⟩; have HU := Lib.hid (HU.out.trans hu); clear hu))
      | (go_at_call 11; ((with_reducible refine (HW.out _ HU.out).mono ?_); rintro e w4 ⟨rfl, hu⟩; have HU := Lib.hid (HU.out.trans hu); clear hu)))
    go_ret
    exact ⟨rfl, HU.out⟩
  obtain ⟨hF, h0, h1⟩ := wrong_zero hwr
  obtain ⟨k0, rfl⟩ : ∃ k : Nat, i = (k : Nat) := ⟨i.toNat, by omega⟩
  have hk0 : k0 < n := by omega
  have hha : hashA L ((k0 : Nat) : Int) = sumT L n k0 := by unfold hashA; rw [if_pos hwr, hl, Int.toNat_natCast]
  rw [hwr, hha] at HH
  have hpos : 0 < n := by omega
  obtain ⟨b0, o0, rfl, -, k0', k1', k2, k3'⟩ := nds_nd hL.nds 0 hpos
  obtain ⟨m, hm⟩ : ∃ m, (nd L 0).2.2.1 = m := ⟨_, rfl⟩
  have hmb : 0 ≤ m ∧ m ≤ 1048576 := by have h5 := hF.lo; have h6 := hF.hi; rw [hm] at h5 h6; exact ⟨h5, h6⟩
  rw [hm] at k2
  simp only [Nat.zero_mul, Nat.add_zero] at k2
  have n0 : (0 : Int) < n := by omega
  have qm : IntKind.i64.wrap (m + p) = m + p := IntWalk.i64_in _ (by omega)
  by_cases hmp : 1048576 < m + p
  · clear hL hz hT h hl hn hwr hp0 hp1 hF h0 h1 hha hm hmb k0' k1' k3' hk0 hpos
    go_enter Tryd.func10, Tryd.ntmps10
    go_wp2_with (first
      | (go_at_call 13; ((with_reducible refine HO.out.mono ?_); rintro e w1 ⟨A', c', rfl, h1, h2, hu⟩; replace k2 := cell_up hu k2; have HU := Lib.hid hu; have H1 := Lib.hid h1; have H2 := Lib.hid h2; clear hu h1 h2))
      | (go_at_call 33; ((with_reducible refine (HH.out _ _ _ H1.out H2.out).mono ?_); rintro e w2 ⟨rfl, hu⟩; replace k2 := cell_up hu k2; have HU := Lib.hid (HU.out.trans hu); clear hu))
      | (go_at_call 11; ((with_reducible refine (HW.out _ HU.out).mono ?_); rintro e w4 ⟨rfl, hu⟩; have HU := Lib.hid (HU.out.trans hu); clear hu)))
    go_ret
    exact ⟨rfl, HU.out⟩
  have f3 : decide (1048576 < m + p) = false := decide_eq_false hmp
  have hMF : Fit (movL p L) := by
    have h5 := isT_mov (by_ := p) (show IsT L m by rw [← hm]; exact hF) (by omega) (by omega)
    exact h5.fit
  have hMok := mov_ok hF hL.ok (show L.length ≤ 10000 by omega) (show 0 ≤ p by omega) (show p ≤ 1048576 by omega)
  have hMl : (movL p L).length = n := by rw [movL_len]; exact hl
  have hMw : wrongT (movL p L) ((k0 : Nat) : Int) = 0 := by
    unfold wrongT
    rw [fitB_yes hMF, if_pos rfl, if_neg (by omega)]
  have HHm := Lib.hid (fun W A' c' (h1 : NArg W A' n (movL p L)) (h2 : n ≤ c') => (callsIn_wide (n := 4)).1 (hash_in W A' n c' (movL p L) h1 h2 hn ((k0 : Nat) : Int)))
  have hhm : hashA (movL p L) ((k0 : Nat) : Int) = sumT (movL p L) n k0 := by unfold hashA; rw [if_pos hMw, hMl, Int.toNat_natCast]
  rw [hMw, hhm] at HHm
  have HSum := Lib.hid (fun (h : 0 < k0) => show sumT (movL p L) n k0 = sumT L n k0 by
    unfold sumT
    rw [← hl, sumNs_mov (show k0 < L.length by omega) h])
  have HL := Lib.hid hL.nds
  have HLl := Lib.hid hl
  have HMok := Lib.hid hMok
  have HMl := Lib.hid hMl
  have HIn := Lib.hid (fit_in hF hL.ok (show L.length ≤ 10000 by omega))
  obtain ⟨V, hV⟩ : ∃ V, sumT L n k0 = V := ⟨_, rfl⟩
  rw [hV] at HH HSum
  have hpp : 0 ≤ p ∧ p ≤ 524288 := by omega
  clear hL hz hT h hl hwr hp0 hp1 hF h0 h1 hha hm hmb k0' k1' k3' hMF hMok hMl hMw hhm hmp hV
  go_enter Tryd.func10, Tryd.ntmps10
  go_wp2_with (first
    | (go_at_call 13; ((with_reducible refine HO.out.mono ?_); rintro e w1 ⟨A', c', rfl, h1, h2, hu⟩; replace k2 := cell_up hu k2; have HU := Lib.hid hu; have H1 := Lib.hid h1; have H2 := Lib.hid h2; clear hu h1 h2))
    | (go_at_call 33; ((with_reducible refine (HH.out _ _ _ H1.out H2.out).mono ?_); rintro e w2 ⟨rfl, hu⟩; replace k2 := cell_up hu k2; have HU := Lib.hid (HU.out.trans hu); clear hu)))
  clear k2 qm
  go_loopg [9, 10, 11] n (fun g ov kv _ wr => ∃ (k : Nat), g = n - k ∧ kv = .int .i64 (k : Nat) ∧ k ≤ n ∧ Hid (RowN wr w.heap.size ov ((movL p L).take k)) ∧ Hid (Up w wr))
  case atStart => exact ⟨0, rfl, rfl, by omega, Lib.hid (World.ownsRow_nil _ _ _ _), HU⟩
  case round =>
    obtain ⟨k, hg, rfl, hk, HO3, HU3⟩ := hrel
    have HG := Lib.hid hg
    clear hg
    by_cases hlt : k < n
    · obtain ⟨a, o, hA, -, x0', x1', x2', x3'⟩ := nds_nd (HL.out.up HU3.out) k hlt
      obtain ⟨e1, e2⟩ : a = b0 ∧ o = o0 := by injection hA with e; injection e with e1 e2; exact ⟨e1.symm, e2.symm⟩
      rw [e1, e2] at x0' x1' x2' x3'
      have hbd := (HIn.out (k + 1) k (Nat.lt_succ_self k) (by rw [HLl.out]; exact hlt)).1
      have HTk := Lib.hid (mov_take (by_ := p) (L := L) (k := k) (by rw [HLl.out]; exact hlt))
      obtain ⟨x, hx⟩ : ∃ x, nd L k = x := ⟨_, rfl⟩
      rw [hx] at x0' x1' x2' x3' hbd HTk
      obtain ⟨x0, f, t, d⟩ := x
      dsimp only at x0' x1' x2' x3'
      obtain ⟨-, ⟨b1, b2⟩, ⟨b3, b4⟩, -⟩ := hbd
      dsimp only at b1 b2 b3 b4
      have q1 : IntKind.i64.wrap (f + p) = f + p := IntWalk.i64_in _ (by omega)
      have q2 : IntKind.i64.wrap (t + p) = t + p := IntWalk.i64_in _ (by omega)
      have hml : ((movL p L).take k).length ≤ 10000 := by rw [List.length_take]; omega
      have hsz : w.heap.size ≤ wr.heap.size := Below.size HU3.out
      have j1 : (k : Int) < n := by omega
      have HLT := Lib.hid hlt
      clear hA e1 e2 hx
      by_cases hk0' : k = 0
      · have HM := Lib.hid (show movN p k (x0, f, t, d) = (x0, f, t + p, d) by unfold movN; rw [if_neg (by omega)])
        have g5 : decide (0 < (k : Int)) = false := decide_eq_false (by omega)
        have g5b : decide (0 < k) = false := decide_eq_false (by omega)
        clear hk0'
        have ho := (rowN_up HO3.out (Up.alloc wr (.cells #[.int .u8 x0, .int .i64 f, .int .i64 (t + p), .int .i64 d] 40)))
        unfold RowN at ho
        have hsz2 : w.heap.size ≤ (wr.alloc (.cells #[.int .u8 x0, .int .i64 f, .int .i64 (t + p), .int .i64 d] 40)).heap.size := by rw [World.size_alloc]; omega
        go_wp2_with (at_builtin; (obtain ⟨i0, hi0, hz0, hz1, hz2⟩ := info_parts infoNode; refine wpList_append_own _ rfl _ _ 22 rfl w.heap.size 40 i0 (.agg #[.int .u8 0, .int .i64 0, .int .i64 0, .int .i64 0]) 4 32 Tryd.underlying22 hi0 hz0 hz1 hz2 rfl (by decide) _ _ _ rfl (ho.alloc _) ⟨wr.heap.size + 1, 0, none⟩ 1 1 [.int .u8 x0, .int .i64 f, .int .i64 (t + p), .int .i64 d] rfl rfl (World.news_of_block (cs := #[.int .u8 x0, .int .i64 f, .int .i64 (t + p), .int .i64 d]) (t := 40) (fr := (0, 0)) (heap_new2 wr _ _)) (by simp [Value.oneCell']) (by unfold maxLen; omega) (by omega) (by simp; omega) ?_; clear hi0 hz0 hz1 hz2; intro v5 w5 hown5 hgrow5 _))
        have HO5 := Lib.hid (show RowN w5 w.heap.size v5 ((movL p L).take (k + 1)) by
          rw [HTk.out, HM.out]
          unfold RowN
          rw [ndCells_append, List.length_append]
          exact hown5)
        have HU5 := Lib.hid (show Up w w5 from ((HU3.out.trans (Up.alloc wr _)).trans (Up.alloc _ _)).grown hgrow5 (by simp; omega) (fun q hq => own_base ho hq))
        clear hown5 hgrow5 ho
        go_wp2
        go_roundg (n - (k + 1))
        case measure => rw [HG.out]; have := HLT.out; omega
        case rel => exact ⟨k + 1, rfl, by go_num, by have := HLT.out; omega, HO5, HU5⟩
      · have HM := Lib.hid (show movN p k (x0, f, t, d) = (x0, f + p, t + p, d) by unfold movN; rw [if_pos (by omega)])
        have g5 : (0 : Int) < (k : Int) := by omega
        clear hk0'
        have ho := (rowN_up HO3.out (Up.alloc wr (.cells #[.int .u8 x0, .int .i64 (f + p), .int .i64 (t + p), .int .i64 d] 40)))
        unfold RowN at ho
        have hsz2 : w.heap.size ≤ (wr.alloc (.cells #[.int .u8 x0, .int .i64 (f + p), .int .i64 (t + p), .int .i64 d] 40)).heap.size := by rw [World.size_alloc]; omega
        go_wp2_with (at_builtin; (obtain ⟨i0, hi0, hz0, hz1, hz2⟩ := info_parts infoNode; refine wpList_append_own _ rfl _ _ 22 rfl w.heap.size 40 i0 (.agg #[.int .u8 0, .int .i64 0, .int .i64 0, .int .i64 0]) 4 32 Tryd.underlying22 hi0 hz0 hz1 hz2 rfl (by decide) _ _ _ rfl (ho.alloc _) ⟨wr.heap.size + 1, 0, none⟩ 1 1 [.int .u8 x0, .int .i64 (f + p), .int .i64 (t + p), .int .i64 d] rfl rfl (World.news_of_block (cs := #[.int .u8 x0, .int .i64 (f + p), .int .i64 (t + p), .int .i64 d]) (t := 40) (fr := (0, 0)) (heap_new2 wr _ _)) (by simp [Value.oneCell']) (by unfold maxLen; omega) (by omega) (by simp; omega) ?_; clear hi0 hz0 hz1 hz2; intro v5 w5 hown5 hgrow5 _))
        have HO5 := Lib.hid (show RowN w5 w.heap.size v5 ((movL p L).take (k + 1)) by
          rw [HTk.out, HM.out]
          unfold RowN
          rw [ndCells_append, List.length_append]
          exact hown5)
        have HU5 := Lib.hid (show Up w w5 from ((HU3.out.trans (Up.alloc wr _)).trans (Up.alloc _ _)).grown hgrow5 (by simp; omega) (fun q hq => own_base ho hq))
        clear hown5 hgrow5 ho
        go_wp2
        go_roundg (n - (k + 1))
        case measure => rw [HG.out]; have := HLT.out; omega
        case rel => exact ⟨k + 1, rfl, by go_num, by have := HLT.out; omega, HO5, HU5⟩
    · obtain rfl : k = n := by omega
      have f5 : decide (k < k) = false := decide_eq_false hlt
      have hO4 := HO3.out
      rw [List.take_of_length_le (by rw [HMl.out]; exact Nat.le_refl _)] at hO4
      obtain ⟨A5, c5, rfl, hA5, hc5⟩ := own_arg hO4 HMok.out
      rw [HMl.out] at hA5 hc5 ⊢
      have HA5 := Lib.hid hA5
      have HC5 := Lib.hid hc5
      clear hlt hO4 hA5 hc5
      by_cases hk1 : k0 = 0
      · subst hk1
        go_wp2_with (first
          | (go_at_call 11; ((with_reducible refine (HW.out _ HU3.out).mono ?_); rintro e w4 ⟨rfl, hu⟩; have HU := Lib.hid (HU3.out.trans hu); clear hu)))
        go_ret
        exact ⟨rfl, HU.out⟩
      · have hs := HSum.out (by omega)
        rw [hs] at HHm
        have g6 : (((k0 : Nat) : Int) == 0) = false := beq_false_of_ne (by omega)
        clear hk1 hs
        go_wp2_with (first
          | (go_at_call 33; ((with_reducible refine (HHm.out _ _ _ HA5.out HC5.out).mono ?_); rintro e w4 ⟨rfl, hu⟩; have HU := Lib.hid (HU3.out.trans hu); clear hu))
          | (go_at_call 11; ((with_reducible refine (HW.out _ HU.out).mono ?_); rintro e w4 ⟨rfl, hu⟩; have HU := Lib.hid (HU.out.trans hu); clear hu)))
        go_ret
        exact ⟨rfl, HU.out⟩
end Go.Proofs.YtidnldchdahgeaaDoor
