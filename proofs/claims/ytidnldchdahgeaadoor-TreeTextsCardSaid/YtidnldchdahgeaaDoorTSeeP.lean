/- All leaves, and the deepest node at a place: the program's Leaves and At. -/
import Derived.Test.YtidnldchdahgeaaDoorTUpP
import Derived.Test.YtidnldchdahgeaaDoorTLeaves
import Derived.Test.YtidnldchdahgeaaDoorTAt
namespace Go.Proofs.YtidnldchdahgeaaDoor
open Go.RowKit

noncomputable def atE (L : List Nd) (q : Int) : Int := if fitB L = true then (if q < 0 ∨ (nd L 0).2.2.1 < q then 5 else 0) else 60
noncomputable def atA (L : List Nd) (q : Int) : Int := if atE L q = 0 then ((atT L q L.length : Nat) : Int) else 0
theorem fit_of {L : List Nd} (h : fitB L = true) : Fit L := by
  by_cases hf : Fit L
  · exact hf
  · rw [fitB_no hf] at h
    cases h
set_option maxRecDepth 100000 in
set_option maxHeartbeats 4000000 in
theorem at_any (w : World) (A : Option Addr) (n c : Nat) (L : List Nd) (hL : NArg w A n L) (hc : n ≤ c) (hn : n ≤ 10000) (q : Int) :
    Calls Tryd.prog 26 #[.slice A n c, .int .i64 q] w fun e w' => e = .returned (.tuple #[.int .i64 (atA L q), .int .i64 (atE L q)]) ∧ Up w w' := by
  have HC := Lib.hid (checkF_any w A n c L hL hc hn)
  have hl := hL.nds.len
  have HL := Lib.hid hL.nds
  have hfe : fitE L = if fitB L = true then 0 else 60 := rfl
  have hae : atE L q = if fitB L = true then (if q < 0 ∨ (nd L 0).2.2.1 < q then 5 else 0) else 60 := rfl
  have haa : atA L q = if atE L q = 0 then ((atT L q n : Nat) : Int) else 0 := by unfold atA; rw [hl]
  cases hF : fitB L with
  | false =>
    rw [hF, if_neg (by decide)] at hfe hae
    rw [hae, if_neg (by decide)] at haa
    rw [hfe] at HC
    have HA := Lib.hid haa
    have HE := Lib.hid hae
    clear hL hl hF hfe haa hae
    go_enter Tryd.func26, Tryd.ntmps26
    go_wp2_with (go_at_call 41; ((with_reducible refine HC.out.mono ?_); rintro e w1 ⟨rfl, hu⟩; have HU := Lib.hid hu; clear hu))
    go_ret2
    exact ⟨ret_ii HA.out.symm HE.out.symm, HU.out⟩
  | true =>
    rw [hF, if_pos rfl] at hfe hae
    rw [hfe] at HC
    have hfit := fit_of hF
    have hpos : 0 < n := by have := hfit.pos; omega
    obtain ⟨b0, o0, rfl, hb, k0, k1, k2, k3⟩ := nds_nd hL.nds 0 hpos
    obtain ⟨m, hm⟩ : ∃ m, (nd L 0).2.2.1 = m := ⟨_, rfl⟩
    rw [hm] at k2 hae
    simp only [Nat.zero_mul, Nat.add_zero] at k2
    have n0 : (0 : Int) < n := by omega
    clear hL hl hF hfe hm k0 k1 k3 hb
    by_cases h0 : q < 0
    · rw [if_pos (.inl h0)] at hae
      rw [hae, if_neg (by decide)] at haa
      have HA := Lib.hid haa
      have HE := Lib.hid hae
      clear haa hae
      go_enter Tryd.func26, Tryd.ntmps26
      go_wp2_with (go_at_call 41; ((with_reducible refine HC.out.mono ?_); rintro e w1 ⟨rfl, hu⟩; replace k2 := cell_up hu k2; have HU := Lib.hid hu; clear hu))
      go_ret2
      exact ⟨ret_ii HA.out.symm HE.out.symm, HU.out⟩
    have f0 : decide (q < 0) = false := decide_eq_false h0
    by_cases h1 : m < q
    · rw [if_pos (.inr h1)] at hae
      rw [hae, if_neg (by decide)] at haa
      have HA := Lib.hid haa
      have HE := Lib.hid hae
      clear haa hae
      go_enter Tryd.func26, Tryd.ntmps26
      go_wp2_with (go_at_call 41; ((with_reducible refine HC.out.mono ?_); rintro e w1 ⟨rfl, hu⟩; replace k2 := cell_up hu k2; have HU := Lib.hid hu; clear hu))
      go_ret2
      exact ⟨ret_ii HA.out.symm HE.out.symm, HU.out⟩
    have f1 : decide (m < q) = false := decide_eq_false h1
    rw [if_neg (by omega)] at hae
    rw [hae, if_pos rfl] at haa
    have HA := Lib.hid haa
    have HE := Lib.hid hae
    clear haa hae h0 h1
    go_enter Tryd.func26, Tryd.ntmps26
    go_wp2_with (go_at_call 41; ((with_reducible refine HC.out.mono ?_); rintro e w1 ⟨rfl, hu⟩; replace k2 := cell_up hu k2; have HU1 := Lib.hid hu; clear hu))
    clear k2
    go_loopg [7, 8, 9, 27] n (fun g bv _ _ iv wr => ∃ k b : Nat, g = n - k ∧ bv = .int .i64 (b : Nat) ∧ iv = .int .i64 (k : Nat) ∧ k ≤ n ∧ b < n ∧ Hid (b = atT L q k) ∧ Hid (Up w wr))
    case atStart => exact ⟨0, 0, rfl, rfl, rfl, by omega, hpos, Lib.hid rfl, HU1⟩
    case round =>
      obtain ⟨k, b, hg, rfl, rfl, hk, hb, HB, HU⟩ := hrel
      have HG := Lib.hid hg
      clear hg
      by_cases hlt : k < n
      · obtain ⟨a, o, hA, -, x0', x1, x2, x3⟩ := nds_nd (HL.out.up HU.out) k hlt
        obtain ⟨rfl, rfl⟩ : a = b0 ∧ o = o0 := by injection hA with e; injection e with e1 e2; exact ⟨e1.symm, e2.symm⟩
        obtain ⟨x0, hx0⟩ : ∃ x0, (nd L k).1 = x0 := ⟨_, rfl⟩
        obtain ⟨f, hf⟩ : ∃ f, (nd L k).2.1 = f := ⟨_, rfl⟩
        obtain ⟨t, ht⟩ : ∃ t, (nd L k).2.2.1 = t := ⟨_, rfl⟩
        obtain ⟨d, hd⟩ : ∃ d, dep L k = d := ⟨_, rfl⟩
        obtain ⟨e, he⟩ : ∃ e, dep L b = e := ⟨_, rfl⟩
        rw [hx0] at x0'
        rw [hf] at x1
        rw [ht] at x2
        rw [show (nd L k).2.2.2 = d from hd] at x3
        have hua := Up.alloc wr (.cells #[.int .u8 x0, .int .i64 f, .int .i64 t, .int .i64 d] 40)
        have HUa := Lib.hid (HU.out.trans hua)
        obtain ⟨a2, o2, hA2, -, -, -, -, y3⟩ := nds_nd (HL.out.up HUa.out) b hb
        obtain ⟨rfl, rfl⟩ : a2 = a ∧ o2 = o := by injection hA2 with e; injection e with e1 e2; exact ⟨e1.symm, e2.symm⟩
        rw [show (nd L b).2.2.2 = e from he] at y3
        have HS := Lib.hid (show atT L q (k + 1) = if f ≤ q ∧ q ≤ t ∧ e < d then k else b by
          by_cases hk1 : 1 ≤ k
          · rw [atT_succ L q hk1, hf, ht, hd, ← HB.out, he]
          · obtain rfl : k = 0 := by omega
            have hb0 : b = 0 := HB.out
            subst hb0
            rw [if_neg (fun h => by rw [← hd, ← he] at h; omega)]
            rfl)
        have n1 : (wr.alloc (.cells #[.int .u8 x0, .int .i64 f, .int .i64 t, .int .i64 d] 40)).cell? ⟨wr.heap.size, 1, none⟩ = some (.int .i64 f) := cellOf (Go.heap_alloc_new _ _) rfl
        have n2 : (wr.alloc (.cells #[.int .u8 x0, .int .i64 f, .int .i64 t, .int .i64 d] 40)).cell? ⟨wr.heap.size, 2, none⟩ = some (.int .i64 t) := cellOf (Go.heap_alloc_new _ _) rfl
        have n3 : (wr.alloc (.cells #[.int .u8 x0, .int .i64 f, .int .i64 t, .int .i64 d] 40)).cell? ⟨wr.heap.size, 3, none⟩ = some (.int .i64 d) := cellOf (Go.heap_alloc_new _ _) rfl
        have j1 : (k : Int) < n := by omega
        have j2 : (b : Int) < n := by omega
        clear hx0 hf ht hd he hua hA hA2
        by_cases c1 : f ≤ q
        case neg =>
          have f1 : decide (f ≤ q) = false := decide_eq_false c1
          have HN2 := Lib.hid (show b = atT L q (k + 1) by rw [HS.out, if_neg (by omega)])
          clear c1
          go_wp2
          go_quiet (fail)
          have HUq := Lib.hid (HUa.out.trans (Up.drewN _ nq))
          go_wp2
          go_roundg (n - (k + 1))
          case measure => rw [HG.out]; omega
          case rel => exact ⟨k + 1, b, rfl, rfl, by go_num, by omega, by omega, HN2, HUq⟩
        by_cases c2 : q ≤ t
        case neg =>
          have f2 : decide (q ≤ t) = false := decide_eq_false c2
          have HN2 := Lib.hid (show b = atT L q (k + 1) by rw [HS.out, if_neg (by omega)])
          clear c2
          go_wp2
          go_quiet (fail)
          have HUq := Lib.hid (HUa.out.trans (Up.drewN _ nq))
          go_wp2
          go_roundg (n - (k + 1))
          case measure => rw [HG.out]; omega
          case rel => exact ⟨k + 1, b, rfl, rfl, by go_num, by omega, by omega, HN2, HUq⟩
        by_cases c3 : e < d
        case neg =>
          have f3 : decide (e < d) = false := decide_eq_false c3
          have HN2 := Lib.hid (show b = atT L q (k + 1) by rw [HS.out, if_neg (by omega)])
          clear c3
          go_wp2
          go_quiet (fail)
          have HUq := Lib.hid (HUa.out.trans (Up.drewN _ nq))
          go_wp2
          go_roundg (n - (k + 1))
          case measure => rw [HG.out]; omega
          case rel => exact ⟨k + 1, b, rfl, rfl, by go_num, by omega, by omega, HN2, HUq⟩
        have HN2 := Lib.hid (show k = atT L q (k + 1) by rw [HS.out, if_pos ⟨c1, c2, c3⟩])
        go_wp2
        go_quiet (fail)
        have HUq := Lib.hid (HUa.out.trans (Up.drewN _ nq))
        go_wp2
        go_roundg (n - (k + 1))
        case measure => rw [HG.out]; omega
        case rel => exact ⟨k + 1, k, rfl, rfl, by go_num, by omega, by omega, HN2, HUq⟩
      · obtain rfl : k = n := by omega
        have f0 : decide (k < k) = false := decide_eq_false hlt
        have HA2 := Lib.hid (show atA L q = (b : Nat) by rw [HA.out, ← HB.out])
        clear hlt
        go_wp2
        go_ret2
        exact ⟨ret_ii HA2.out.symm HE.out.symm, HU.out⟩
set_option maxRecDepth 100000 in
set_option maxHeartbeats 4000000 in
theorem leaves_any (w : World) (A : Option Addr) (n c : Nat) (L : List Nd) (hL : NArg w A n L) (hc : n ≤ c) (hn : n ≤ 10000) :
    Calls Tryd.prog 19 #[.slice A n c] w (GivesI w (fitE L) (toI (leavesT L n))) := by
  have HC := Lib.hid (checkF_any w A n c L hL hc hn)
  have hl := hL.nds.len
  have HL := Lib.hid hL.nds
  have hfe : fitE L = if fitB L = true then 0 else 60 := rfl
  cases hF : fitB L with
  | false =>
    rw [hF, if_neg (by decide)] at hfe
    rw [hfe] at HC ⊢
    clear hL hl hF hfe
    go_enter Tryd.func19, Tryd.ntmps19
    go_wp2_with (go_at_call 41; ((with_reducible refine HC.out.mono ?_); rintro e w1 ⟨rfl, hu⟩; have HU := Lib.hid hu; clear hu))
    go_ret2
    exact gives_no (by decide) HU.out
  | true =>
    rw [hF, if_pos rfl] at hfe
    rw [hfe] at HC ⊢
    have hfit := fit_of hF
    have hpos : 0 < n := by have := hfit.pos; omega
    obtain ⟨b0, o0, rfl, hb, -⟩ := nds_nd hL.nds 0 hpos
    have HLen := Lib.hid hl
    clear hL hl hF hfe hb
    go_enter Tryd.func19, Tryd.ntmps19
    go_wp2_with (go_at_call 41; ((with_reducible refine HC.out.mono ?_); rintro e w1 ⟨rfl, hu⟩; have HU1 := Lib.hid hu; clear hu))
    go_loopg [5, 6, 7, 15] n (fun g ov _ _ iv wr => ∃ k : Nat, g = n - k ∧ iv = .int .i64 (k : Nat) ∧ k ≤ n ∧ Hid (RowI wr w.heap.size ov (toI (leavesT L k))) ∧ Hid (Up w wr))
    case atStart => exact ⟨0, rfl, rfl, by omega, Lib.hid (World.ownsRow_nil _ _ _ _), HU1⟩
    case round =>
      obtain ⟨k, hg, rfl, hk, HO, HU⟩ := hrel
      have HG := Lib.hid hg
      clear hg
      by_cases hlt : k < n
      · obtain ⟨a, o, hA, -, x0', x1, x2, x3⟩ := nds_nd (HL.out.up HU.out) k hlt
        obtain ⟨rfl, rfl⟩ : a = b0 ∧ o = o0 := by injection hA with e; injection e with e1 e2; exact ⟨e1.symm, e2.symm⟩
        obtain ⟨x0, hx0⟩ : ∃ x0, (nd L k).1 = x0 := ⟨_, rfl⟩
        obtain ⟨f, hf⟩ : ∃ f, (nd L k).2.1 = f := ⟨_, rfl⟩
        obtain ⟨t, ht⟩ : ∃ t, (nd L k).2.2.1 = t := ⟨_, rfl⟩
        obtain ⟨d, hd⟩ : ∃ d, dep L k = d := ⟨_, rfl⟩
        rw [hx0] at x0'
        rw [hf] at x1
        rw [ht] at x2
        rw [show (nd L k).2.2.2 = d from hd] at x3
        have hua := Up.alloc wr (.cells #[.int .u8 x0, .int .i64 f, .int .i64 t, .int .i64 d] 40)
        have HUa := Lib.hid (HU.out.trans hua)
        have HOa := Lib.hid (rowI_up HO.out hua)
        have n3 : (wr.alloc (.cells #[.int .u8 x0, .int .i64 f, .int .i64 t, .int .i64 d] 40)).cell? ⟨wr.heap.size, 3, none⟩ = some (.int .i64 d) := cellOf (Go.heap_alloc_new _ _) rfl
        have j1 : (k : Int) < n := by omega
        have q1 : IntKind.i64.wrap ((k : Int) + 1) = (k : Int) + 1 := IntWalk.i64_in _ (by omega)
        have hsz : w.heap.size ≤ wr.heap.size := Below.size HU.out
        clear hua hA
        obtain ⟨lf, hlf⟩ : ∃ lf, leafT L k = lf := ⟨_, rfl⟩
        have hst : leavesT L (k + 1) = leavesT L k ++ (if lf = true then [k] else []) := by
          unfold leavesT
          rw [List.range_succ, List.filter_append, List.filter_cons, hlf]
          rfl
        have hll : (toI (leavesT L k)).length ≤ 10000 := by unfold toI; rw [List.length_map]; have := leavesT_len L k; omega
        by_cases hend : k + 1 = n
        · obtain rfl : lf = true := by rw [← hlf]; unfold leafT; rw [Bool.or_eq_true]; left; exact decide_eq_true (by rw [HLen.out]; exact hend)
          have e1 : ((k : Int) + 1 == (n : Int)) = true := beq_iff_eq.2 (by omega)
          have HST := Lib.hid (show leavesT L (k + 1) = leavesT L k ++ [k] from hst)
          clear hlf hx0 hf ht hd hst
          go_wp2
          go_quiet (fail)
          have hoq := rowI_up HOa.out (Up.drewN _ nq)
          have HUq := Lib.hid (HUa.out.trans (Up.drewN _ nq))
          obtain ⟨wq, hwq⟩ : ∃ wq, (wr.alloc (.cells #[.int .u8 x0, .int .i64 f, .int .i64 t, .int .i64 d] 40)).drewN nq = wq := ⟨_, rfl⟩
          rw [hwq] at hoq HUq
          simp only [hwq]
          clear hwq
          have hsz : w.heap.size ≤ wq.heap.size := Below.size HUq.out
          have ho := hoq
          unfold RowI at ho
          go_wp2_with (at_builtin; (obtain ⟨i0, hi0, hz0, hz1, hz2⟩ := info_parts infoInt; refine wpList_append_own _ rfl _ _ 30 rfl w.heap.size 3 i0 (.int .i64 0) 1 8 Tryd.underlying30 hi0 hz0 hz1 hz2 rfl (by decide) _ _ _ rfl (ho.alloc _) ⟨wq.heap.size, 0, none⟩ 1 1 [.int .i64 (k : Nat)] rfl rfl (cell_one_new _ _ _) (by simp [Value.oneCell']) (by unfold maxLen; omega) (by omega) (by simp; omega) ?_; clear hi0 hz0 hz1 hz2; intro v5 w5 hown5 hgrow5 _))
          have HO5 := Lib.hid (show RowI w5 w.heap.size v5 (toI (leavesT L (k + 1))) by
            rw [HST.out]
            have e : toI (leavesT L k ++ [k]) = toI (leavesT L k) ++ [(k : Int)] := by unfold toI; rw [List.map_append]; rfl
            unfold RowI
            rw [e, inCells_append, List.length_append]
            exact hown5)
          have HU5 := Lib.hid (show Up w w5 from (HUq.out.trans (Up.alloc wq _)).grown hgrow5 (by simp; omega) (fun q hq => own_base ho hq))
          clear hown5 hgrow5 ho
          go_wp2
          go_roundg (n - (k + 1))
          case measure => rw [HG.out]; omega
          case rel => exact ⟨k + 1, rfl, by go_num, by omega, HO5, HU5⟩
        · have e1 : ((k : Int) + 1 == (n : Int)) = false := beq_false_of_ne (by omega)
          obtain ⟨a3, o3, hA3, -, -, -, -, z3⟩ := nds_nd (HL.out.up HUa.out) (k + 1) (by omega)
          obtain ⟨rfl, rfl⟩ : a3 = a ∧ o3 = o := by injection hA3 with e; injection e with e1 e2; exact ⟨e1.symm, e2.symm⟩
          obtain ⟨d2, hd2⟩ : ∃ d2, dep L (k + 1) = d2 := ⟨_, rfl⟩
          rw [show (nd L (k + 1)).2.2.2 = d2 from hd2] at z3
          have q2 : ((k : Int) + 1).toNat = k + 1 := by omega
          have j3 : (k : Int) + 1 < n := by omega
          have j4 : (0 : Int) ≤ (k : Int) + 1 := by omega
          have hlf2 : lf = decide (d2 ≤ d) := by
            rw [← hlf]
            unfold leafT
            rw [decide_eq_false (show ¬ k + 1 = L.length by rw [HLen.out]; exact hend), Bool.false_or, hd, hd2]
          clear hlf hx0 hf ht hd hd2 hA3
          by_cases c1 : d2 ≤ d
          · obtain rfl : lf = true := by rw [hlf2]; exact decide_eq_true c1
            have HST := Lib.hid (show leavesT L (k + 1) = leavesT L k ++ [k] from hst)
            clear hlf2 hst
            go_wp2
            go_quiet (fail)
            have hoq := rowI_up HOa.out (Up.drewN _ nq)
            have HUq := Lib.hid (HUa.out.trans (Up.drewN _ nq))
            obtain ⟨wq, hwq⟩ : ∃ wq, (wr.alloc (.cells #[.int .u8 x0, .int .i64 f, .int .i64 t, .int .i64 d] 40)).drewN nq = wq := ⟨_, rfl⟩
            rw [hwq] at hoq HUq
            simp only [hwq]
            clear hwq
            have hsz : w.heap.size ≤ wq.heap.size := Below.size HUq.out
            have ho := hoq
            unfold RowI at ho
            go_wp2_with (at_builtin; (obtain ⟨i0, hi0, hz0, hz1, hz2⟩ := info_parts infoInt; refine wpList_append_own _ rfl _ _ 30 rfl w.heap.size 3 i0 (.int .i64 0) 1 8 Tryd.underlying30 hi0 hz0 hz1 hz2 rfl (by decide) _ _ _ rfl (ho.alloc _) ⟨wq.heap.size, 0, none⟩ 1 1 [.int .i64 (k : Nat)] rfl rfl (cell_one_new _ _ _) (by simp [Value.oneCell']) (by unfold maxLen; omega) (by omega) (by simp; omega) ?_; clear hi0 hz0 hz1 hz2; intro v5 w5 hown5 hgrow5 _))
            have HO5 := Lib.hid (show RowI w5 w.heap.size v5 (toI (leavesT L (k + 1))) by
              rw [HST.out]
              have e : toI (leavesT L k ++ [k]) = toI (leavesT L k) ++ [(k : Int)] := by unfold toI; rw [List.map_append]; rfl
              unfold RowI
              rw [e, inCells_append, List.length_append]
              exact hown5)
            have HU5 := Lib.hid (show Up w w5 from (HUq.out.trans (Up.alloc wq _)).grown hgrow5 (by simp; omega) (fun q hq => own_base ho hq))
            clear hown5 hgrow5 ho
            go_wp2
            go_roundg (n - (k + 1))
            case measure => rw [HG.out]; omega
            case rel => exact ⟨k + 1, rfl, by go_num, by omega, HO5, HU5⟩
          · obtain rfl : lf = false := by rw [hlf2]; exact decide_eq_false c1
            have f1 : decide (d2 ≤ d) = false := decide_eq_false c1
            have HST := Lib.hid (show leavesT L (k + 1) = leavesT L k by rw [hst]; exact List.append_nil _)
            clear hlf2 c1 hst
            go_wp2
            go_quiet (fail)
            have HO5 := Lib.hid (show RowI _ w.heap.size _ (toI (leavesT L (k + 1))) from by
              rw [HST.out]
              exact rowI_up HOa.out (Up.drewN _ nq))
            have HU5 := Lib.hid (HUa.out.trans (Up.drewN _ nq))
            go_wp2
            go_roundg (n - (k + 1))
            case measure => rw [HG.out]; omega
            case rel => exact ⟨k + 1, rfl, by go_num, by omega, HO5, HU5⟩
      · obtain rfl : k = n := by omega
        have f0 : decide (k < k) = false := decide_eq_false hlt
        clear hlt
        go_wp2
        go_ret2
        exact ⟨_, rfl, by rw [if_pos rfl]; exact HO.out, HU.out⟩
end Go.Proofs.YtidnldchdahgeaaDoor
