/- All ends of two lists, sorted: the program's sorted. -/
import Derived.Test.YtbgdphjjepbafaaSSort
import Derived.Deep.AppendLies
namespace Go.Proofs.Ytbgdphjjepbafaa
open Go.RowKit

/-- The ends of the first lists of two. -/
def evsTo (L M : List Rng) (i : Nat) : List Ev := if i = 0 then [] else if i = 1 then evs 0 L else evAll L M
theorem ix0 (a b : Value) (W : World) : (Instr.index 59 (.agg #[a, b]) (.int .i64 0)).run Try.prog W = .ok a W := by
  first | rfl | kernel_rfl | simp [Instr.index, go_sem]
theorem ix1 (a b : Value) (W : World) : (Instr.index 59 (.agg #[a, b]) (.int .i64 1)).run Try.prog W = .ok b W := by
  first | rfl | kernel_rfl | simp [Instr.index, go_sem]
set_option maxRecDepth 100000 in
set_option maxHeartbeats 4000000 in
theorem sorted_any (w : World) (A A' : Option Addr) (n n' c c' : Nat) (L M : List Rng) (hL : Rgs w A n L) (hM : Rgs w A' n' M) (hn : n + n' ≤ 40000) :
    Calls Try.prog 40 #[.slice A n c, .slice A' n' c'] w fun e w' => ∃ (g k cp : Nat) (E : List Ev), e = .returned (.slice (some ⟨g, 0, none⟩) k cp) ∧ E.length = k ∧ E.Perm (evAll L M) ∧ Asc E ∧ EvAt w' g E ∧ Up w w' := by
  have HL := Lib.hid hL
  have HM := Lib.hid hM
  have HC := Lib.hid (fun x W => bound_q x W)
  have HN := Lib.hid hn
  have e1 : IntKind.i64.wrap ((n : Int) + (n' : Int)) = (n : Int) + n' := IntWalk.i64_in _ (by omega)
  have e2 : IntKind.i64.wrap (2 * ((n : Int) + (n' : Int))) = 2 * ((n : Int) + n') := IntWalk.i64_in _ (by omega)
  clear hL hM
  go_enter Try.func40, Try.ntmps40
  go_wp2_with (at_make; (obtain ⟨i0, hi0, hz0, hz1, hz2⟩ := info_parts infoEnd; refine wpList_make_own _ rfl _ _ 52 rfl w.heap.size 58 i0 (.agg #[.int .i64 0, .int .i64 0, .int .i64 0]) 3 Try.underlying52 hi0 hz0 hz1 .i64 .i64 (2 * ((n : Int) + n')) (2 * (n + n')) rfl rfl (by omega) (by rw [hz2]; omega) (by unfold maxLen; omega) (Nat.le_refl _) ?_; clear hi0 hz0 hz1 hz2; intro w1 hown hgrow))
  have HO1 := Lib.hid hown
  have HU1 := Lib.hid (show Up w w1 from (Up.refl w).grown hgrow (Nat.le_refl _) (fun k hk => by cases hk))
  clear hown hgrow e1 e2
  go_loopg [5, 6, 7, 9, 10, 11, 22] 2 (fun g ev _ _ _ _ _ iv wr => ∃ (i k c0 g0 : Nat), g = 2 - i ∧ iv = .int .i64 (i : Nat) ∧ i ≤ 2 ∧ ev = .slice (some ⟨g0, 0, none⟩) k c0 ∧ Hid ((evsTo L M i).length = k) ∧ Hid (wr.ownsRow w.heap.size 58 3 (.slice (some ⟨g0, 0, none⟩) k c0) k (evCells (evsTo L M i))) ∧ Hid (Up w wr))
  case atStart => exact ⟨0, 0, 2 * (n + n'), w.heap.size, rfl, rfl, by omega, rfl, Lib.hid rfl, HO1, HU1⟩
  case round =>
  obtain ⟨i, k, c0, g0, hg, rfl, hi, rfl, HK, HO, HU⟩ := hrel
  have HG := Lib.hid hg
  clear hg
  have hi3 : i = 0 ∨ i = 1 ∨ i = 2 := by omega
  rcases hi3 with rfl | rfl | rfl
  · -- the first list
    have HLn := Lib.hid (HL.out.len)
    have hix := ix0 (.slice A n c) (.slice A' n' c')
    go_wp2
    clear hix
    go_loopg [5, 9, 10, 11, 28] n (fun g2 ev2 _ _ _ jv wr2 => ∃ (j k2 c2 g3 : Nat), g2 = n - j ∧ jv = .int .i64 (j : Nat) ∧ j ≤ n ∧ ev2 = .slice (some ⟨g3, 0, none⟩) k2 c2 ∧ Hid ((evs 0 (L.take j)).length = k2) ∧ Hid (wr2.ownsRow w.heap.size 58 3 (.slice (some ⟨g3, 0, none⟩) k2 c2) k2 (evCells (evs 0 (L.take j)))) ∧ Hid (Up w wr2))
    case atStart => exact ⟨0, k, c0, g0, rfl, rfl, Nat.zero_le _, rfl, Lib.hid (by rw [List.take_zero]; exact HK.out), Lib.hid (by rw [List.take_zero]; exact HO.out), HU⟩
    case round =>
      obtain ⟨j, k2, c2, g3, hg2, rfl, hj, rfl, HK2, HO2, HU2⟩ := hrel
      have HG2 := Lib.hid hg2
      clear hg2
      by_cases hlt : j < n
      · have hjL : j < L.length := by have := HLn.out; omega
        obtain ⟨b, o, hA, hb, d0, d1⟩ := (HL.out.up HU2.out).at_ j hjL
        subst hA
        obtain ⟨r, hr⟩ : ∃ r, L[j] = r := ⟨_, rfl⟩
        have HT := Lib.hid (show evs 0 (L.take (j + 1)) = evs 0 (L.take j) ++ evR 0 r by rw [List.take_succ_eq_append_getElem hjL, evs_snoc, hr])
        rw [hr] at d0 d1
        obtain ⟨r1, r2⟩ := r
        dsimp only at d0 d1
        have hjj : (j : Int) < n := by omega
        have hk2 : k2 ≤ 2 * 40000 := by
          have h1 := HK2.out
          have h2 := evs_len 0 (L.take j)
          have h4 := HLn.out
          rw [List.length_take] at h2
          have h3 := evs_len 0 L
          have h5 := HL.out.len
          first
            | (rw [List.length_append] at h1; omega)
            | omega
        obtain ⟨u, hu⟩ : ∃ u, clp r1 = u := ⟨_, rfl⟩
        obtain ⟨v, hv⟩ : ∃ v, clp r2 = v := ⟨_, rfl⟩
        have H1 := Lib.hid (fun W => hu ▸ HC.out r1 W)
        have H2 := Lib.hid (fun W => hv ▸ HC.out r2 W)
        have HR := Lib.hid (show evR 0 (r1, r2) = if u < v then [(u, 0, 1), (v, 0, -1)] else [] by unfold evR; simp only [hu, hv])
        clear hr hb hu hv
        go_wp2
        go_quiet (first
          | (go_at_call 33; with_reducible exact Calls.quiet_of_same (H1.out _))
          | (go_at_call 33; with_reducible exact Calls.quiet_of_same (H2.out _)))
        have HUq := Lib.hid ((HU2.out.trans (Up.alloc wr (.cells #[.int .i64 r1, .int .i64 r2] 29))).trans (Up.drewN _ nq))
        have HOq := Lib.hid ((HO2.out.kept (Up.grownBy ((Up.alloc wr (.cells #[.int .i64 r1, .int .i64 r2] 29)).trans (Up.drewN _ nq))) (.inr (fun e => by cases e))))
        obtain ⟨wq, hwq⟩ : ∃ wq, (wr.alloc (.cells #[.int .i64 r1, .int .i64 r2] 29)).drewN nq = wq := ⟨_, rfl⟩
        rw [hwq] at HUq HOq
        simp only [hwq]
        clear hwq d0 d1
        have hNq : w.heap.size ≤ wq.heap.size := Below.size HUq.out
        by_cases huv : u < v
        · have hown := HOq.out
          have HE := Lib.hid (show evCells (evs 0 (L.take j)) ++ [.int .i64 u, .int .i64 0, .int .i64 1, .int .i64 v, .int .i64 0, .int .i64 (-1)] = evCells (evs 0 (L.take (j + 1))) by
            have h1 := HR.out
            rw [if_pos huv] at h1
            rw [HT.out, h1]
            first
              | (simp only [evCells_append]; rfl)
              | (simp only [evCells_append, List.append_assoc]; rfl))
          have HKn := Lib.hid (show (evs 0 (L.take (j + 1))).length = k2 + 2 by
            have h1 := HR.out
            rw [if_pos huv] at h1
            have h2 := HK2.out
            rw [HT.out, h1]
            simp only [List.length_append, List.length_cons, List.length_nil] at h2 ⊢
            omega)
          obtain ⟨i0, hi0, hz0, hz1, hz2⟩ := info_parts infoEnd
          go_wp2_with (at_builtin; (refine wpList_append_own _ rfl _ _ 52 rfl w.heap.size 58 i0 (.agg #[.int .i64 0, .int .i64 0, .int .i64 0]) 3 24 Try.underlying52 hi0 hz0 hz1 hz2 rfl (by decide) _ k2 _ rfl (hown.alloc _) ⟨wq.heap.size, 0, none⟩ 2 2 [.int .i64 u, .int .i64 0, .int .i64 1, .int .i64 v, .int .i64 0, .int .i64 (-1)] rfl rfl (World.news_of_block (cs := #[.int .i64 u, .int .i64 0, .int .i64 1, .int .i64 v, .int .i64 0, .int .i64 (-1)]) (t := 58) (fr := (0, 0)) (heap_alloc_new wq _)) (by simp [Value.oneCell']) (by unfold maxLen; omega) (by omega) (by simp; omega) ?_; intro v5 w5 hown5 hgrow _; obtain ⟨g5, c5, rfl⟩ := owns_some hown5 (by omega)))
          have HO5 := Lib.hid (show w5.ownsRow w.heap.size 58 3 (.slice (some ⟨g5, 0, none⟩) (k2 + 2) c5) (k2 + 2) (evCells (evs 0 (L.take (j + 1)))) by rw [← HE.out]; exact hown5)
          have HU5 := Lib.hid (show Up w w5 from (HUq.out.trans (Up.alloc wq _)).grown hgrow (by simp; omega) (fun q hq => own_base hown hq))
          clear hown hown5 hgrow
          go_roundg (n - (j + 1))
          case measure => rw [HG2.out]; omega
          case rel => exact ⟨j + 1, k2 + 2, c5, g5, rfl, by go_num, by omega, rfl, HKn, HO5, HU5⟩
        · have f0 : decide (u < v) = false := decide_eq_false huv
          have HE := Lib.hid (show evs 0 (L.take (j + 1)) = evs 0 (L.take j) by
            have h1 := HR.out
            rw [if_neg huv] at h1
            rw [HT.out, h1, List.append_nil])
          clear huv
          go_wp2
          go_roundg (n - (j + 1))
          case measure => rw [HG2.out]; omega
          case rel => exact ⟨j + 1, k2, c2, g3, rfl, by go_num, by omega, rfl, by rw [HE.out]; exact HK2, by rw [HE.out]; exact HOq, HUq⟩
      · obtain rfl : j = n := by omega
        have f0 : decide (j < j) = false := decide_eq_false hlt
        have hT := HLn.out
        clear hlt
        go_wp2
        go_roundg (2 - (0 + 1))
        case measure => rw [HG.out]; omega
        case rel => exact ⟨0 + 1, k2, c2, g3, rfl, by go_num, by omega, rfl, Lib.hid (by have := HK2.out; rw [List.take_of_length_le (by omega)] at this; simpa [evsTo, evAll] using this), Lib.hid (by have := HO2.out; rw [List.take_of_length_le (by omega)] at this; simpa [evsTo, evAll] using this), HU2⟩
  · -- the second list
    have HLn := Lib.hid (HM.out.len)
    have hix := ix1 (.slice A n c) (.slice A' n' c')
    go_wp2
    clear hix
    go_loopg [5, 9, 10, 11, 28] n' (fun g2 ev2 _ _ _ jv wr2 => ∃ (j k2 c2 g3 : Nat), g2 = n' - j ∧ jv = .int .i64 (j : Nat) ∧ j ≤ n' ∧ ev2 = .slice (some ⟨g3, 0, none⟩) k2 c2 ∧ Hid ((evs 0 L ++ evs 1 (M.take j)).length = k2) ∧ Hid (wr2.ownsRow w.heap.size 58 3 (.slice (some ⟨g3, 0, none⟩) k2 c2) k2 (evCells (evs 0 L ++ evs 1 (M.take j)))) ∧ Hid (Up w wr2))
    case atStart => exact ⟨0, k, c0, g0, rfl, rfl, Nat.zero_le _, rfl, Lib.hid (by rw [List.take_zero, show evs 1 [] = [] from rfl, List.append_nil]; exact HK.out), Lib.hid (by rw [List.take_zero, show evs 1 [] = [] from rfl, List.append_nil]; exact HO.out), HU⟩
    case round =>
      obtain ⟨j, k2, c2, g3, hg2, rfl, hj, rfl, HK2, HO2, HU2⟩ := hrel
      have HG2 := Lib.hid hg2
      clear hg2
      by_cases hlt : j < n'
      · have hjL : j < M.length := by have := HLn.out; omega
        obtain ⟨b, o, hA, hb, d0, d1⟩ := (HM.out.up HU2.out).at_ j hjL
        subst hA
        obtain ⟨r, hr⟩ : ∃ r, M[j] = r := ⟨_, rfl⟩
        have HT := Lib.hid (show evs 1 (M.take (j + 1)) = evs 1 (M.take j) ++ evR 1 r by rw [List.take_succ_eq_append_getElem hjL, evs_snoc, hr])
        rw [hr] at d0 d1
        obtain ⟨r1, r2⟩ := r
        dsimp only at d0 d1
        have hjj : (j : Int) < n' := by omega
        have hk2 : k2 ≤ 2 * 40000 := by
          have h1 := HK2.out
          have h2 := evs_len 1 (M.take j)
          have h4 := HLn.out
          rw [List.length_take] at h2
          have h3 := evs_len 0 L
          have h5 := HL.out.len
          first
            | (rw [List.length_append] at h1; omega)
            | omega
        obtain ⟨u, hu⟩ : ∃ u, clp r1 = u := ⟨_, rfl⟩
        obtain ⟨v, hv⟩ : ∃ v, clp r2 = v := ⟨_, rfl⟩
        have H1 := Lib.hid (fun W => hu ▸ HC.out r1 W)
        have H2 := Lib.hid (fun W => hv ▸ HC.out r2 W)
        have HR := Lib.hid (show evR 1 (r1, r2) = if u < v then [(u, 1, 1), (v, 1, -1)] else [] by unfold evR; simp only [hu, hv])
        clear hr hb hu hv
        go_wp2
        go_quiet (first
          | (go_at_call 33; with_reducible exact Calls.quiet_of_same (H1.out _))
          | (go_at_call 33; with_reducible exact Calls.quiet_of_same (H2.out _)))
        have HUq := Lib.hid ((HU2.out.trans (Up.alloc wr (.cells #[.int .i64 r1, .int .i64 r2] 29))).trans (Up.drewN _ nq))
        have HOq := Lib.hid ((HO2.out.kept (Up.grownBy ((Up.alloc wr (.cells #[.int .i64 r1, .int .i64 r2] 29)).trans (Up.drewN _ nq))) (.inr (fun e => by cases e))))
        obtain ⟨wq, hwq⟩ : ∃ wq, (wr.alloc (.cells #[.int .i64 r1, .int .i64 r2] 29)).drewN nq = wq := ⟨_, rfl⟩
        rw [hwq] at HUq HOq
        simp only [hwq]
        clear hwq d0 d1
        have hNq : w.heap.size ≤ wq.heap.size := Below.size HUq.out
        by_cases huv : u < v
        · have hown := HOq.out
          have HE := Lib.hid (show evCells (evs 0 L ++ evs 1 (M.take j)) ++ [.int .i64 u, .int .i64 1, .int .i64 1, .int .i64 v, .int .i64 1, .int .i64 (-1)] = evCells (evs 0 L ++ evs 1 (M.take (j + 1))) by
            have h1 := HR.out
            rw [if_pos huv] at h1
            rw [HT.out, h1]
            first
              | (simp only [evCells_append]; rfl)
              | (simp only [evCells_append, List.append_assoc]; rfl))
          have HKn := Lib.hid (show (evs 0 L ++ evs 1 (M.take (j + 1))).length = k2 + 2 by
            have h1 := HR.out
            rw [if_pos huv] at h1
            have h2 := HK2.out
            rw [HT.out, h1]
            simp only [List.length_append, List.length_cons, List.length_nil] at h2 ⊢
            omega)
          obtain ⟨i0, hi0, hz0, hz1, hz2⟩ := info_parts infoEnd
          go_wp2_with (at_builtin; (refine wpList_append_own _ rfl _ _ 52 rfl w.heap.size 58 i0 (.agg #[.int .i64 0, .int .i64 0, .int .i64 0]) 3 24 Try.underlying52 hi0 hz0 hz1 hz2 rfl (by decide) _ k2 _ rfl (hown.alloc _) ⟨wq.heap.size, 0, none⟩ 2 2 [.int .i64 u, .int .i64 1, .int .i64 1, .int .i64 v, .int .i64 1, .int .i64 (-1)] rfl rfl (World.news_of_block (cs := #[.int .i64 u, .int .i64 1, .int .i64 1, .int .i64 v, .int .i64 1, .int .i64 (-1)]) (t := 58) (fr := (0, 0)) (heap_alloc_new wq _)) (by simp [Value.oneCell']) (by unfold maxLen; omega) (by omega) (by simp; omega) ?_; intro v5 w5 hown5 hgrow _; obtain ⟨g5, c5, rfl⟩ := owns_some hown5 (by omega)))
          have HO5 := Lib.hid (show w5.ownsRow w.heap.size 58 3 (.slice (some ⟨g5, 0, none⟩) (k2 + 2) c5) (k2 + 2) (evCells (evs 0 L ++ evs 1 (M.take (j + 1)))) by rw [← HE.out]; exact hown5)
          have HU5 := Lib.hid (show Up w w5 from (HUq.out.trans (Up.alloc wq _)).grown hgrow (by simp; omega) (fun q hq => own_base hown hq))
          clear hown hown5 hgrow
          go_roundg (n' - (j + 1))
          case measure => rw [HG2.out]; omega
          case rel => exact ⟨j + 1, k2 + 2, c5, g5, rfl, by go_num, by omega, rfl, HKn, HO5, HU5⟩
        · have f0 : decide (u < v) = false := decide_eq_false huv
          have HE := Lib.hid (show evs 1 (M.take (j + 1)) = evs 1 (M.take j) by
            have h1 := HR.out
            rw [if_neg huv] at h1
            rw [HT.out, h1, List.append_nil])
          clear huv
          go_wp2
          go_roundg (n' - (j + 1))
          case measure => rw [HG2.out]; omega
          case rel => exact ⟨j + 1, k2, c2, g3, rfl, by go_num, by omega, rfl, by rw [HE.out]; exact HK2, by rw [HE.out]; exact HOq, HUq⟩
      · obtain rfl : j = n' := by omega
        have f0 : decide (j < j) = false := decide_eq_false hlt
        have hT := HLn.out
        clear hlt
        go_wp2
        go_roundg (2 - (1 + 1))
        case measure => rw [HG.out]; omega
        case rel => exact ⟨1 + 1, k2, c2, g3, rfl, by go_num, by omega, rfl, Lib.hid (by have := HK2.out; rw [List.take_of_length_le (by omega)] at this; simpa [evsTo, evAll] using this), Lib.hid (by have := HO2.out; rw [List.take_of_length_le (by omega)] at this; simpa [evsTo, evAll] using this), HU2⟩
  · -- behind both
    have HK2 := Lib.hid (show (evAll L M).length = k from HK.out)
    have HO2 := Lib.hid (show wr.ownsRow w.heap.size 58 3 (.slice (some ⟨g0, 0, none⟩) (evAll L M).length c0) (evAll L M).length (evCells (evAll L M)) by rw [HK2.out]; exact HO.out)
    have hlen : (evAll L M).length ≤ 100000 := by
      have h1 := evAll_len L M
      have h2 := HL.out.len
      have h3 := HM.out.len
      have h4 := HN.out
      omega
    have HS := sort_any wr w.heap.size g0 c0 (evAll L M) HO2.out hlen
    rw [HK2.out] at HS
    have HS := Lib.hid HS
    clear hlen
    go_wp2_with (go_at_call 43; ((with_reducible refine HS.out.mono ?_); rintro e w2 ⟨rfl, E', hp, ha, hev, hb⟩; have HP := Lib.hid hp; have HA := Lib.hid ha; have HEv := Lib.hid hev; have HB := Lib.hid hb; clear hp ha hev hb))
    go_ret
    exact ⟨g0, k, c0, E', rfl, HP.out.length_eq.trans HK2.out, HP.out, HA.out, HEv.out, Below.trans HU.out HB.out⟩
end Go.Proofs.Ytbgdphjjepbafaa
