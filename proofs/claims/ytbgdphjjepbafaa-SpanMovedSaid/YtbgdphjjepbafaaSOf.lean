/- The list in form of the places of two lists: the document's Of. -/
import Derived.Test.YtbgdphjjepbafaaSEnds
import Derived.Test.YtbgdphjjepbafaaSMath3
import Derived.Deep.AppendLies
import Derived.Deep.CutBlock
namespace Go.Proofs.Ytbgdphjjepbafaa
open Go.RowKit

theorem owns_set {w : World} {B g n c k j : Nat} {T : TypeId} {xs : List Value} {u : Value} (h : w.ownsRow B T k (.slice (some ⟨g, 0, none⟩) n c) n xs) (_ : j < xs.length) : (w.setCell ⟨g, j, none⟩ u).ownsRow B T k (.slice (some ⟨g, 0, none⟩) n c) n (xs.set j u) := by
  refine ⟨by rw [List.length_set]; exact h.1, ?_⟩
  rcases h.2 with ⟨e, -⟩ | ⟨g', cap, cur, e, h1, h2, h3, h4, h5, h6⟩
  · cases e
  · injection e with e1 e2 e3
    injection e1 with e1
    injection e1 with e1
    subst e1 e3
    refine .inr ⟨g, c, cur.setIfInBounds j u, rfl, h1, ?_, h3, h4, by simpa using h5, ?_⟩
    · simp [World.setCell, Array.getElem?_modify, h2]
    · rw [Array.toList_setIfInBounds, ← h6, List.take_set]
theorem rgCells_set : ∀ (F : List Rng) (u x y : Int), (rgCells (F ++ [(u, x)])).set ((F ++ [(u, x)]).length * 2 - 1) (.int .i64 y) = rgCells (F ++ [(u, y)])
  | [], u, x, y => rfl
  | r :: t, u, x, y => by
    have := rgCells_set t u x y
    show (Value.int .i64 r.1 :: .int .i64 r.2 :: rgCells (t ++ [(u, x)])).set (((t ++ [(u, x)]).length + 1) * 2 - 1) _ = Value.int .i64 r.1 :: .int .i64 r.2 :: rgCells (t ++ [(u, y)])
    rw [← this]
    have hl : 0 < (t ++ [(u, x)]).length := by simp
    rw [show ((t ++ [(u, x)]).length + 1) * 2 - 1 = ((t ++ [(u, x)]).length * 2 - 1) + 1 + 1 from by omega]
    rfl
theorem refHas_q {w : World} {A : Option Addr} {n c : Nat} {L : List Rng} (hL : Rgs w A n L) (hn : n ≤ 1000000) (p : Int) (k : Nat) :
    Calls Try.prog 17 #[.slice A n c, .int .i64 p] (w.drewN k) fun e w' => e = .returned (.bool (has L p)) ∧ w' = w.drewN k :=
  (refHas_any (w.drewN k) A n c L (hL.up (Up.drewN _ _)) hn p).mono fun _ _ h => ⟨h.1, h.2.symm⟩
theorem owns_lower {w : World} {B B' k n : Nat} {T : TypeId} {v : Value} {xs : List Value} (h : w.ownsRow B T k v n xs) (hb : B' ≤ B) : w.ownsRow B' T k v n xs := by
  refine ⟨h.1, ?_⟩
  rcases h.2 with e | ⟨g', cap, cur, e, h1, h2⟩
  · exact .inl e
  · exact .inr ⟨g', cap, cur, e, Nat.le_trans hb h1, h2⟩
theorem cell_lt {w : World} {b o : Nat} {v : Value} (h : w.cell? ⟨b, o, none⟩ = some v) : b < w.heap.size := by
  rcases Nat.lt_or_ge b w.heap.size with g | g
  · exact g
  · have e : w.heap[b]? = none := Array.getElem?_eq_none g
    simp [World.cell?, e] at h
theorem keepX {w W W' : World} {g i j : Nat} {x y : Value} (hu : Up W W') (h : Up w W ∧ W.cell? ⟨g, i, none⟩ = some x ∧ W.cell? ⟨g, j, none⟩ = some y) : Up w W' ∧ W'.cell? ⟨g, i, none⟩ = some x ∧ W'.cell? ⟨g, j, none⟩ = some y :=
  ⟨h.1.trans hu, cell_up hu h.2.1, cell_up hu h.2.2⟩
theorem keepG {w W W' : World} {g i j n k : Nat} {x y v : Value} {T : TypeId} {xs : List Value} {tmp : Obj} (hg : (W.alloc tmp).drew.grownBy W' v.ownBlock) (ho : W.ownsRow w.heap.size T k v n xs) (hgw : g < w.heap.size) (h : Up w W ∧ W.cell? ⟨g, i, none⟩ = some x ∧ W.cell? ⟨g, j, none⟩ = some y) : Up w W' ∧ W'.cell? ⟨g, i, none⟩ = some x ∧ W'.cell? ⟨g, j, none⟩ = some y := by
  have hs : w.heap.size ≤ (W.alloc tmp).drew.heap.size := Nat.le_trans (Below.size h.1) (Below.size ((Up.alloc W tmp).trans (Up.drew _)))
  have hu : Below w.heap.size W W' := (Below.mono ((Up.alloc W tmp).trans (Up.drew _)) (Below.size h.1)).grown hg hs (fun q hq => own_base ho hq)
  exact ⟨Below.trans h.1 hu, (Below.cell hu (p := ⟨g, i, none⟩) hgw).trans h.2.1, (Below.cell hu (p := ⟨g, j, none⟩) hgw).trans h.2.2⟩
theorem owns_fz {w : World} {B n c k : Nat} {g : Nat} {T : TypeId} {xs : List Value} (h : w.ownsRow B T k (.slice (some ⟨g, 0, none⟩) n c) n xs) (j : Nat) : w.frozen? ⟨g, j, none⟩ = false := by
  rcases h.2 with ⟨e, -⟩ | ⟨g', cap, cur, e, h1, h2, -⟩
  · cases e
  · injection e with e1 e2 e3
    injection e1 with e1
    injection e1 with e1
    subst e1
    exact frozenOf h2
/-- What has been told when the first i ends have been gone through. -/
def TP (how : Int) (L M : List Rng) (X : List Int) (i : Nat) (F : List Rng) : Prop := (∀ h : i < X.length, Told (hasB how L M) (X[i]'h) F) ∧ (X.length = 0 → F = []) ∧ F.length ≤ i
set_option maxRecDepth 100000 in
set_option maxHeartbeats 2000000 in
theorem of_any (w : World) (A A' : Option Addr) (n n' c c' : Nat) (L M : List Rng) (how : Int) (hL : Rgs w A n L) (hM : Rgs w A' n' M) (hA : ∀ a, A = some a → a.block < w.heap.size) (hA' : ∀ a, A' = some a → a.block < w.heap.size) (hn : n + n' ≤ 10000) :
    Calls Try.prog 15 #[.slice A n c, .slice A' n' c', .int .i64 how] w fun e w' => ∃ v F, e = .returned v ∧ RowR w' w.heap.size v F ∧ Form F ∧ (∀ p, has F p = hasB how L M p) ∧ F.length ≤ 2 * n + 2 * n' ∧ Up w w' := by
  have HE1 := Lib.hid (ends_any w w.heap.size A n c L (.slice none 0 0) [] hL hA (Nat.le_refl _) (World.ownsRow_nil _ _ _ _) (by simp; omega))
  have HL := Lib.hid hL
  have HM := Lib.hid hM
  have HA := Lib.hid hA
  have HA' := Lib.hid hA'
  have HN := Lib.hid hn
  clear hL hM hA hA'
  go_enter Try.func15, Try.ntmps15
  go_upto_region 4 with (first
    | (go_at_call 30; ((with_reducible refine HE1.out.mono ?_); rintro e w1 ⟨v1, rfl, ho1, hu1⟩; have HO1 := Lib.hid ho1; have HU1 := Lib.hid hu1; clear ho1 hu1; have HE2 := Lib.hid (ends_any w1 w.heap.size A' n' c' M v1 _ (HM.out.keep HU1.out HA'.out) HA'.out (Below.size HU1.out) HO1.out (by have := endsL_len L []; have := HL.out.len; have := HN.out; simp only [List.length_nil] at *; omega))))
    | (go_at_call 30; ((with_reducible refine HE2.out.mono ?_); rintro e w2 ⟨v2, rfl, ho2, hu2⟩; have HO2 := Lib.hid ho2; have HU2 := Lib.hid hu2; clear ho2 hu2)))
  obtain ⟨X, hX⟩ : ∃ X, ends2 L M = X := ⟨_, rfl⟩
  have hXl : X.length ≤ 2 * n + 2 * n' := by
    have h1 := endsL_len M (endsL L [])
    have h2 := endsL_len L []
    have h3 := HL.out.len
    have h4 := HM.out.len
    have h5 : (ends2 L M).length = (endsL M (endsL L [])).length := rfl
    rw [hX] at h5
    simp only [List.length_nil] at h2
    omega
  have HO3 := Lib.hid (show RowI w2 w.heap.size v2 X from hX ▸ HO2.out)
  obtain ⟨A2, c2, hv2, hc2⟩ := HO3.out.form
  subst hv2
  obtain ⟨N, hN⟩ : ∃ N, X.length - 1 = N := ⟨_, rfl⟩
  obtain ⟨Z, hZ⟩ : ∃ Z, X.length = Z := ⟨_, rfl⟩
  have HXX := Lib.hid hX
  have HNN := Lib.hid hN
  have HZZ := Lib.hid hZ
  have HCX := Lib.hid hc2
  have HXL := Lib.hid hXl
  have hZb : Z ≤ 20000 := by omega
  have HU := Lib.hid (show Up w w2 from Below.trans HU1.out HU2.out)
  rw [hZ]
  clear hX hN hZ hc2 hXl HE1 HE2 HO1 HO2 HU1 HU2
  go_wp2
  go_loopg [8, 9] N (fun g ov iv wr => ∃ (i : Nat) (F : List Rng), g = N - i ∧ iv = .int .i64 (i : Nat) ∧ i ≤ N ∧ Hid (TP how L M X i F) ∧ Hid (RowR wr w2.heap.size ov F) ∧ Hid (Up w2 wr))
  case atStart => exact ⟨0, [], rfl, rfl, Nat.zero_le _, Lib.hid ⟨fun h => Told.nil (fun p hp => by
      have hh := HXX.out
      subst hh
      exact hasB_ahead h hp), fun _ => rfl, Nat.le_refl _⟩, Lib.hid (World.ownsRow_nil _ _ _ _), Lib.hid (Up.refl _)⟩
  case round =>
    obtain ⟨i, F, hg, rfl, hi, HT, HO, HV⟩ := hrel
    have HG := Lib.hid hg
    clear hg
    by_cases hlt : i < N
    · have hi1 : i + 1 < X.length := by have := HNN.out; omega
      obtain ⟨g, eA, hgB, k0⟩ := HCX.out i (by omega)
      obtain ⟨g', eA', -, k1⟩ := HCX.out (i + 1) hi1
      subst eA
      injection eA' with eA'
      injection eA' with eA'
      subst eA'
      have k0 := cell_up HV.out k0
      have k1 := cell_up HV.out k1
      obtain ⟨x, hx⟩ : ∃ x, X[i] = x := ⟨_, rfl⟩
      obtain ⟨y, hy⟩ : ∃ y, X[i + 1] = y := ⟨_, rfl⟩
      rw [hx] at k0
      rw [hy] at k1
      have hii : (i : Int) + 1 < (Z : Nat) := by have := HZZ.out; omega
      have hi2 : (i : Int) < (Z : Nat) := by omega
      obtain ⟨P, hP⟩ : ∃ P, has L x = P := ⟨_, rfl⟩
      obtain ⟨Q, hQ⟩ : ∃ Q, has M x = Q := ⟨_, rfl⟩
      have hq1 := fun k => refHas_q (c := c) (HL.out.up (Up.trans HU.out HV.out)) (by have := HN.out; omega) x k
      have hq2 := fun k => refHas_q (c := c') (HM.out.up (Up.trans HU.out HV.out)) (by have := HN.out; omega) x k
      rw [hP] at hq1
      rw [hQ] at hq2
      have H1 := Lib.hid hq1
      have H2 := Lib.hid hq2
      have HX1 := Lib.hid hx
      have HY1 := Lib.hid hy
      have HP := Lib.hid hP
      have HQ := Lib.hid hQ
      clear hq1 hq2 hx hy hP hQ
      go_wp2
      go_quiet (first
        | (go_at_call 17; with_reducible exact Calls.quiet_of_same (H1.out _))
        | (go_at_call 17; with_reducible exact Calls.quiet_of_same (H2.out _)))
      have HW := Lib.hid (HV.out.trans (Up.drewN wr nq))
      have HOW := Lib.hid (World.ownsRow.kept HO.out (Up.grownBy (Up.drewN wr nq)) (by cases hv : u8.ownBlock <;> simp))
      replace k0 := cell_up (Up.drewN wr nq) k0
      replace k1 := cell_up (Up.drewN wr nq) k1
      obtain ⟨W, hWe⟩ : ∃ W, wr.drewN nq = W := ⟨_, rfl⟩
      rw [hWe] at k0 k1 HW HOW
      go_upto_block 2 with fail
      try simp only [hWe]
      clear hWe H1 H2
      obtain ⟨I, hI⟩ : ∃ I, keepB how P Q = I := ⟨_, rfl⟩
      go_cut [12] (fun v wx => v = .bool I ∧ wx = W)
      case first =>
        unfold keepB at hI
        have HII := Lib.hid hI
        clear hI
        by_cases h0 : how = 0
        · have f0 : (how == 0) = true := by rw [h0]; rfl
          have HI0 := Lib.hid (show (P || Q) = I by have := HII.out; rwa [if_pos h0] at this)
          clear h0 HII
          cases P <;> cases Q <;> (go_wp2_with fail; go_meet; case rel => exact ⟨by rw [← HI0.out]; rfl, rfl⟩)
        · have f0 : (how == 0) = false := beq_false_of_ne h0
          by_cases h1 : how = 1
          · have f1 : (how == 1) = true := by rw [h1]; rfl
            have HI0 := Lib.hid (show (P && !Q) = I by have := HII.out; rwa [if_neg h0, if_pos h1] at this)
            clear h0 h1 HII
            cases P <;> cases Q <;> (go_wp2_with fail; go_meet; case rel => exact ⟨by rw [← HI0.out]; rfl, rfl⟩)
          · have f1 : (how == 1) = false := beq_false_of_ne h1
            have HI0 := Lib.hid (show (P && Q) = I by have := HII.out; rwa [if_neg h0, if_neg h1] at this)
            clear h0 h1 HII
            cases P <;> cases Q <;> (go_wp2_with fail; go_meet; case rel => exact ⟨by rw [← HI0.out]; rfl, rfl⟩)
      case rest =>
        obtain ⟨rfl, rfl⟩ := hcut
        have HII := Lib.hid hI
        clear hI
        have hFl : F.length ≤ i := HT.out.2.2
        have HXY := Lib.hid (show x < y by rw [← HX1.out, ← HY1.out]; have hh := HXX.out; subst hh; exact (ends2_up L M).at_ i hi1)
        have HBT := Lib.hid (show ∀ p, x ≤ p → p < y → hasB how L M p = I by
          intro p h1 h2
          have hh := HXX.out
          subst hh
          rw [hasB_between hi1 (by rw [HX1.out]; exact h1) (by rw [HY1.out]; exact h2), HX1.out]
          unfold hasB
          rw [HP.out, HQ.out, HII.out])
        have HTX := Lib.hid (show Told (hasB how L M) x F by rw [← HX1.out]; exact HT.out.1 (by omega))
        have HYI := Lib.hid (show 0 ≤ x ∧ y ≤ 1099511627776 by
          have hh := HXX.out
          subst hh
          exact ⟨HX1.out ▸ (ends2_in (List.getElem_mem _)).1, HY1.out ▸ (ends2_in (List.getElem_mem _)).2⟩)
        have HZ0 := Lib.hid (show X.length ≠ 0 by omega)
        have HNX := Lib.hid (show ∀ G, Told (hasB how L M) y G → G.length ≤ i + 1 → TP how L M X (i + 1) G from fun G hG hl => ⟨fun h => by rw [HY1.out]; exact hG, fun h => absurd h HZ0.out, hl⟩)
        cases I with
        | false =>
          have HTN := Lib.hid (HNX.out F (HTX.out.skip (Int.le_of_lt HXY.out) HBT.out) (by omega))
          clear hFl hn
          go_wp2
          go_roundg (N - (i + 1))
          case measure => rw [HG.out]; omega
          case rel => exact ⟨i + 1, F, rfl, by go_num, by omega, HTN, HOW, HW⟩
        | true =>
          have HOWN := HOW.out
          have HGW := Lib.hid (show g < w2.heap.size from by
            obtain ⟨g2, e2, -, k2⟩ := HCX.out i (by omega)
            injection e2 with e2
            injection e2 with e2
            subst e2
            exact cell_lt k2)
          rcases List.eq_nil_or_concat F with e | ⟨G, ⟨u, b⟩, e⟩
          · have HF0 := Lib.hid (show F.length = 0 by rw [e]; rfl)
            clear e
            rcases owns_cell HOWN with ⟨e8, -⟩ | ⟨g0, c0, e8, -, -, -⟩
            · subst e8
              have f0 : decide (0 < F.length) = false := decide_eq_false (by have := HF0.out; omega)
              have HTN := Lib.hid (HNX.out (F ++ [(x, y)]) (HTX.out.more (fun G r e => absurd (congrArg List.length e) (by rw [HF0.out]; simp)) HYI.out.1 HXY.out HYI.out.2 HBT.out) (by rw [List.length_append]; simp; omega))
              go_wp2_with fail
              go_quiet (fail)
              go_upto_region 17 with fail
              have HWD := Lib.hid (HW.out.trans (Up.drewN wc nq))
              have HOWD := World.ownsRow.kept HOWN (Up.grownBy (Up.drewN wc nq)) (by first | exact .inl rfl | exact .inr (fun e => by cases e))
              replace k0 := cell_up (Up.drewN wc nq) k0
              replace k1 := cell_up (Up.drewN wc nq) k1
              obtain ⟨wd, hwd⟩ : ∃ wd, wc.drewN nq = wd := ⟨_, rfl⟩
              rw [hwd] at k0 k1 HWD HOWD
              simp only [hwd]
              clear hwd
              have hbz : F.length + 1 ≤ maxLen := by unfold maxLen; omega
              have hbb : (F.length + 1) * 16 ≤ 140737488355328 := by omega
              have hbs : w2.heap.size ≤ wd.heap.size := Below.size HWD.out
              have hS : Up w2 wd ∧ wd.cell? ⟨g, i, none⟩ = some (.int .i64 x) ∧ wd.cell? ⟨g, i + 1, none⟩ = some (.int .i64 y) := ⟨HWD.out, k0, k1⟩
              obtain ⟨i0, hi0, hz0, hz1, hz2⟩ := info_parts infoRange
              obtain ⟨q1, q2, q3⟩ : IntKind.i64.wrap ((i : Int) + 1) = (i : Int) + 1 ∧ (0 : Int) ≤ (i : Int) + 1 ∧ ((i : Int) + 1).toNat = i + 1 := ⟨IntWalk.i64_in _ (by omega), by omega, by omega⟩
              have HLT := Lib.hid hlt
              clear hlt hi hn
              go_region_held3 (fun w' => Up w2 w' ∧ w'.cell? ⟨g, i, none⟩ = some (.int .i64 x) ∧ w'.cell? ⟨g, i + 1, none⟩ = some (.int .i64 y))
                (first | assumption | with_reducible exact keepX (Up.drew _) (by assumption) | with_reducible exact keepX (Up.alloc _ _) (by assumption) | exact keepG hgrow HOWD HGW.out hS)
                ((refine step_append_lies _ (by rfl) _ _ _ (by rfl) w2.heap.size 29 i0 _ 2 16 Try.underlying22 hi0 hz0 hz1 hz2 rfl (by omega) _ F.length (rgCells F) (by rfl) ((HOWD.alloc _).drew)
                      ⟨wd.heap.size, 0, none⟩ 1 1 [.int .i64 x, .int .i64 y] (by rfl) (by rfl) (World.news_of_block (cs := #[.int .i64 x, .int .i64 y]) (t := 29) (fr := (0, 0)) (heap_alloc_new wd _)) (by simp [Value.oneCell'])
                      (by omega) hbz hbb (by simp; omega) (wd.heap.size + 1) (by simp) ?_; intro g5 cap5 w5 hown5 hgrow _ _))
              have hH : Up w2 w5 ∧ w5.cell? ⟨g, i, none⟩ = some (.int .i64 x) ∧ w5.cell? ⟨g, i + 1, none⟩ = some (.int .i64 y) := by assumption
              have HW5 := Lib.hid hH.1
              have HO5 := Lib.hid (show RowR w5 w2.heap.size (.slice (some ⟨g5, 0, none⟩) (F.length + 1) cap5) (F ++ [(x, y)]) by
                unfold RowR
                rw [rgCells_append, List.length_append]
                exact hown5)
              clear hH hown5 hgrow hS q1 q2 q3
              go_wp2
              go_roundg (N - (i + 1))
              case measure => rw [HG.out]; have := HLT.out; omega
              case rel => exact ⟨i + 1, F ++ [(x, y)], rfl, by go_num, by have := HLT.out; omega, HTN, HO5, HW5⟩
            · subst e8
              have f0 : decide (0 < F.length) = false := decide_eq_false (by have := HF0.out; omega)
              have HTN := Lib.hid (HNX.out (F ++ [(x, y)]) (HTX.out.more (fun G r e => absurd (congrArg List.length e) (by rw [HF0.out]; simp)) HYI.out.1 HXY.out HYI.out.2 HBT.out) (by rw [List.length_append]; simp; omega))
              go_wp2_with fail
              go_quiet (fail)
              go_upto_region 17 with fail
              have HWD := Lib.hid (HW.out.trans (Up.drewN wc nq))
              have HOWD := World.ownsRow.kept HOWN (Up.grownBy (Up.drewN wc nq)) (by first | exact .inl rfl | exact .inr (fun e => by cases e))
              replace k0 := cell_up (Up.drewN wc nq) k0
              replace k1 := cell_up (Up.drewN wc nq) k1
              obtain ⟨wd, hwd⟩ : ∃ wd, wc.drewN nq = wd := ⟨_, rfl⟩
              rw [hwd] at k0 k1 HWD HOWD
              simp only [hwd]
              clear hwd
              have hbz : F.length + 1 ≤ maxLen := by unfold maxLen; omega
              have hbb : (F.length + 1) * 16 ≤ 140737488355328 := by omega
              have hbs : w2.heap.size ≤ wd.heap.size := Below.size HWD.out
              have hS : Up w2 wd ∧ wd.cell? ⟨g, i, none⟩ = some (.int .i64 x) ∧ wd.cell? ⟨g, i + 1, none⟩ = some (.int .i64 y) := ⟨HWD.out, k0, k1⟩
              obtain ⟨i0, hi0, hz0, hz1, hz2⟩ := info_parts infoRange
              obtain ⟨q1, q2, q3⟩ : IntKind.i64.wrap ((i : Int) + 1) = (i : Int) + 1 ∧ (0 : Int) ≤ (i : Int) + 1 ∧ ((i : Int) + 1).toNat = i + 1 := ⟨IntWalk.i64_in _ (by omega), by omega, by omega⟩
              have HLT := Lib.hid hlt
              clear hlt hi hn
              go_region_held3 (fun w' => Up w2 w' ∧ w'.cell? ⟨g, i, none⟩ = some (.int .i64 x) ∧ w'.cell? ⟨g, i + 1, none⟩ = some (.int .i64 y))
                (first | assumption | with_reducible exact keepX (Up.drew _) (by assumption) | with_reducible exact keepX (Up.alloc _ _) (by assumption) | exact keepG hgrow HOWD HGW.out hS)
                ((refine step_append_lies _ (by rfl) _ _ _ (by rfl) w2.heap.size 29 i0 _ 2 16 Try.underlying22 hi0 hz0 hz1 hz2 rfl (by omega) _ F.length (rgCells F) (by rfl) ((HOWD.alloc _).drew)
                      ⟨wd.heap.size, 0, none⟩ 1 1 [.int .i64 x, .int .i64 y] (by rfl) (by rfl) (World.news_of_block (cs := #[.int .i64 x, .int .i64 y]) (t := 29) (fr := (0, 0)) (heap_alloc_new wd _)) (by simp [Value.oneCell'])
                      (by omega) hbz hbb (by simp; omega) (wd.heap.size + 1) (by simp) ?_; intro g5 cap5 w5 hown5 hgrow _ _))
              have hH : Up w2 w5 ∧ w5.cell? ⟨g, i, none⟩ = some (.int .i64 x) ∧ w5.cell? ⟨g, i + 1, none⟩ = some (.int .i64 y) := by assumption
              have HW5 := Lib.hid hH.1
              have HO5 := Lib.hid (show RowR w5 w2.heap.size (.slice (some ⟨g5, 0, none⟩) (F.length + 1) cap5) (F ++ [(x, y)]) by
                unfold RowR
                rw [rgCells_append, List.length_append]
                exact hown5)
              clear hH hown5 hgrow hS q1 q2 q3
              go_wp2
              go_roundg (N - (i + 1))
              case measure => rw [HG.out]; have := HLT.out; omega
              case rel => exact ⟨i + 1, F ++ [(x, y)], rfl, by go_num, by have := HLT.out; omega, HTN, HO5, HW5⟩
          · rw [List.concat_eq_append] at e
            have hFj : F.length = G.length + 1 := by rw [e, List.length_append]; rfl
            rcases owns_cell HOWN with ⟨-, hz⟩ | ⟨g0, c0, e8, hg0, -, hcc⟩
            · exact absurd hz (by omega)
            subst e8
            obtain ⟨j, hj⟩ : ∃ j, G.length = j := ⟨_, rfl⟩
            have cb : wc.cell? ⟨g0, j * 2 + 1, none⟩ = some (.int .i64 b) := by
              refine hcc _ _ ?_
              have h2 := (rgCells_at F j (by omega)).2
              rw [h2]
              subst e hj
              simp
            have HE := Lib.hid e
            have HJ := Lib.hid hj
            have HG0 := Lib.hid hg0
            have HFJ := Lib.hid (show F.length = j + 1 by omega)
            have n1 : 0 < F.length := by omega
            have n2 : (0 : Int) < (F.length : Nat) := by omega
            have n3 : (j : Int) < (F.length : Nat) := by omega
            have n4 : IntKind.i64.wrap ((F.length : Int) - 1) = (j : Nat) := (IntWalk.i64_in _ (by omega)).trans (by omega)
            clear e hj hcc hFj
            by_cases hbx : b = x
            · subst hbx
              have HLT := Lib.hid hlt
              have HTN := Lib.hid (HNX.out (G ++ [(u, y)]) (by
                have h := HTX.out
                rw [HE.out] at h
                exact h.longer HXY.out HYI.out.2 HBT.out) (by have := HFJ.out; have := HJ.out; rw [List.length_append]; simp; omega))
              go_wp2_with fail
              go_quiet (fail)
              go_upto_region 16 with fail
              have HWD := Lib.hid (HW.out.trans (Up.drewN wc nq))
              have HOWD := World.ownsRow.kept HOWN (Up.grownBy (Up.drewN wc nq)) (.inr (fun e => by cases e))
              replace k0 := cell_up (Up.drewN wc nq) k0
              replace k1 := cell_up (Up.drewN wc nq) k1
              replace cb := cell_up (Up.drewN wc nq) cb
              obtain ⟨wd, hwd⟩ : ∃ wd, wc.drewN nq = wd := ⟨_, rfl⟩
              rw [hwd] at k0 k1 cb HWD HOWD
              simp only [hwd]
              clear hwd
              have fz := owns_fz HOWD (j * 2 + 1)
              clear hn hFl
              go_wp2
              have HWS := Lib.hid (show Up w2 (wd.setCell ⟨g0, j * 2 + 1, none⟩ (.int .i64 y)) from Below.setCell HWD.out (p := ⟨g0, j * 2 + 1, none⟩) HG0.out _)
              have HOS := Lib.hid (show RowR (wd.setCell ⟨g0, j * 2 + 1, none⟩ (.int .i64 y)) w2.heap.size (.slice (some ⟨g0, 0, none⟩) F.length c0) (G ++ [(u, y)]) by
                unfold RowR
                have h1 := owns_set (u := .int .i64 y) HOWD (j := j * 2 + 1) (by rw [rgCells_len, HFJ.out]; omega)
                have h2 := rgCells_set G u b y
                rw [← HE.out, HFJ.out, show (j + 1) * 2 - 1 = j * 2 + 1 from by omega] at h2
                rw [h2] at h1
                rw [show (G ++ [(u, y)]).length = F.length from by rw [HFJ.out, List.length_append, HJ.out]; rfl]
                exact h1)
              go_roundg (N - (i + 1))
              case measure => rw [HG.out]; have := HLT.out; omega
              case rel => exact ⟨i + 1, G ++ [(u, y)], rfl, by go_num, by have := HLT.out; omega, HTN, HOS, HWS⟩
            · have fb : (b == x) = false := beq_false_of_ne hbx
              have HTN := Lib.hid (HNX.out (F ++ [(x, y)]) (HTX.out.more (fun G' r e => by
                have h := HE.out
                rw [e] at h
                have h3 := List.append_inj_right' h rfl
                injection h3 with h3
                rw [h3]
                exact hbx) HYI.out.1 HXY.out HYI.out.2 HBT.out) (by rw [List.length_append]; simp; omega))
              clear hbx
              go_wp2_with fail
              go_quiet (fail)
              go_upto_region 17 with fail
              have HWD := Lib.hid (HW.out.trans (Up.drewN wc nq))
              have HOWD := World.ownsRow.kept HOWN (Up.grownBy (Up.drewN wc nq)) (by first | exact .inl rfl | exact .inr (fun e => by cases e))
              replace k0 := cell_up (Up.drewN wc nq) k0
              replace k1 := cell_up (Up.drewN wc nq) k1
              obtain ⟨wd, hwd⟩ : ∃ wd, wc.drewN nq = wd := ⟨_, rfl⟩
              rw [hwd] at k0 k1 HWD HOWD
              simp only [hwd]
              clear hwd
              have hbz : F.length + 1 ≤ maxLen := by unfold maxLen; omega
              have hbb : (F.length + 1) * 16 ≤ 140737488355328 := by omega
              have hbs : w2.heap.size ≤ wd.heap.size := Below.size HWD.out
              have hS : Up w2 wd ∧ wd.cell? ⟨g, i, none⟩ = some (.int .i64 x) ∧ wd.cell? ⟨g, i + 1, none⟩ = some (.int .i64 y) := ⟨HWD.out, k0, k1⟩
              obtain ⟨i0, hi0, hz0, hz1, hz2⟩ := info_parts infoRange
              obtain ⟨q1, q2, q3⟩ : IntKind.i64.wrap ((i : Int) + 1) = (i : Int) + 1 ∧ (0 : Int) ≤ (i : Int) + 1 ∧ ((i : Int) + 1).toNat = i + 1 := ⟨IntWalk.i64_in _ (by omega), by omega, by omega⟩
              have HLT := Lib.hid hlt
              clear hlt hi hn
              go_region_held3 (fun w' => Up w2 w' ∧ w'.cell? ⟨g, i, none⟩ = some (.int .i64 x) ∧ w'.cell? ⟨g, i + 1, none⟩ = some (.int .i64 y))
                (first | assumption | with_reducible exact keepX (Up.drew _) (by assumption) | with_reducible exact keepX (Up.alloc _ _) (by assumption) | exact keepG hgrow HOWD HGW.out hS)
                ((refine step_append_lies _ (by rfl) _ _ _ (by rfl) w2.heap.size 29 i0 _ 2 16 Try.underlying22 hi0 hz0 hz1 hz2 rfl (by omega) _ F.length (rgCells F) (by rfl) ((HOWD.alloc _).drew)
                      ⟨wd.heap.size, 0, none⟩ 1 1 [.int .i64 x, .int .i64 y] (by rfl) (by rfl) (World.news_of_block (cs := #[.int .i64 x, .int .i64 y]) (t := 29) (fr := (0, 0)) (heap_alloc_new wd _)) (by simp [Value.oneCell'])
                      (by omega) hbz hbb (by simp; omega) (wd.heap.size + 1) (by simp) ?_; intro g5 cap5 w5 hown5 hgrow _ _))
              have hH : Up w2 w5 ∧ w5.cell? ⟨g, i, none⟩ = some (.int .i64 x) ∧ w5.cell? ⟨g, i + 1, none⟩ = some (.int .i64 y) := by assumption
              have HW5 := Lib.hid hH.1
              have HO5 := Lib.hid (show RowR w5 w2.heap.size (.slice (some ⟨g5, 0, none⟩) (F.length + 1) cap5) (F ++ [(x, y)]) by
                unfold RowR
                rw [rgCells_append, List.length_append]
                exact hown5)
              clear hH hown5 hgrow hS q1 q2 q3
              go_wp2
              go_roundg (N - (i + 1))
              case measure => rw [HG.out]; have := HLT.out; omega
              case rel => exact ⟨i + 1, F ++ [(x, y)], rfl, by go_num, by have := HLT.out; omega, HTN, HO5, HW5⟩
    · obtain rfl : i = N := by omega
      have f0 : decide ((i : Int) + 1 < (Z : Nat)) = false := decide_eq_false (by have := HNN.out; have := HZZ.out; omega)
      have HF : Hid (Form F ∧ (∀ p, has F p = hasB how L M p) ∧ F.length ≤ 2 * n + 2 * n') := by
        refine Lib.hid ?_
        have hN := HNN.out
        have hXl := HXL.out
        have hT := HT.out
        have hh := HXX.out
        subst hh
        have hl := hT.2.2
        by_cases hz : (ends2 L M).length = 0
        · have e := hT.2.1 hz
          subst e
          exact ⟨trivial, fun p => (has_nil p).trans (hasB_nothing hz p).symm, Nat.zero_le _⟩
        · have h1 := hT.1 (by omega)
          refine ⟨h1.form, fun p => ?_, by omega⟩
          rw [h1.has_]
          by_cases hp : p < (ends2 L M)[i]'(by omega)
          · rw [decide_eq_true hp, Bool.true_and]
          · rw [decide_eq_false hp, Bool.false_and, hasB_behind (n := i) (by omega) (by omega)]
      have hi3 : (i : Int) ≤ 20000 := by have := HNN.out; have := HZZ.out; omega
      clear hlt hi
      go_wp2
      go_ret
      exact ⟨_, F, rfl, owns_lower HO.out (Below.size HU.out), HF.out.1, HF.out.2.1, HF.out.2.2, HU.out.trans HV.out⟩
end Go.Proofs.Ytbgdphjjepbafaa
