/- The numbers of a text, one after another: the program's numbers. -/
import Derived.Test.YtidnldchdahgeaaDoorTRangeZ
import Derived.Test.YtidnldchdahgeaaDoorTNum
import Derived.Test.YtidnldchdahgeaaDoorTHashP
import Derived.Test.YtidnldchdahgeaaDoorTPrintP
namespace Go.Proofs.YtidnldchdahgeaaDoor
open Go.RowKit Go.Shelf
attribute [local go_sem] Oper.semAt_some

abbrev enc2 (x : Nat × Nat) : Array Value := #[.int .i64 (x.1 : Nat), .int .i64 (x.2 : Nat)]
/-- The cells that the function writes: the reader's. -/
def TyR (o : Obj) : Prop := ∃ cs, o = .cells cs 66 (0, 0)
theorem tyR_cells (o : Obj) (h : TyR o) : o.isCells = true := by
  obtain ⟨cs, rfl⟩ := h
  rfl
/-- Where a reader stands. -/
def rdAt (W : World) (Br : Nat) : Nat := match W.cell? ⟨Br, 1, none⟩ with
  | some (.int _ z) => z.toNat
  | _ => 0
theorem RdS.rdAt {W : World} {Br p : Nat} {s : ByteArray} {br : Bool} (h : RdS W Br s p br) : Go.Proofs.YtidnldchdahgeaaDoor.rdAt W Br = p := by
  unfold Go.Proofs.YtidnldchdahgeaaDoor.rdAt
  rw [h.at_]
  exact Int.toNat_natCast p
theorem limC_in (c : Nat) : limC c ≤ 1099511627776 := by unfold limC; split <;> omega
theorem numbers_any (Br : Nat) (W : World) : Calls Tryd.prog 45 #[.pointer (some ⟨Br, 0, none⟩)] W fun e w' =>
    e = .returned (.func (.func 52) #[] #[.pointer (some ⟨W.heap.size, 0, none⟩)]) ∧ w' = W.alloc (.cells #[.pointer (some ⟨Br, 0, none⟩)] 77) := by
  go_enter Tryd.func45, Tryd.ntmps45
  go_wp2
  go_ret
  exact ⟨rfl, rfl⟩
set_option maxRecDepth 100000 in
set_option maxHeartbeats 8000000 in
theorem numbers1_in (n₁ : Nat) (hn₁ : 2 ≤ n₁) (l Bp Br : Nat) (s : ByteArray) (hs : s.size ≤ 140737488355328) (hbp : Bp ≠ Br) (J : List (Nat × Nat) → World → Prop) (W : World) (hJ : Bears TyR W.heap.size J)
    (hBears : ∀ s X Y, J s X → X.grownBy Y (some Br) → J s Y)
    (hY : ∀ pre x X, J pre X → pre ++ [x] <+: (colsT 0 (rest s 0)).1 → YieldAt Fence.wide (n₁ - 1) Tryd.prog l (enc2 x) X fun e Y => e = .returned (.bool true) ∧ J (pre ++ [x]) Y ∧ KpS (fun k => k = Br ∨ k = Bp) X Y)
    (hb : Boxed W Bp 77 (.pointer (some ⟨Br, 0, none⟩))) (hrd : RdS W Br s 0 false) (h0 : J [] W) :
    CallsIn Fence.wide n₁ Tryd.prog 52 #[.func (.yield l) #[] #[], .pointer (some ⟨Bp, 0, none⟩)] W fun e Y => (∃ v, e = .returned v) ∧ J (colsT 0 (rest s 0)).1 Y ∧ ∃ p, RdS Y Br s p (colsT 0 (rest s 0)).2 := by
  have HJ := Lib.hid hJ
  have HBe := Lib.hid hBears
  have HY := Lib.hid hY
  have HB := Lib.hid hb
  have HRd := Lib.hid hrd
  have H0 := Lib.hid h0
  have HNe := Lib.hid hbp
  have HSz := Lib.hid hs
  obtain ⟨⟨cs0, brk0⟩, hT⟩ : ∃ T, colsT 0 (rest s 0) = T := ⟨_, rfl⟩
  rw [hT] at HY
  rw [hT]
  have HT0 := Lib.hid hT
  have hmx := mixedP
  have hn1 : 1 ≤ n₁ := by omega
  clear hJ hBears hY hb hrd h0 hbp hT hs
  refine callsIn_of_wp Tryd.func52 rfl trivial ?_ rfl
  simp only [Tryd.ntmps52, List.size_toArray, List.length_cons, List.length_nil, Nat.reduceAdd, Nat.reduceSub, Array.replicate_succ, Array.replicate_zero, List.push_toArray, List.append_toArray, List.nil_append, List.cons_append]
  gi_wp2
  gi_loopw [3] (fun cv wr => ∃ (pre : List (Nat × Nat)) (c p : Nat), cv = .int .i64 (c : Nat) ∧ c < 4 ∧ p ≤ s.size ∧ Hid ((cs0, brk0) = (pre ++ (colsT c (rest s p)).1, (colsT c (rest s p)).2)) ∧ Hid (RdS wr Br s p false) ∧ Hid (Boxed wr Bp 77 (.pointer (some ⟨Br, 0, none⟩))) ∧ Hid (J pre wr))
    (fun _ wr => s.size - rdAt wr Br)
  case atStart => exact ⟨[], 0, 0, rfl, by omega, Nat.zero_le _, Lib.hid (by rw [HT0.out]; rfl), HRd, HB, H0⟩
  case round =>
    obtain ⟨pre, c, p, rfl, hc4, hps, HT, HRd, HB, HJp⟩ := hrel
    have cb := HB.out.cell
    have ct := HRd.out.text
    have ca := HRd.out.at_
    by_cases hend : c = 0 ∧ p = s.size
    · obtain ⟨rfl, rfl⟩ := hend
      have f0 : decide (s.size < s.size) = false := decide_eq_false (Nat.lt_irrefl _)
      have hT := HT.out
      rw [rest_nil (Nat.le_refl _), cols_nil, List.append_nil] at hT
      have HTe := Lib.hid hT
      clear hT
      gi_wp2
      gi_quiet (fail)
      have HJb := Lib.hid (HJ.out _ _ _ none HJp.out (Up.grownBy (Up.drewN wr nq)) (fun r e => by cases e))
      have HRb := Lib.hid (HRd.out.up (Up.drewN wr nq))
      gi_wp2
      go_end0
      have hT := HTe.out
      simp only [Prod.mk.injEq] at hT
      obtain ⟨e1, e2⟩ := hT
      refine ⟨⟨_, rfl⟩, ?_, s.size, ?_⟩
      · show J cs0 _
        rw [e1]; exact HJb.out
      · show RdS _ Br s _ brk0
        rw [e2]; exact HRb.out
    · have hgo : 0 < c ∨ p < s.size := by omega
      have HNo := Lib.hid (show ¬ (c = 0 ∧ rest s p = []) from fun h => by
        rcases hgo with h1 | h1
        · omega
        · exact rest_ne h1 h.2)
      have HBh := Lib.hid (fun W => behind_any c W)
      by_cases hc1 : c = 1
      · have e1 : ((c : Int) == 1) = true := beq_iff_eq.2 (by omega)
        have e0 : (0 : Int) < (c : Int) := by omega
        have e0b : 0 < c := by omega
        have HLim := Lib.hid (show ((limC c : Nat) : Int) = 255 by rw [hc1]; rfl)
        clear hc1 hend hgo
        have HNum := Lib.hid (fun W (h : RdS W Br s p false) => show Calls Tryd.prog 53 #[.pointer (some ⟨Br, 0, none⟩), .int .i64 255, .int .u8 ((endB c).toNat : Nat)] W fun e w' => ∃ (z : Int) (p' : Nat) (br : Bool), e = .returned (.int .i64 z) ∧ RdS w' Br s p' br ∧ W.grownBy w' (some Br) ∧ ((br = true ∧ numT (limC c) (endB c) (rest s p) = none) ∨ (br = false ∧ ∃ v : Nat, z = v ∧ numT (limC c) (endB c) (rest s p) = some (v, rest s p') ∧ p < p' ∧ p' ≤ s.size)) from by
          have h1 := number_any s HSz.out p hps (endB c) (limC c) (limC_in c) Br W h
          rw [HLim.out] at h1
          exact h1)
        gi_wp2
        gi_quiet (fail)
        have hrd := HRd.out.up (Up.drewN wr nq)
        have hbx := Boxed.kept HB.out (Up.grownBy (Up.drewN wr nq)) (fun e => by cases e)
        have hjj := HJ.out _ _ _ none HJp.out (Up.grownBy (Up.drewN wr nq)) (fun r e => by cases e)
        obtain ⟨wq, hwq⟩ : ∃ x, wr.drewN nq = x := ⟨_, rfl⟩
        rw [hwq] at hrd hbx hjj
        simp only [hwq]
        clear hwq ct ca
        have HRq := Lib.hid (hrd.up (Up.drew wq))
        have HBq := Lib.hid (Boxed.kept hbx (Up.grownBy (Up.drew wq)) (fun e => by cases e))
        have HJq := Lib.hid (HJ.out _ _ _ none hjj (Up.grownBy (Up.drew wq)) (fun r e => by cases e))
        have cb := hbx.cell
        clear hrd hbx hjj
        gi_wp2
        gi_region_with_o (first
          | (refine ⟨trivial, ?_⟩; gi_at_call 43; ((with_reducible refine ((callsIn_wide (n := n₁ - 1)).2 (HBh.out _)).mono ?_); rintro e w5 ⟨rfl, rfl⟩))
          | (refine ⟨trivial, ?_⟩; gi_at_call 53; ((with_reducible refine ((callsIn_wide (n := n₁ - 1)).2 (HNum.out _ HRq.out)).mono ?_); rintro e w6 ⟨z, p', br, rfl, hr6, hg6, hbr⟩)))
        all_goals
          have HR6 := Lib.hid hr6
          have cbr := hr6.br
          have hb6 := Boxed.kept HBq.out hg6 (fun e => by injection e with e; exact HNe.out e)
          have cb6 := hb6.cell
          have HB6 := Lib.hid hb6
          have HJ6 := Lib.hid (HBe.out _ _ _ HJq.out hg6)
          clear hr6 hg6 hb6 cb
          rcases hbr with ⟨rfl, hno⟩ | ⟨rfl, v, rfl, hso, hpp, hps'⟩
          · have hT := HT.out
            rw [cols_bad HNo.out hno, List.append_nil] at hT
            have HTe := Lib.hid hT
            clear hT hno
            gi_wp2
            refine ⟨fun _ h => (by cases h), ?_⟩
            gi_wp2
            refine bodyPost_ret (results_none rfl _ _ _) rfl ?_
            have hT := HTe.out
            simp only [Prod.mk.injEq] at hT
            obtain ⟨e1, e2⟩ := hT
            refine ⟨⟨_, rfl⟩, ?_, p', ?_⟩
            · show J cs0 _
              rw [e1]; exact HJ6.out
            · show RdS _ Br s _ brk0
              rw [e2]; exact HR6.out
          · have hT := HT.out
            rw [cols_num hso] at hT
            have HTe := Lib.hid (show (cs0, brk0) = ((pre ++ [(c, v)]) ++ (colsT ((c + 1) % 4) (rest s p')).1, (colsT ((c + 1) % 4) (rest s p')).2) by rw [hT, List.append_assoc]; rfl)
            have hcs : cs0 = (pre ++ [(c, v)]) ++ (colsT ((c + 1) % 4) (rest s p')).1 := congrArg Prod.fst HTe.out
            obtain ⟨fn, tmps, assign, body, hy, hR⟩ := HY.out pre (c, v) w6 HJ6.out ⟨_, hcs.symm⟩
            have HP' := Lib.hid (And.intro hpp hps')
            have m1 : ((c : Int) + 1) % 4 = (((c + 1) % 4 : Nat) : Int) := by omega
            have m2 : IntKind.i64.wrap ((c : Int) + 1) = (c : Int) + 1 := IntWalk.i64_in _ (by omega)
            clear hT hso hcs hpp hps'
            gi_wp2
            refine hR.mono ?_
            rintro e w7 ⟨rfl, hJ7, hk7⟩
            have HR7 := Lib.hid (show RdS w7 Br s p' false from hk7 Br (.inl rfl) _ _ _ HR6.out)
            have HB7 := Lib.hid (show Boxed w7 Bp _ _ from hk7 Bp (.inr rfl) _ _ _ HB6.out)
            have HJ7 := Lib.hid hJ7
            clear hJ7 hk7 hR hy
            gi_wp2
            go_roundw
            case rel => exact ⟨pre ++ [(c, v)], (c + 1) % 4, p', by first | rfl | exact congrArg _ m1 | go_num, by omega, HP'.out.2, HTe, HR7, HB7, HJ7⟩
            case measure => rw [HR7.out.rdAt, HRd.out.rdAt]; have := HP'.out; omega
      · have e1 : ((c : Int) == 1) = false := beq_false_of_ne (by omega)
        have HLim := Lib.hid (show ((limC c : Nat) : Int) = 1099511627776 by unfold limC; rw [if_neg hc1]; rfl)
        by_cases hc0 : c = 0
        · have e0 : decide ((0 : Int) < (c : Int)) = false := decide_eq_false (by omega)
          have e0b : decide (0 < c) = false := decide_eq_false (by omega)
          have e2 : (p : Int) < (s.size : Int) := by omega
          clear hc1 hend hgo hc0
          have HNum := Lib.hid (fun W (h : RdS W Br s p false) => show Calls Tryd.prog 53 #[.pointer (some ⟨Br, 0, none⟩), .int .i64 1099511627776, .int .u8 ((endB c).toNat : Nat)] W fun e w' => ∃ (z : Int) (p' : Nat) (br : Bool), e = .returned (.int .i64 z) ∧ RdS w' Br s p' br ∧ W.grownBy w' (some Br) ∧ ((br = true ∧ numT (limC c) (endB c) (rest s p) = none) ∨ (br = false ∧ ∃ v : Nat, z = v ∧ numT (limC c) (endB c) (rest s p) = some (v, rest s p') ∧ p < p' ∧ p' ≤ s.size)) from by
            have h1 := number_any s HSz.out p hps (endB c) (limC c) (limC_in c) Br W h
            rw [HLim.out] at h1
            exact h1)
          gi_wp2
          gi_quiet (fail)
          have hrd := HRd.out.up (Up.drewN wr nq)
          have hbx := Boxed.kept HB.out (Up.grownBy (Up.drewN wr nq)) (fun e => by cases e)
          have hjj := HJ.out _ _ _ none HJp.out (Up.grownBy (Up.drewN wr nq)) (fun r e => by cases e)
          obtain ⟨wq, hwq⟩ : ∃ x, wr.drewN nq = x := ⟨_, rfl⟩
          rw [hwq] at hrd hbx hjj
          simp only [hwq]
          clear hwq ct ca
          have HRq := Lib.hid (hrd.up (Up.drew wq))
          have HBq := Lib.hid (Boxed.kept hbx (Up.grownBy (Up.drew wq)) (fun e => by cases e))
          have HJq := Lib.hid (HJ.out _ _ _ none hjj (Up.grownBy (Up.drew wq)) (fun r e => by cases e))
          have cb := hbx.cell
          clear hrd hbx hjj
          gi_wp2
          gi_region_with_o (first
            | (refine ⟨trivial, ?_⟩; gi_at_call 43; ((with_reducible refine ((callsIn_wide (n := n₁ - 1)).2 (HBh.out _)).mono ?_); rintro e w5 ⟨rfl, rfl⟩))
            | (refine ⟨trivial, ?_⟩; gi_at_call 53; ((with_reducible refine ((callsIn_wide (n := n₁ - 1)).2 (HNum.out _ HRq.out)).mono ?_); rintro e w6 ⟨z, p', br, rfl, hr6, hg6, hbr⟩)))
          all_goals
            have HR6 := Lib.hid hr6
            have cbr := hr6.br
            have hb6 := Boxed.kept HBq.out hg6 (fun e => by injection e with e; exact HNe.out e)
            have cb6 := hb6.cell
            have HB6 := Lib.hid hb6
            have HJ6 := Lib.hid (HBe.out _ _ _ HJq.out hg6)
            clear hr6 hg6 hb6 cb
            rcases hbr with ⟨rfl, hno⟩ | ⟨rfl, v, rfl, hso, hpp, hps'⟩
            · have hT := HT.out
              rw [cols_bad HNo.out hno, List.append_nil] at hT
              have HTe := Lib.hid hT
              clear hT hno
              gi_wp2
              refine ⟨fun _ h => (by cases h), ?_⟩
              gi_wp2
              refine bodyPost_ret (results_none rfl _ _ _) rfl ?_
              have hT := HTe.out
              simp only [Prod.mk.injEq] at hT
              obtain ⟨e1, e2⟩ := hT
              refine ⟨⟨_, rfl⟩, ?_, p', ?_⟩
              · show J cs0 _
                rw [e1]; exact HJ6.out
              · show RdS _ Br s _ brk0
                rw [e2]; exact HR6.out
            · have hT := HT.out
              rw [cols_num hso] at hT
              have HTe := Lib.hid (show (cs0, brk0) = ((pre ++ [(c, v)]) ++ (colsT ((c + 1) % 4) (rest s p')).1, (colsT ((c + 1) % 4) (rest s p')).2) by rw [hT, List.append_assoc]; rfl)
              have hcs : cs0 = (pre ++ [(c, v)]) ++ (colsT ((c + 1) % 4) (rest s p')).1 := congrArg Prod.fst HTe.out
              obtain ⟨fn, tmps, assign, body, hy, hR⟩ := HY.out pre (c, v) w6 HJ6.out ⟨_, hcs.symm⟩
              have HP' := Lib.hid (And.intro hpp hps')
              have m1 : ((c : Int) + 1) % 4 = (((c + 1) % 4 : Nat) : Int) := by omega
              have m2 : IntKind.i64.wrap ((c : Int) + 1) = (c : Int) + 1 := IntWalk.i64_in _ (by omega)
              clear hT hso hcs hpp hps'
              gi_wp2
              refine hR.mono ?_
              rintro e w7 ⟨rfl, hJ7, hk7⟩
              have HR7 := Lib.hid (show RdS w7 Br s p' false from hk7 Br (.inl rfl) _ _ _ HR6.out)
              have HB7 := Lib.hid (show Boxed w7 Bp _ _ from hk7 Bp (.inr rfl) _ _ _ HB6.out)
              have HJ7 := Lib.hid hJ7
              clear hJ7 hk7 hR hy
              gi_wp2
              go_roundw
              case rel => exact ⟨pre ++ [(c, v)], (c + 1) % 4, p', by first | rfl | exact congrArg _ m1 | go_num, by omega, HP'.out.2, HTe, HR7, HB7, HJ7⟩
              case measure => rw [HR7.out.rdAt, HRd.out.rdAt]; have := HP'.out; omega
        · have e0 : (0 : Int) < (c : Int) := by omega
          have e0b : 0 < c := by omega
          clear hc1 hend hgo hc0
          have HNum := Lib.hid (fun W (h : RdS W Br s p false) => show Calls Tryd.prog 53 #[.pointer (some ⟨Br, 0, none⟩), .int .i64 1099511627776, .int .u8 ((endB c).toNat : Nat)] W fun e w' => ∃ (z : Int) (p' : Nat) (br : Bool), e = .returned (.int .i64 z) ∧ RdS w' Br s p' br ∧ W.grownBy w' (some Br) ∧ ((br = true ∧ numT (limC c) (endB c) (rest s p) = none) ∨ (br = false ∧ ∃ v : Nat, z = v ∧ numT (limC c) (endB c) (rest s p) = some (v, rest s p') ∧ p < p' ∧ p' ≤ s.size)) from by
            have h1 := number_any s HSz.out p hps (endB c) (limC c) (limC_in c) Br W h
            rw [HLim.out] at h1
            exact h1)
          gi_wp2
          gi_quiet (fail)
          have hrd := HRd.out.up (Up.drewN wr nq)
          have hbx := Boxed.kept HB.out (Up.grownBy (Up.drewN wr nq)) (fun e => by cases e)
          have hjj := HJ.out _ _ _ none HJp.out (Up.grownBy (Up.drewN wr nq)) (fun r e => by cases e)
          obtain ⟨wq, hwq⟩ : ∃ x, wr.drewN nq = x := ⟨_, rfl⟩
          rw [hwq] at hrd hbx hjj
          simp only [hwq]
          clear hwq ct ca
          have HRq := Lib.hid (hrd.up (Up.drew wq))
          have HBq := Lib.hid (Boxed.kept hbx (Up.grownBy (Up.drew wq)) (fun e => by cases e))
          have HJq := Lib.hid (HJ.out _ _ _ none hjj (Up.grownBy (Up.drew wq)) (fun r e => by cases e))
          have cb := hbx.cell
          clear hrd hbx hjj
          gi_wp2
          gi_region_with_o (first
            | (refine ⟨trivial, ?_⟩; gi_at_call 43; ((with_reducible refine ((callsIn_wide (n := n₁ - 1)).2 (HBh.out _)).mono ?_); rintro e w5 ⟨rfl, rfl⟩))
            | (refine ⟨trivial, ?_⟩; gi_at_call 53; ((with_reducible refine ((callsIn_wide (n := n₁ - 1)).2 (HNum.out _ HRq.out)).mono ?_); rintro e w6 ⟨z, p', br, rfl, hr6, hg6, hbr⟩)))
          all_goals
            have HR6 := Lib.hid hr6
            have cbr := hr6.br
            have hb6 := Boxed.kept HBq.out hg6 (fun e => by injection e with e; exact HNe.out e)
            have cb6 := hb6.cell
            have HB6 := Lib.hid hb6
            have HJ6 := Lib.hid (HBe.out _ _ _ HJq.out hg6)
            clear hr6 hg6 hb6 cb
            rcases hbr with ⟨rfl, hno⟩ | ⟨rfl, v, rfl, hso, hpp, hps'⟩
            · have hT := HT.out
              rw [cols_bad HNo.out hno, List.append_nil] at hT
              have HTe := Lib.hid hT
              clear hT hno
              gi_wp2
              refine ⟨fun _ h => (by cases h), ?_⟩
              gi_wp2
              refine bodyPost_ret (results_none rfl _ _ _) rfl ?_
              have hT := HTe.out
              simp only [Prod.mk.injEq] at hT
              obtain ⟨e1, e2⟩ := hT
              refine ⟨⟨_, rfl⟩, ?_, p', ?_⟩
              · show J cs0 _
                rw [e1]; exact HJ6.out
              · show RdS _ Br s _ brk0
                rw [e2]; exact HR6.out
            · have hT := HT.out
              rw [cols_num hso] at hT
              have HTe := Lib.hid (show (cs0, brk0) = ((pre ++ [(c, v)]) ++ (colsT ((c + 1) % 4) (rest s p')).1, (colsT ((c + 1) % 4) (rest s p')).2) by rw [hT, List.append_assoc]; rfl)
              have hcs : cs0 = (pre ++ [(c, v)]) ++ (colsT ((c + 1) % 4) (rest s p')).1 := congrArg Prod.fst HTe.out
              obtain ⟨fn, tmps, assign, body, hy, hR⟩ := HY.out pre (c, v) w6 HJ6.out ⟨_, hcs.symm⟩
              have HP' := Lib.hid (And.intro hpp hps')
              have m1 : ((c : Int) + 1) % 4 = (((c + 1) % 4 : Nat) : Int) := by omega
              have m2 : IntKind.i64.wrap ((c : Int) + 1) = (c : Int) + 1 := IntWalk.i64_in _ (by omega)
              clear hT hso hcs hpp hps'
              gi_wp2
              refine hR.mono ?_
              rintro e w7 ⟨rfl, hJ7, hk7⟩
              have HR7 := Lib.hid (show RdS w7 Br s p' false from hk7 Br (.inl rfl) _ _ _ HR6.out)
              have HB7 := Lib.hid (show Boxed w7 Bp _ _ from hk7 Bp (.inr rfl) _ _ _ HB6.out)
              have HJ7 := Lib.hid hJ7
              clear hJ7 hk7 hR hy
              gi_wp2
              go_roundw
              case rel => exact ⟨pre ++ [(c, v)], (c + 1) % 4, p', by first | rfl | exact congrArg _ m1 | go_num, by omega, HP'.out.2, HTe, HR7, HB7, HJ7⟩
              case measure => rw [HR7.out.rdAt, HRd.out.rdAt]; have := HP'.out; omega
end Go.Proofs.YtidnldchdahgeaaDoor
