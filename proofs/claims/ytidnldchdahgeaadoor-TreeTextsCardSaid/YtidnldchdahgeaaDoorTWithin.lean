/- The nodes within a node, one after another: the program's within. -/
import Derived.Test.YtidnldchdahgeaaDoorTRange
import Derived.Test.YtidnldchdahgeaaDoorTHash
namespace Go.Proofs.YtidnldchdahgeaaDoor
open Go.RowKit Go.Shelf
attribute [local go_sem] Oper.semAt_some

set_option maxRecDepth 100000 in
set_option maxHeartbeats 4000000 in
theorem within1_in (n₁ : Nat) (hn₁ : 1 ≤ n₁) (l Bi Bl b o n c i : Nat) (L : List Nd) (S : Nat → Prop) (hSi : S Bi) (hSl : S Bl) (hSb : S b) (hin : i < n) (hn : n ≤ 10000) (J : List Nat → World → Prop) (W : World) (hJ : Bears (fun _ => False) W.heap.size J)
    (hY : ∀ pre x X, J pre X → pre ++ [x] <+: subL L n i → YieldAt Fence.wide (n₁ - 1) Tryd.prog l (encN x) X fun e Y => e = .returned (.bool true) ∧ J (pre ++ [x]) Y ∧ KpS S X Y)
    (hW : WitS W Bi Bl b o n c i L) (h0 : J [] W) :
    CallsIn Fence.wide n₁ Tryd.prog 50 #[.func (.yield l) #[] #[], .pointer (some ⟨Bi, 0, none⟩), .pointer (some ⟨Bl, 0, none⟩)] W fun e Y => (∃ v, e = .returned v) ∧ J (subL L n i) Y := by
  have HJ := Lib.hid hJ
  have HY := Lib.hid hY
  have HW := Lib.hid hW
  have H0 := Lib.hid h0
  have HS := Lib.hid (And.intro hSi (And.intro hSl hSb))
  have c0 := hW.bi.cell
  obtain ⟨D, hD⟩ : ∃ D, dep L i = D := ⟨_, rfl⟩
  have HD := Lib.hid hD
  have q0 : IntKind.i64.wrap ((i : Int) + 1) = (i : Int) + 1 := IntWalk.i64_in _ (by omega)
  clear hJ hY hW h0 hSi hSl hSb hD
  refine callsIn_of_wp Tryd.func50 rfl trivial ?_ rfl
  simp only [Tryd.ntmps50, List.size_toArray, List.length_cons, List.length_nil, Nat.reduceAdd, Nat.reduceSub, Array.replicate_succ, Array.replicate_zero, List.push_toArray, List.append_toArray, List.nil_append, List.cons_append]
  gi_wp2
  clear c0 q0
  gi_loopw [4] (fun jv wr => ∃ (pre : List Nat) (j : Nat), jv = .int .i64 (j : Nat) ∧ i < j ∧ j ≤ n ∧ Hid (subL L n i = pre ++ subR L i (n - j) j) ∧ Hid (WitS wr Bi Bl b o n c i L) ∧ Hid (J pre wr))
    (fun jv _ => n - (intOf jv).toNat)
  case atStart => exact ⟨[], i + 1, by go_num, by omega, by omega, Lib.hid rfl, HW, H0⟩
  case round =>
    obtain ⟨pre, j, rfl, hij, hj, HT, HW, HJp⟩ := hrel
    have cbl := HW.out.bl.cell
    have cbi := HW.out.bi.cell
    by_cases hlt : j < n
    · obtain ⟨a, o2, hA, -, -, -, -, y3⟩ := nds_nd HW.out.nds j hlt
      obtain ⟨rfl, rfl⟩ : a = b ∧ o2 = o := by injection hA with e; injection e with e1 e2; exact ⟨e1.symm, e2.symm⟩
      obtain ⟨a2, o3, hA2, -, -, -, -, x3⟩ := nds_nd HW.out.nds i hin
      obtain ⟨rfl, rfl⟩ : a2 = a ∧ o3 = o2 := by injection hA2 with e; injection e with e1 e2; exact ⟨e1.symm, e2.symm⟩
      obtain ⟨y, hy⟩ : ∃ y, dep L j = y := ⟨_, rfl⟩
      rw [show (nd L i).2.2.2 = D from HD.out] at x3
      rw [show (nd L j).2.2.2 = y from hy] at y3
      have hT := HT.out
      rw [show n - j = (n - (j + 1)) + 1 from by omega] at hT
      have hT2 : subL L n i = pre ++ (if D < y then j :: subR L i (n - (j + 1)) (j + 1) else []) := by rw [hT, ← HD.out, ← hy]; rfl
      have HT2 := Lib.hid hT2
      have j1 : (j : Int) < n := by omega
      have j2 : (i : Int) < n := by omega
      have j3 : (j : Int) + 1 ≤ 10001 := by omega
      clear hT hT2 hy hA hA2
      by_cases c1 : D < y
      · have hT3 := HT2.out
        rw [if_pos c1] at hT3
        have HT3 := Lib.hid (show subL L n i = (pre ++ [j]) ++ subR L i (n - (j + 1)) (j + 1) by rw [hT3, List.append_assoc]; rfl)
        clear hT3
        gi_wp2
        gi_quiet (fail)
        have HWb := Lib.hid (HW.out.up (Up.drewN wr nq))
        have HJb := Lib.hid (HJ.out _ _ _ none HJp.out (Up.grownBy (Up.drewN wr nq)) (fun r e => by cases e))
        obtain ⟨wb, hwb⟩ : ∃ wb, wr.drewN nq = wb := ⟨_, rfl⟩
        rw [hwb] at HWb HJb
        simp only [hwb]
        clear hwb y3 x3 cbl cbi
        obtain ⟨fn, tmps, assign, body, hy, hR⟩ := HY.out pre j wb HJb.out ⟨subR L i (n - (j + 1)) (j + 1), by rw [HT3.out]⟩
        gi_wp2
        refine hR.mono ?_
        rintro e w3 ⟨rfl, hJ3, hk3⟩
        have HW3 := Lib.hid (HWb.out.kp hk3 HS.out.1 HS.out.2.1 HS.out.2.2)
        have HJ3 := Lib.hid hJ3
        clear hJ3 hk3 hR hy
        gi_wp2
        go_roundw
        case rel => exact ⟨pre ++ [j], j + 1, by go_num, by omega, by omega, HT3, HW3, HJ3⟩
        case measure => simp [intOf]; omega
      · have f1 : decide (D < y) = false := decide_eq_false c1
        have hT3 := HT2.out
        rw [if_neg c1, List.append_nil] at hT3
        have HT3 := Lib.hid hT3
        clear hT3 c1
        gi_wp2
        gi_quiet (fail)
        have HJb := Lib.hid (HJ.out _ _ _ none HJp.out (Up.grownBy (Up.drewN wr nq)) (fun r e => by cases e))
        gi_wp2
        go_end0
        exact ⟨⟨_, rfl⟩, by rw [HT3.out]; exact HJb.out⟩
    · obtain rfl : j = n := by omega
      have f0 : decide (j < j) = false := decide_eq_false hlt
      have HT3 := Lib.hid (show subL L j i = pre by rw [HT.out, Nat.sub_self]; exact List.append_nil _)
      clear hlt
      gi_wp2
      gi_quiet (fail)
      have HJb := Lib.hid (HJ.out _ _ _ none HJp.out (Up.grownBy (Up.drewN wr nq)) (fun r e => by cases e))
      gi_wp2
      go_end0
      exact ⟨⟨_, rfl⟩, by rw [HT3.out]; exact HJb.out⟩
end Go.Proofs.YtidnldchdahgeaaDoor
