/- The program's turns: the places at which it changes whether places are kept, one after another. -/
import Derived.Test.YtbgdphjjepbafaaSRange
import Derived.Test.YtbgdphjjepbafaaSSorted
namespace Go.Proofs.Ytbgdphjjepbafaa
open Go.RowKit Go.Shelf
attribute [local go_sem] Oper.semAt_some

/-- What a round keeps: all cells that are no ranges, no list of ranges, no bool. -/
def KpT (X Y : World) : Prop := ∀ (b : Nat) (cs : Array Value) (t : TypeId), X.heap[b]? = some (Obj.cells cs t (0, 0)) → t ≠ 29 → t ≠ 22 → t ≠ 4 → Y.heap[b]? = some (Obj.cells cs t (0, 0))
theorem kpT_t {A B C : World} (h : KpT A B) (k : KpT B C) : KpT A C := fun b cs t e h1 h2 h3 => k b cs t (h b cs t e h1 h2 h3) h1 h2 h3
theorem kpT_b (W : World) (l : Nat) (o o' : Obj) (hl : W.heap[l]? = some o) (ho : o.isCells = false) : KpT W (W.putObj l o') := fun b cs t e _ _ _ => by
  refine (World.putObj_heap_other (fun h => ?_)).trans e
  subst h
  rw [hl] at e
  cases e
  cases ho
/-- The cells that the function writes: how many ranges of each list are open. -/
def TyO (o : Obj) : Prop := ∃ cs, o = .cells cs 56 (0, 0)
theorem tyO_cells (o : Obj) (h : TyO o) : o.isCells = true := by
  obtain ⟨cs, rfl⟩ := h
  rfl
abbrev encI (x : Int) : Array Value := #[.int .i64 x]
/-- What is kept of an end when the others are gone through. -/
structure TurnS (W : World) (Be Bk g cp gk : Nat) (E : List Ev) : Prop where
  be : Boxed W Be 52 (.slice (some ⟨g, 0, none⟩) E.length cp)
  bk : Boxed W Bk 41 (.func (.func gk) #[] #[])
  ev : EvAt W g E
theorem TurnS.of {W W' : World} {Be Bk g cp gk : Nat} {E : List Ev} (h : TurnS W Be Bk g cp gk E) (hk : ∀ (b : Nat) (cs : Array Value) (t : TypeId), W.heap[b]? = some (Obj.cells cs t (0, 0)) → t ≠ 29 → t ≠ 22 → t ≠ 4 → t ≠ 56 → W'.heap[b]? = some (Obj.cells cs t (0, 0))) : TurnS W' Be Bk g cp gk E :=
  ⟨hk _ _ _ h.be (by decide) (by decide) (by decide) (by decide), hk _ _ _ h.bk (by decide) (by decide) (by decide) (by decide), h.ev.of_heap fun _ e => hk _ _ _ e (by decide) (by decide) (by decide) (by decide)⟩
theorem TurnS.kp {W W' : World} {Be Bk g cp gk : Nat} {E : List Ev} (h : TurnS W Be Bk g cp gk E) (hk : KpT W W') : TurnS W' Be Bk g cp gk E := h.of fun b cs t e h1 h2 h3 _ => hk b cs t e h1 h2 h3
theorem TurnS.up {W W' : World} {Be Bk g cp gk : Nat} {E : List Ev} (h : TurnS W Be Bk g cp gk E) (hu : Up W W') : TurnS W' Be Bk g cp gk E := h.of fun b _ _ e _ _ _ _ => (Below.block hu b (Array.getElem?_eq_some_iff.1 e).1).trans e

theorem set_other {W : World} {B j b : Nat} {v : Value} (h : b ≠ B) : ((W.setCell ⟨B, j, none⟩ v).drew).heap[b]? = W.heap[b]? := Below.heap_setCell _ _ _ b (fun e => h e)
theorem set_grown (W : World) (B j : Nat) (v : Value) : W.grownBy ((W.setCell ⟨B, j, none⟩ v).drew) (some B) :=
  ⟨rfl, rfl, rfl, (KeepsWalks.setCell W _ v).size, fun k _ hk => set_other (fun e => hk (by rw [e]))⟩
theorem TurnS.set {W : World} {Be Bk g cp gk : Nat} {E : List Ev} (h : TurnS W Be Bk g cp gk E) (B j : Nat) (v : Value) {cs0 : Array Value} (hB : W.heap[B]? = some (Obj.cells cs0 56 (0, 0))) : TurnS ((W.setCell ⟨B, j, none⟩ v).drew) Be Bk g cp gk E := h.of fun b _ _ e _ _ _ h4 => by
  refine (set_other (fun hb => ?_)).trans e
  subst hb
  rw [hB] at e
  cases e
  exact h4 rfl
theorem open_set0 {W : World} {B : Nat} {x y u : Int} (h : W.heap[B]? = some (Obj.cells #[.int .i64 x, .int .i64 y] 56 (0, 0))) : ((W.setCell ⟨B, 0, none⟩ (.int .i64 u)).drew).heap[B]? = some (Obj.cells #[.int .i64 u, .int .i64 y] 56 (0, 0)) := by
  show (W.heap.modify B _)[B]? = _
  rw [Array.getElem?_modify, if_pos rfl, h]
  rfl
theorem open_set1 {W : World} {B : Nat} {x y u : Int} (h : W.heap[B]? = some (Obj.cells #[.int .i64 x, .int .i64 y] 56 (0, 0))) : ((W.setCell ⟨B, 1, none⟩ (.int .i64 u)).drew).heap[B]? = some (Obj.cells #[.int .i64 x, .int .i64 u] 56 (0, 0)) := by
  show (W.heap.modify B _)[B]? = _
  rw [Array.getElem?_modify, if_pos rfl, h]
  rfl
theorem set_cell {W : World} {B N j q : Nat} {v u : Value} (h : B < N) (hc : W.cell? ⟨N, q, none⟩ = some u) : ((W.setCell ⟨B, j, none⟩ v).drew).cell? ⟨N, q, none⟩ = some u := (World.cell?_of_block (set_other (show N ≠ B by omega))).trans hc
set_option maxRecDepth 100000 in
set_option maxHeartbeats 4000000 in
theorem turns1_in (n : Nat) (hn : 1 ≤ n) (l Be Bk g cp gk : Nat) (K : Bool → Bool → Bool) (eg : ∀ args w, (callFunc gk args).run Try.prog w = .ok (.enter gk args) w) (hK : ∀ x y W, Calls Try.prog gk #[.bool x, .bool y] W fun e w' => e = .returned (.bool (K x y)) ∧ W = w')
    (E : List Ev) (hE : E.length ≤ 100000) (hok : ∀ e ∈ E, EvOk e) (J : List Int → World → Prop) (W : World) (hJ : Bears TyO W.heap.size J)
    (hY : ∀ pre x X, J pre X → pre ++ [x] <+: turnsOf K E → YieldAt Fence.wide (n - 1) Try.prog l (encI x) X fun e Y => e = .returned (.bool true) ∧ J (pre ++ [x]) Y ∧ KpT X Y)
    (hS : TurnS W Be Bk g cp gk E) (h0 : J [] W) :
    CallsIn Fence.wide n Try.prog 42 #[.func (.yield l) #[] #[], .pointer (some ⟨Be, 0, none⟩), .pointer (some ⟨Bk, 0, none⟩)] W fun e Y => (∃ v, e = .returned v) ∧ J (turnsOf K E) Y := by
  have HJ := Lib.hid hJ
  have HY := Lib.hid hY
  have HKp := Lib.hid hK
  have HOk := Lib.hid hok
  have hu := Up.alloc W (.cells #[.int .i64 0, .int .i64 0] 56)
  have HS := Lib.hid (hS.up hu)
  have c0 := HS.out.be.cell
  have HJ0 := Lib.hid (hJ _ _ _ none h0 (World.grownBy_alloc W (.cells #[.int .i64 0, .int .i64 0] 56) none) (fun r e => by cases e))
  obtain ⟨B0, hB0⟩ : ∃ B0, W.heap.size = B0 := ⟨_, rfl⟩
  have HB0 := Lib.hid hB0
  have HO := Lib.hid (show (W.alloc (.cells #[.int .i64 0, .int .i64 0] 56)).heap[B0]? = some (.cells #[.int .i64 0, .int .i64 0] 56 (0, 0)) by rw [← hB0]; exact Go.heap_alloc_new _ _)
  clear hJ hS h0 hY hK hok hu
  refine callsIn_of_wp Try.func42 rfl trivial ?_ rfl
  simp only [Try.ntmps42, List.size_toArray, List.length_cons, List.length_nil, Nat.reduceAdd, Nat.reduceSub, Array.replicate_succ, Array.replicate_zero, List.push_toArray, List.append_toArray, List.nil_append, List.cons_append]
  gi_wp2
  clear hB0 c0
  gi_loopw [5, 6, 7, 10] (fun kv _ _ iv wr => ∃ (pre : List Int) (i : Nat) (x y : Int) (k : Bool), kv = .bool k ∧ iv = .int .i64 (i : Nat) ∧ i ≤ E.length ∧ Hid (turnsOf K E = pre ++ tf K (E.drop i) x y k) ∧ Hid (-(i : Int) ≤ x ∧ x ≤ i ∧ -(i : Int) ≤ y ∧ y ≤ i) ∧ Hid (wr.heap[B0]? = some (.cells #[.int .i64 x, .int .i64 y] 56 (0, 0))) ∧ Hid (TurnS wr Be Bk g cp gk E) ∧ Hid (J pre wr))
    (fun _ _ _ iv _ => E.length - (intOf iv).toNat)
  case atStart => exact ⟨[], 0, 0, 0, false, rfl, rfl, Nat.zero_le _, Lib.hid rfl, Lib.hid (by omega), HO, HS, HJ0⟩
  case round =>
    obtain ⟨pre, i, x, y, k, rfl, rfl, hi, HT, HB, HO, HS, HJp⟩ := hrel
    by_cases hlt : i < E.length
    · obtain ⟨ev, hev⟩ : ∃ ev, E[i] = ev := ⟨_, rfl⟩
      have hat := HS.out.ev.at_ i hlt
      have hok := HOk.out _ (List.getElem_mem hlt)
      have HD := Lib.hid (show E.drop i = ev :: E.drop (i + 1) by rw [List.drop_eq_getElem_cons hlt, hev])
      rw [hev] at hat hok
      obtain ⟨a, l0, b⟩ := ev
      obtain ⟨d0, d1, d2⟩ := hat
      dsimp only at d0 d1 d2
      obtain ⟨q1, q2, q3, q4⟩ := hok
      dsimp only at q1 q2 q3 q4
      have hu := Up.alloc wr (.cells #[.int .i64 a, .int .i64 l0, .int .i64 b] 58)
      have HSa := Lib.hid (HS.out.up hu)
      have HOa := Lib.hid ((Below.block hu B0 (Array.getElem?_eq_some_iff.1 HO.out).1).trans HO.out)
      have o0 : (wr.alloc (.cells #[.int .i64 a, .int .i64 l0, .int .i64 b] 58)).cell? ⟨B0, 0, none⟩ = some (.int .i64 x) := by simp [World.cell?, HOa.out]
      have o1 : (wr.alloc (.cells #[.int .i64 a, .int .i64 l0, .int .i64 b] 58)).cell? ⟨B0, 1, none⟩ = some (.int .i64 y) := by simp [World.cell?, HOa.out]
      have o2 : (wr.alloc (.cells #[.int .i64 a, .int .i64 l0, .int .i64 b] 58)).frozen? ⟨B0, 0, none⟩ = false := by simp [World.frozen?, HOa.out]
      have o3 : (wr.alloc (.cells #[.int .i64 a, .int .i64 l0, .int .i64 b] 58)).frozen? ⟨B0, 1, none⟩ = false := by simp [World.frozen?, HOa.out]
      have HJa := Lib.hid (HJ.out _ _ _ none HJp.out (World.grownBy_alloc wr (.cells #[.int .i64 a, .int .i64 l0, .int .i64 b] 58) none) (fun r e => by cases e))
      have n0 : (wr.alloc (.cells #[.int .i64 a, .int .i64 l0, .int .i64 b] 58)).cell? ⟨wr.heap.size, 0, none⟩ = some (.int .i64 a) := cellOf (Go.heap_alloc_new _ _) rfl
      have n1 : (wr.alloc (.cells #[.int .i64 a, .int .i64 l0, .int .i64 b] 58)).cell? ⟨wr.heap.size, 1, none⟩ = some (.int .i64 l0) := cellOf (Go.heap_alloc_new _ _) rfl
      have n2 : (wr.alloc (.cells #[.int .i64 a, .int .i64 l0, .int .i64 b] 58)).cell? ⟨wr.heap.size, 2, none⟩ = some (.int .i64 b) := cellOf (Go.heap_alloc_new _ _) rfl
      have HN := Lib.hid (show B0 < wr.heap.size from (Array.getElem?_eq_some_iff.1 HO.out).1)
      rcases q3 with rfl | rfl
      · gi_wp2
        obtain ⟨wa, hwa⟩ : ∃ wa, wr.alloc (.cells #[.int .i64 a, .int .i64 0, .int .i64 b] 58) = wa := ⟨_, rfl⟩
        rw [hwa] at HSa HOa o0 o1 o2 o3 HJa n0 n1 n2
        simp only [hwa]
        obtain ⟨N, hN⟩ : ∃ N, wr.heap.size = N := ⟨_, rfl⟩
        rw [hN] at n0 n1 n2 HN
        simp only [hN]
        clear hwa hN hu d0 d1 d2
        have hw1 : IntKind.i64.wrap (x + b) = x + b := IntWalk.i64_in _ (by have := HB.out; omega)
        gi_region
        have HSb := Lib.hid (HSa.out.set B0 0 (.int .i64 (x + b)) HOa.out)
        have HOb := Lib.hid (open_set0 (u := x + b) HOa.out)
        have HJb := Lib.hid (HJ.out _ _ _ (some B0) HJa.out (set_grown wa B0 0 (.int .i64 (x + b))) (fun r e => by cases e; exact ⟨by rw [HB0.out]; exact Nat.le_refl _, _, HOa.out, _, rfl⟩))
        have m0 := set_cell (v := .int .i64 (x + b)) (j := 0) (B := B0) (by have := HN.out; omega) n0
        obtain ⟨wb, hwb⟩ : ∃ wb, (wa.setCell ⟨B0, 0, none⟩ (.int .i64 (x + b))).drew = wb := ⟨_, rfl⟩
        rw [hwb] at HSb HOb HJb m0
        simp only [hwb]
        clear hwb o0 o1 o2 o3 n0 n1 n2 hw1
        have HBn := Lib.hid (show -((i + 1 : Nat) : Int) ≤ x + b ∧ x + b ≤ (i + 1 : Nat) ∧ -((i + 1 : Nat) : Int) ≤ y ∧ y ≤ (i + 1 : Nat) by have := HB.out; omega)
        have HTn := Lib.hid (show turnsOf K E = pre ++ tf K ((a, 0, b) :: E.drop (i + 1)) x y k by rw [← HD.out]; exact HT.out)
        have HTs := Lib.hid (show nxt (a, 0, b) (E.drop (i + 1)) = true → tf K ((a, 0, b) :: E.drop (i + 1)) x y k = tf K (E.drop (i + 1)) (x + b) (y) k from fun h => by
          have := tf_same (K := K) (x := x) (y := y) (k := k) h
          simpa using this)
        have HTt := Lib.hid (show nxt (a, 0, b) (E.drop (i + 1)) = false → K (decide (0 < x + b)) (decide (0 < y)) = k → tf K ((a, 0, b) :: E.drop (i + 1)) x y k = tf K (E.drop (i + 1)) (x + b) (y) k from fun h h2 => by
          have := tf_stay (K := K) (x := x) (y := y) (k := k) h (by simpa using h2)
          simpa using this)
        have HTu := Lib.hid (show nxt (a, 0, b) (E.drop (i + 1)) = false → ¬ K (decide (0 < x + b)) (decide (0 < y)) = k → tf K ((a, 0, b) :: E.drop (i + 1)) x y k = a :: tf K (E.drop (i + 1)) (x + b) (y) (!k) from fun h h2 => by
          have := tf_turn (K := K) (x := x) (y := y) (k := k) h (by simpa using h2)
          simpa using this)
        obtain ⟨z, hz⟩ : ∃ z, x + b = z := ⟨_, rfl⟩
        rw [hz] at HTs HTt HTu HBn HOb
        simp only [hz]
        clear hz
        have hlen : (i : Int) + 1 ≤ 100000 := by omega
        have hw2 : IntKind.i64.wrap ((i : Int) + 1) = (i : Int) + 1 := IntWalk.i64_in _ (by omega)
        have cbe := HSb.out.be.cell
        by_cases hl1 : i + 1 < E.length
        · have hz := (HSb.out.ev.at_ (i + 1) hl1).1
          have hz1 : ((i : Int) + 1).toNat * 3 = (i + 1) * 3 := by omega
          obtain ⟨a2, ha2⟩ : ∃ a2, (E[i + 1]).1 = a2 := ⟨_, rfl⟩
          have HNx := Lib.hid (show nxt (a, 0, b) (E.drop (i + 1)) = decide (a2 = a) by rw [List.drop_eq_getElem_cons hl1, ← ha2]; rfl)
          rw [ha2] at hz
          have hl2 : (i : Int) + 1 < E.length := by omega
          clear ha2
          gi_wp2
          by_cases haa : a2 = a
          · subst haa
            have HTm := Lib.hid (show turnsOf K E = pre ++ tf K (E.drop (i + 1)) z y k by rw [← HTs.out (by rw [HNx.out]; exact decide_eq_true rfl)]; exact HTn.out)
            gi_region
            have HSc := Lib.hid (HSb.out.up (Up.drew wb))
            have HJc := Lib.hid (HJ.out _ _ _ none HJb.out (Up.grownBy (Up.drew wb)) (fun r e => by cases e))
            have HOc := Lib.hid (show wb.drew.heap[B0]? = _ from HOb.out)
            gi_wp2
            go_roundw
            case rel => exact ⟨pre, i + 1, z, y, k, rfl, by go_num, by omega, HTm, HBn, HOc, HSc, HJc⟩
            case measure => simp [intOf]; omega
          · have hab : (a2 == a) = false := beq_false_of_ne haa
            have HX := Lib.hid (show nxt (a, 0, b) (E.drop (i + 1)) = false by rw [HNx.out]; exact decide_eq_false haa)
            clear haa
            gi_region
            have HSc := Lib.hid (HSb.out.up (Up.drew wb))
            have HJc := Lib.hid (HJ.out _ _ _ none HJb.out (Up.grownBy (Up.drew wb)) (fun r e => by cases e))
            have HOc := Lib.hid (show wb.drew.heap[B0]? = _ from HOb.out)
            replace m0 := cell_up (Up.drew wb) m0
            obtain ⟨wc, hwc⟩ : ∃ wc, wb.drew = wc := ⟨_, rfl⟩
            rw [hwc] at HSc HJc HOc m0
            simp only [hwc]
            clear hwc
            have cbk := HSc.out.bk.cell
            have p0 : wc.cell? ⟨B0, 0, none⟩ = some (.int .i64 z) := by simp [World.cell?, HOc.out]
            have p1 : wc.cell? ⟨B0, 1, none⟩ = some (.int .i64 y) := by simp [World.cell?, HOc.out]
            obtain ⟨q, hq⟩ : ∃ q, K (decide (0 < z)) (decide (0 < y)) = q := ⟨_, rfl⟩
            have HKq := Lib.hid (fun W => hq ▸ HKp.out (decide (0 < z)) (decide (0 < y)) W)
            have HQ := Lib.hid hq
            clear hq
            by_cases hqk : q = k
            · subst hqk
              have HTm := Lib.hid (show turnsOf K E = pre ++ tf K (E.drop (i + 1)) z y q by rw [← HTt.out HX.out HQ.out]; exact HTn.out)
              gi_wp2_with (refine ⟨trivial, ?_⟩; gi_at_fn gk; ((with_reducible refine ((callsIn_wide (n := n - 1)).2 (HKq.out _)).mono ?_); rintro e w1 ⟨rfl, rfl⟩))
              go_roundw
              case rel => exact ⟨pre, i + 1, z, y, q, rfl, by go_num, by omega, HTm, HBn, HOc, HSc, HJc⟩
              case measure => simp [intOf]; omega
            · have HTm := Lib.hid (show turnsOf K E = pre ++ a :: tf K (E.drop (i + 1)) z y (!k) by rw [← HTu.out HX.out (by rw [HQ.out]; exact hqk)]; exact HTn.out)
              have hY1 := HY.out pre a wc HJc.out ⟨tf K (E.drop (i + 1)) z y (!k), by rw [HTm.out]; simp⟩
              obtain ⟨fn, tmps, assign, body, hy, hR⟩ := hY1
              dsimp only [encI] at hy
              have hR' := Lib.hid hR
              clear hR
              cases k <;> cases q <;> first | exact absurd rfl hqk | skip
              all_goals
                clear hqk
                gi_wp2_with (refine ⟨trivial, ?_⟩; gi_at_fn gk; ((with_reducible refine ((callsIn_wide (n := n - 1)).2 (HKq.out _)).mono ?_); rintro e w1 ⟨rfl, rfl⟩))
                refine hR'.out.mono ?_
                rintro e W3 ⟨rfl, hJ3, hk3⟩
                have HS3 := Lib.hid (HSc.out.kp hk3)
                have HO3 := Lib.hid (hk3 _ _ _ HOc.out (by decide) (by decide) (by decide))
                have HJ3 := Lib.hid hJ3
                clear hJ3 hk3 hy p0 p1 m0 cbk
                gi_wp2
                go_roundw
                case rel => exact ⟨pre ++ [a], i + 1, z, y, _, rfl, by go_num, by omega, Lib.hid (by rw [HTm.out]; simp), HBn, HO3, HS3, HJ3⟩
                case measure => simp [intOf]; omega
        · have HX := Lib.hid (show nxt (a, 0, b) (E.drop (i + 1)) = false by rw [List.drop_eq_nil_of_le (by omega)]; rfl)
          have hl2 : decide ((i : Int) + 1 < E.length) = false := decide_eq_false (by omega)
          gi_wp2
          gi_quiet (fail)
          have HSc := Lib.hid (HSb.out.up (Up.drewN wb nq))
          have HJc := Lib.hid (HJ.out _ _ _ none HJb.out (Up.grownBy (Up.drewN wb nq)) (fun r e => by cases e))
          have HOc := Lib.hid (show (wb.drewN nq).heap[B0]? = _ from HOb.out)
          replace m0 := cell_up (Up.drewN wb nq) m0
          obtain ⟨wc, hwc⟩ : ∃ wc, wb.drewN nq = wc := ⟨_, rfl⟩
          rw [hwc] at HSc HJc HOc m0
          simp only [hwc]
          clear hwc
          have cbk := HSc.out.bk.cell
          have p0 : wc.cell? ⟨B0, 0, none⟩ = some (.int .i64 z) := by simp [World.cell?, HOc.out]
          have p1 : wc.cell? ⟨B0, 1, none⟩ = some (.int .i64 y) := by simp [World.cell?, HOc.out]
          obtain ⟨q, hq⟩ : ∃ q, K (decide (0 < z)) (decide (0 < y)) = q := ⟨_, rfl⟩
          have HKq := Lib.hid (fun W => hq ▸ HKp.out (decide (0 < z)) (decide (0 < y)) W)
          have HQ := Lib.hid hq
          clear hq
          by_cases hqk : q = k
          · subst hqk
            have HTm := Lib.hid (show turnsOf K E = pre ++ tf K (E.drop (i + 1)) z y q by rw [← HTt.out HX.out HQ.out]; exact HTn.out)
            gi_wp2_with (refine ⟨trivial, ?_⟩; gi_at_fn gk; ((with_reducible refine ((callsIn_wide (n := n - 1)).2 (HKq.out _)).mono ?_); rintro e w1 ⟨rfl, rfl⟩))
            go_roundw
            case rel => exact ⟨pre, i + 1, z, y, q, rfl, by go_num, by omega, HTm, HBn, HOc, HSc, HJc⟩
            case measure => simp [intOf]; omega
          · have HTm := Lib.hid (show turnsOf K E = pre ++ a :: tf K (E.drop (i + 1)) z y (!k) by rw [← HTu.out HX.out (by rw [HQ.out]; exact hqk)]; exact HTn.out)
            have hY1 := HY.out pre a wc HJc.out ⟨tf K (E.drop (i + 1)) z y (!k), by rw [HTm.out]; simp⟩
            obtain ⟨fn, tmps, assign, body, hy, hR⟩ := hY1
            dsimp only [encI] at hy
            have hR' := Lib.hid hR
            clear hR
            cases k <;> cases q <;> first | exact absurd rfl hqk | skip
            all_goals
              clear hqk
              gi_wp2_with (refine ⟨trivial, ?_⟩; gi_at_fn gk; ((with_reducible refine ((callsIn_wide (n := n - 1)).2 (HKq.out _)).mono ?_); rintro e w1 ⟨rfl, rfl⟩))
              refine hR'.out.mono ?_
              rintro e W3 ⟨rfl, hJ3, hk3⟩
              have HS3 := Lib.hid (HSc.out.kp hk3)
              have HO3 := Lib.hid (hk3 _ _ _ HOc.out (by decide) (by decide) (by decide))
              have HJ3 := Lib.hid hJ3
              clear hJ3 hk3 hy p0 p1 m0 cbk
              gi_wp2
              go_roundw
              case rel => exact ⟨pre ++ [a], i + 1, z, y, _, rfl, by go_num, by omega, Lib.hid (by rw [HTm.out]; simp), HBn, HO3, HS3, HJ3⟩
              case measure => simp [intOf]; omega
      · gi_wp2
        obtain ⟨wa, hwa⟩ : ∃ wa, wr.alloc (.cells #[.int .i64 a, .int .i64 1, .int .i64 b] 58) = wa := ⟨_, rfl⟩
        rw [hwa] at HSa HOa o0 o1 o2 o3 HJa n0 n1 n2
        simp only [hwa]
        obtain ⟨N, hN⟩ : ∃ N, wr.heap.size = N := ⟨_, rfl⟩
        rw [hN] at n0 n1 n2 HN
        simp only [hN]
        clear hwa hN hu d0 d1 d2
        have hw1 : IntKind.i64.wrap (y + b) = y + b := IntWalk.i64_in _ (by have := HB.out; omega)
        gi_region
        have HSb := Lib.hid (HSa.out.set B0 1 (.int .i64 (y + b)) HOa.out)
        have HOb := Lib.hid (open_set1 (u := y + b) HOa.out)
        have HJb := Lib.hid (HJ.out _ _ _ (some B0) HJa.out (set_grown wa B0 1 (.int .i64 (y + b))) (fun r e => by cases e; exact ⟨by rw [HB0.out]; exact Nat.le_refl _, _, HOa.out, _, rfl⟩))
        have m0 := set_cell (v := .int .i64 (y + b)) (j := 1) (B := B0) (by have := HN.out; omega) n0
        obtain ⟨wb, hwb⟩ : ∃ wb, (wa.setCell ⟨B0, 1, none⟩ (.int .i64 (y + b))).drew = wb := ⟨_, rfl⟩
        rw [hwb] at HSb HOb HJb m0
        simp only [hwb]
        clear hwb o0 o1 o2 o3 n0 n1 n2 hw1
        have HBn := Lib.hid (show -((i + 1 : Nat) : Int) ≤ x ∧ x ≤ (i + 1 : Nat) ∧ -((i + 1 : Nat) : Int) ≤ y + b ∧ y + b ≤ (i + 1 : Nat) by have := HB.out; omega)
        have HTn := Lib.hid (show turnsOf K E = pre ++ tf K ((a, 1, b) :: E.drop (i + 1)) x y k by rw [← HD.out]; exact HT.out)
        have HTs := Lib.hid (show nxt (a, 1, b) (E.drop (i + 1)) = true → tf K ((a, 1, b) :: E.drop (i + 1)) x y k = tf K (E.drop (i + 1)) (x) (y + b) k from fun h => by
          have := tf_same (K := K) (x := x) (y := y) (k := k) h
          simpa using this)
        have HTt := Lib.hid (show nxt (a, 1, b) (E.drop (i + 1)) = false → K (decide (0 < x)) (decide (0 < y + b)) = k → tf K ((a, 1, b) :: E.drop (i + 1)) x y k = tf K (E.drop (i + 1)) (x) (y + b) k from fun h h2 => by
          have := tf_stay (K := K) (x := x) (y := y) (k := k) h (by simpa using h2)
          simpa using this)
        have HTu := Lib.hid (show nxt (a, 1, b) (E.drop (i + 1)) = false → ¬ K (decide (0 < x)) (decide (0 < y + b)) = k → tf K ((a, 1, b) :: E.drop (i + 1)) x y k = a :: tf K (E.drop (i + 1)) (x) (y + b) (!k) from fun h h2 => by
          have := tf_turn (K := K) (x := x) (y := y) (k := k) h (by simpa using h2)
          simpa using this)
        obtain ⟨z, hz⟩ : ∃ z, y + b = z := ⟨_, rfl⟩
        rw [hz] at HTs HTt HTu HBn HOb
        simp only [hz]
        clear hz
        have hlen : (i : Int) + 1 ≤ 100000 := by omega
        have hw2 : IntKind.i64.wrap ((i : Int) + 1) = (i : Int) + 1 := IntWalk.i64_in _ (by omega)
        have cbe := HSb.out.be.cell
        by_cases hl1 : i + 1 < E.length
        · have hz := (HSb.out.ev.at_ (i + 1) hl1).1
          have hz1 : ((i : Int) + 1).toNat * 3 = (i + 1) * 3 := by omega
          obtain ⟨a2, ha2⟩ : ∃ a2, (E[i + 1]).1 = a2 := ⟨_, rfl⟩
          have HNx := Lib.hid (show nxt (a, 1, b) (E.drop (i + 1)) = decide (a2 = a) by rw [List.drop_eq_getElem_cons hl1, ← ha2]; rfl)
          rw [ha2] at hz
          have hl2 : (i : Int) + 1 < E.length := by omega
          clear ha2
          gi_wp2
          by_cases haa : a2 = a
          · subst haa
            have HTm := Lib.hid (show turnsOf K E = pre ++ tf K (E.drop (i + 1)) x z k by rw [← HTs.out (by rw [HNx.out]; exact decide_eq_true rfl)]; exact HTn.out)
            gi_region
            have HSc := Lib.hid (HSb.out.up (Up.drew wb))
            have HJc := Lib.hid (HJ.out _ _ _ none HJb.out (Up.grownBy (Up.drew wb)) (fun r e => by cases e))
            have HOc := Lib.hid (show wb.drew.heap[B0]? = _ from HOb.out)
            gi_wp2
            go_roundw
            case rel => exact ⟨pre, i + 1, x, z, k, rfl, by go_num, by omega, HTm, HBn, HOc, HSc, HJc⟩
            case measure => simp [intOf]; omega
          · have hab : (a2 == a) = false := beq_false_of_ne haa
            have HX := Lib.hid (show nxt (a, 1, b) (E.drop (i + 1)) = false by rw [HNx.out]; exact decide_eq_false haa)
            clear haa
            gi_region
            have HSc := Lib.hid (HSb.out.up (Up.drew wb))
            have HJc := Lib.hid (HJ.out _ _ _ none HJb.out (Up.grownBy (Up.drew wb)) (fun r e => by cases e))
            have HOc := Lib.hid (show wb.drew.heap[B0]? = _ from HOb.out)
            replace m0 := cell_up (Up.drew wb) m0
            obtain ⟨wc, hwc⟩ : ∃ wc, wb.drew = wc := ⟨_, rfl⟩
            rw [hwc] at HSc HJc HOc m0
            simp only [hwc]
            clear hwc
            have cbk := HSc.out.bk.cell
            have p0 : wc.cell? ⟨B0, 0, none⟩ = some (.int .i64 x) := by simp [World.cell?, HOc.out]
            have p1 : wc.cell? ⟨B0, 1, none⟩ = some (.int .i64 z) := by simp [World.cell?, HOc.out]
            obtain ⟨q, hq⟩ : ∃ q, K (decide (0 < x)) (decide (0 < z)) = q := ⟨_, rfl⟩
            have HKq := Lib.hid (fun W => hq ▸ HKp.out (decide (0 < x)) (decide (0 < z)) W)
            have HQ := Lib.hid hq
            clear hq
            by_cases hqk : q = k
            · subst hqk
              have HTm := Lib.hid (show turnsOf K E = pre ++ tf K (E.drop (i + 1)) x z q by rw [← HTt.out HX.out HQ.out]; exact HTn.out)
              gi_wp2_with (refine ⟨trivial, ?_⟩; gi_at_fn gk; ((with_reducible refine ((callsIn_wide (n := n - 1)).2 (HKq.out _)).mono ?_); rintro e w1 ⟨rfl, rfl⟩))
              go_roundw
              case rel => exact ⟨pre, i + 1, x, z, q, rfl, by go_num, by omega, HTm, HBn, HOc, HSc, HJc⟩
              case measure => simp [intOf]; omega
            · have HTm := Lib.hid (show turnsOf K E = pre ++ a :: tf K (E.drop (i + 1)) x z (!k) by rw [← HTu.out HX.out (by rw [HQ.out]; exact hqk)]; exact HTn.out)
              have hY1 := HY.out pre a wc HJc.out ⟨tf K (E.drop (i + 1)) x z (!k), by rw [HTm.out]; simp⟩
              obtain ⟨fn, tmps, assign, body, hy, hR⟩ := hY1
              dsimp only [encI] at hy
              have hR' := Lib.hid hR
              clear hR
              cases k <;> cases q <;> first | exact absurd rfl hqk | skip
              all_goals
                clear hqk
                gi_wp2_with (refine ⟨trivial, ?_⟩; gi_at_fn gk; ((with_reducible refine ((callsIn_wide (n := n - 1)).2 (HKq.out _)).mono ?_); rintro e w1 ⟨rfl, rfl⟩))
                refine hR'.out.mono ?_
                rintro e W3 ⟨rfl, hJ3, hk3⟩
                have HS3 := Lib.hid (HSc.out.kp hk3)
                have HO3 := Lib.hid (hk3 _ _ _ HOc.out (by decide) (by decide) (by decide))
                have HJ3 := Lib.hid hJ3
                clear hJ3 hk3 hy p0 p1 m0 cbk
                gi_wp2
                go_roundw
                case rel => exact ⟨pre ++ [a], i + 1, x, z, _, rfl, by go_num, by omega, Lib.hid (by rw [HTm.out]; simp), HBn, HO3, HS3, HJ3⟩
                case measure => simp [intOf]; omega
        · have HX := Lib.hid (show nxt (a, 1, b) (E.drop (i + 1)) = false by rw [List.drop_eq_nil_of_le (by omega)]; rfl)
          have hl2 : decide ((i : Int) + 1 < E.length) = false := decide_eq_false (by omega)
          gi_wp2
          gi_quiet (fail)
          have HSc := Lib.hid (HSb.out.up (Up.drewN wb nq))
          have HJc := Lib.hid (HJ.out _ _ _ none HJb.out (Up.grownBy (Up.drewN wb nq)) (fun r e => by cases e))
          have HOc := Lib.hid (show (wb.drewN nq).heap[B0]? = _ from HOb.out)
          replace m0 := cell_up (Up.drewN wb nq) m0
          obtain ⟨wc, hwc⟩ : ∃ wc, wb.drewN nq = wc := ⟨_, rfl⟩
          rw [hwc] at HSc HJc HOc m0
          simp only [hwc]
          clear hwc
          have cbk := HSc.out.bk.cell
          have p0 : wc.cell? ⟨B0, 0, none⟩ = some (.int .i64 x) := by simp [World.cell?, HOc.out]
          have p1 : wc.cell? ⟨B0, 1, none⟩ = some (.int .i64 z) := by simp [World.cell?, HOc.out]
          obtain ⟨q, hq⟩ : ∃ q, K (decide (0 < x)) (decide (0 < z)) = q := ⟨_, rfl⟩
          have HKq := Lib.hid (fun W => hq ▸ HKp.out (decide (0 < x)) (decide (0 < z)) W)
          have HQ := Lib.hid hq
          clear hq
          by_cases hqk : q = k
          · subst hqk
            have HTm := Lib.hid (show turnsOf K E = pre ++ tf K (E.drop (i + 1)) x z q by rw [← HTt.out HX.out HQ.out]; exact HTn.out)
            gi_wp2_with (refine ⟨trivial, ?_⟩; gi_at_fn gk; ((with_reducible refine ((callsIn_wide (n := n - 1)).2 (HKq.out _)).mono ?_); rintro e w1 ⟨rfl, rfl⟩))
            go_roundw
            case rel => exact ⟨pre, i + 1, x, z, q, rfl, by go_num, by omega, HTm, HBn, HOc, HSc, HJc⟩
            case measure => simp [intOf]; omega
          · have HTm := Lib.hid (show turnsOf K E = pre ++ a :: tf K (E.drop (i + 1)) x z (!k) by rw [← HTu.out HX.out (by rw [HQ.out]; exact hqk)]; exact HTn.out)
            have hY1 := HY.out pre a wc HJc.out ⟨tf K (E.drop (i + 1)) x z (!k), by rw [HTm.out]; simp⟩
            obtain ⟨fn, tmps, assign, body, hy, hR⟩ := hY1
            dsimp only [encI] at hy
            have hR' := Lib.hid hR
            clear hR
            cases k <;> cases q <;> first | exact absurd rfl hqk | skip
            all_goals
              clear hqk
              gi_wp2_with (refine ⟨trivial, ?_⟩; gi_at_fn gk; ((with_reducible refine ((callsIn_wide (n := n - 1)).2 (HKq.out _)).mono ?_); rintro e w1 ⟨rfl, rfl⟩))
              refine hR'.out.mono ?_
              rintro e W3 ⟨rfl, hJ3, hk3⟩
              have HS3 := Lib.hid (HSc.out.kp hk3)
              have HO3 := Lib.hid (hk3 _ _ _ HOc.out (by decide) (by decide) (by decide))
              have HJ3 := Lib.hid hJ3
              clear hJ3 hk3 hy p0 p1 m0 cbk
              gi_wp2
              go_roundw
              case rel => exact ⟨pre ++ [a], i + 1, x, z, _, rfl, by go_num, by omega, Lib.hid (by rw [HTm.out]; simp), HBn, HO3, HS3, HJ3⟩
              case measure => simp [intOf]; omega
    · have hfin := Lib.hid (show turnsOf K E = pre by rw [HT.out, List.drop_eq_nil_of_le (by omega)]; simp [tf])
      have hge : (E.length : Int) ≤ i := by omega
      gi_wp2
      go_end0
      exact ⟨⟨_, rfl⟩, by rw [hfin.out]; exact HJp.out⟩
end Go.Proofs.Ytbgdphjjepbafaa
