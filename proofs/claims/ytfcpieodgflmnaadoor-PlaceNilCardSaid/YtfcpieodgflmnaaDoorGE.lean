/- The program's grow: a tree of a text, of its pieces. The program's grow, at every text that is not too long. -/
import Derived.RangeFuncBox
import Derived.RangeFuncFrom
import Derived.Maps.AppendAt
import Derived.Test.YtfcpieodgflmnaaDoorGD
import Derived.OrdersIn
namespace Go.Proofs.YtfcpieodgflmnaaDoor
open Go.RowKit Go.Shelf
attribute [local go_sem] Oper.semAt_some

theorem infoNode : (Tryd.prog.info? 44).map (fun i => (i.zero, i.size, i.bytes)) = some (some (.pointer none), 1, 8) := by kernel_rfl

/-- append, as one step of a region in a round. -/
theorem stepIn_append {F : Fence} {n : Nat} {P : Program} {ops : Array Oper} {o : Oper} {a : Act} {w : World} {K : Act → World → Prop} {Q : Exit → Act → World → Prop} {E : Prop}
    (hg : o.guard = none) (s x : Operand) (t : TypeId) (hop : o.op = Op.call { callee := Callee.builtin Builtin.append, args := #[s, x], argTypes := #[t, t] })
    (base : Nat) (e : TypeId) (i : TypeInfo) (z : Value) (size bytes : Nat) (h1 : P.underlying t = some (.slice e)) (h2 : P.info? e = some i) (h3 : i.zero = some z) (h4 : i.size = size) (h5 : i.bytes = bytes) (h6 : z.cells.size = size) (h7 : 0 < size)
    (v : Value) (k : Nat) (xs : List Value) (hs : a.eval s = v) (hown : w.ownsRow base e size v k xs) (ad : Addr) (m c : Nat) (news : List Value) (hx : a.eval x = .slice (some ad) m c) (hn : news.length = m * size)
    (hc : ∀ j u, news[j]? = some u → w.cell? (ad.add j) = some u) (h1c : ∀ u ∈ news, u.oneCell' = true) (b1 : k + m ≤ maxLen) (b2 : (k + m) * bytes ≤ 140737488355328) (b3 : base ≤ w.heap.size)
    (hK : ∀ v' w', w'.ownsRow base e size v' (k + m) (xs ++ news) → w.grownBy w' v.ownBlock → K (a.put o.dst v') w') :
    if Region.wanted o (yielded ops a.tmps) = true then Oper.wpIn F n P o a w K Q else E := by
  rw [if_pos (by simp [Region.wanted, hg])]
  obtain ⟨v', w', hrun, r1, r2, _⟩ := run_append_own (P := P) w base t o.type e i z size bytes h1 h2 h3 h4 h5 h6 h7 v k xs hown ad m c news hn hc h1c b1 b2 b3
  unfold Oper.wpIn
  refine ⟨?_, ?_⟩
  · simp [Oper.about, hop, resolve, Target.leads, Sem.run_pure]
  · rw [Oper.semAt_plain F _ _ (by rw [hop]; intro c hc'; cases hc')]
    simp [execOp, hop, resolve, invoke, builtin, hs, hx, hrun, Result.andThen]
    exact hK v' w' r1 r2

/-- A leaf of the text x lies at block c. -/
def LeafAt (W : World) (x : ByteArray) (c : Nat) : Prop := W.heap[c]? = some (.cells (ncells x 1 (.pointer none) (.pointer none) x) 92)
def ptrs (cs : List Nat) : List Value := cs.map fun c => .pointer (some ⟨c, 0, none⟩)
/-- What has been collected. -/
def Coll (N : Nat) (s : ByteArray) (pre : List Pc) (W : World) : Prop := ∃ cs v, Boxed W N 67 v ∧ W.ownsRow N 44 1 v cs.length (ptrs cs) ∧ (v = .slice none 0 0 ↔ cs = []) ∧ cs.length = pre.length ∧ (∀ (i c : Nat) (x : Pc), cs[i]? = some c → pre[i]? = some x → LeafAt W x.1 c) ∧ Boxed W (N + 1) 9 (.string s)

theorem coll_own (N : Nat) (s : ByteArray) : Own (Coll N s) := by
  rintro pre X Y row ⟨cs, v, hv, hr, hnil, hlen, hleaf, hbs⟩ hg hrow
  obtain ⟨v', hv', hr', hG⟩ := holdsRow_own N N 67 44 1 (fun _ : Unit => cs.length) (fun _ => ptrs cs) (fun _ v => v = .slice none 0 0 ↔ cs = []) () X Y row ⟨v, hv, hr, hnil⟩ hg hrow
  exact ⟨cs, v', hv', hr', hG, hlen, fun i c x h1 h2 => (grownBy_keeps_cells hg hrow (hleaf i c x h1 h2) rfl).trans (hleaf i c x h1 h2), (grownBy_keeps_cells hg hrow hbs rfl).trans hbs⟩

/-- A round's end: the leaf is laid behind what has been collected. -/
theorem coll_step {N : Nat} {s : ByteArray} {pre : List Pc} {x : Pc} {W W1 w2 : World} {cs : List Nat} {v v' : Value} {c : Nat} {tmp : Obj}
    (hN : N ≤ W.heap.size) (hv : Boxed W N 67 v) (hr : W.ownsRow N 44 1 v cs.length (ptrs cs)) (hlen : cs.length = pre.length) (hleaf : ∀ (i c : Nat) (x : Pc), cs[i]? = some c → pre[i]? = some x → LeafAt W x.1 c) (hbs : Boxed W (N + 1) 9 (.string s))
    (hu : Up W W1) (hc : LeafAt W1 x.1 c) (hown : w2.ownsRow N 44 1 v' (cs.length + 1) (ptrs cs ++ [.pointer (some ⟨c, 0, none⟩)])) (hgrow : (W1.alloc tmp).grownBy w2 v.ownBlock) :
    Boxed w2 N 67 v ∧ KeepsOthers W (w2.setCell ⟨N, 0, none⟩ v') ∧ KpS N (N + 1) W (w2.setCell ⟨N, 0, none⟩ v') ∧ Coll N s (pre ++ [x]) (w2.setCell ⟨N, 0, none⟩ v') := by
  have up : ∀ {b : Nat} {o : Obj}, W.heap[b]? = some o → W1.heap[b]? = some o := fun {b o} h => (Below.block hu b (Array.getElem?_eq_some_iff.1 h).1).trans h
  have hv1 : Boxed W1 N 67 v := up hv
  have hbs1 : Boxed W1 (N + 1) 9 (.string s) := up hbs
  have hr1 : W1.ownsRow N 44 1 v cs.length (ptrs cs) := hr.kept hu.grownBy (by cases hv : v.ownBlock <;> simp)
  have hz : N ≤ W1.heap.size := Nat.le_trans hN (Below.size hu)
  obtain ⟨g1, g2, g3, g4, g5⟩ := hv1.appended (by decide) hr1 hz (Nat.le_refl _) hown hgrow
  have keep : ∀ {b : Nat} {cs' : Array Value} {T : TypeId}, W1.heap[b]? = some (.cells cs' T) → T ≠ 44 → b ≠ N → (w2.setCell ⟨N, 0, none⟩ v').heap[b]? = some (.cells cs' T) := fun {b cs' T} h hT hb => by
    have hlt := (Array.getElem?_eq_some_iff.1 h).1
    have e1 : (W1.alloc tmp).heap[b]? = some (.cells cs' T) := (Below.heap_alloc _ _ _ hlt).trans h
    have e2 := hgrow.block b (by simp; omega) (fun e => Lib.ownBlock_ne hr1 h hT e.symm)
    exact (Below.heap_setCell _ _ _ _ hb).trans (e2.trans e1)
  have hbs2 : Boxed (w2.setCell ⟨N, 0, none⟩ v') (N + 1) 9 (.string s) := keep hbs1 (by decide) (by omega)
  have leafNe : ∀ {b : Nat} {y : ByteArray}, LeafAt W1 y b → b ≠ N := fun {b y} h e => by
    subst e
    have := (show W1.heap[b]? = _ from h).symm.trans hv1
    simp at this
  refine ⟨g1, (KeepsOthers.of_grownBy hu.grownBy (fun j o e => by cases e)).trans g4, ⟨(Below.mono hu hN).trans g5, by rw [hbs2.cell, hbs.cell]⟩, cs ++ [c], v', g2, ?_, ?_, by simp [hlen], ?_, hbs2⟩
  · rw [List.length_append]; unfold ptrs at g3 ⊢; rw [List.map_append]; exact g3
  · constructor
    · rintro rfl
      have := g3.1
      rcases g3.2 with ⟨_, h0⟩ | ⟨g, cap, cur, h0, _⟩
      · omega
      · cases h0
    · intro h; simp at h
  · intro i d y h1 h2
    by_cases hi : i < cs.length
    · rw [List.getElem?_append_left hi] at h1
      rw [List.getElem?_append_left (by omega)] at h2
      have h3 : LeafAt W1 y.1 d := up (hleaf i d y h1 h2)
      exact keep h3 (by decide) (leafNe h3)
    · have e : i = cs.length := by
        have := (List.getElem?_eq_some_iff.1 h1).1
        rw [List.length_append] at this
        simp at this
        omega
      subst e
      rw [List.getElem?_append_right (Nat.le_refl _)] at h1
      rw [hlen, List.getElem?_append_right (Nat.le_refl _)] at h2
      simp at h1 h2
      subst h1 h2
      exact keep hc (by decide) (leafNe hc)
end Go.Proofs.YtfcpieodgflmnaaDoor

namespace Go.Proofs.YtfcpieodgflmnaaDoor
open Go.RowKit Go.Shelf
attribute [local go_sem] Oper.semAt_some

theorem node_put {W : World} {D : Nat} {o o' : Obj} {t : T} {b : Nat} (h : Node W t b) (hD : W.heap[D]? = some o) (hc : o.isCells = false := by rfl) : Node (W.putObj D o') t b := by
  have key : ∀ {t : T} {b : Nat}, NodeIn W.heap.size W t b → NodeIn W.heap.size (W.putObj D o') t b := by
    intro t
    induction t with
    | leaf s =>
      intro b h
      refine ⟨h.1, ?_⟩
      rw [World.putObj_heap_other (fun e => by subst e; rw [h.2] at hD; cases hD; cases hc)]
      exact h.2
    | node l r hl hr =>
      intro b h
      obtain ⟨h1, bl, br, h2, h3, h4⟩ := h
      refine ⟨h1, bl, br, ?_, hl h3, hr h4⟩
      rw [World.putObj_heap_other (fun e => by subst e; rw [h2] at hD; cases hD; cases hc)]
      exact h2
  have := key h
  unfold Node
  rw [show (W.putObj D o').heap.size = W.heap.size from by simp]
  exact this
def GrowPost (s : ByteArray) (w : World) (e : Ending) (w' : World) : Prop := (s.size = 0 → e = .returned (.pointer none) ∧ Up w w') ∧ (1 ≤ s.size → ∃ t, GrowSpec s t ∧ NewT t w e w')

set_option maxRecDepth 100000 in
set_option maxHeartbeats 2000000 in
theorem grow_in (s : ByteArray) (hs : (s.size : Int) ≤ 1048576) (w : World) (hT : Tabs w) :
    CallsIn Fence.wide 4 Tryd.prog 19 #[.string s] w (GrowPost s w) := by
  have hbig := hT.big
  obtain ⟨i0, hi, hz0, hz1, hz2⟩ := info_parts infoNode
  refine callsIn_of_wp_marks Tryd.func19 rfl trivial ?_ rfl
  simp only [Tryd.ntmps19, List.size_toArray, List.length_cons, List.length_nil, Nat.reduceAdd, Nat.reduceSub, Array.replicate_succ, Array.replicate_zero, List.push_toArray, List.append_toArray, List.nil_append, List.cons_append]
  gi_wp2_with (refine ⟨trivial, ?_⟩; gi_at_call 35; refine ((callsIn_wide (n := 3)).2 (pieces_any s _)).mono ?_; rintro e w' ⟨rfl, rfl⟩)
  have bO := Boxed.new w 67 (.slice none 0 0)
  have bN := Boxed.new (w.alloc (.cells #[.slice none 0 0] 67)) 9 (.string s)
  rw [World.size_alloc] at bN
  have hB0 : Below w.heap.size w ((w.alloc (.cells #[.slice none 0 0] 67)).alloc (.cells #[.string s] 9)) := ((Below.refl _ w).alloc (Nat.le_refl _) _).alloc (by simp) _
  refine wpIn_rangeFunc_ownF rfl (by omega) (gf := 55) (lb := #[.pointer (some ⟨w.heap.size + 1, 0, none⟩)]) rfl trivial (enters_of Tryd.func55 (by kernel_rfl) rfl)
    (pieces_stops 3 (by omega) (w.heap.size + 1) w.heap.size s hs _ bN.cell) kpS_t (kpS_b (by simp; omega) (by simp)) (Below.refl _ _) (fun _ => rfl)
    (fun pre W => Coll w.heap.size s pre W ∧ Below w.heap.size w W)
    (fun _ _ _ => False)
    (OwnFrom.and (Own.from (coll_own _ s) _) (ownFrom_below (Nat.le_refl _) (by simp; omega)))
    (fun _ _ _ _ _ hs _ _ => hs)
    ⟨⟨[], .slice none 0 0, bO.alloc _, World.ownsRow_nil _ _ _ _, by simp, rfl, (fun i c x h _ => by simp at h), bN⟩, hB0⟩
    (fun x => { tmps := #[.string s, undef, .pointer none, .pointer (some ⟨w.heap.size, 0, none⟩), .string x.1, .string s, .func (.func 55) #[] #[.pointer (some ⟨w.heap.size + 1, 0, none⟩)], .string x.1, undef, undef, undef, undef, undef, undef, undef], defers := [] }) ?assign ?body ?done ?stop
  case assign =>
    intro l x W K hK
    gi_wp2
    exact hK
  case body =>
    rintro l pre x W ⟨⟨cs, v, hv, hr, hnil, hlen, hleaf, hbs⟩, hB⟩ hN'
    have hmx : Tryd.prog.follows .mixedOrders = true := by kernel_rfl
    have hc := hv.cell
    gi_wp2
    have hcd : W.drew.cell? ⟨w.heap.size, 0, none⟩ = some v := hc
    have HL := Lib.hid (fun W hT => leaf_any x.1 W x.2 hT)
    have hTW : Tabs W := hT.of_below (by omega) hB
    have HTW := Lib.hid (hTW.up (Up.drew W))
    have HB := Lib.hid hB
    have hNz : w.heap.size ≤ W.heap.size := Below.size hB
    have hpn : pre.length < 2049 := by have : pre.length < pcn s := hN'; unfold pcn at this; omega
    have HLen := Lib.hid hlen
    have hcl : cs.length < 2049 := by omega
    clear hTW hN' hlen hnil hpn
    refine wpIn_region_any hmx ?_
    change wpAnyIn _ _ _ _ _ _ _ _ _ (World.drew _)
    refine wpAnyIn_ready (rs := [0, 1]) (by kernel_rfl) (by simp) ?_
    refine (AllReadyIn.cons rfl (fun K hK => ?_) (AllReadyIn.cons rfl (fun K hK => ?_) AllReadyIn.nil))
    · go_simp
      refine hK _ _ ?_
      clear hK K
      refine wpAnyIn_ready (rs := [1]) (by kernel_rfl) (by simp) ?_
      refine (AllReadyIn.cons rfl (fun K hK => ?_) AllReadyIn.nil)
      · go_simp
        refine hK _ _ ?_
        clear hK K
        refine wpAnyIn_ready (rs := [2]) (by kernel_rfl) (by simp) ?_
        refine (AllReadyIn.cons rfl (fun K hK => ?_) AllReadyIn.nil)
        · go_simp
          refine ⟨trivial, (CallsIn.inRound l (callsIn_wide.2 (HL.out _ HTW.out))).mono ?_⟩
          rintro e W1 ⟨c, rfl, hn, hu1⟩
          refine hK _ _ ?_
          clear hK K
          have HU1 := Lib.hid ((Up.drew W).trans hu1)
          have hc1 : W1.cell? ⟨w.heap.size, 0, none⟩ = some v := cell_up ((Up.drew W).trans hu1) hc
          have hNl : w.heap.size < W1.heap.size := Nat.lt_of_lt_of_le hv.lt (Below.size ((Up.drew W).trans hu1))
          have HLf : Hid (LeafAt W1 x.1 c) := Lib.hid hn.2
          refine wpAnyIn_ready (rs := [3]) (by kernel_rfl) (by simp) ?_
          refine (AllReadyIn.cons rfl (fun K hK => ?_) AllReadyIn.nil)
          · go_simp
            refine hK _ _ ?_
            clear hK K
            refine wpAnyIn_ready (rs := [4]) (by kernel_rfl) (by simp) ?_
            refine (AllReadyIn.cons rfl (fun K hK => ?_) AllReadyIn.nil)
            · refine stepIn_append rfl (.tmp 8) (.tmp 11) 67 rfl w.heap.size 44 i0 (.pointer none) 1 8 Tryd.underlying67 hi hz0 hz1 hz2 rfl (by decide) v cs.length (ptrs cs) rfl ((hr.kept (Up.grownBy HU1.out) (by cases hv : v.ownBlock <;> simp)).alloc _) ⟨W1.heap.size, 0, none⟩ 1 1 [.pointer (some ⟨c, 0, none⟩)] rfl rfl (cell_one_new _ _ _) (by simp [Value.oneCell']) (by unfold maxLen; omega) (by omega) (by simp; omega) ?_
              intro v' w2 hown' hgrow
              obtain ⟨g', cap', rfl⟩ := ownsRow_succ hown'
              obtain ⟨hb1, hk1, hk2, hk3⟩ := coll_step (by omega) hv hr HLen.out hleaf hbs HU1.out HLf.out hown' hgrow
              refine hK _ _ ?_
              clear hK K
              have hc5 := hb1.cell
              have hf5 := hb1.frozen
              have HK1 := Lib.hid hk1
              have HK2 := Lib.hid hk2
              have HK3 := Lib.hid hk3
              clear hk1 hk2 hk3 hown' hgrow
              refine wpAnyIn_ready (rs := [5]) (by kernel_rfl) (by simp) ?_
              refine (AllReadyIn.cons rfl (fun K hK => ?_) AllReadyIn.nil)
              · go_simp
                refine hK _ _ ?_
                clear hK K
                refine wpAnyIn_done (by kernel_rfl) ?_ _
                gi_wp2
                exact ⟨HK1.out, HK2.out, HK3.out, HB.out.trans HK2.out.1⟩
    · go_simp
      refine hK _ _ ?_
      clear hK K
      refine wpAnyIn_ready (rs := [0, 2]) (by kernel_rfl) (by simp) ?_
      refine (AllReadyIn.cons rfl (fun K hK => ?_) (AllReadyIn.cons rfl (fun K hK => ?_) AllReadyIn.nil))
      · go_simp
        refine hK _ _ ?_
        clear hK K
        refine wpAnyIn_ready (rs := [2]) (by kernel_rfl) (by simp) ?_
        refine (AllReadyIn.cons rfl (fun K hK => ?_) AllReadyIn.nil)
        · go_simp
          refine ⟨trivial, (CallsIn.inRound l (callsIn_wide.2 (HL.out _ HTW.out))).mono ?_⟩
          rintro e W1 ⟨c, rfl, hn, hu1⟩
          refine hK _ _ ?_
          clear hK K
          have HU1 := Lib.hid ((Up.drew W).trans hu1)
          have hc1 : W1.cell? ⟨w.heap.size, 0, none⟩ = some v := cell_up ((Up.drew W).trans hu1) hc
          have hNl : w.heap.size < W1.heap.size := Nat.lt_of_lt_of_le hv.lt (Below.size ((Up.drew W).trans hu1))
          have HLf : Hid (LeafAt W1 x.1 c) := Lib.hid hn.2
          refine wpAnyIn_ready (rs := [3]) (by kernel_rfl) (by simp) ?_
          refine (AllReadyIn.cons rfl (fun K hK => ?_) AllReadyIn.nil)
          · go_simp
            refine hK _ _ ?_
            clear hK K
            refine wpAnyIn_ready (rs := [4]) (by kernel_rfl) (by simp) ?_
            refine (AllReadyIn.cons rfl (fun K hK => ?_) AllReadyIn.nil)
            · refine stepIn_append rfl (.tmp 8) (.tmp 11) 67 rfl w.heap.size 44 i0 (.pointer none) 1 8 Tryd.underlying67 hi hz0 hz1 hz2 rfl (by decide) v cs.length (ptrs cs) rfl ((hr.kept (Up.grownBy HU1.out) (by cases hv : v.ownBlock <;> simp)).alloc _) ⟨W1.heap.size, 0, none⟩ 1 1 [.pointer (some ⟨c, 0, none⟩)] rfl rfl (cell_one_new _ _ _) (by simp [Value.oneCell']) (by unfold maxLen; omega) (by omega) (by simp; omega) ?_
              intro v' w2 hown' hgrow
              obtain ⟨g', cap', rfl⟩ := ownsRow_succ hown'
              obtain ⟨hb1, hk1, hk2, hk3⟩ := coll_step (by omega) hv hr HLen.out hleaf hbs HU1.out HLf.out hown' hgrow
              refine hK _ _ ?_
              clear hK K
              have hc5 := hb1.cell
              have hf5 := hb1.frozen
              have HK1 := Lib.hid hk1
              have HK2 := Lib.hid hk2
              have HK3 := Lib.hid hk3
              clear hk1 hk2 hk3 hown' hgrow
              refine wpAnyIn_ready (rs := [5]) (by kernel_rfl) (by simp) ?_
              refine (AllReadyIn.cons rfl (fun K hK => ?_) AllReadyIn.nil)
              · go_simp
                refine hK _ _ ?_
                clear hK K
                refine wpAnyIn_done (by kernel_rfl) ?_ _
                gi_wp2
                exact ⟨HK1.out, HK2.out, HK3.out, HB.out.trans HK2.out.1⟩
      · go_simp
        refine ⟨trivial, (CallsIn.inRound l (callsIn_wide.2 (HL.out _ HTW.out))).mono ?_⟩
        rintro e W1 ⟨c, rfl, hn, hu1⟩
        refine hK _ _ ?_
        clear hK K
        have HU1 := Lib.hid ((Up.drew W).trans hu1)
        have hc1 : W1.cell? ⟨w.heap.size, 0, none⟩ = some v := cell_up ((Up.drew W).trans hu1) hc
        have hNl : w.heap.size < W1.heap.size := Nat.lt_of_lt_of_le hv.lt (Below.size ((Up.drew W).trans hu1))
        have HLf : Hid (LeafAt W1 x.1 c) := Lib.hid hn.2
        refine wpAnyIn_ready (rs := [0, 3]) (by kernel_rfl) (by simp) ?_
        refine (AllReadyIn.cons rfl (fun K hK => ?_) (AllReadyIn.cons rfl (fun K hK => ?_) AllReadyIn.nil))
        · go_simp
          refine hK _ _ ?_
          clear hK K
          refine wpAnyIn_ready (rs := [3]) (by kernel_rfl) (by simp) ?_
          refine (AllReadyIn.cons rfl (fun K hK => ?_) AllReadyIn.nil)
          · go_simp
            refine hK _ _ ?_
            clear hK K
            refine wpAnyIn_ready (rs := [4]) (by kernel_rfl) (by simp) ?_
            refine (AllReadyIn.cons rfl (fun K hK => ?_) AllReadyIn.nil)
            · refine stepIn_append rfl (.tmp 8) (.tmp 11) 67 rfl w.heap.size 44 i0 (.pointer none) 1 8 Tryd.underlying67 hi hz0 hz1 hz2 rfl (by decide) v cs.length (ptrs cs) rfl ((hr.kept (Up.grownBy HU1.out) (by cases hv : v.ownBlock <;> simp)).alloc _) ⟨W1.heap.size, 0, none⟩ 1 1 [.pointer (some ⟨c, 0, none⟩)] rfl rfl (cell_one_new _ _ _) (by simp [Value.oneCell']) (by unfold maxLen; omega) (by omega) (by simp; omega) ?_
              intro v' w2 hown' hgrow
              obtain ⟨g', cap', rfl⟩ := ownsRow_succ hown'
              obtain ⟨hb1, hk1, hk2, hk3⟩ := coll_step (by omega) hv hr HLen.out hleaf hbs HU1.out HLf.out hown' hgrow
              refine hK _ _ ?_
              clear hK K
              have hc5 := hb1.cell
              have hf5 := hb1.frozen
              have HK1 := Lib.hid hk1
              have HK2 := Lib.hid hk2
              have HK3 := Lib.hid hk3
              clear hk1 hk2 hk3 hown' hgrow
              refine wpAnyIn_ready (rs := [5]) (by kernel_rfl) (by simp) ?_
              refine (AllReadyIn.cons rfl (fun K hK => ?_) AllReadyIn.nil)
              · go_simp
                refine hK _ _ ?_
                clear hK K
                refine wpAnyIn_done (by kernel_rfl) ?_ _
                gi_wp2
                exact ⟨HK1.out, HK2.out, HK3.out, HB.out.trans HK2.out.1⟩
        · go_simp
          refine hK _ _ ?_
          clear hK K
          refine wpAnyIn_ready (rs := [0]) (by kernel_rfl) (by simp) ?_
          refine (AllReadyIn.cons rfl (fun K hK => ?_) AllReadyIn.nil)
          · go_simp
            refine hK _ _ ?_
            clear hK K
            refine wpAnyIn_ready (rs := [4]) (by kernel_rfl) (by simp) ?_
            refine (AllReadyIn.cons rfl (fun K hK => ?_) AllReadyIn.nil)
            · refine stepIn_append rfl (.tmp 8) (.tmp 11) 67 rfl w.heap.size 44 i0 (.pointer none) 1 8 Tryd.underlying67 hi hz0 hz1 hz2 rfl (by decide) v cs.length (ptrs cs) rfl ((hr.kept (Up.grownBy HU1.out) (by cases hv : v.ownBlock <;> simp)).alloc _) ⟨W1.heap.size, 0, none⟩ 1 1 [.pointer (some ⟨c, 0, none⟩)] rfl rfl (cell_one_new _ _ _) (by simp [Value.oneCell']) (by unfold maxLen; omega) (by omega) (by simp; omega) ?_
              intro v' w2 hown' hgrow
              obtain ⟨g', cap', rfl⟩ := ownsRow_succ hown'
              obtain ⟨hb1, hk1, hk2, hk3⟩ := coll_step (by omega) hv hr HLen.out hleaf hbs HU1.out HLf.out hown' hgrow
              refine hK _ _ ?_
              clear hK K
              have hc5 := hb1.cell
              have hf5 := hb1.frozen
              have HK1 := Lib.hid hk1
              have HK2 := Lib.hid hk2
              have HK3 := Lib.hid hk3
              clear hk1 hk2 hk3 hown' hgrow
              refine wpAnyIn_ready (rs := [5]) (by kernel_rfl) (by simp) ?_
              refine (AllReadyIn.cons rfl (fun K hK => ?_) AllReadyIn.nil)
              · go_simp
                refine hK _ _ ?_
                clear hK K
                refine wpAnyIn_done (by kernel_rfl) ?_ _
                gi_wp2
                exact ⟨HK1.out, HK2.out, HK3.out, HB.out.trans HK2.out.1⟩
  case done =>
    rintro D ys W hD rfl ⟨⟨cs, v, hv, hr, hnil, hlen, hleaf, hbs⟩, hB⟩ hK
    have hc := hv.cell
    have hNz : w.heap.size ≤ W.heap.size := Below.size hB
    have hDW : D < W.heap.size := (Array.getElem?_eq_some_iff.1 hK).1
    have hN : w.heap.size ≤ D := by simp at hD; omega
    have hcl : cs.length = pcn s := by rw [hlen]; unfold pcsv; simp
    have HB := Lib.hid hB
    by_cases h0 : s.size = 0
    · have hc0 : cs = [] := by
        have : cs.length = 0 := by rw [hcl]; unfold pcn; omega
        exact List.eq_nil_of_length_eq_zero this
      obtain rfl := hnil.2 hc0
      clear hlen hcl hnil hc0 hr hleaf
      gi_wp2_with (refine ⟨trivial, ?_⟩; gi_at_call 37; refine (callsIn_wide.2 (stack_nil _)).mono ?_; rintro e w1 ⟨rfl, rfl⟩)
      refine ⟨by simp, .inl ⟨_, _, rfl, run_takeDeferred hK, ?_⟩⟩
      exact ⟨_, results_tmp rfl _ _ _, fun _ => ⟨rfl, HB.out.trans (belowK_b (w := w) (Nat.le_refl _) W D _ _ hN hK rfl rfl)⟩, fun h => by omega⟩
    · have h1 : 1 ≤ s.size := by omega
      have hb := pcn_bounds h1
      obtain ⟨g, cap, rfl, hcap, hcap2⟩ : ∃ g cap, v = .slice (some ⟨g, 0, none⟩) (pcn s) cap ∧ pcn s ≤ cap ∧ cap ≤ maxLen := by
        rcases hr.2 with ⟨_, h2⟩ | ⟨g, cap, cur, h2, _, _, h3, h4, _⟩
        · omega
        · exact ⟨g, cap, by rw [h2, hcl], by omega, h4⟩
      have hrow : LeafRow W g 0 (pcs s) := by
        intro i x hx
        have hi := (List.getElem?_eq_some_iff.1 hx).1
        rw [pcs_length] at hi
        obtain ⟨c, hci⟩ : ∃ c, cs[i]? = some c := ⟨cs[i]'(by omega), List.getElem?_eq_getElem (by omega)⟩
        have hp : (pcsv s hs)[i]? = some (pcv s hs i) := by unfold pcsv; rw [List.getElem?_map, List.getElem?_range hi]; rfl
        have hxe : (pcv s hs i).1 = x := by
          have : (pcs s)[i]? = some (pc s i) := by unfold pcs; rw [List.getElem?_map, List.getElem?_range hi]; rfl
          rw [this] at hx
          injection hx
        have hl := hleaf i c _ hci hp
        rw [hxe] at hl
        refine ⟨c, ?_, (Array.getElem?_eq_some_iff.1 hl).1, hl⟩
        have := hr.cells (g := g) rfl i (.pointer (some ⟨c, 0, none⟩)) (by unfold ptrs; rw [List.getElem?_map, hci]; rfl)
        rw [show ((⟨g, 0, none⟩ : Addr).add i) = ⟨g, 0 + i, none⟩ from by unfold Addr.add; split <;> simp_all] at this
        exact this
      have hTW : Tabs W := hT.of_below (by omega) hB
      unfold maxLen at hcap2
      have HS := Lib.hid (stack_any (pcn s) (pcs s) g 0 cap W (pcs_length s) hb.1 hcap (by omega) (pcs_piece h1) (by rw [cat_pcs h1]; exact hs) hTW hrow)
      clear hlen hcl hnil hr hleaf hrow hcap2
      gi_wp2_with (refine ⟨trivial, ?_⟩; gi_at_call 37; refine (callsIn_wide.2 HS.out).mono ?_; rintro e w1 ⟨t, hst, b, rfl, hn, hu⟩)
      have hK1 : w1.heap[D]? = some (.deferred (some [])) := (Below.block hu D hDW).trans hK
      refine ⟨by simp, .inl ⟨_, _, rfl, run_takeDeferred hK1, ?_⟩⟩
      exact ⟨_, results_tmp rfl _ _ _, fun h => by omega, fun _ => ⟨t, grow_spec h1 hst, b, rfl, node_put hn hK1, (HB.out.trans (Below.mono hu hNz)).trans (belowK_b (w := w) (Nat.le_refl _) w1 D _ _ hN hK1 rfl rfl)⟩⟩
  case stop =>
    rintro D c pre W _ _ h _
    exact h.elim

theorem grow_any (s : ByteArray) (hs : (s.size : Int) ≤ 1048576) (w : World) (hT : Tabs w) : Calls Tryd.prog 19 #[.string s] w (GrowPost s w) := callsIn_wide.1 (grow_in s hs w hT)
end Go.Proofs.YtfcpieodgflmnaaDoor
