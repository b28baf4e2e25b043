/- The program's grow, at every text that is not too long. -/
import Derived.Test.YtcbmigkdmmmahaaDoorGrow
import Derived.OrdersIn
namespace Go.Proofs.YtcbmigkdmmmahaaDoor
open Go.RowKit Go.Shelf
attribute [local go_sem] Oper.semAt_some

theorem node_put {W : World} {D : Nat} {o o' : Obj} {t : T} {b : Nat} (h : Node W t b) (hD : W.heap[D]? = some o) (hc : o.isCells = false := by rfl) : Node (W.putObj D o') t b := by
  have key : ∀ {t : T} {b : Nat}, NodeIn W.heap.size W t b → NodeIn W.heap.size (W.putObj D o') t b := by
    intro t
    induction t with
    | leaf s =>
      intro b h
      refine ⟨h.1, ?_⟩
      rw [World.putObj_heap_other (fun e => by subst e; rw [h.2] at hD; cases hD; cases hc)]
      exact h.2
    | node l r hl hr =>
      intro b h
      obtain ⟨h1, bl, br, h2, h3, h4⟩ := h
      refine ⟨h1, bl, br, ?_, hl h3, hr h4⟩
      rw [World.putObj_heap_other (fun e => by subst e; rw [h2] at hD; cases hD; cases hc)]
      exact h2
  have := key h
  unfold Node
  rw [show (W.putObj D o').heap.size = W.heap.size from by simp]
  exact this
def GrowPost (s : ByteArray) (w : World) (e : Ending) (w' : World) : Prop := (s.size = 0 → e = .returned (.pointer none) ∧ Up w w') ∧ (1 ≤ s.size → ∃ t, GrowSpec s t ∧ NewT t w e w')

set_option maxRecDepth 100000 in
set_option maxHeartbeats 2000000 in
theorem grow_in (s : ByteArray) (hs : (s.size : Int) ≤ 1048576) (w : World) (hT : Tabs w) :
    CallsIn Fence.wide 4 Tryd.prog 24 #[.string s] w (GrowPost s w) := by
  have hbig := hT.big
  obtain ⟨i0, hi, hz0, hz1, hz2⟩ := info_parts infoNode
  refine callsIn_of_wp_marks Tryd.func24 rfl trivial ?_ rfl
  simp only [Tryd.ntmps24, List.size_toArray, List.length_cons, List.length_nil, Nat.reduceAdd, Nat.reduceSub, Array.replicate_succ, Array.replicate_zero, List.push_toArray, List.append_toArray, List.nil_append, List.cons_append]
  gi_wp2_with (refine ⟨trivial, ?_⟩; gi_at_call 39; refine ((callsIn_wide (n := 3)).2 (pieces_any s _)).mono ?_; rintro e w' ⟨rfl, rfl⟩)
  have bO := Boxed.new w 77 (.slice none 0 0)
  have bN := Boxed.new (w.alloc (.cells #[.slice none 0 0] 77)) 9 (.string s)
  rw [World.size_alloc] at bN
  have hB0 : Below w.heap.size w ((w.alloc (.cells #[.slice none 0 0] 77)).alloc (.cells #[.string s] 9)) := ((Below.refl _ w).alloc (Nat.le_refl _) _).alloc (by simp) _
  refine wpIn_rangeFunc_ownF rfl (by omega) (gf := 51) (lb := #[.pointer (some ⟨w.heap.size + 1, 0, none⟩)]) rfl trivial (enters_of Tryd.func51 (by kernel_rfl) rfl)
    (pieces_stops 3 (by omega) (w.heap.size + 1) w.heap.size s hs _ bN.cell) kpS_t (kpS_b (by simp; omega) (by simp)) (Below.refl _ _) (fun _ => rfl)
    (fun pre W => Coll w.heap.size s pre W ∧ Below w.heap.size w W)
    (fun _ _ _ => False)
    (OwnFrom.and (Own.from (coll_own _ s) _) (ownFrom_below (Nat.le_refl _) (by simp; omega)))
    (fun _ _ _ _ _ hs _ _ => hs)
    ⟨⟨[], .slice none 0 0, bO.alloc _, World.ownsRow_nil _ _ _ _, by simp, rfl, (fun i c x h _ => by simp at h), bN⟩, hB0⟩
    (fun x => { tmps := #[.string s, undef, .pointer none, .pointer (some ⟨w.heap.size, 0, none⟩), .string x.1, .string s, .func (.func 51) #[] #[.pointer (some ⟨w.heap.size + 1, 0, none⟩)], .string x.1, undef, undef, undef, undef, undef, undef, undef], defers := [] }) ?assign ?body ?done ?stop
  case assign =>
    intro l x W K hK
    gi_wp2
    exact hK
  case body =>
    rintro l pre x W ⟨⟨cs, v, hv, hr, hnil, hlen, hleaf, hbs⟩, hB⟩ hN'
    have hmx : Tryd.prog.follows .mixedOrders = true := by kernel_rfl
    have hc := hv.cell
    gi_wp2
    have hcd : W.drew.cell? ⟨w.heap.size, 0, none⟩ = some v := hc
    have HL := Lib.hid (fun W hT => leaf_any x.1 W x.2 hT)
    have hTW : Tabs W := hT.of_below (by omega) hB
    have HTW := Lib.hid (hTW.up (Up.drew W))
    have HB := Lib.hid hB
    have hNz : w.heap.size ≤ W.heap.size := Below.size hB
    have hpn : pre.length < 2049 := by have : pre.length < pcn s := hN'; unfold pcn at this; omega
    have HLen := Lib.hid hlen
    have hcl : cs.length < 2049 := by omega
    clear hTW hN' hlen hnil hpn
    refine wpIn_region_any hmx ?_
    change wpAnyIn _ _ _ _ _ _ _ _ _ (World.drew _)
    refine wpAnyIn_ready (rs := [0, 1]) (by kernel_rfl) (by simp) ?_
    refine (AllReadyIn.cons rfl (fun K hK => ?_) (AllReadyIn.cons rfl (fun K hK => ?_) AllReadyIn.nil))
    · go_simp
      refine hK _ _ ?_
      clear hK K
      refine wpAnyIn_ready (rs := [1]) (by kernel_rfl) (by simp) ?_
      refine (AllReadyIn.cons rfl (fun K hK => ?_) AllReadyIn.nil)
      · go_simp
        refine hK _ _ ?_
        clear hK K
        refine wpAnyIn_ready (rs := [2]) (by kernel_rfl) (by simp) ?_
        refine (AllReadyIn.cons rfl (fun K hK => ?_) AllReadyIn.nil)
        · go_simp
          refine ⟨trivial, (CallsIn.inRound l (callsIn_wide.2 (HL.out _ HTW.out))).mono ?_⟩
          rintro e W1 ⟨c, rfl, hn, hu1⟩
          refine hK _ _ ?_
          clear hK K
          have HU1 := Lib.hid ((Up.drew W).trans hu1)
          have hc1 : W1.cell? ⟨w.heap.size, 0, none⟩ = some v := cell_up ((Up.drew W).trans hu1) hc
          have hNl : w.heap.size < W1.heap.size := Nat.lt_of_lt_of_le hv.lt (Below.size ((Up.drew W).trans hu1))
          have HLf : Hid (LeafAt W1 x.1 c) := Lib.hid hn.2
          refine wpAnyIn_ready (rs := [3]) (by kernel_rfl) (by simp) ?_
          refine (AllReadyIn.cons rfl (fun K hK => ?_) AllReadyIn.nil)
          · go_simp
            refine hK _ _ ?_
            clear hK K
            refine wpAnyIn_ready (rs := [4]) (by kernel_rfl) (by simp) ?_
            refine (AllReadyIn.cons rfl (fun K hK => ?_) AllReadyIn.nil)
            · refine stepIn_append rfl (.tmp 8) (.tmp 11) 77 rfl w.heap.size 53 i0 (.pointer none) 1 8 Tryd.underlying77 hi hz0 hz1 hz2 rfl (by decide) v cs.length (ptrs cs) rfl ((hr.kept (Up.grownBy HU1.out) (by cases hv : v.ownBlock <;> simp)).alloc _) ⟨W1.heap.size, 0, none⟩ 1 1 [.pointer (some ⟨c, 0, none⟩)] rfl rfl (cell_one_new _ _ _) (by simp [Value.oneCell']) (by unfold maxLen; omega) (by omega) (by simp; omega) ?_
              intro v' w2 hown' hgrow
              obtain ⟨g', cap', rfl⟩ := ownsRow_succ hown'
              obtain ⟨hb1, hk1, hk2, hk3⟩ := coll_step (by omega) hv hr HLen.out hleaf hbs HU1.out HLf.out hown' hgrow
              refine hK _ _ ?_
              clear hK K
              have hc5 := hb1.cell
              have hf5 := hb1.frozen
              have HK1 := Lib.hid hk1
              have HK2 := Lib.hid hk2
              have HK3 := Lib.hid hk3
              clear hk1 hk2 hk3 hown' hgrow
              refine wpAnyIn_ready (rs := [5]) (by kernel_rfl) (by simp) ?_
              refine (AllReadyIn.cons rfl (fun K hK => ?_) AllReadyIn.nil)
              · go_simp
                refine hK _ _ ?_
                clear hK K
                refine wpAnyIn_done (by kernel_rfl) ?_ _
                gi_wp2
                exact ⟨HK1.out, HK2.out, HK3.out, HB.out.trans HK2.out.1⟩
    · go_simp
      refine hK _ _ ?_
      clear hK K
      refine wpAnyIn_ready (rs := [0, 2]) (by kernel_rfl) (by simp) ?_
      refine (AllReadyIn.cons rfl (fun K hK => ?_) (AllReadyIn.cons rfl (fun K hK => ?_) AllReadyIn.nil))
      · go_simp
        refine hK _ _ ?_
        clear hK K
        refine wpAnyIn_ready (rs := [2]) (by kernel_rfl) (by simp) ?_
        refine (AllReadyIn.cons rfl (fun K hK => ?_) AllReadyIn.nil)
        · go_simp
          refine ⟨trivial, (CallsIn.inRound l (callsIn_wide.2 (HL.out _ HTW.out))).mono ?_⟩
          rintro e W1 ⟨c, rfl, hn, hu1⟩
          refine hK _ _ ?_
          clear hK K
          have HU1 := Lib.hid ((Up.drew W).trans hu1)
          have hc1 : W1.cell? ⟨w.heap.size, 0, none⟩ = some v := cell_up ((Up.drew W).trans hu1) hc
          have hNl : w.heap.size < W1.heap.size := Nat.lt_of_lt_of_le hv.lt (Below.size ((Up.drew W).trans hu1))
          have HLf : Hid (LeafAt W1 x.1 c) := Lib.hid hn.2
          refine wpAnyIn_ready (rs := [3]) (by kernel_rfl) (by simp) ?_
          refine (AllReadyIn.cons rfl (fun K hK => ?_) AllReadyIn.nil)
          · go_simp
            refine hK _ _ ?_
            clear hK K
            refine wpAnyIn_ready (rs := [4]) (by kernel_rfl) (by simp) ?_
            refine (AllReadyIn.cons rfl (fun K hK => ?_) AllReadyIn.nil)
            · refine stepIn_append rfl (.tmp 8) (.tmp 11) 77 rfl w.heap.size 53 i0 (.pointer none) 1 8 Tryd.underlying77 hi hz0 hz1 hz2 rfl (by decide) v cs.length (ptrs cs) rfl ((hr.kept (Up.grownBy HU1.out) (by cases hv : v.ownBlock <;> simp)).alloc _) ⟨W1.heap.size, 0, none⟩ 1 1 [.pointer (some ⟨c, 0, none⟩)] rfl rfl (cell_one_new _ _ _) (by simp [Value.oneCell']) (by unfold maxLen; omega) (by omega) (by simp; omega) ?_
              intro v' w2 hown' hgrow
              obtain ⟨g', cap', rfl⟩ := ownsRow_succ hown'
              obtain ⟨hb1, hk1, hk2, hk3⟩ := coll_step (by omega) hv hr HLen.out hleaf hbs HU1.out HLf.out hown' hgrow
              refine hK _ _ ?_
              clear hK K
              have hc5 := hb1.cell
              have hf5 := hb1.frozen
              have HK1 := Lib.hid hk1
              have HK2 := Lib.hid hk2
              have HK3 := Lib.hid hk3
              clear hk1 hk2 hk3 hown' hgrow
              refine wpAnyIn_ready (rs := [5]) (by kernel_rfl) (by simp) ?_
              refine (AllReadyIn.cons rfl (fun K hK => ?_) AllReadyIn.nil)
              · go_simp
                refine hK _ _ ?_
                clear hK K
                refine wpAnyIn_done (by kernel_rfl) ?_ _
                gi_wp2
                exact ⟨HK1.out, HK2.out, HK3.out, HB.out.trans HK2.out.1⟩
      · go_simp
        refine ⟨trivial, (CallsIn.inRound l (callsIn_wide.2 (HL.out _ HTW.out))).mono ?_⟩
        rintro e W1 ⟨c, rfl, hn, hu1⟩
        refine hK _ _ ?_
        clear hK K
        have HU1 := Lib.hid ((Up.drew W).trans hu1)
        have hc1 : W1.cell? ⟨w.heap.size, 0, none⟩ = some v := cell_up ((Up.drew W).trans hu1) hc
        have hNl : w.heap.size < W1.heap.size := Nat.lt_of_lt_of_le hv.lt (Below.size ((Up.drew W).trans hu1))
        have HLf : Hid (LeafAt W1 x.1 c) := Lib.hid hn.2
        refine wpAnyIn_ready (rs := [0, 3]) (by kernel_rfl) (by simp) ?_
        refine (AllReadyIn.cons rfl (fun K hK => ?_) (AllReadyIn.cons rfl (fun K hK => ?_) AllReadyIn.nil))
        · go_simp
          refine hK _ _ ?_
          clear hK K
          refine wpAnyIn_ready (rs := [3]) (by kernel_rfl) (by simp) ?_
          refine (AllReadyIn.cons rfl (fun K hK => ?_) AllReadyIn.nil)
          · go_simp
            refine hK _ _ ?_
            clear hK K
            refine wpAnyIn_ready (rs := [4]) (by kernel_rfl) (by simp) ?_
            refine (AllReadyIn.cons rfl (fun K hK => ?_) AllReadyIn.nil)
            · refine stepIn_append rfl (.tmp 8) (.tmp 11) 77 rfl w.heap.size 53 i0 (.pointer none) 1 8 Tryd.underlying77 hi hz0 hz1 hz2 rfl (by decide) v cs.length (ptrs cs) rfl ((hr.kept (Up.grownBy HU1.out) (by cases hv : v.ownBlock <;> simp)).alloc _) ⟨W1.heap.size, 0, none⟩ 1 1 [.pointer (some ⟨c, 0, none⟩)] rfl rfl (cell_one_new _ _ _) (by simp [Value.oneCell']) (by unfold maxLen; omega) (by omega) (by simp; omega) ?_
              intro v' w2 hown' hgrow
              obtain ⟨g', cap', rfl⟩ := ownsRow_succ hown'
              obtain ⟨hb1, hk1, hk2, hk3⟩ := coll_step (by omega) hv hr HLen.out hleaf hbs HU1.out HLf.out hown' hgrow
              refine hK _ _ ?_
              clear hK K
              have hc5 := hb1.cell
              have hf5 := hb1.frozen
              have HK1 := Lib.hid hk1
              have HK2 := Lib.hid hk2
              have HK3 := Lib.hid hk3
              clear hk1 hk2 hk3 hown' hgrow
              refine wpAnyIn_ready (rs := [5]) (by kernel_rfl) (by simp) ?_
              refine (AllReadyIn.cons rfl (fun K hK => ?_) AllReadyIn.nil)
              · go_simp
                refine hK _ _ ?_
                clear hK K
                refine wpAnyIn_done (by kernel_rfl) ?_ _
                gi_wp2
                exact ⟨HK1.out, HK2.out, HK3.out, HB.out.trans HK2.out.1⟩
        · go_simp
          refine hK _ _ ?_
          clear hK K
          refine wpAnyIn_ready (rs := [0]) (by kernel_rfl) (by simp) ?_
          refine (AllReadyIn.cons rfl (fun K hK => ?_) AllReadyIn.nil)
          · go_simp
            refine hK _ _ ?_
            clear hK K
            refine wpAnyIn_ready (rs := [4]) (by kernel_rfl) (by simp) ?_
            refine (AllReadyIn.cons rfl (fun K hK => ?_) AllReadyIn.nil)
            · refine stepIn_append rfl (.tmp 8) (.tmp 11) 77 rfl w.heap.size 53 i0 (.pointer none) 1 8 Tryd.underlying77 hi hz0 hz1 hz2 rfl (by decide) v cs.length (ptrs cs) rfl ((hr.kept (Up.grownBy HU1.out) (by cases hv : v.ownBlock <;> simp)).alloc _) ⟨W1.heap.size, 0, none⟩ 1 1 [.pointer (some ⟨c, 0, none⟩)] rfl rfl (cell_one_new _ _ _) (by simp [Value.oneCell']) (by unfold maxLen; omega) (by omega) (by simp; omega) ?_
              intro v' w2 hown' hgrow
              obtain ⟨g', cap', rfl⟩ := ownsRow_succ hown'
              obtain ⟨hb1, hk1, hk2, hk3⟩ := coll_step (by omega) hv hr HLen.out hleaf hbs HU1.out HLf.out hown' hgrow
              refine hK _ _ ?_
              clear hK K
              have hc5 := hb1.cell
              have hf5 := hb1.frozen
              have HK1 := Lib.hid hk1
              have HK2 := Lib.hid hk2
              have HK3 := Lib.hid hk3
              clear hk1 hk2 hk3 hown' hgrow
              refine wpAnyIn_ready (rs := [5]) (by kernel_rfl) (by simp) ?_
              refine (AllReadyIn.cons rfl (fun K hK => ?_) AllReadyIn.nil)
              · go_simp
                refine hK _ _ ?_
                clear hK K
                refine wpAnyIn_done (by kernel_rfl) ?_ _
                gi_wp2
                exact ⟨HK1.out, HK2.out, HK3.out, HB.out.trans HK2.out.1⟩
  case done =>
    rintro D ys W hD rfl ⟨⟨cs, v, hv, hr, hnil, hlen, hleaf, hbs⟩, hB⟩ hK
    have hc := hv.cell
    have hNz : w.heap.size ≤ W.heap.size := Below.size hB
    have hDW : D < W.heap.size := (Array.getElem?_eq_some_iff.1 hK).1
    have hN : w.heap.size ≤ D := by simp at hD; omega
    have hcl : cs.length = pcn s := by rw [hlen]; unfold pcsv; simp
    have HB := Lib.hid hB
    by_cases h0 : s.size = 0
    · have hc0 : cs = [] := by
        have : cs.length = 0 := by rw [hcl]; unfold pcn; omega
        exact List.eq_nil_of_length_eq_zero this
      obtain rfl := hnil.2 hc0
      clear hlen hcl hnil hc0 hr hleaf
      gi_wp2_with (refine ⟨trivial, ?_⟩; gi_at_call 41; refine (callsIn_wide.2 (stack_nil _)).mono ?_; rintro e w1 ⟨rfl, rfl⟩)
      refine ⟨by simp, .inl ⟨_, _, rfl, run_takeDeferred hK, ?_⟩⟩
      exact ⟨_, results_tmp rfl _ _ _, fun _ => ⟨rfl, HB.out.trans (belowK_b (w := w) (Nat.le_refl _) W D _ _ hN hK rfl rfl)⟩, fun h => by omega⟩
    · have h1 : 1 ≤ s.size := by omega
      have hb := pcn_bounds h1
      obtain ⟨g, cap, rfl, hcap, hcap2⟩ : ∃ g cap, v = .slice (some ⟨g, 0, none⟩) (pcn s) cap ∧ pcn s ≤ cap ∧ cap ≤ maxLen := by
        rcases hr.2 with ⟨_, h2⟩ | ⟨g, cap, cur, h2, _, _, h3, h4, _⟩
        · omega
        · exact ⟨g, cap, by rw [h2, hcl], by omega, h4⟩
      have hrow : LeafRow W g 0 (pcs s) := by
        intro i x hx
        have hi := (List.getElem?_eq_some_iff.1 hx).1
        rw [pcs_length] at hi
        obtain ⟨c, hci⟩ : ∃ c, cs[i]? = some c := ⟨cs[i]'(by omega), List.getElem?_eq_getElem (by omega)⟩
        have hp : (pcsv s hs)[i]? = some (pcv s hs i) := by unfold pcsv; rw [List.getElem?_map, List.getElem?_range hi]; rfl
        have hxe : (pcv s hs i).1 = x := by
          have : (pcs s)[i]? = some (pc s i) := by unfold pcs; rw [List.getElem?_map, List.getElem?_range hi]; rfl
          rw [this] at hx
          injection hx
        have hl := hleaf i c _ hci hp
        rw [hxe] at hl
        refine ⟨c, ?_, (Array.getElem?_eq_some_iff.1 hl).1, hl⟩
        have := hr.cells (g := g) rfl i (.pointer (some ⟨c, 0, none⟩)) (by unfold ptrs; rw [List.getElem?_map, hci]; rfl)
        rw [show ((⟨g, 0, none⟩ : Addr).add i) = ⟨g, 0 + i, none⟩ from by unfold Addr.add; split <;> simp_all] at this
        exact this
      have hTW : Tabs W := hT.of_below (by omega) hB
      unfold maxLen at hcap2
      have HS := Lib.hid (stack_any (pcn s) (pcs s) g 0 cap W (pcs_length s) hb.1 hcap (by omega) (pcs_piece h1) (by rw [cat_pcs h1]; exact hs) hTW hrow)
      clear hlen hcl hnil hr hleaf hrow hcap2
      gi_wp2_with (refine ⟨trivial, ?_⟩; gi_at_call 41; refine (callsIn_wide.2 HS.out).mono ?_; rintro e w1 ⟨t, hst, b, rfl, hn, hu⟩)
      have hK1 : w1.heap[D]? = some (.deferred (some [])) := (Below.block hu D hDW).trans hK
      refine ⟨by simp, .inl ⟨_, _, rfl, run_takeDeferred hK1, ?_⟩⟩
      exact ⟨_, results_tmp rfl _ _ _, fun h => by omega, fun _ => ⟨t, grow_spec h1 hst, b, rfl, node_put hn hK1, (HB.out.trans (Below.mono hu hNz)).trans (belowK_b (w := w) (Nat.le_refl _) w1 D _ _ hN hK1 rfl rfl)⟩⟩
  case stop =>
    rintro D c pre W _ _ h _
    exact h.elim

theorem grow_any (s : ByteArray) (hs : (s.size : Int) ≤ 1048576) (w : World) (hT : Tabs w) : Calls Tryd.prog 24 #[.string s] w (GrowPost s w) := callsIn_wide.1 (grow_in s hs w hT)
end Go.Proofs.YtcbmigkdmmmahaaDoor
