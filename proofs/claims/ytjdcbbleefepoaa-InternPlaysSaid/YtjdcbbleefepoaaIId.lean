/- The document's Id and State. -/
import Derived.Test.YtjdcbbleefepoaaIFind
import Derived.Deep.RegionLaw
namespace Go.Proofs.Ytjdcbbleefepoaa
open Go.RowKit
attribute [local go_sem ↓] ldS_eq stS_eq elS_eq neS_eq zrS_eq bsS_eq bdS_eq
attribute [local go_sem] ldS_run stS_run elS_run neS_run zrS_run bsS_run bdS_run0 bdS_run1 g0_rule ldV_drew ldV_drewN

/-- The list behind Id. -/
noncomputable def addS (L : List (Array Value)) (x : Array Value) : List (Array Value) := if fI L x < L.length then L else L ++ [x]
theorem fI_le (L : List (Array Value)) (x : Array Value) : fI L x ≤ L.length := by unfold fI; exact List.findIdx_le_length
set_option maxRecDepth 100000 in
set_option maxHeartbeats 2000000 in
theorem refId_in (w : World) (base tb : Nat) (v : Value) (L : List (Array Value)) (x : Array Value) (hT : RT w base tb v L) (hx : IsS x) (hn : L.length ≤ 1000000) (hin : fI L x < L.length) :
    Calls Try.prog 9 #[.pointer (some ⟨tb, 0, none⟩), .agg x] w fun e w' => e = .returned (.int .i64 (fI L x : Nat)) ∧ Up w w' := by
  have hu := Up.alloc w (.cells x TS)
  have HF := Lib.hid (fun (W : World) (h : RT W base tb v L) => refFind_any W base tb v L x h hx hn)
  have hl := ldV_of hx (range_box w x TS)
  have HT := Lib.hid hT
  have HU := Lib.hid hu
  have e1 : fE L x = fI L x := by unfold fE; rw [if_pos hin]
  have e2 : fB L x = true := by unfold fB; exact decide_eq_true hin
  rw [e1, e2] at HF
  generalize fI L x = n at HF ⊢
  clear hT hu hin e1 e2 hn hx
  go_enter Try.func9, Try.ntmps9
  go_wp2_with (go_at_call 11; ((with_reducible refine (HF.out _ (HT.out.up HU.out)).mono ?_); rintro e1 w1 ⟨rfl, hu⟩))
  go_ret
  exact ⟨rfl, HU.out.trans hu⟩
theorem ldV_turn {G : Nat → Prop} {w w' : World} {b o : Nat} {u : Value} (ht : Turn G w w') (hg : ¬ G b) (h : ldV (.pointer (some ⟨b, o, none⟩)) w = some u) : ldV (.pointer (some ⟨b, o, none⟩)) w' = some u := by
  obtain ⟨x, b', o', e, rfl, hx, hr⟩ := ldV_inv h
  injection e with e; injection e with e; injection e with e1 e2
  subst e1; subst e2
  exact ldV_of hx fun j v hv => ht.cell hg (hr j v hv)
theorem frozen_turn {G : Nat → Prop} {w w' : World} {b o : Nat} {v : Value} {f : Bool} (ht : Turn G w w') (hg : ¬ G b) (hc : w.cell? ⟨b, o, none⟩ = some v) (h : w.frozen? ⟨b, o, none⟩ = f) : w'.frozen? ⟨b, o, none⟩ = f := by
  have hb : b < w.heap.size := World.block_lt_of_cell? w ⟨b, o, none⟩ hc
  rw [← h]
  exact World.frozen?_of_block (ht.block b hb hg)
theorem keepI {F : Nat → Prop} {W a b : World} {tb B : Nat} {v u : Value} (hu : Turn F a b) (h1 : ¬ F tb) (h2 : ¬ F B) (h : Turn F W a ∧ a.cell? ⟨tb, 0, none⟩ = some v ∧ a.frozen? ⟨tb, 0, none⟩ = false ∧ ldV (.pointer (some ⟨B, 0, none⟩)) a = some u) :
    Turn F W b ∧ b.cell? ⟨tb, 0, none⟩ = some v ∧ b.frozen? ⟨tb, 0, none⟩ = false ∧ ldV (.pointer (some ⟨B, 0, none⟩)) b = some u :=
  ⟨h.1.trans hu, hu.cell h1 h.2.1, frozen_turn hu h1 h.2.1 h.2.2.1, ldV_turn hu h2 h.2.2.2⟩
theorem sBytes : (Try.prog.info? TS).map (·.bytes) = some 384 := by kernel_rfl
set_option maxRecDepth 100000 in
set_option maxHeartbeats 2000000 in
theorem refId_out (w : World) (tb : Nat) (v : Value) (L : List (Array Value)) (x : Array Value) (hT : RT w 0 tb v L) (hx : IsS x) (hn : L.length ≤ 1000000) (hin : ¬ fI L x < L.length) :
    Calls Try.prog 9 #[.pointer (some ⟨tb, 0, none⟩), .agg x] w fun e w' => e = .returned (.int .i64 (L.length : Nat)) ∧ ∃ v', RT w' 0 tb v' (L ++ [x]) ∧ (∀ g, v'.ownBlock = some g → v.ownBlock = some g ∨ w.heap.size ≤ g) ∧ Turn (fun i => i = tb ∨ v.ownBlock = some i) w w' := by
  have hu := Up.alloc w (.cells x TS)
  have HF := Lib.hid (fun (W : World) (h : RT W 0 tb v L) => refFind_any W 0 tb v L x h hx hn)
  have hl := ldV_of hx (range_box w x TS)
  have HT := Lib.hid hT
  have HU := Lib.hid hu
  have HX := Lib.hid hx
  have e1 : fE L x = 0 := by unfold fE; rw [if_neg hin]
  have e2 : fB L x = false := by unfold fB; exact decide_eq_false hin
  rw [e1, e2] at HF
  obtain ⟨A, cap, rfl⟩ := none_form hT.own
  obtain ⟨n, hln⟩ : ∃ n, L.length = n := ⟨_, rfl⟩
  have HN := Lib.hid hln
  rw [hln] at hn ⊢
  obtain ⟨i0, hi0, hz0, hz1⟩ := sInfo'
  have hz2 : i0.bytes = 384 := by have := sBytes; rw [hi0] at this; simpa using this
  have hzs := z0_is.size
  have hxs : x.toList.length = 1 * 82 := by rw [Array.length_toList, hx.size]
  have hx1 : ∀ u ∈ x.toList, u.oneCell' = true := fun u hm => (Array.all_eq_true_iff_forall_mem.1 hx.one) u (by simpa using hm)
  have b1 : n + 1 ≤ maxLen := by unfold maxLen; omega
  have b2 : (n + 1) * 384 ≤ 140737488355328 := by omega
  have HB := Lib.hid (show (n : Int) ≤ 1000000 by omega)
  clear hT hu hin e1 e2 hln hn
  go_enter Try.func9, Try.ntmps9
  go_wp2_with (go_at_call 11; ((with_reducible refine (HF.out _ (HT.out.up HU.out)).mono ?_); rintro e1 w1 ⟨rfl, hu⟩; have HU1 := Lib.hid (HU.out.trans hu); have hl := ldV_up hu hl; clear hu))
  have HR := Lib.hid (HT.out.up HU1.out)
  obtain ⟨F, hF⟩ : ∃ F : Nat → Prop, F = fun i => (Value.slice A L.length cap).ownBlock = some i := ⟨_, rfl⟩
  have HF1 := Lib.hid (show ∀ g, (Value.slice A L.length cap).ownBlock = some g → F g from fun g e => by rw [hF]; exact e)
  have HF2 := Lib.hid (show ¬ F tb from by rw [hF]; exact HR.out.apart)
  have HF3 := Lib.hid (show ∀ g, F g → g < w.heap.size from fun g e => by
    rw [hF] at e
    rcases HT.out.own.2 with ⟨h0, -⟩ | ⟨g', cap', cur, h0, -, hg, -⟩
    · rw [h0] at e; cases e
    · rw [h0] at e
      obtain rfl := Option.some.inj e
      exact (Array.getElem?_eq_some_iff.1 hg).1)
  have HF4 := Lib.hid (show ¬ F w.heap.size from fun h => by have := HF3.out _ h; omega)
  clear hF
  have hok := okS_of hx
  have s1 : w1.cell? ⟨tb, 0, none⟩ = some (.slice A n cap) := by rw [← HN.out]; exact cellOf HR.out.box rfl
  have s2 : w1.frozen? ⟨tb, 0, none⟩ = false := frozenOf HR.out.box
  have s3 : (w1.drew.alloc (.cells x TS)).cell? ⟨tb, 0, none⟩ = some (.slice A n cap) := cell_up (Up.alloc w1.drew _) s1
  have s4 : (w1.alloc (.cells x TS)).cell? ⟨tb, 0, none⟩ = some (.slice A n cap) := cell_up (Up.alloc w1 _) s1
  have hlt : tb < w1.heap.size := (Array.getElem?_eq_some_iff.1 HR.out.box).1
  have HB5 := Lib.hid (fun (w5 : World) (hg : (w1.alloc (.cells x TS)).drew.grownBy w5 (Value.slice A n cap).ownBlock) => ((hg.block tb (by show tb < (w1.alloc (.cells x TS)).heap.size; rw [World.size_alloc]; omega) (fun e => HR.out.apart (by rw [HN.out]; exact e.symm))).trans ((Below.block (Up.alloc w1 (.cells x TS)) tb hlt).trans (by rw [← HN.out]; exact HR.out.box)) : w5.heap[tb]? = some (.cells #[.slice A n cap] 29)))
  have HLT := Lib.hid hlt
  clear hlt
  have HOWN : w1.ownsRow 0 TS 82 (.slice A n cap) n (rows L) := by have hz := HR.out.own; rw [HN.out] at hz; exact hz
  go_region_law (first
    | (refine step_append_lies _ (by rfl) _ _ _ (by rfl) 0 TS i0 (.agg z0) 82 384 Try.underlying27 hi0 hz0 hz1 hz2 hzs (by decide) _ n (rows L) (by rfl) (HOWN.alloc _) ⟨w1.heap.size, 0, none⟩ 1 1 x.toList (by rfl) hxs (World.news_of_block (cs := x) (t := TS) (fr := (0, 0)) (heap_alloc_new w1 _)) hx1 (by omega) b1 b2 (Nat.zero_le _) (w1.heap.size + 1) (by simp) ?_; intro g5 cap5 w5 hown5 hgrow hat5 hlt5; have hB5 := HB5.out _ hgrow; have c5 : w5.cell? ⟨tb, 0, none⟩ = some (.slice A n cap) := cellOf hB5 rfl; have z5 : w5.frozen? ⟨tb, 0, none⟩ = false := frozenOf hB5))
  all_goals
    have c6 := World.cell?_setCell_same' w5 ⟨tb, 0, none⟩ (.slice (some ⟨g5, 0, none⟩) (n + 1) cap5) (by rw [c5]; rfl)
    have e1 : wrap64 (n : Int) = (n : Nat) := IntWalk.wrap64_in _ (by have := HB.out; omega)
    have HOWN5 := Lib.hid hown5
    have HGR := Lib.hid hgrow
    have HAT := Lib.hid hat5
    have HBB := Lib.hid hB5
    clear hown5 hgrow hat5 hB5 HOWN hlt5
    go_wp2
    go_ret
    have hlt := HLT.out
    have hne : g5 ≠ tb := fun e => by
      rcases HAT.out with k | k
      · exact HR.out.apart (by rw [HN.out, k, e])
      · omega
    have hup := Below.size HU1.out
    refine ⟨rfl, .slice (some ⟨g5, 0, none⟩) (n + 1) cap5, ⟨Nat.zero_le _, heap_setCell_same w5 tb 0 _ _ _ HBB.out, ?_, ?_, ?_⟩, ?_, ?_⟩
    · have hl2 : (L ++ [x]).length = n + 1 := by rw [List.length_append, HN.out]; rfl
      rw [rows_snoc, hl2]
      exact owns_turn HOWN5.out (Turn.set w5 (G := fun i => i = tb) rfl 0 _) (fun g e k => hne (by rw [← k]; exact Option.some.inj e))
    · intro e; exact hne (Option.some.inj e)
    · intro y hy
      rcases List.mem_append.1 hy with h | h
      · exact HT.out.st y h
      · rw [List.mem_singleton] at h
        subst h
        exact HX.out
    · intro g e
      obtain rfl := Option.some.inj e
      rcases HAT.out with k | k
      · exact .inl k
      · right
        show w.heap.size ≤ g5
        omega
    · have t1 : Turn (fun i => i = tb ∨ (Value.slice A n cap).ownBlock = some i) w (w1.alloc (.cells x TS)).drew := .of_up _ ((HU1.out.trans (Up.alloc w1 (.cells x TS))).trans (Up.drew _))
      have t2 := (t1.trans (Turn.grown HGR.out (fun r e _ => .inr e))).trans (Turn.set w5 (G := fun i => i = tb ∨ (Value.slice A n cap).ownBlock = some i) (.inl rfl) 0 (.slice (some ⟨g5, 0, none⟩) (n + 1) cap5))
      exact t2
end Go.Proofs.Ytjdcbbleefepoaa
