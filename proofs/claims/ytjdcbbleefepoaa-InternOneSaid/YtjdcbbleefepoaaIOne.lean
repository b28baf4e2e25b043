/- InternOne, walked for any program whose tables answer so. -/
import Derived.Test.YtjdcbbleefepoaaILaw
import Derived.Test.YtjdcbbleefepoaaITab
import Derived.Deep.DeepCutAuto
import Derived.Deep.CutBlock
namespace Go.Proofs.Ytjdcbbleefepoaa
open Go.RowKit
attribute [local go_sem ↓] ldS_eq stS_eq elS_eq neS_eq zrS_eq bsS_eq bdS_eq
attribute [local go_sem] ldS_run stS_run elS_run neS_run zrS_run bsS_run bdS_run0 bdS_run1 g0_rule ldV_drew ldV_drewN

theorem infoI : ∃ i, Try.prog.info? 3 = some i ∧ i.zero = some (.int .i64 0) ∧ i.size = 1 ∧ i.bytes = 8 := by
  have h : (Try.prog.info? 3).map (fun i => (i.zero, i.size, i.bytes)) = some (some (.int .i64 0), 1, 8) := by kernel_rfl
  cases hi : Try.prog.info? 3 with
  | none => rw [hi] at h; cases h
  | some i =>
    rw [hi] at h
    simp only [Option.map_some, Option.some.injEq, Prod.mk.injEq] at h
    exact ⟨i, rfl, h.1, h.2.1, h.2.2⟩
/-- The row of the numbers. -/
noncomputable def idL (L : List (Array Value)) (i : Nat) : List Value := (List.range i).map fun k => .int .i64 (idN L k : Nat)
theorem idL_snoc (L : List (Array Value)) (i : Nat) : idL L (i + 1) = idL L i ++ [.int .i64 (idN L i : Nat)] := by simp [idL, List.range_succ]
theorem idL_len (L : List (Array Value)) (i : Nat) : (idL L i).length = i := by simp [idL]
/-- What stands between rounds: the table, the row. -/
structure One (S : World → Nat → (Nat → Prop) → List (Array Value) → Prop) (w : World) (tb : Nat) (L T : List (Array Value)) (K : Nat → Prop) (v : Value) (i : Nat) (W : World) : Prop where
  ex : ∃ G : Nat → Prop, S W tb G T ∧ (∀ j, G j → w.heap.size ≤ j ∧ j < W.heap.size ∧ ¬ K j) ∧ ∀ g, v.ownBlock = some g → ¬ G g
  own : W.ownsRow w.heap.size 3 1 v i (idL L i)
  up : Up w W
theorem One.cell {S : World → Nat → (Nat → Prop) → List (Array Value) → Prop} {w W : World} {tb i k g cap : Nat} {L T : List (Array Value)} {K : Nat → Prop} (h : One S w tb L T K (.slice (some ⟨g, 0, none⟩) i cap) i W) (hk : k < i) : W.cell? ⟨g, k, none⟩ = some (.int .i64 (idN L k : Nat)) := by
  rcases h.own.2 with ⟨h0, -⟩ | ⟨g', cap', cur, hv, -, hg, hn, -, hsz, htake⟩
  · cases h0
  · injection hv with hv h1 h2
    injection hv with hv
    injection hv with hv
    subst hv
    have h1 : (cur.toList.take (i * 1))[k]? = some (.int .i64 (idN L k : Nat)) := by
      rw [htake]
      unfold idL
      rw [List.getElem?_map, List.getElem?_range hk]
      rfl
    rw [List.getElem?_take, if_pos (by omega)] at h1
    exact cellOf hg (by simpa using h1)
section
variable {S : World → Nat → (Nat → Prop) → List (Array Value) → Prop} (hC : IntC S)
include hC
theorem One.box {w W W' : World} {tb i : Nat} {L T : List (Array Value)} {K K' : Nat → Prop} {v : Value} (h : One S w tb L T K v i W) (hu : Up W W') (hK : ∀ j, K' j → K j ∨ W.heap.size ≤ j) : One S w tb L T K' v i W' := by
  obtain ⟨G, h1, h2, h3⟩ := h.ex
  exact ⟨⟨G, hC.up h1 hu, fun j hj => ⟨(h2 j hj).1, Nat.lt_of_lt_of_le (h2 j hj).2.1 (Below.size hu), fun k => by
    rcases hK j k with k | k
    · exact (h2 j hj).2.2 k
    · have := (h2 j hj).2.1; omega⟩, h3⟩, owns_turn h.own (.of_up (fun _ => False) hu) (fun _ _ k => k), h.up.trans hu⟩
theorem one_id {w W : World} {tb i : Nat} {L T : List (Array Value)} {K : Nat → Prop} {v : Value} (h : One S w tb L T K v i W) {x : Array Value} (hx : IsS x) (hl : T.length ≤ 1000000) (hK : ∀ j, K j → j < W.heap.size) :
    Calls Try.prog 8 #[ptr tb, .agg x] W fun e w' => e = .returned (.int .i64 (fI T x : Nat)) ∧ One S w tb L (addS T x) K v i w' ∧ Turn (fun j => w.heap.size ≤ j ∧ ¬ K j ∧ v.ownBlock ≠ some j) W w' := by
  obtain ⟨G, h1, h2, h3⟩ := h.ex
  refine (hC.id W tb _ T x h1 hx hl).mono ?_
  rintro e w' ⟨k1, k2, k3⟩
  have hsz := Below.size h.up
  have hlt : ∀ g, v.ownBlock = some g → g < W.heap.size := fun g hg => by
    rcases h.own.2 with ⟨h0, -⟩ | ⟨g', cap', cur, hv, -, hgg, -⟩
    · rw [h0] at hg; cases hg
    · rw [hv] at hg
      obtain rfl := Option.some.inj hg
      exact (Array.getElem?_eq_some_iff.1 hgg).1
  refine ⟨k1, ⟨⟨fun j => (G j ∨ W.heap.size ≤ j) ∧ j < w'.heap.size, hC.mono k2 (fun j hj k => ⟨k, hj⟩), fun j hj => ⟨?_, hj.2, fun k => ?_⟩, fun g hg k => ?_⟩, owns_turn h.own k3 h3, h.up.trans' k3 (fun j hj => (h2 j hj).1)⟩, k3.mono (fun j _ hj => ⟨(h2 j hj).1, (h2 j hj).2.2, fun e => h3 j e hj⟩)⟩
  · rcases hj.1 with k | k
    · exact (h2 j k).1
    · omega
  · rcases hj.1 with k2 | k2
    · exact (h2 j k2).2.2 k
    · have := hK j k; omega
  · rcases k.1 with k | k
    · exact h3 g hg k
    · have := hlt g hg; omega
theorem one_push {w W W4 : World} {tb i g4 cap4 : Nat} {L T : List (Array Value)} {K : Nat → Prop} {v : Value} {o : Obj} (h : One S w tb L T K v i W) (hgrow : (W.alloc o).grownBy W4 v.ownBlock) (hown : W4.ownsRow w.heap.size 3 1 (.slice (some ⟨g4, 0, none⟩) (i + 1) cap4) (i + 1) (idL L (i + 1))) (hat : v.ownBlock = some g4 ∨ g4 = W.heap.size + 1) :
    One S w tb L T K (.slice (some ⟨g4, 0, none⟩) (i + 1) cap4) (i + 1) W4 := by
  obtain ⟨G, h1, h2, h3⟩ := h.ex
  have t1 := (Turn.alloc (fun j => v.ownBlock = some j) W o).trans (Turn.grown (G := fun j => v.ownBlock = some j) hgrow (fun r e _ => e))
  have hlo : ∀ j, v.ownBlock = some j → w.heap.size ≤ j := fun j e => by
    rcases h.own.2 with ⟨h0, -⟩ | ⟨g', cap', cur, hv, hb, -⟩
    · rw [h0] at e; cases e
    · rw [hv] at e
      obtain rfl := Option.some.inj e
      exact hb
  refine ⟨⟨G, hC.turn h1 t1 (fun j _ k e => h3 j e k), fun j hj => ⟨(h2 j hj).1, Nat.lt_of_lt_of_le (h2 j hj).2.1 t1.size, (h2 j hj).2.2⟩, fun g e k => ?_⟩, hown, h.up.trans' t1 hlo⟩
  obtain rfl := Option.some.inj e
  rcases hat with h4 | h4
  · exact h3 _ h4 k
  · have := (h2 _ k).2.1
    have h5 : g4 < W.heap.size := this
    omega
omit hC in
theorem wf_small {q : Nat} (h : q ≤ 1000000) : (Lit.int .i64 (q : Nat)).wf = true := by simp [Lit.wf, IntKind.min, IntKind.max, IntKind.signed, IntKind.bits]; omega
theorem One.more {w W W' : World} {tb i : Nat} {L T : List (Array Value)} {K : Nat → Prop} {v : Value} (h : One S w tb L T K v i W) (hu : Up W W') : One S w tb L T K v i W' := h.box hC hu (fun _ k => .inl k)
theorem one_state {w W : World} {tb i q : Nat} {L T : List (Array Value)} {K : Nat → Prop} {v : Value} (h : One S w tb L T K v i W) (hl : T.length ≤ 1000000) (hq : q ≤ 1000000) :
    Calls Try.prog 12 #[ptr tb, .int .i64 (q : Nat)] W fun e w' => e = .returned (.tuple #[.agg (stT T q), .int .i64 (stE T.length q)]) ∧ Up W w' := by
  obtain ⟨G, h1, -⟩ := h.ex
  exact hC.state W tb G T q h1 hl (wf_small hq)
theorem one_find {w W : World} {tb i : Nat} {L T : List (Array Value)} {K : Nat → Prop} {v : Value} (h : One S w tb L T K v i W) {x : Array Value} (hx : IsS x) (hl : T.length ≤ 1000000) :
    Calls Try.prog 10 #[ptr tb, .agg x] W fun e w' => e = .returned (.tuple #[.int .i64 (fE T x : Nat), .bool (fB T x)]) ∧ Up W w' := by
  obtain ⟨G, h1, -⟩ := h.ex
  exact hC.find W tb G T x h1 hx hl
theorem one_len {w W : World} {tb i : Nat} {L T : List (Array Value)} {K : Nat → Prop} {v : Value} (h : One S w tb L T K v i W) :
    Calls Try.prog 14 #[ptr tb] W fun e w' => e = .returned (.int .i64 (T.length : Nat)) ∧ Up W w' := by
  obtain ⟨G, h1, -⟩ := h.ex
  exact hC.len W tb G T h1
omit hC in
theorem keepO {F : Nat → Prop} {a b : World} {b1 o1 b7 g i : Nat} {u1 u7 u3 : Value} (hu : Turn F a b) (h1 : ¬ F b1) (h2 : ¬ F b7) (h3 : ¬ F g) (h : ldV (.pointer (some ⟨b1, o1, none⟩)) a = some u1 ∧ ldV (.pointer (some ⟨b7, 0, none⟩)) a = some u7 ∧ a.cell? ⟨g, i, none⟩ = some u3) :
    ldV (.pointer (some ⟨b1, o1, none⟩)) b = some u1 ∧ ldV (.pointer (some ⟨b7, 0, none⟩)) b = some u7 ∧ b.cell? ⟨g, i, none⟩ = some u3 :=
  ⟨ldV_turn hu h1 h.1, ldV_turn hu h2 h.2.1, hu.cell h3 h.2.2⟩
set_option maxRecDepth 100000 in
set_option maxHeartbeats 4000000 in
theorem ione_walk (w : World) (A : Option Addr) (n c : Nat) (L : List (Array Value)) (hL : StL w A n L) : Calls Try.prog 5 #[.slice A n c] w fun e w' => e = .returned (.bool true) ∧ Up w w' := by
  have HW := Lib.hid (fun W => iwakes_any hC W)
  by_cases hn : 200 < n
  · have hU := Up.refl w
    have hn2 : (200 : Int) < n := by omega
    clear hC hL
    go_enter Try.func5, Try.ntmps5
    go_wp2_with (go_at_call 6; ((with_reducible refine (HW.out _).mono ?_); rintro e w5 ⟨rfl, hu⟩; have hU := hU.trans hu; clear hu))
    go_ret
    exact ⟨rfl, hU⟩
  have g0 : decide ((200 : Int) < n) = false := decide_eq_false (by omega)
  have HC := Lib.hid hC
  have HL := Lib.hid hL
  have HN := Lib.hid (show n ≤ 200 by omega)
  have H0 := Lib.hid (hC.new w)
  have HR0 : w.ownsRow w.heap.size 3 1 (.slice none 0 0) 0 [] := World.ownsRow_nil _ _ _ _
  clear hC hL hn
  go_enter Try.func5, Try.ntmps5
  go_wp2_with (go_at_call 7; ((with_reducible refine H0.out.mono ?_); rintro e w1 ⟨tb, rfl, hs, hu⟩; have HS := Lib.hid (NewS.mk hs hu); clear hs hu))
  have HO : Hid (One S w tb L (tabN L 0) (fun _ => False) (.slice none 0 0) 0 w1) := Lib.hid ⟨⟨fun j => w.heap.size ≤ j ∧ j < w1.heap.size, HC.out.mono HS.out.s (fun j hj k => ⟨k, hj⟩), fun j hj => ⟨hj.1, hj.2, fun k => k⟩, fun g e => by cases e⟩, World.ownsRow_nil _ _ _ _, HS.out.up⟩
  clear H0 HR0
  go_loopg [4, 5] n (fun g s4 s5 wr => ∃ i : Nat, i ≤ n ∧ g = n - i ∧ s5 = .int .i64 (i : Nat) ∧ (∃ A4 c4, s4 = .slice A4 i c4) ∧ Hid (One S w tb L (tabN L i) (fun _ => False) s4 i wr))
  case atStart => exact ⟨0, Nat.zero_le _, rfl, rfl, ⟨none, 0, rfl⟩, HO⟩
  case round =>
    clear HO HS g0
    obtain ⟨i, hi, hg, rfl, ⟨A4, c4, rfl⟩, HO⟩ := hrel
    have HG := Lib.hid hg
    clear hg
    by_cases hlt : i < n
    · have hiL : i < L.length := by rw [HL.out.len]; exact hlt
      obtain ⟨b, o, hA, hb, hr⟩ := HL.out.at_ i hiL
      subst hA
      obtain ⟨x, hx⟩ : ∃ x, L[i] = x := ⟨_, rfl⟩
      have hxS : IsS x := by rw [← hx]; exact HL.out.ok _ (List.getElem_mem hiL)
      rw [hx] at hr
      have hxd : L.getD i z0 = x := by rw [List.getD_eq_getElem?_getD, List.getElem?_eq_getElem hiL]; exact hx
      have hl := ldV_of hxS (range_up HO.out.up hr)
      have HI := Lib.hid (one_id HC.out HO.out hxS (by have := tab_len L i; have := HN.out; omega) (fun _ k => k.elim))
      have hT : addS (tabN L i) x = tabN L (i + 1) := by rw [← hxd]; rfl
      have hid : fI (tabN L i) x = idN L i := by rw [← hxd]; rfl
      rw [hT, hid] at HI
      have p0 : (0 : Int) ≤ i := by omega
      have p1 : (i : Int) < n := by omega
      have e2 : IntKind.i64.wrap ((i : Int) + 1) = (i : Int) + 1 := IntWalk.i64_in _ (by have := HN.out; omega)
      have HK := Lib.hid hlt
      obtain ⟨i0, hi0, hz0, hz1, hz2⟩ := infoI
      have b1 : i + 1 ≤ maxLen := by unfold maxLen; have := HN.out; omega
      have b2 : (i + 1) * 8 ≤ 140737488355328 := by have := HN.out; omega
      obtain ⟨q, hq⟩ : ∃ q : Nat, idN L i = q := ⟨_, rfl⟩
      rw [hq] at HI
      have HQ := Lib.hid hq
      clear hr hxS hx hxd hT hid hb hiL hq
      go_wp2_with (first
        | (go_at_call 8; ((with_reducible refine HI.out.mono ?_); rintro e w2 ⟨rfl, hO, -⟩; have HO2 := Lib.hid hO; have hown := hO.own; have hus := Below.size hO.up; clear hO))
        | (at_builtin; (refine wpList_append_lies _ rfl _ _ 49 rfl w.heap.size 3 i0 (.int .i64 0) 1 8 Try.underlying49 hi0 hz0 hz1 hz2 rfl (by decide) (.slice A4 i c4) i (idL L i) rfl (hown.alloc _) ⟨w2.heap.size, 0, none⟩ 1 1 [.int .i64 (q : Nat)] rfl rfl (cell_one_new _ _ _) (by simp [Value.oneCell']) (by omega) b1 b2 (by rw [World.size_alloc]; omega) _ rfl ?_); intro g4 cap4 W4 hown4 hgrow4 hat4 hlt4; clear hi0 hz0 hz1 hz2; have HP := Lib.hid (one_push HC.out HO2.out hgrow4 (by rw [idL_snoc, HQ.out]; exact hown4) (by rw [World.size_alloc] at hat4; exact hat4)); clear hown4 hgrow4 hat4 hlt4 hown hus))
      go_roundg (n - (i + 1))
      case measure => rw [HG.out]; have := HK.out; omega
      case rel => exact ⟨i + 1, HK.out, rfl, by go_num, ⟨_, _, rfl⟩, HP⟩
    · have hin : i = n := by omega
      subst hin
      have f0 : decide (i < i) = false := decide_eq_false (by omega)
      clear hlt hi HG
      have HS2 := Lib.hid (fun (k : Nat) (hk : k < i) => And.intro (tab_state (l := L) hk) (And.intro (tab_find (l := L) hk) (And.intro (tab_id (l := L) hk) (And.intro (tab_same (l := L) hk) (tab_at (l := L) hk).1))))
      have HE := Lib.hid (fun (k k' : Nat) (hk : k < i) (hk' : k' < i) => tab_eq (l := L) (i := k') (k := k) hk' hk)
      have HTL := Lib.hid (tab_len L i)
      have HTP := Lib.hid (fun (h : 0 < i) => tab_pos (l := L) h)
      have HLen := Lib.hid HL.out.len
      obtain ⟨T, hT⟩ : ∃ T, tabN L i = T := ⟨_, rfl⟩
      rw [hT] at HO HS2 HTL HTP
      have HOK := Lib.hid (show One S w tb L T (fun _ => False) (.slice A4 i c4) i wr from HO.out)
      clear hT HO
      go_wp2
      go_loopg [6] i (fun g s6 wr => ∃ j : Nat, j ≤ i ∧ g = i - j ∧ s6 = .int .i64 (j : Nat) ∧ Hid (One S w tb L T (fun _ => False) (.slice A4 i c4) i wr))
      case atStart => exact ⟨0, Nat.zero_le _, rfl, rfl, HOK⟩
      case round =>
        clear HOK
        obtain ⟨j, hj, hg, rfl, HO⟩ := hrel
        have HG := Lib.hid hg
        clear hg
        by_cases hlt : j < i
        · have hjL : j < L.length := by rw [HLen.out]; exact hlt
          obtain ⟨b, o, hA, hb, hr⟩ := HL.out.at_ j hjL
          subst hA
          obtain ⟨x, hx⟩ : ∃ x, L[j] = x := ⟨_, rfl⟩
          have hxS : IsS x := by rw [← hx]; exact HL.out.ok _ (List.getElem_mem hjL)
          rw [hx] at hr
          have hxd : L.getD j z0 = x := by rw [List.getD_eq_getElem?_getD, List.getElem?_eq_getElem hjL]; exact hx
          obtain ⟨g, cap, hv, hgb, hgl⟩ := HO.out.own.form (by omega)
          injection hv with hv hv1 hv2
          subst hv hv2
          have hl := ldV_of hxS (range_up HO.out.up hr)
          have cq := HO.out.cell hlt
          obtain ⟨q, hq⟩ : ∃ q : Nat, idN L j = q := ⟨_, rfl⟩
          obtain ⟨⟨s1, s2⟩, ⟨s3, s4⟩, s5, s6, s7⟩ := HS2.out j hlt
          rw [hq] at cq s1 s2 s3 s5 s7
          rw [hxd] at s1 s3 s4 s5 s6
          have hT2 : T.length ≤ 200 := by have := HTL.out; have := HN.out; omega
          have H1 := Lib.hid (fun (W : World) (h : One S w tb L T (fun _ => False) (.slice (some ⟨g, 0, none⟩) i c4) i W) => one_state HC.out h (q := q) (by omega) (by omega))
          have H2 := Lib.hid (fun (W : World) (h : One S w tb L T (fun _ => False) (.slice (some ⟨g, 0, none⟩) i c4) i W) => one_find HC.out h hxS (by omega))
          have H3 := Lib.hid (fun (W : World) (b7 : Nat) (h : One S w tb L T (fun k => k = b7) (.slice (some ⟨g, 0, none⟩) i c4) i W) (hK : b7 < W.heap.size) => one_id HC.out h hxS (by omega) (fun k e => by rw [e]; exact hK))
          have H4 := Lib.hid (fun (W : World) (b7 : Nat) (h : One S w tb L T (fun k => k = b7) (.slice (some ⟨g, 0, none⟩) i c4) i W) => one_len HC.out h)
          rw [s1, s2] at H1
          rw [s3, s4] at H2
          rw [s5, s6] at H3
          have HB := Lib.hid hb
          have HGB := Lib.hid hgb
          have HK := Lib.hid hlt
          have HXS := Lib.hid hxS
          have p0 : (0 : Int) ≤ j := by omega
          have p1 : (j : Int) < i := by omega
          have f1 : decide (T.length ≤ q) = false := decide_eq_false (by omega)
          have f2 : decide ((q : Int) < 0) = false := decide_eq_false (by omega)
          have e2 : IntKind.i64.wrap ((j : Int) + 1) = (j : Int) + 1 := IntWalk.i64_in _ (by have := HN.out; omega)
          have HQ := Lib.hid hq
          have HXd := Lib.hid hxd
          obtain ⟨m, hm⟩ : ∃ m, T.length = m := ⟨_, rfl⟩
          rw [hm] at H4 f1
          clear hr hxS hx hxd hb hjL hq s1 s2 s3 s4 s5 s6 s7 hT2 hgb hgl hm
          go_upto_region 14 with (first
            | (go_at_call 12; ((with_reducible refine (H1.out _ HO.out).mono ?_); rintro e w2 ⟨rfl, hu⟩; have hst := stV_of HXS.out (there_box w2 z0_is TS); have hu2 := hu.trans (set_upS (b := w2.heap.size) (o := 0) (l := x.toList) (Up.alloc w2 (.cells z0 TS)) (Nat.le_refl _)); have hl := ldV_up hu2 hl; have cq := cell_up hu2 cq; have HO2 := Lib.hid (HO.out.more HC.out hu2); have h7 := set_ld HXS.out (there_box w2 z0_is TS); have HU2 := Lib.hid (And.intro hu hu2); clear hu hu2))
            | (go_at_call 10; ((with_reducible refine (H2.out _ HO2.out).mono ?_); rintro e w3 ⟨rfl, hu⟩; have hl := ldV_up hu hl; have h7 := ldV_up hu h7; have cq := cell_up hu cq; have HO3 := Lib.hid (HO2.out.more HC.out hu); have HU3 := Lib.hid hu; clear hu)))
          obtain ⟨b7, hb7⟩ : ∃ b7, w2.heap.size = b7 := ⟨_, rfl⟩
          have hsz1 := Below.size HU2.out.1
          have hsz2 := Below.size HU3.out
          have hsz3 := Below.size HO.out.up
          have hsz4 := Below.size (Up.alloc w2 (.cells z0 TS))
          have hlt7 : b7 < w3.heap.size := by
            have := ldV_inv h7
            obtain ⟨y, bb, oo, e, -, hy, hrr⟩ := this
            injection e with e; injection e with e; injection e with e1 e2
            have h0 : 0 < y.toList.length := by rw [Array.length_toList, hy.size]; decide
            have := World.block_lt_of_cell? w3 ⟨bb, oo + 0, none⟩ (hrr 0 _ (List.getElem?_eq_getElem h0))
            rw [← hb7, e1]
            exact this
          have hgl2 : g < wr.heap.size := (HO.out.own.form (by have := HK.out; omega)).elim fun g' h => h.elim fun _ h => by
            have h1 := h.1
            injection h1 with h1; injection h1 with h1; injection h1 with h1
            rw [h1]
            exact h.2.2
          have HB7 := Lib.hid (show b7 < w3.heap.size ∧ b7 ≠ g ∧ w.heap.size ≤ b7 by omega)
          have HO4 := Lib.hid (HO.out.box HC.out (K' := fun k => k = b7) (HU2.out.2.trans HU3.out) (fun k e => .inr (by omega)))
          have q1 := eqV_of HXS.out HXS.out
          rw [eqS_self] at q1
          clear hsz1 hsz2 hsz3 hsz4 hlt7 hgl2 HO2 HU2 HU3 hst HO3
          rw [hb7] at h7
          simp only [hb7]
          clear hb7
          go_region_held3 (fun w' => ldV (.pointer (some ⟨b, o + j * 82, none⟩)) w' = some (.agg x) ∧ ldV (.pointer (some ⟨b7, 0, none⟩)) w' = some (.agg x) ∧ w'.cell? ⟨g, j, none⟩ = some (.int .i64 (q : Nat)))
            (first | assumption | exact keepO (Turn.drew (fun _ => False) _) id id id ⟨hl, h7, cq⟩ | exact keepO (Turn.drew (fun _ => False) _) id id id (by assumption) | exact keepO hT5 (fun k => by have := HB.out; omega) (fun k => k.2.1 rfl) (fun k => k.2.2 rfl) (by assumption) | exact keepO (.of_up (fun _ => False) hu6) id id id (by assumption))
            (first
              | (go_at_call 8; (refine (H3.out _ b7 (HO4.out.more HC.out (Up.drew _)) HB7.out.1).mono ?_; rintro e w5 ⟨rfl, hO5, hT5⟩; have HO5 := Lib.hid hO5; clear hO5))
              | (go_at_call 14; ((with_reducible refine (H4.out _ b7 HO5.out).mono ?_); rintro e w6 ⟨rfl, hu6⟩)))
          have HO6 : Hid (One S w tb L T (fun _ => False) (.slice (some ⟨g, 0, none⟩) i c4) i w6) := Lib.hid (HO5.out.box HC.out hu6 (fun _ k => k.elim))
          clear HO5 hT5 hu6 q1 HB7 HO4 H1 H2 H3 H4 f1 f2 hl h7 cq HO p0 p1
          have hlast := HK.out
          go_wp2
          go_loopg [11] j (fun gh s11 wr => ∃ k : Nat, k ≤ j ∧ gh = j - k ∧ s11 = .int .i64 (k : Nat) ∧ Hid (One S w tb L T (fun _ => False) (.slice (some ⟨g, 0, none⟩) i c4) i wr))
          case atStart => exact ⟨0, Nat.zero_le _, rfl, rfl, HO6⟩
          case round =>
            clear HO6
            obtain ⟨k, hk, hg2, rfl, HO⟩ := hrel
            have HG2 := Lib.hid hg2
            clear hg2
            by_cases hkj : k < j
            · have hki : k < i := by omega
              have hkL : k < L.length := by rw [HLen.out]; exact hki
              have hjL : j < L.length := by rw [HLen.out]; exact hlast
              obtain ⟨b', o', hA, -, hr⟩ := HL.out.at_ k hkL
              obtain ⟨b'', o'', hA2, -, hr2⟩ := HL.out.at_ j hjL
              injection hA with hA; injection hA with hA3 hA4
              subst hA3 hA4
              injection hA2 with hA2; injection hA2 with hA3 hA4
              subst hA3 hA4
              obtain ⟨y, hy⟩ : ∃ y, L[k] = y := ⟨_, rfl⟩
              have hyS : IsS y := by rw [← hy]; exact HL.out.ok _ (List.getElem_mem hkL)
              have hyd : L.getD k z0 = y := by rw [List.getD_eq_getElem?_getD, List.getElem?_eq_getElem hkL]; exact hy
              have hxj : L[j] = x := by have h := HXd.out; rw [List.getD_eq_getElem?_getD, List.getElem?_eq_getElem hjL] at h; exact h
              rw [hy] at hr
              rw [hxj] at hr2
              have l1 := ldV_of hyS (range_up HO.out.up hr)
              have l2 := ldV_of HXS.out (range_up HO.out.up hr2)
              have c1 := HO.out.cell hki
              have c2 := HO.out.cell hlast
              rw [HQ.out] at c2
              obtain ⟨qk, hqk⟩ : ∃ qk : Nat, idN L k = qk := ⟨_, rfl⟩
              rw [hqk] at c1
              have q1 := eqV_of hyS HXS.out
              obtain ⟨B, hB⟩ : ∃ B, eqS y x = B := ⟨_, rfl⟩
              rw [hB] at q1
              have hqB : ((qk : Int) == (q : Int)) = B := by
                have h1 := HE.out k j hki hlast
                rw [hqk, HQ.out, hyd, HXd.out] at h1
                rw [← hB, Bool.eq_iff_iff, eqS_true, beq_iff_eq, ← h1]
                omega
              have p0 : (0 : Int) ≤ k := by omega
              have p1 : (k : Int) < i := by omega
              have p2 : (0 : Int) ≤ j := by omega
              have p3 : (j : Int) < i := by omega
              have p4 : (k : Int) < j := by omega
              have e3 : IntKind.i64.wrap ((k : Int) + 1) = (k : Int) + 1 := IntWalk.i64_in _ (by have := HN.out; omega)
              have HK2 := Lib.hid hkj
              clear hkL hjL hr hr2 hyS hyd hxj hqk hB hy
              cases B
              all_goals
                go_wp2
                go_quiet (fail)
                go_wp2
                go_roundg (j - (k + 1))
                case measure => rw [HG2.out]; have := HK2.out; omega
                case rel => exact ⟨k + 1, HK2.out, rfl, by go_num, Lib.hid (HO.out.more HC.out (Up.drewN _ _))⟩
            · have f3 : decide (k < j) = false := decide_eq_false hkj
              have f4 : decide ((k : Int) < j) = false := decide_eq_false (by omega)
              clear hkj hlast
              go_wp2
              go_roundg (i - (j + 1))
              case measure => rw [HG.out]; have := HK.out; omega
              case rel => exact ⟨j + 1, HK.out, rfl, by go_num, HO⟩
        · have H4 := Lib.hid (fun (W : World) (h : One S w tb L T (fun _ => False) (.slice A4 i c4) i W) => one_len HC.out h)
          have m1 := HTL.out
          have m2 := HTP.out
          obtain ⟨m, hm⟩ : ∃ m, T.length = m := ⟨_, rfl⟩
          rw [hm] at H4 m1 m2
          have f5 : decide (m ≤ i) = true := decide_eq_true m1
          have f6 : decide (j < i) = false := decide_eq_false hlt
          clear hlt hm
          by_cases h0 : i = 0
          · have b0 : ((i : Int) == 0) = true := by rw [h0]; rfl
            clear h0 m1 m2
            go_wp2_with (first
              | (go_at_call 14; ((with_reducible refine (H4.out _ HO.out).mono ?_); rintro e w2 ⟨rfl, hu⟩; have HU := Lib.hid (HO.out.up.trans hu); clear hu))
              | (go_at_call 6; ((with_reducible refine (HW.out _).mono ?_); rintro e w5 ⟨rfl, hu⟩; have HU := Lib.hid (HU.out.trans hu); clear hu)))
            go_ret
            exact ⟨rfl, HU.out⟩
          · have b0 : ((i : Int) == 0) = false := beq_false_of_ne (by omega)
            have f7 : 0 < m := m2 (by omega)
            clear h0 m1 m2
            go_wp2_with (first
              | (go_at_call 14; ((with_reducible refine (H4.out _ HO.out).mono ?_); rintro e w2 ⟨rfl, hu⟩; have HO2 := Lib.hid (HO.out.more HC.out hu); clear hu))
              | (go_at_call 14; ((with_reducible refine (H4.out _ HO2.out).mono ?_); rintro e w3 ⟨rfl, hu⟩; have HU := Lib.hid (HO2.out.up.trans hu); clear hu))
              | (go_at_call 6; ((with_reducible refine (HW.out _).mono ?_); rintro e w5 ⟨rfl, hu⟩; have HU := Lib.hid (HU.out.trans hu); clear hu)))
            go_ret
            exact ⟨rfl, HU.out⟩
end
end Go.Proofs.Ytjdcbbleefepoaa
