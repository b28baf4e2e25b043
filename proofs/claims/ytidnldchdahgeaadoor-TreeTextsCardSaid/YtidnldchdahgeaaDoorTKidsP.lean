/- A node's kids: the program's Kids. -/
import Derived.Test.YtidnldchdahgeaaDoorTWithin
import Derived.Test.YtidnldchdahgeaaDoorTRound
namespace Go.Proofs.YtidnldchdahgeaaDoor
open Go.RowKit Go.Shelf
attribute [local go_sem] Oper.semAt_some

theorem within_any (A : Option Addr) (n c : Nat) (i : Int) (W : World) : Calls Tryd.prog 39 #[.slice A n c, .int .i64 i] W fun e w' =>
    e = .returned (.func (.func 50) #[] #[.pointer (some ⟨W.heap.size + 1, 0, none⟩), .pointer (some ⟨W.heap.size, 0, none⟩)]) ∧ w' = (W.alloc (.cells #[.slice A n c] 22)).alloc (.cells #[.int .i64 i] 3) := by
  go_enter Tryd.func39, Tryd.ntmps39
  go_wp2
  go_ret
  exact ⟨rfl, rfl⟩
def kidsF (L : List Nd) (i : Nat) (l : List Nat) : List Nat := l.filter fun k => decide (dep L k = dep L i + 1)
theorem kidsF_all (L : List Nd) (n i : Nat) : kidsF L i (subL L n i) = kidsL L n i := (kids_sub L i _ _).symm
theorem kidsF_snoc (L : List Nd) (i : Nat) (l : List Nat) (k : Nat) : kidsF L i (l ++ [k]) = kidsF L i l ++ (if dep L k = dep L i + 1 then [k] else []) := by
  unfold kidsF
  rw [List.filter_append, List.filter_cons]
  by_cases h : dep L k = dep L i + 1
  · rw [if_pos (by simpa using h), if_pos h]; rfl
  · rw [if_neg (by simpa using h), if_neg h]; rfl
/-- What stands between two rounds. -/
structure KidI (w : World) (N2 Bk b o n c i : Nat) (L : List Nd) (pre : List Nat) (W : World) (v : Value) : Prop where
  bk : Boxed W Bk 30 v
  row : W.ownsRow N2 3 1 v (toI (kidsF L i pre)).length (inCells (toI (kidsF L i pre)))
  bl : Boxed W w.heap.size 22 (.slice (some ⟨b, o, none⟩) n c)
  bi : Boxed W (w.heap.size + 1) 3 (.int .i64 (i : Nat))
  up : Below w.heap.size w W
  n2 : N2 ≤ W.heap.size
theorem KidI.grown {w X Y : World} {N2 Bk b o n c i : Nat} {L : List Nd} {pre : List Nat} {v : Value} {row : Option Nat} (h : KidI w N2 Bk b o n c i L pre X v) (hw : w.heap.size ≤ N2) (hg : X.grownBy Y row) (hr : ∀ r, row = some r → N2 ≤ r ∧ ∃ o : Obj, X.heap[r]? = some o ∧ o.isCells = false) : KidI w N2 Bk b o n c i L pre Y v := by
  have ne : ∀ (b : Nat) (cs : Array Value) (t : TypeId), X.heap[b]? = some (Obj.cells cs t (0, 0)) → some b ≠ row := by
    intro b cs t hb e
    obtain ⟨-, o, ho, h1⟩ := hr b e.symm
    rw [hb] at ho
    cases ho
    cases h1
  refine ⟨h.bk.kept hg (ne _ _ _ h.bk), h.row.kept hg ?_, h.bl.kept hg (ne _ _ _ h.bl), h.bi.kept hg (ne _ _ _ h.bi), h.up.grown hg (Below.size h.up) (fun k e => Nat.le_trans hw (hr k e).1), Nat.le_trans h.n2 hg.size⟩
  rcases h.row.2 with ⟨rfl, _⟩ | ⟨g, cap, cur, rfl, h1, h2, _⟩
  · exact .inl rfl
  · exact .inr (ne _ _ _ h2)
theorem owns_block {W : World} {B k n : Nat} {T : TypeId} {v : Value} {xs : List Value} (h : W.ownsRow B T k v n xs) : ∀ r, v.ownBlock = some r → B ≤ r ∧ ∃ cs : Array Value, W.heap[r]? = some (Obj.cells cs T (0, 0)) := by
  intro r e
  rcases h.2 with ⟨rfl, _⟩ | ⟨g, cap, cur, rfl, h1, h2, _⟩
  · cases e
  · have : g = r := by simpa [Value.ownBlock] using e
    subst this
    exact ⟨h1, cur, h2⟩
set_option maxRecDepth 100000 in
set_option maxHeartbeats 4000000 in
theorem kids_in (w : World) (A : Option Addr) (n c : Nat) (L : List Nd) (hL : NArg w A n L) (hc : n ≤ c) (hn : n ≤ 10000) (z : Int) :
    CallsIn Fence.wide 4 Tryd.prog 17 #[.slice A n c, .int .i64 z] w (GivesI w (wrongT L z) (toI (kidsL L n z.toNat))) := by
  have hua : Up w ((w.alloc (.cells #[.slice A n c] 22)).alloc (.cells #[.int .i64 z] 3)) := (Up.alloc w _).trans (Up.alloc _ _)
  have hba : Boxed ((w.alloc (.cells #[.slice A n c] 22)).alloc (.cells #[.int .i64 z] 3)) w.heap.size 22 (.slice A n c) := (Boxed.new w _ _).alloc _
  have hbb : Boxed ((w.alloc (.cells #[.slice A n c] 22)).alloc (.cells #[.int .i64 z] 3)) (w.heap.size + 1) 3 (.int .i64 z) := by
    have := Boxed.new (w.alloc (.cells #[.slice A n c] 22)) 3 (.int .i64 z)
    rw [World.size_alloc] at this
    exact this
  have HC := Lib.hid (checkNode_any _ A n c L (hL.up hua) hc hn z)
  have ca := hba.cell
  have cb := hbb.cell
  by_cases hz : wrongT L z = 0
  case neg =>
    obtain ⟨x, hx⟩ : ∃ x, wrongT L z = x := ⟨_, rfl⟩
    rw [hx] at HC hz ⊢
    have f0 : (x == 0) = false := beq_false_of_ne hz
    have HZ := Lib.hid hz
    have HUa := Lib.hid hua
    clear hL hz hx hua hba hbb
    refine (callsIn_wide (n := 4)).2 ?_
    go_enter Tryd.func17, Tryd.ntmps17
    go_wp2_with (go_at_call 37; ((with_reducible refine HC.out.mono ?_); rintro e w1 ⟨rfl, hu1⟩; have HU1 := Lib.hid hu1; clear hu1))
    go_ret2
    exact gives_no HZ.out (HUa.out.trans HU1.out)
  case pos =>
    obtain ⟨hF, h0, h1⟩ := wrong_zero hz
    rw [hz] at HC ⊢
    have hl := hL.nds.len
    have hG : Good L n := hl ▸ hF.good
    obtain ⟨i, rfl⟩ : ∃ i : Nat, z = (i : Nat) := ⟨z.toNat, by omega⟩
    have hin : i < n := by omega
    rw [Int.toNat_natCast]
    obtain ⟨b, o, rfl, hbw, -, -, -, -⟩ := nds_nd hL.nds i hin
    have HL := Lib.hid hL.nds
    have HUa := Lib.hid hua
    have HBa := Lib.hid hba
    have HBb := Lib.hid hbb
    have HBW := Lib.hid hbw
    have HLl := Lib.hid hl
    have HG := Lib.hid hG
    clear hL hz hua hba hbb hF h0 h1 hl hG hbw
    refine callsIn_of_wp_marks Tryd.func17 rfl trivial ?_ rfl
    simp only [Tryd.ntmps17, List.size_toArray, List.length_cons, List.length_nil, Nat.reduceAdd, Nat.reduceSub, Array.replicate_succ, Array.replicate_zero, List.push_toArray, List.append_toArray, List.nil_append, List.cons_append]
    gi_wp2_with (first
      | (refine ⟨trivial, ?_⟩; gi_at_call 37; ((with_reducible refine ((callsIn_wide (n := 3)).2 HC.out).mono ?_); rintro e w1 ⟨rfl, hu1⟩; have HU1 := Lib.hid hu1; have ca := cell_up hu1 ca; have cb := cell_up hu1 cb; have ca2 := cell_up (Up.alloc w1 (.cells #[.slice none 0 0] 30)) ca; have cb2 := cell_up (Up.alloc w1 (.cells #[.slice none 0 0] 30)) cb; clear hu1))
      | (refine ⟨trivial, ?_⟩; gi_at_call 39; ((with_reducible refine ((callsIn_wide (n := 3)).2 (within_any _ _ _ _ _)).mono ?_); rintro e w2 ⟨rfl, rfl⟩)))
    obtain ⟨w2, hw2⟩ : ∃ w2, (((w1.alloc (Obj.cells #[Value.slice none 0 0] 30)).alloc (Obj.cells #[Value.slice (some { block := b, off := o }) n c] 22)).alloc (Obj.cells #[Value.int IntKind.i64 (i : Nat)] 3)) = w2 := ⟨_, rfl⟩
    have hu2 : Up w1 w2 := by rw [← hw2]; exact ((Up.alloc w1 _).trans (Up.alloc _ _)).trans (Up.alloc _ _)
    have hsz : w2.heap.size = w1.heap.size + 3 := by rw [← hw2]; simp
    have hbk : Boxed w2 w1.heap.size 30 (.slice none 0 0) := by rw [← hw2]; exact ((Boxed.new w1 _ _).alloc _).alloc _
    have hbl : Boxed w2 (w1.heap.size + 1) 22 (.slice (some ⟨b, o, none⟩) n c) := by
      rw [← hw2]
      have := (Boxed.new (w1.alloc (Obj.cells #[Value.slice none 0 0] 30)) 22 (.slice (some ⟨b, o, none⟩) n c)).alloc (Obj.cells #[Value.int IntKind.i64 (i : Nat)] 3)
      rw [World.size_alloc] at this
      exact this
    have hbi : Boxed w2 (w1.heap.size + 1 + 1) 3 (.int .i64 (i : Nat)) := by
      rw [← hw2]
      have := Boxed.new ((w1.alloc (Obj.cells #[Value.slice none 0 0] 30)).alloc (Obj.cells #[Value.slice (some { block := b, off := o }) n c] 22)) 3 (.int .i64 (i : Nat))
      rw [World.size_alloc, World.size_alloc] at this
      exact this
    have hup1 := HUa.out.trans HU1.out
    have hup : Up w w2 := hup1.trans hu2
    have hp0 := Boxed.kept HBa.out (Up.grownBy (Up.trans HU1.out hu2)) (fun e => by cases e)
    have hp1 := Boxed.kept HBb.out (Up.grownBy (Up.trans HU1.out hu2)) (fun e => by cases e)
    have hs1 : w.heap.size + 2 ≤ w1.heap.size := by have := Below.size HU1.out; simp at this; omega
    simp only [hw2]
    clear hw2
    have hWit : WitS w2 (w1.heap.size + 1 + 1) (w1.heap.size + 1) b o n c i L := ⟨hbi, hbl, HL.out.up hup⟩
    have hTells : Tells Fence.wide 3 Tryd.prog 50 #[.pointer (some ⟨w1.heap.size + 1 + 1, 0, none⟩), .pointer (some ⟨w1.heap.size + 1, 0, none⟩)] encN (KpS fun k => k ≠ w1.heap.size ∧ k < w1.heap.size + 3) (fun _ => False) (subL L n i) w2 := fun l J W hW hJ hY h0 =>
      within1_in 3 (by omega) l _ _ b o n c i L (fun k => k ≠ w1.heap.size ∧ k < w1.heap.size + 3) ⟨by omega, by omega⟩ ⟨by omega, by omega⟩ ⟨by have := HBW.out; omega, by have := HBW.out; omega⟩ hin hn J W hJ hY (hWit.up hW) h0
    obtain ⟨Bk, hBk⟩ : ∃ Bk, w1.heap.size = Bk := ⟨_, rfl⟩
    rw [hBk] at hTells hbk hsz hs1
    simp only [hBk]
    have hI0 : KidI w (Bk + 3) Bk b o n c i L [] w2 (.slice none 0 0) := ⟨hbk, World.ownsRow_nil _ _ _ _, hp0, hp1, hup, by omega⟩
    obtain ⟨D, hD⟩ : ∃ D, dep L i = D := ⟨_, rfl⟩
    have HD := Lib.hid hD
    have hD9 : 0 ≤ D ∧ D ≤ 10000 := by
      have h1 := HG.out.len hin
      have h2 := st_lenle L i
      omega
    have HKl := Lib.hid (show ∀ pre, pre <+: subL L n i → (toI (kidsF L i pre)).length ≤ 10000 from fun pre hp => by
      have h1 := hp.length_le
      have h2 := subR_len L i (n - (i + 1)) (i + 1)
      have h3 : (kidsF L i pre).length ≤ pre.length := List.length_filter_le _ _
      unfold subL at h1
      unfold toI
      rw [List.length_map]
      omega)
    clear hp0 hp1 hbl hbi hWit hup1 hbk hBk ca cb hD
    refine range_tells rfl (by omega) (gf := 50) (lb := #[.pointer (some ⟨Bk + 1 + 1, 0, none⟩), .pointer (some ⟨Bk + 1, 0, none⟩)]) rfl trivial (enters_of Tryd.func50 (by kernel_rfl) rfl)
      hTells no_cells kpS_t kpS_b (fun _ => rfl)
      (fun pre W => ∃ v, KidI w (Bk + 3) Bk b o n c i L pre W v)
      (fun s X Y row ⟨v, h⟩ hg hr => ⟨v, h.grown (by omega) hg (fun r e => ⟨by have := (hr r e).1; omega, by obtain ⟨-, ob, h1, h2⟩ := hr r e; exact ⟨ob, h1, h2.elim id False.elim⟩⟩)⟩)
      ⟨_, hI0⟩
      (fun x => { tmps := #[.slice (some ⟨b, o, none⟩) n c, .int .i64 (i : Nat), .pointer (some ⟨w.heap.size, 0, none⟩), .pointer (some ⟨w.heap.size + 1, 0, none⟩), .slice none 0 0, .int .i64 0, .int .i64 0, .pointer (some ⟨Bk, 0, none⟩), .int .i64 (x : Nat), .slice (some ⟨b, o, none⟩) n c, .int .i64 (i : Nat), .int .i64 0, .int .i64 0, .bool false, undef, .slice (some ⟨b, o, none⟩) n c, .int .i64 (i : Nat), .func (.func 50) #[] #[.pointer (some ⟨Bk + 1 + 1, 0, none⟩), .pointer (some ⟨Bk + 1, 0, none⟩)], .int .i64 (x : Nat), undef, undef, undef, undef, undef, undef, undef, undef, undef, undef, undef, undef, undef, undef, undef, undef, undef], defers := [] }) ?assign ?body ?done
    case assign =>
      intro l x W K' hK'
      gi_wp2
      exact hK'
    case body =>
      rintro l pre x W ⟨v, hK⟩ hpre
      have hxm : x ∈ subL L n i := hpre.subset (by simp)
      have hxb := subR_mem L i _ _ x hxm
      have hxn : x < n := by omega
      obtain ⟨a, o2, hA, -, -, -, -, y3⟩ := nds_nd (HL.out.up hK.up) x hxn
      obtain ⟨rfl, rfl⟩ : a = b ∧ o2 = o := by injection hA with e; injection e with e1 e2; exact ⟨e1.symm, e2.symm⟩
      obtain ⟨a2, o3, hA2, -, -, -, -, x3⟩ := nds_nd (HL.out.up hK.up) i hin
      obtain ⟨rfl, rfl⟩ : a2 = a ∧ o3 = o2 := by injection hA2 with e; injection e with e1 e2; exact ⟨e1.symm, e2.symm⟩
      obtain ⟨y, hy⟩ : ∃ y, dep L x = y := ⟨_, rfl⟩
      rw [show (nd L i).2.2.2 = D from HD.out] at x3
      rw [show (nd L x).2.2.2 = y from hy] at y3
      have cbl := hK.bl.cell
      have cbi := hK.bi.cell
      have hkl := HKl.out pre ((List.prefix_append _ _).trans hpre)
      have HSn := Lib.hid (kidsF_snoc L i pre x)
      rw [hy, HD.out] at HSn
      have j1 : (x : Int) < n := by omega
      have j2 : (i : Int) < n := by omega
      have q1 : IntKind.i64.wrap (D + 1) = D + 1 := IntWalk.i64_in _ (by omega)
      have HK := Lib.hid hK
      clear hA hA2 hy hxm hxb hpre hK
      by_cases c1 : y = D + 1
      · subst c1
        have HSt := Lib.hid (show kidsF L i (pre ++ [x]) = kidsF L i pre ++ [x] from HSn.out.trans (by rw [if_pos rfl]))
        clear HSn
        gi_wp2
        refine region_round l rfl (by kernel_rfl) (by kernel_rfl) (by rfl) ?_
        repeat (gi_big_quiet_step (fail))
        refine wpQuietIn_nil ?_
        rintro _ ⟨nq, rfl⟩
        have hud := Up.drewN W nq
        have hKd := HK.out.grown (Y := W.drewN nq) (row := none) (by omega) (Up.grownBy hud) (fun r e => by cases e)
        have hko : KeepsOthers W (W.drewN nq) := KeepsOthers.of_grownBy (Up.grownBy hud) (fun j ob e => by cases e)
        have hkp : KpS (fun k => k ≠ Bk ∧ k < Bk + 3) W (W.drewN nq) := kpS_up hud
        obtain ⟨Wd, hWd⟩ : ∃ Wd, W.drewN nq = Wd := ⟨_, rfl⟩
        rw [hWd] at hKd hko hkp
        simp only [hWd]
        clear hWd hud y3 x3 cbl cbi
        have cbk := hKd.bk.cell
        have hv := hKd.bk
        have hrow := hKd.row
        have hn2 := hKd.n2
        obtain ⟨m, hm⟩ : ∃ m, (toI (kidsF L i pre)).length = m := ⟨_, rfl⟩
        rw [hm] at hrow hkl
        have HKd := Lib.hid hKd
        have HKo := Lib.hid hko
        have HKp := Lib.hid hkp
        have HM := Lib.hid hm
        obtain ⟨i0, hi0, hz0, hz1, hz2⟩ := info_parts infoInt
        clear hKd hko hkp hm HK
        gi_wp2_with (gi_at_builtin; (refine wpListIn_append_own _ rfl _ _ 30 rfl (Bk + 3) 3 i0 (.int .i64 0) 1 8 Tryd.underlying30 hi0 hz0 hz1 hz2 rfl (by decide) _ _ _ rfl (hrow.alloc _) ⟨Wd.heap.size, 0, none⟩ 1 1 [.int .i64 (x : Nat)] rfl rfl (cell_one_new _ _ _) (by simp [Value.oneCell']) (by unfold maxLen; omega) (by omega) (by simp; omega) ?_; intro v' w3 hown' hgrow _; obtain ⟨g', cap', rfl⟩ := ownsRow_succ hown'; have hv1 : Boxed w3 Bk 30 v := (hv.alloc _).kept hgrow (hv.not_row (by decide) hrow); have hc1 := hv1.cell; have hf1 := hv1.frozen))
        have hblk := fun r e => owns_block (hrow.alloc (.cells #[.int .i64 (x : Nat)] 3)) r e
        have hne : ∀ (q : Nat) (cs : Array Value) (t : TypeId), Wd.heap[q]? = some (Obj.cells cs t (0, 0)) → q < Bk + 3 → some q ≠ v.ownBlock := fun q cs t _ hq e => by
          have := (hblk q e.symm).1
          omega
        have hset := setCell_grown w3 Bk 0 (.slice (some ⟨g', 0, none⟩) (m + 1) cap')
        refine ⟨HKo.out.trans (((KeepsOthers.alloc Wd _).trans (KeepsOthers.of_grownBy hgrow fun q ob e hq => by obtain ⟨-, cs, hcs⟩ := hblk q e; rw [hq] at hcs; cases hcs; rfl)).trans (KeepsOthers.setCell _ _ _)),
          kpS_t HKp.out (kpS_t (kpS_t (kpS_up (Up.alloc Wd _)) (kpS_grown hgrow fun r e h => by have := (hblk r e).1; omega)) (kpS_grown hset fun r e h => by cases e; exact h.1 rfl)), .slice (some ⟨g', 0, none⟩) (m + 1) cap', ?_, ?_, ?_, ?_, ?_, ?_⟩
        · exact hv1.set _
        · have e1 : toI (kidsF L i (pre ++ [x])) = toI (kidsF L i pre) ++ [(x : Int)] := by
            rw [HSt.out]
            unfold toI
            rw [List.map_append]
            rfl
          rw [e1, List.length_append, HM.out, inCells_append]
          exact hown'.kept hset (.inr (hv1.not_row (by decide) hown').symm)
        · exact (((HKd.out.bl.alloc _).kept hgrow (hne _ _ _ HKd.out.bl (by omega))).kept hset (fun e => by injection e with e; omega))
        · exact (((HKd.out.bi.alloc _).kept hgrow (hne _ _ _ HKd.out.bi (by omega))).kept hset (fun e => by injection e with e; omega))
        · exact ((HKd.out.up.alloc (by omega) _).grown hgrow (by simp; omega) (fun q e => by have := (hblk q e).1; omega)).setCell (p := ⟨Bk, 0, none⟩) (by show w.heap.size ≤ Bk; omega) _
        · have h1 := hgrow.size
          have h2 := hset.size
          simp at h1
          omega
      · have f0 : (y == D + 1) = false := beq_false_of_ne c1
        have e0 : kidsF L i (pre ++ [x]) = kidsF L i pre := by rw [HSn.out, if_neg c1, List.append_nil]
        have HE0 := Lib.hid e0
        clear e0 c1
        gi_wp2
        refine region_round l rfl (by kernel_rfl) (by kernel_rfl) (by rfl) ?_
        repeat (gi_big_quiet_step (fail))
        refine wpQuietIn_nil ?_
        rintro _ ⟨nq, rfl⟩
        have hud := Up.drewN W nq
        have hKd := HK.out.grown (Y := W.drewN nq) (row := none) (by omega) (Up.grownBy hud) (fun r e => by cases e)
        have hko : KeepsOthers W (W.drewN nq) := KeepsOthers.of_grownBy (Up.grownBy hud) (fun j ob e => by cases e)
        have hkp : KpS (fun k => k ≠ Bk ∧ k < Bk + 3) W (W.drewN nq) := kpS_up hud
        gi_wp2
        have e1 := HE0.out
        exact ⟨hko, hkp, v, hKd.bk, by rw [e1]; exact hKd.row, hKd.bl, hKd.bi, hKd.up, hKd.n2⟩
    case done =>
      rintro E W hE ⟨v, hK⟩ hKD
      have HK := Lib.hid hK
      have cl := hK.bk.cell
      clear hK
      gi_wp2
      refine ⟨by simp, .inl ⟨_, _, rfl, run_takeDeferred hKD, ?_⟩⟩
      refine ⟨_, results_tmp2 rfl _ _ _, v, rfl, ?_, Below.trans HK.out.up (belowK_b (w := w) (Nat.le_refl _) W E _ _ (Nat.le_trans (Below.size hup) hE) hKD rfl rfl)⟩
      rw [if_pos rfl, ← kidsF_all]
      have h1 := ownsRow_putObj HK.out.row (.deferred none) hKD rfl
      exact ⟨h1.1, h1.2.imp id (fun ⟨g', cap, cur, h3, h4, h5⟩ => ⟨g', cap, cur, h3, by omega, h5⟩)⟩
end Go.Proofs.YtidnldchdahgeaaDoor
