/- The program's form: the list in form that has the places which are kept. -/
import Derived.Test.YtbgdphjjepbafaaSTurnsP
import Derived.Test.YtbgdphjjepbafaaSMove
namespace Go.Proofs.Ytbgdphjjepbafaa
open Go.RowKit Go.Shelf
attribute [local go_sem] Oper.semAt_some

theorem kpT_alloc (W : World) (o : Obj) : KpT W (W.alloc o) := fun b _ _ e _ _ _ => (Below.heap_alloc W o b (Array.getElem?_eq_some_iff.1 e).1).trans e
theorem kpT_grown {W W' : World} {row : Option Nat} (hg : W.grownBy W' row) (hr : ∀ r, row = some r → ∃ (cs : Array Value) (t : TypeId), W.heap[r]? = some (Obj.cells cs t (0, 0)) ∧ (t = 29 ∨ t = 22 ∨ t = 4)) : KpT W W' := fun b cs t e h1 h2 h3 => by
  refine (hg.block b (Array.getElem?_eq_some_iff.1 e).1 (fun hb => ?_)).trans e
  obtain ⟨cs', t', h4, h5⟩ := hr b hb.symm
  rw [e] at h4
  cases h4
  rcases h5 with h | h | h
  · exact h1 h
  · exact h2 h
  · exact h3 h
theorem kpT_set {W : World} {B j : Nat} {t : TypeId} {cs : Array Value} {v : Value} (hB : W.heap[B]? = some (Obj.cells cs t (0, 0))) (ht : t = 29 ∨ t = 22 ∨ t = 4) : KpT W (W.setCell ⟨B, j, none⟩ v) :=
  kpT_grown (row := some B) (setCell_grown W B j v) (fun r e => by cases e; exact ⟨cs, t, hB, ht⟩)
theorem owns_block {W : World} {B k n : Nat} {T : TypeId} {v : Value} {xs : List Value} (h : W.ownsRow B T k v n xs) : ∀ r, v.ownBlock = some r → B ≤ r ∧ ∃ cs : Array Value, W.heap[r]? = some (Obj.cells cs T (0, 0)) := by
  intro r e
  rcases h.2 with ⟨rfl, _⟩ | ⟨g, cap, cur, rfl, h1, h2, _⟩
  · cases e
  · have : g = r := by simpa [Value.ownBlock] using e
    subst this
    exact ⟨h1, cur, h2⟩
/-- What stands between two rounds: the list so far, and whether its last range is open. -/
structure FormS (w W : World) (Bl Bw : Nat) (pre : List Int) (v : Value) : Prop where
  bl : Boxed W Bl 22 v
  row : W.ownsRow w.heap.size 29 2 v (prs pre).length (rgCells (prs pre))
  bw : Boxed W Bw 4 (.bool (decide (pre.length % 2 = 1)))
  up : Below w.heap.size w W
  nl : w.heap.size ≤ Bl
  nw : w.heap.size ≤ Bw
theorem FormS.grown {w X Y : World} {Bl Bw B : Nat} {row : Option Nat} {pre : List Int} {v : Value} (h : FormS w X Bl Bw pre v) (hB : w.heap.size ≤ B) (hg : X.grownBy Y row) (hr : ∀ r, row = some r → B ≤ r ∧ ∃ o : Obj, X.heap[r]? = some o ∧ (o.isCells = false ∨ TyO o)) : FormS w Y Bl Bw pre v := by
  have ne : ∀ (b : Nat) (cs : Array Value) (t : TypeId), X.heap[b]? = some (Obj.cells cs t (0, 0)) → t ≠ 56 → some b ≠ row := by
    intro b cs t hb ht e
    obtain ⟨-, o, ho, h1 | ⟨cs', h1⟩⟩ := hr b e.symm
    · rw [hb] at ho; cases ho; cases h1
    · rw [hb] at ho; cases ho; injection h1 with _ h2; exact ht h2
  refine ⟨h.bl.kept hg (ne _ _ _ h.bl (by decide)), h.row.kept hg ?_, h.bw.kept hg (ne _ _ _ h.bw (by decide)), h.up.grown hg (Below.size h.up) (fun k e => Nat.le_trans hB (hr k e).1), h.nl, h.nw⟩
  rcases h.row.2 with ⟨rfl, _⟩ | ⟨g, cap, cur, rfl, h1, h2, _⟩
  · exact .inl rfl
  · exact .inr (ne _ _ _ h2 (by decide))
theorem turns_any (g k cp gk : Nat) (W : World) : Calls Try.prog 39 #[.slice (some ⟨g, 0, none⟩) k cp, .func (.func gk) #[] #[]] W fun e w' =>
    e = .returned (.func (.func 42) #[] #[.pointer (some ⟨W.heap.size, 0, none⟩), .pointer (some ⟨W.heap.size + 1, 0, none⟩)]) ∧ w' = (W.alloc (.cells #[.slice (some ⟨g, 0, none⟩) k cp] 52)).alloc (.cells #[.func (.func gk) #[] #[]] 41) := by
  go_enter Try.func39, Try.ntmps39
  go_wp2
  go_ret
  exact ⟨rfl, rfl⟩
set_option maxRecDepth 100000 in
set_option maxHeartbeats 4000000 in
theorem form_in (w : World) (A A' : Option Addr) (n n' c c' : Nat) (L M : List Rng) (hL : Rgs w A n L) (hM : Rgs w A' n' M) (hn : n + n' ≤ 40000) (gk : Nat) (K : Bool → Bool → Bool) (hK0 : K false false = false) (eg : ∀ args w, (callFunc gk args).run Try.prog w = .ok (.enter gk args) w) (hK : ∀ x y W, Calls Try.prog gk #[.bool x, .bool y] W fun e w' => e = .returned (.bool (K x y)) ∧ W = w') :
    CallsIn Fence.wide 4 Try.prog 25 #[.slice A n c, .slice A' n' c', .func (.func gk) #[] #[]] w fun e w' => ∃ v F, e = .returned v ∧ RowR w' w.heap.size v F ∧ Form F ∧ (∀ p, has F p = K (has L p) (has M p)) ∧ F.length ≤ 2 * n + 2 * n' ∧ Up w w' := by
  have hua : Up w ((w.alloc (.cells #[.slice none 0 0] 22)).alloc (.cells #[.bool false] 4)) := (Up.alloc w _).trans (Up.alloc _ _)
  have hba : Boxed ((w.alloc (.cells #[.slice none 0 0] 22)).alloc (.cells #[.bool false] 4)) w.heap.size 22 (.slice none 0 0) := (Boxed.new w _ _).alloc _
  have hbb : Boxed ((w.alloc (.cells #[.slice none 0 0] 22)).alloc (.cells #[.bool false] 4)) (w.heap.size + 1) 4 (.bool false) := by
    have := Boxed.new (w.alloc (.cells #[.slice none 0 0] 22)) 4 (.bool false)
    rw [World.size_alloc] at this
    exact this
  have HS := Lib.hid (sorted_any ((w.alloc (.cells #[.slice none 0 0] 22)).alloc (.cells #[.bool false] 4)) A A' n n' c c' L M (hL.up hua) (hM.up hua) hn)
  have HUa := Lib.hid hua
  have HBa := Lib.hid hba
  have HBb := Lib.hid hbb
  have HLn := Lib.hid hL.len
  have HMn := Lib.hid hM.len
  have HKp := Lib.hid hK
  have HT := Lib.hid (fun g k cp W => turns_any g k cp gk W)
  clear hua hba hbb hL hM hK
  refine callsIn_of_wp_marks Try.func25 rfl trivial ?_ rfl
  simp only [Try.ntmps25, List.size_toArray, List.length_cons, List.length_nil, Nat.reduceAdd, Nat.reduceSub, Array.replicate_succ, Array.replicate_zero, List.push_toArray, List.append_toArray, List.nil_append, List.cons_append]
  gi_wp2_with (first
    | (refine ⟨trivial, ?_⟩; gi_at_call 40; ((with_reducible refine ((callsIn_wide (n := 3)).2 HS.out).mono ?_); rintro e w1 ⟨g, k, cp, E, rfl, hlen, hperm, hasc, hev, hu1⟩; have HLen := Lib.hid hlen; have HPm := Lib.hid hperm; have HAs := Lib.hid hasc; have HEv := Lib.hid hev; have HU1 := Lib.hid hu1; clear hlen hperm hasc hev hu1))
    | (refine ⟨trivial, ?_⟩; gi_at_call 39; ((with_reducible refine ((callsIn_wide (n := 3)).2 (HT.out _ _ _ _)).mono ?_); rintro e w2 ⟨rfl, rfl⟩)))
  have hu2 := (Up.alloc w1 (.cells #[.slice (some ⟨g, 0, none⟩) k cp] 52)).trans (Up.alloc _ (.cells #[.func (.func gk) #[] #[]] 41))
  have hbe : Boxed ((w1.alloc (.cells #[.slice (some ⟨g, 0, none⟩) k cp] 52)).alloc (.cells #[.func (.func gk) #[] #[]] 41)) w1.heap.size 52 (.slice (some ⟨g, 0, none⟩) k cp) := (Boxed.new w1 _ _).alloc _
  have hbk : Boxed ((w1.alloc (.cells #[.slice (some ⟨g, 0, none⟩) k cp] 52)).alloc (.cells #[.func (.func gk) #[] #[]] 41)) (w1.heap.size + 1) 41 (.func (.func gk) #[] #[]) := by
    have := Boxed.new (w1.alloc (.cells #[.slice (some ⟨g, 0, none⟩) k cp] 52)) 41 (.func (.func gk) #[] #[])
    rw [World.size_alloc] at this
    exact this
  obtain ⟨w2, hw2⟩ : ∃ w2, (w1.alloc (.cells #[.slice (some ⟨g, 0, none⟩) k cp] 52)).alloc (.cells #[.func (.func gk) #[] #[]] 41) = w2 := ⟨_, rfl⟩
  rw [hw2] at hu2 hbe hbk
  simp only [hw2]
  clear hw2
  have hk := HLen.out
  subst hk
  have hS : TurnS w2 w1.heap.size (w1.heap.size + 1) g cp gk E := ⟨hbe, hbk, HEv.out.up hu2⟩
  obtain ⟨Be, hBe⟩ : ∃ Be, w1.heap.size = Be := ⟨_, rfl⟩
  rw [hBe] at hS hbe hbk
  simp only [hBe]
  have hua2 := Up.trans HU1.out hu2
  have hl2 := Boxed.kept HBa.out (Up.grownBy hua2) (fun e => by cases e)
  have hb2 := Boxed.kept HBb.out (Up.grownBy hua2) (fun e => by cases e)
  have hup : Up w w2 := HUa.out.trans hua2
  have hgood := turns_good hK0 HPm.out HAs.out
  have hEl : E.length ≤ 2 * (n + n') := by
    have h1 := evAll_len L M
    have h2 := HPm.out.length_eq
    have h3 := HLn.out
    have h4 := HMn.out
    omega
  have hTl : (turnsOf K E).length ≤ E.length := tf_len
  have hsz : w.heap.size + 2 ≤ w2.heap.size := by
    have := Below.size hua2
    simp at this
    omega
  have hok : ∀ e ∈ E, EvOk e := fun e he => evAll_ok e (HPm.out.mem_iff.1 he)
  have hF0 : FormS w w2 w.heap.size (w.heap.size + 1) [] (.slice none 0 0) := ⟨hl2, World.ownsRow_nil _ _ _ _, hb2, hup, Nat.le_refl _, by omega⟩
  have hTells : Tells Fence.wide 3 Try.prog 42 #[.pointer (some ⟨Be, 0, none⟩), .pointer (some ⟨Be + 1, 0, none⟩)] encI KpT TyO (turnsOf K E) w2 := fun l J W hW hJ hY h0 =>
    turns1_in 3 (by omega) l Be (Be + 1) g cp gk K eg HKp.out E (by omega) hok J W hJ hY (hS.up hW) h0
  have HG := Lib.hid hgood
  have HTl := Lib.hid (show (turnsOf K E).length ≤ 2 * n + 2 * n' by omega)
  clear HS HT HKp hS hbe hbk hua2 hl2 hb2 hgood hTl hok hBe hu2
  obtain ⟨T, hT⟩ : ∃ T, turnsOf K E = T := ⟨_, rfl⟩
  rw [hT] at hTells HG HTl
  clear hT
  obtain ⟨Bl, hBl⟩ : ∃ Bl, w.heap.size = Bl := ⟨_, rfl⟩
  rw [hBl] at hF0
  simp only [hBl]
  refine range_tells rfl (by omega) (gf := 42) (lb := #[.pointer (some ⟨Be, 0, none⟩), .pointer (some ⟨Be + 1, 0, none⟩)]) rfl trivial (enters_of Try.func42 (by kernel_rfl) rfl)
    hTells tyO_cells kpT_t kpT_b (fun _ => rfl)
    (fun pre W => ∃ v, FormS w W Bl (Bl + 1) pre v)
    (fun s X Y row ⟨v, h⟩ hg hr => ⟨v, h.grown (Below.size hup) hg hr⟩)
    ⟨_, hF0⟩
    (fun x => { tmps := #[.slice A n c, .slice A' n' c', .func (.func gk) #[] #[], undef, undef, undef, .slice none 0 0, .pointer (some ⟨Bl, 0, none⟩), .pointer (some ⟨Bl + 1, 0, none⟩), .int .i64 x, .slice A n c, .slice A' n' c', .slice (some ⟨g, 0, none⟩) E.length cp, .func (.func gk) #[] #[], .func (.func 42) #[] #[.pointer (some ⟨Be, 0, none⟩), .pointer (some ⟨Be + 1, 0, none⟩)], .int .i64 x, undef, undef, undef, undef, undef, undef, undef, undef, undef, undef, undef, undef, undef, undef, undef, undef], defers := [] }) ?assign ?body ?done
  case assign =>
    intro l x W K' hK'
    gi_wp2
    exact hK'
  case body =>
    rintro l pre x W ⟨v, hF⟩ hpre
    have hpl : pre.length + 1 ≤ T.length := by have := hpre.length_le; rw [List.length_append] at this; simpa using this
    have hpr := prs_len pre
    have HTb := HTl.out
    have hW : w.heap.size ≤ W.heap.size := Below.size hF.up
    by_cases hp : pre.length % 2 = 1
    · obtain ⟨M0, u, e1, e2⟩ := prs_even x hp
      obtain ⟨j, hj⟩ : ∃ j, M0.length = j := ⟨_, rfl⟩
      have hrow := hF.row
      have hm : (prs pre).length = j + 1 := by rw [e1, List.length_append, hj]; rfl
      obtain ⟨g2, c2, rfl⟩ := owns_some hrow (by omega)
      have hbw := hF.bw
      rw [decide_eq_true hp] at hbw
      obtain ⟨hg2, cs2, hcs2⟩ := owns_block hrow g2 rfl
      have hne : g2 ≠ Bl + 1 := fun e => by
        subst e
        have := hcs2.symm.trans hbw
        simp at this
      have hne2 : g2 ≠ Bl := fun e => by
        subst e
        have := hcs2.symm.trans hF.bl
        simp at this
      have cb : W.cell? ⟨g2, j * 2 + 1, none⟩ = some (.int .i64 0) := by
        rcases owns_cell hrow with ⟨e, -⟩ | ⟨g0, c0, e8, -, -, hcc⟩
        · cases e
        · injection e8 with e8
          injection e8 with e8
          injection e8 with e8
          subst e8
          refine hcc _ _ ?_
          rw [e1]
          have h2 := (rgCells_at (M0 ++ [(u, 0)]) j (by rw [List.length_append, hj]; simp)).2
          rw [h2]
          subst hj
          simp
      have fz := owns_fz hrow (j * 2 + 1)
      have cw := hbw.cell
      have cl := hF.bl.cell
      have fw := hbw.frozen
      have cw1 : (W.setCell ⟨g2, j * 2 + 1, none⟩ (.int .i64 x)).cell? ⟨Bl + 1, 0, none⟩ = some (.bool true) := (World.cell?_of_block (Below.heap_setCell _ _ _ (Bl + 1) (fun e => hne e.symm))).trans cw
      have fw1 : (W.setCell ⟨g2, j * 2 + 1, none⟩ (.int .i64 x)).frozen? ⟨Bl + 1, 0, none⟩ = false := by rw [World.frozen?_setCell]; exact fw
      have n0 : (prs pre).length ≤ 100000 := by omega
      obtain ⟨m, hmm⟩ : ∃ m, (prs pre).length = m := ⟨_, rfl⟩
      rw [hmm] at hrow hm cl n0
      have n2 : (0 : Int) < (m : Nat) := by omega
      have n3 : (j : Int) < (m : Nat) := by omega
      have n4 : IntKind.i64.wrap ((m : Int) - 1) = (j : Nat) := (IntWalk.i64_in _ (by omega)).trans (by omega)
      have HF := Lib.hid hF
      have HR := Lib.hid hrow
      have HE1 := Lib.hid e1
      have HE2 := Lib.hid e2
      have HJ := Lib.hid hj
      have HM := Lib.hid hm
      have HMM := Lib.hid hmm
      have HP := Lib.hid hp
      have HC2 := Lib.hid hcs2
      have HBW := Lib.hid hbw
      clear hF hrow e1 e2 hj hpl hpr HTb hp hcs2 hbw hmm
      gi_wp2
      have hset := setCell_grown W g2 (j * 2 + 1) (.int .i64 x)
      have hset2 := setCell_grown (W.setCell ⟨g2, j * 2 + 1, none⟩ (.int .i64 x)) (Bl + 1) 0 (.bool false)
      have hbw1 : Boxed (W.setCell ⟨g2, j * 2 + 1, none⟩ (.int .i64 x)) (Bl + 1) 4 (.bool true) := HBW.out.kept hset (fun e => hne (by cases e; rfl))
      refine ⟨(KeepsOthers.setCell _ _ _).trans (KeepsOthers.setCell _ _ _), kpT_t (kpT_set HC2.out (.inl rfl)) (kpT_set hbw1 (.inr (.inr rfl))), .slice (some ⟨g2, 0, none⟩) m c2, ?_, ?_, ?_, ?_, HF.out.nl, HF.out.nw⟩
      · rw [← HMM.out]
        exact (HF.out.bl.kept hset (fun e => hne2 (by cases e; rfl))).kept hset2 (fun e => by cases e)
      · have h1 := owns_set (u := .int .i64 x) HR.out (j := j * 2 + 1) (by rw [rgCells_len, HMM.out]; omega)
        have h2 := rgCells_set M0 u 0 x
        rw [← HE1.out, HMM.out, HM.out, show (j + 1) * 2 - 1 = j * 2 + 1 from by omega, ← HE2.out] at h2
        rw [h2] at h1
        have h3 : (prs (pre ++ [x])).length = m := by rw [HE2.out, List.length_append, HJ.out, HM.out]; rfl
        rw [h3]
        exact h1.kept hset2 (.inr (fun e => hne (by simpa [Value.ownBlock] using e)))
      · have h1 := hbw1.set (.bool false)
        have h2 : decide ((pre ++ [x]).length % 2 = 1) = false := decide_eq_false (by rw [List.length_append]; have := HP.out; simp; omega)
        rw [h2]
        exact h1
      · exact (HF.out.up.setCell (p := ⟨g2, j * 2 + 1, none⟩) hg2 _).setCell (p := ⟨Bl + 1, 0, none⟩) HF.out.nw _
    · have e2 := prs_odd x (T := pre) (by omega)
      have hbw := hF.bw
      rw [decide_eq_false hp] at hbw
      have cw := hbw.cell
      have cl := hF.bl.cell
      have hrow := hF.row
      obtain ⟨m, hmm⟩ : ∃ m, (prs pre).length = m := ⟨_, rfl⟩
      rw [hmm] at hrow
      have hm0 : m ≤ 100000 := by omega
      have hv := hF.bl
      have HF := Lib.hid hF
      have HR := Lib.hid hrow
      have HE2 := Lib.hid e2
      have HP := Lib.hid hp
      have HBW := Lib.hid hbw
      have HMM := Lib.hid hmm
      obtain ⟨i0, hi0, hz0, hz1, hz2⟩ := info_parts infoRange
      have hnl := hF.nl
      have hB0 : w.heap.size ≤ W.heap.size := Below.size hF.up
      clear hF e2 hpl hpr HTb hp hmm
      gi_wp2_with (gi_at_builtin; (refine wpListIn_append_own _ rfl _ _ 22 rfl w.heap.size 29 i0 (.agg #[.int .i64 0, .int .i64 0]) 2 16 Try.underlying22 hi0 hz0 hz1 hz2 rfl (by decide) _ _ _ rfl (hrow.alloc _) ⟨W.heap.size, 0, none⟩ 1 1 [.int .i64 x, .int .i64 0] rfl rfl (World.news_of_block (cs := #[.int .i64 x, .int .i64 0]) (t := 29) (fr := (0, 0)) (heap_alloc_new W _)) (by simp [Value.oneCell']) (by unfold maxLen; omega) (by omega) (by simp; omega) ?_; intro v' w3 hown' hgrow _; obtain ⟨g', cap', rfl⟩ := ownsRow_succ hown'; obtain ⟨hv1, hv2, hr2, hk2, hb2⟩ := hv.appended (by decide) hrow hB0 hnl hown' hgrow; have hc1 := hv1.cell; have hf1 := hv1.frozen; have hbw3 : Boxed w3 (Bl + 1) 4 (.bool false) := (HBW.out.alloc _).kept hgrow (fun e => by obtain ⟨-, cs, hcs⟩ := owns_block (hrow.alloc (.cells #[.int .i64 x, .int .i64 0] 29)) (Bl + 1) e.symm; have := hcs.symm.trans (HBW.out.alloc (.cells #[.int .i64 x, .int .i64 0] 29)); simp at this); have hbw4 := hbw3.other (B' := Bl) (by omega) (.slice (some ⟨g', 0, none⟩) (m + 1) cap'); have cw4 := hbw4.cell; have fw4 := hbw4.frozen))
      have hblk := fun r e => owns_block (hrow.alloc (.cells #[.int .i64 x, .int .i64 0] 29)) r e
      refine ⟨hk2.trans (KeepsOthers.setCell _ _ _), kpT_t (kpT_t (kpT_alloc W _) (kpT_grown hgrow (fun r e => by obtain ⟨-, cs, hcs⟩ := hblk r e; exact ⟨cs, _, hcs, .inl rfl⟩))) (kpT_t (kpT_set hv1 (.inr (.inl rfl))) (kpT_set hbw4 (.inr (.inr rfl)))), .slice (some ⟨g', 0, none⟩) (m + 1) cap', ?_, ?_, ?_, ?_, HF.out.nl, HF.out.nw⟩
      · exact hv2.other (by omega) _
      · have h3 : (prs (pre ++ [x])).length = m + 1 := by rw [HE2.out, List.length_append, HMM.out]; rfl
        rw [h3, HE2.out, rgCells_append]
        refine hr2.kept (setCell_grown _ (Bl + 1) 0 _) (.inr (fun e => ?_))
        have e3 : g' = Bl + 1 := by simpa [Value.ownBlock] using e
        obtain ⟨-, cs, hcs⟩ := owns_block hr2 g' rfl
        have h5 := hbw4
        rw [← e3] at h5
        have := hcs.symm.trans h5
        simp at this
      · have h1 := hbw4.set (.bool true)
        have h2 : decide ((pre ++ [x]).length % 2 = 1) = true := decide_eq_true (by rw [List.length_append]; have := HP.out; simp; omega)
        rw [h2]
        exact h1
      · exact (HF.out.up.trans hb2).setCell (p := ⟨Bl + 1, 0, none⟩) HF.out.nw _
  case done =>
    rintro D W hD ⟨v, hF⟩ hKD
    have HF := Lib.hid hF
    have cl := hF.bl.cell
    clear hF
    gi_wp2
    refine ⟨by simp, .inl ⟨_, _, rfl, run_takeDeferred hKD, ?_⟩⟩
    refine ⟨_, results_tmp rfl _ _ _, v, rfl, prs T, ?_, HG.out.2.1, HG.out.2.2, Nat.le_trans (prs_len T) HTl.out, Below.trans HF.out.up (belowK_b (w := w) (Nat.le_refl _) W D _ _ (Nat.le_trans (Below.size hup) hD) hKD rfl rfl)⟩
    rw [← hBl]
    exact ownsRow_putObj HF.out.row _ hKD rfl
end Go.Proofs.Ytbgdphjjepbafaa
