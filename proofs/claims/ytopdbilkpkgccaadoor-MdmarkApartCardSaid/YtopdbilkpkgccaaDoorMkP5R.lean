/- The program's Rule. -/
import Derived.Test.YtopdbilkpkgccaaDoorMkP4
import Derived.Laws.EntriesVeiled
namespace Go.Proofs.YtopdbilkpkgccaaDoor
open Go.RowKit Go.Shelf

theorem ruleP_cons {a c K C : Nat} {r : List Nat} (hK : rwL (fun x => x == c || bk x) (c :: r) = K) (hC : (c :: r).count c = C) : ruleL a (c :: r) = if okR c = true ∧ K = (c :: r).length ∧ 3 ≤ C then (⟨c, C, 0, 0, 0, a + laL (c :: r)⟩, true) else (noM, false) := by subst hK hC; rfl
theorem other0 (W : World) (a b : Nat) (v : Value) (h : a ≠ b) : (W.setCell ⟨b, 0, none⟩ v).cell? ⟨a, 0, none⟩ = W.cell? ⟨a, 0, none⟩ := by
  apply World.cell?_setCell_other
  intro e
  first
    | exact h (congrArg Addr.block e)
    | exact h (congrArg Addr.block e).symm
/-- The count's cell is the only one that is turned. -/
structure CtAt (w0 W : World) (bi bc c k : Nat) : Prop where
  ct : W.heap[bc]? = some (.cells #[.int .i64 (k : Nat)] 3)
  fn : ∃ b, W.cell? ⟨bi, 0, none⟩ = some (.func (.func 30) #[] #[.pointer (some ⟨b, 0, none⟩)]) ∧ W.cell? ⟨b, 0, none⟩ = some (.int .u8 (c : Nat)) ∧ b ≠ bc
  ne : bi ≠ bc
  lo : w0.heap.size ≤ bc
  up : Up w0 W
theorem CtAt.bump {w0 W : World} {bi bc c k : Nat} (h : CtAt w0 W bi bc c k) (j : Nat) : CtAt w0 (W.setCell ⟨bc, 0, none⟩ (.int .i64 (j : Nat))) bi bc c j := by
  obtain ⟨b, h1, h2, h3⟩ := h.fn
  refine ⟨heap_setCell_same W bc 0 _ _ _ h.ct, ⟨b, ?_, ?_, h3⟩, h.ne, h.lo, Below.setCell h.up (p := ⟨bc, 0, none⟩) h.lo _⟩
  · rw [other0 W bi bc _ h.ne]
    exact h1
  · rw [other0 W b bc _ h3]
    exact h2
set_option maxRecDepth 100000 in
set_option maxHeartbeats 4000000 in
theorem ruleF_any (w0 W : World) (bi bc c k x : Nat) (hk : k ≤ 1000000) (h : CtAt w0 W bi bc c k) :
    Calls Tryd.prog 19 #[.int .u8 (x : Nat), .pointer (some ⟨bi, 0, none⟩), .pointer (some ⟨bc, 0, none⟩)] W fun e w' => e = .returned (.bool (x == c || bk x)) ∧ CtAt w0 w' bi bc c (if x = c then k + 1 else k) := by
  obtain ⟨b, h1, h2, h3⟩ := h.fn
  have c0 : W.cell? ⟨bc, 0, none⟩ = some (.int .i64 (k : Nat)) := cellOf h.ct rfl
  have z0 : W.frozen? ⟨bc, 0, none⟩ = false := frozenOf h.ct
  have HF := Lib.hid (fun W1 (hc : W1.cell? ⟨b, 0, none⟩ = some (.int .u8 (c : Nat))) => sameF_any x c b W1 hc)
  have HB := Lib.hid (fun W1 => isBk_any x W1)
  by_cases hx : x = c
  · have HE := Lib.hid (show IntKind.i64.wrap ((k : Int) + 1) = ((k + 1 : Nat) : Int) from (IntWalk.i64_in _ (by omega)).trans (by omega))
    rw [if_pos hx]
    have h5 := h.bump (k + 1)
    obtain ⟨b', g1, g2, g3⟩ := h5.fn
    have HC := Lib.hid h5
    rw [show (x == c || bk x) = true by simp [hx]]
    rw [show (x == c) = true by simp [hx]] at HF
    have hbb : (W.setCell ⟨bc, 0, none⟩ (.int .i64 ((k + 1 : Nat) : Int))).cell? ⟨bi, 0, none⟩ = some (.func (.func 30) #[] #[.pointer (some ⟨b, 0, none⟩)]) := by
      rw [other0 W bi bc _ h.ne]
      exact h1
    have hbc : (W.setCell ⟨bc, 0, none⟩ (.int .i64 ((k + 1 : Nat) : Int))).cell? ⟨b, 0, none⟩ = some (.int .u8 (c : Nat)) := by
      rw [other0 W b bc _ h3]
      exact h2
    have HBB := Lib.hid hbb
    have HBC := Lib.hid hbc
    have H2 := Lib.hid h2
    clear h5 g1 g2 g3 hx h hk hbb hbc h2 h3
    go_enter Tryd.func19, Tryd.ntmps19
    have e1 := HE.out
    go_upto_region 3 with (go_at_call 30; ((with_reducible refine (HF.out _ H2.out).mono ?_); rintro e w1 ⟨rfl, rfl⟩))
    obtain ⟨W5, hW5⟩ : ∃ W5, W.setCell ⟨bc, 0, none⟩ (.int .i64 ((k + 1 : Nat) : Int)) = W5 := ⟨_, rfl⟩
    rw [hW5] at HBB HBC HC
    have hq : W.setCell ⟨bc, 0, none⟩ (.int .i64 ((k : Int) + 1)) = W5 := hW5
    first | rw [hW5] | rw [hq] | skip
    have hbb := HBB.out
    clear hW5 hq e1 c0 z0 h1
    go_wp2_with (go_at_call 30; ((with_reducible refine (HF.out _ HBC.out).mono ?_); rintro e w1 ⟨rfl, rfl⟩))
    go_ret
    exact ⟨rfl, HC.out⟩
  · rw [if_neg hx]
    have hxc : (x == c) = false := beq_eq_false_iff_ne.2 hx
    rw [hxc, Bool.false_or]
    rw [hxc] at HF
    have HC := Lib.hid h
    have H2 := Lib.hid h2
    obtain ⟨B, hB⟩ : ∃ B, bk x = B := ⟨_, rfl⟩
    rw [hB] at HB ⊢
    clear hx h hk h2 h3 hB hxc
    go_enter Tryd.func19, Tryd.ntmps19
    go_wp2_with (first
      | (go_at_call 30; ((with_reducible refine (HF.out _ H2.out).mono ?_); rintro e w1 ⟨rfl, rfl⟩))
      | (go_at_call 20; ((with_reducible refine (HB.out _).mono ?_); rintro e w1 ⟨rfl, rfl⟩)))
    go_ret
    exact ⟨rfl, HC.out⟩
set_option maxRecDepth 100000 in
set_option maxHeartbeats 4000000 in
theorem rowRu_any (o : ByteArray) (w0 : World) (bi bc c : Nat) (w : World) (hs : (o.size : Int) ≤ 1000000) (hc : CtAt w0 w bi bc c 0) :
    Calls Tryd.prog 18 #[.string o, .func (.func 19) #[] #[.pointer (some ⟨bi, 0, none⟩), .pointer (some ⟨bc, 0, none⟩)]] w fun e w' => e = .returned (.int .i64 ((rwL (fun x => x == c || bk x) (bl o) : Nat) : Int)) ∧ CtAt w0 w' bi bc c (((bl o).take (rwL (fun x => x == c || bk x) (bl o))).count c) := by
  obtain ⟨V, hV⟩ : ∃ V, rwL (fun x => x == c || bk x) (bl o) = V := ⟨_, rfl⟩
  obtain ⟨C, hC⟩ : ∃ C, ((bl o).take V).count c = C := ⟨_, rfl⟩
  have hCl : C ≤ o.size := by
    have h1 := List.count_le_length (a := c) (l := (bl o).take V)
    rw [List.length_take, bl_len, hC] at h1
    omega
  rw [hV, hC]
  have HV := Lib.hid (show 0 + rwL (fun x => x == c || bk x) ((bl o).drop 0) = V by rw [List.drop_zero, Nat.zero_add]; exact hV)
  have HC := Lib.hid (show 0 + (((bl o).drop 0).take (V - 0)).count c = C by rw [List.drop_zero, Nat.zero_add, Nat.sub_zero]; exact hC)
  have HS := Lib.hid (And.intro hs hCl)
  have HF := Lib.hid (fun x k W hk h => ruleF_any w0 W bi bc c k x hk h)
  have H0 := Lib.hid hc
  clear hV hC hs hc hCl
  go_enter Tryd.func18, Tryd.ntmps18
  go_wp2
  go_loopg [5, 8] o.size (fun g _ iv wr => ∃ i k : Nat, Hid (CtAt w0 wr bi bc c k) ∧ g = o.size - i ∧ iv = .int .i64 (i : Nat) ∧ Hid (i ≤ o.size) ∧ Hid (i + rwL (fun x => x == c || bk x) ((bl o).drop i) = V) ∧ Hid (k + (((bl o).drop i).take (V - i)).count c = C))
  case atStart => exact ⟨0, 0, H0, rfl, rfl, Lib.hid (Nat.zero_le _), HV, HC⟩
  case round =>
    clear HV HC H0
    obtain ⟨i, k, HCt, hg, rfl, HI, HR, HT⟩ := hrel
    have HG := Lib.hid hg
    clear hg
    have hk : k ≤ 1000000 := by have := HT.out; have := HS.out; omega
    by_cases hlt : i < o.size
    · obtain ⟨x, hx1⟩ : ∃ x, bt o i = x := ⟨_, rfl⟩
      have hx : o[i].toNat = x := by rw [bt_eq hlt]; exact hx1
      have hR := HR.out
      have hT := HT.out
      rw [bl_drop hlt, rwL_cons, hx1] at hR
      have k0 : (0 : Int) ≤ (i : Int) := by omega
      have k1 : (i : Int) < o.size := by omega
      have HB := Lib.hid hlt
      have HE := Lib.hid (show IntKind.i64.wrap ((i : Int) + 1) = (i : Int) + 1 from IntWalk.i64_in _ (by have := HS.out; omega))
      have HX := Lib.hid (HF.out x k wr hk HCt.out)
      obtain ⟨B, hB2⟩ : ∃ B, (x == c || bk x) = B := ⟨_, rfl⟩
      rw [hB2] at HX hR
      cases B with
      | true =>
        rw [if_pos rfl] at hR
        have HR2 := Lib.hid (show i + 1 + rwL (fun x => x == c || bk x) ((bl o).drop (i + 1)) = V by omega)
        obtain ⟨k2, hk2⟩ : ∃ k2, (if x = c then k + 1 else k) = k2 := ⟨_, rfl⟩
        rw [hk2] at HX
        have HT2 := Lib.hid (show k2 + (((bl o).drop (i + 1)).take (V - (i + 1))).count c = C by
          rw [bl_drop hlt, hx1, show V - i = (V - (i + 1)) + 1 from by omega, List.take_succ_cons] at hT
          by_cases hxc : x = c
          · rw [hxc, List.count_cons_self] at hT
            rw [if_pos hxc] at hk2
            omega
          · rw [List.count_cons_of_ne hxc] at hT
            rw [if_neg hxc] at hk2
            omega)
        clear hR hT hB2 hx1 hk2 hk HCt
        have e1 := HE.out
        go_wp2_with (go_at_call 19; ((with_reducible refine HX.out.mono ?_); rintro e w2 ⟨rfl, hct⟩; have HCt2 := Lib.hid hct; clear hct))
        go_roundg (o.size - (i + 1))
        case measure => rw [HG.out]; have := HB.out; omega
        case rel => exact ⟨i + 1, k2, HCt2, rfl, by go_num, Lib.hid HB.out, HR2, HT2⟩
      | false =>
        rw [if_neg (by decide)] at hR
        have hxc : ¬ x = c := fun e => by rw [e] at hB2; simp at hB2
        rw [if_neg hxc] at HX
        have HR2 := Lib.hid (show i = V from hR)
        have HT2 := Lib.hid (show k = C by rw [show V - i = 0 from by omega, List.take_zero, List.count_nil] at hT; exact hT)
        clear hR hT hB2 hx1 hk HCt hxc
        go_wp2_with (go_at_call 19; ((with_reducible refine HX.out.mono ?_); rintro e w2 ⟨rfl, hct⟩; have HCt2 := Lib.hid hct; clear hct))
        go_ret
        exact ⟨ret_int (by rw [← HR2.out]), by rw [← HT2.out]; exact HCt2.out⟩
    · have hi : i = o.size := by have := HI.out; omega
      have hR := HR.out
      have hT := HT.out
      rw [bl_end (by omega)] at hR hT
      have HR2 := Lib.hid (show o.size = V from hi.symm.trans hR)
      have HT2 := Lib.hid (show k = C by rw [List.take_nil, List.count_nil] at hT; exact hT)
      have f2 : decide ((i : Int) < (o.size : Int)) = false := decide_eq_false (by omega)
      have f3 : decide (i < o.size) = false := decide_eq_false hlt
      clear hR hT hlt hi hk
      go_wp2
      go_ret
      exact ⟨ret_int (by rw [← HR2.out]), by rw [← HT2.out]; exact HCt.out⟩
theorem ct_new (w1 w3 : World) (b c : Nat) (T : TypeId) (hb0 : (w1.alloc (.cells #[.int .i64 0] 3)).heap.size ≤ b) (hb : w3.cell? ⟨b, 0, none⟩ = some (.int .u8 (c : Nat))) (hu : Up (w1.alloc (.cells #[.int .i64 0] 3)) w3) :
    CtAt w1 (w3.alloc (.cells #[.func (.func 30) #[] #[.pointer (some ⟨b, 0, none⟩)]] T)) w3.heap.size w1.heap.size c 0 := by
  have hs := Below.size hu
  rw [World.size_alloc] at hb0 hs
  have hbl : b < w3.heap.size := by
    by_cases h : b < w3.heap.size
    · exact h
    · have : w3.heap[b]? = none := by simp; omega
      simp [World.cell?, this] at hb
  refine ⟨?_, ⟨b, box_cell w3 _ _, cell_up (Up.alloc _ _) hb, by omega⟩, by omega, Nat.le_refl _, (Up.alloc w1 _).trans (hu.trans (Up.alloc _ _))⟩
  have h0 := Go.heap_alloc_new w1 (.cells #[.int .i64 0] 3)
  rw [Below.block (Up.alloc w3 _) _ (by omega), Below.block hu _ (by rw [World.size_alloc]; omega)]
  exact h0
set_option maxRecDepth 100000 in
set_option maxHeartbeats 4000000 in
theorem pRule_any (s : ByteArray) (a : Int) (w : World) (hs : (s.size : Int) ≤ 1000000) :
    Calls Tryd.prog 7 #[.string s, .int .i64 a] w fun e w' => e = .returned (mkV (ruleL a.toNat (restL (bl s) a))) ∧ Up w w' := by
  have HRe0 := (fun W => rest_any s a W hs)
  have HW := Lib.hid (NewM.new w 23)
  have hbl := restB_bl s a
  have hsz := restB_size s a
  rw [← hbl]
  obtain ⟨o, ho⟩ : ∃ o, restB s a = o := ⟨_, rfl⟩
  rw [ho] at HRe0 hbl hsz ⊢
  have HRe := Lib.hid HRe0
  rcases Nat.eq_zero_or_pos o.size with ho0 | ho0
  · have hoe : o = ⟨#[]⟩ := by
      apply ByteArray.ext
      exact Array.eq_empty_of_size_eq_zero ho0
    clear HRe0 hbl ho hsz hs ho0
    subst hoe
    go_enter Tryd.func7, Tryd.ntmps7
    go_wp2_with (first
      | (go_at_call 15; ((with_reducible refine (HRe.out _).mono ?_); rintro e1 w1 ⟨rfl, h1⟩; have HW1 := Lib.hid (HW.out.more h1.up); clear h1 HW; obtain ⟨r0, r1, r2, r3, r4, r5⟩ := mk_cells HW1.out.box; obtain ⟨f0, f1, f2, f3, f4, f5⟩ := mk_frz HW1.out.box)))
    have hx := mk_box HW1.out.box (.int .u8 0) (.int .i64 0) (.int .i64 0) (.int .i64 0) (.int .i64 0) (.int .i64 0)
    obtain ⟨g0, g1, g2, g3, g4, g5⟩ := mk_cells hx
    try simp only [Exit.inBlock, Exit.then]
    refine bodyPost_ret (v := .tuple #[.agg #[.int .u8 0, .int .i64 0, .int .i64 0, .int .i64 0, .int .i64 0, .int .i64 0], .bool false]) (by simp [results, Tryd.results7, go_sem, g0, g1, g2, g3, g4, g5]) rfl ⟨?_, (mk_up HW1.out.up (Nat.le_refl _) _ _ _ _ _ _)⟩
    rfl
  obtain ⟨p, hap, hps⟩ : ∃ p : Nat, a = (p : Int) ∧ p < s.size := by
    cases hout : outE s a with
    | true =>
      rw [rest_out hout] at hbl
      have := congrArg List.length hbl
      rw [bl_len, List.length_nil] at this
      omega
    | false =>
      obtain ⟨p, h1, h2⟩ := out_in hout
      exact ⟨p, h1, by have := own_le s; omega⟩
  subst hap
  rw [Int.toNat_natCast]
  obtain ⟨c, hc⟩ : ∃ c, bt o 0 = c := ⟨_, rfl⟩
  have hx0 : o[0].toNat = c := by rw [bt_eq ho0]; exact hc
  have hc256 : c < 256 := by rw [← hc]; exact bt_lt o 0
  have hd : bl o = c :: (bl o).drop 1 := by
    have := bl_drop ho0
    rw [List.drop_zero, hc] at this
    exact this
  have p1 : (0 : Int) < o.size := by omega
  have hne : o.toList.isEmpty = false := by
    rw [Lib.toList_data]
    cases hq : o.data.toList with
    | nil => have := Lib.size_eq o; rw [hq, List.length_nil] at this; omega
    | cons x r => rfl
  obtain ⟨K, hK⟩ : ∃ K, rwL (fun x => x == c || bk x) (bl o) = K := ⟨_, rfl⟩
  have hKl := rwL_le (fun x => x == c || bk x) (bl o)
  rw [hK, bl_len] at hKl
  obtain ⟨C, hC⟩ : ∃ C, (bl o).count c = C := ⟨_, rfl⟩
  obtain ⟨k, hk⟩ : ∃ k, ((bl o).take K).count c = k := ⟨_, rfl⟩
  have hkl : k ≤ o.size := by
    have h1 := List.count_le_length (a := c) (l := (bl o).take K)
    rw [List.length_take, bl_len, hk] at h1
    omega
  have hkC : K = o.size → k = C := fun h => by rw [← hk, ← hC, List.take_of_length_le (by rw [bl_len]; omega)]
  have HLa0 := (fun W => last_any o 0 W (by omega) (Nat.zero_le _))
  rw [List.drop_zero, Nat.zero_add, show ((0 : Nat) : Int) = 0 from rfl] at HLa0
  obtain ⟨L, hL⟩ : ∃ L, laL (bl o) = L := ⟨_, rfl⟩
  have hLl := laL_le (bl o)
  rw [bl_len, hL] at hLl
  rw [hL] at HLa0
  have HLa := Lib.hid HLa0
  have HSm := Lib.hid (fun W => same_any c W)
  have HRw := Lib.hid (fun (w0 W : World) (bi bc : Nat) (hc : CtAt w0 W bi bc c 0) => by
    have h := rowRu_any o w0 bi bc c W (by omega) hc
    rw [hK, hk] at h
    exact h)
  have hD : ruleL p (bl o) = if okR c = true ∧ K = o.size ∧ 3 ≤ C then (⟨c, C, 0, 0, 0, p + L⟩, true) else (noM, false) := by
    rw [← hL, ← bl_len o]
    rw [hd] at hK hC ⊢
    exact ruleP_cons hK hC
  rw [hD]
  have HIx0 := (fun W => idx_any ⟨#[42, 45, 95]⟩ c hc256 W)
  rw [show bl ⟨#[42, 45, 95]⟩ = [42, 45, 95] from rfl] at HIx0
  obtain ⟨Y, hY⟩ : ∃ Y, p + L = Y := ⟨_, rfl⟩
  have HE := Lib.hid (show IntKind.i64.wrap ((p : Int) + (L : Nat)) = (Y : Nat) from (IntWalk.i64_in _ (by omega)).trans (by omega))
  rw [hY]
  have hokR : okR c = true ↔ c ∈ [42, 45, 95] := by
    unfold okR
    simp only [Bool.or_eq_true, beq_iff_eq, List.mem_cons, List.not_mem_nil, or_false]
    omega
  clear hD hd hK hC hk hL hc HRe0 hbl ho hsz hs hps hLl hY HLa0 hkl
  by_cases hcc : okR c = true
  case neg =>
    have HIx := Lib.hid (fun W => (HIx0 W).mono fun e w' ⟨r, h1, h2, h3⟩ => (⟨r, h1, h2.2 (fun q => hcc (hokR.2 q)), h3⟩ : ∃ r : Int, e = Ending.returned (.int .i64 r) ∧ r < 0 ∧ W = w'))
    rw [if_neg (fun h => hcc h.1)]
    clear HIx0 hcc hokR HE hkC hKl
    go_enter Tryd.func7, Tryd.ntmps7
    go_wp2_with (first
      | (go_at_call 15; ((with_reducible refine (HRe.out _).mono ?_); rintro e1 w1 ⟨rfl, h1⟩; have HW1 := Lib.hid (HW.out.more h1.up); clear h1 HW; obtain ⟨r0, r1, r2, r3, r4, r5⟩ := mk_cells HW1.out.box; obtain ⟨f0, f1, f2, f3, f4, f5⟩ := mk_frz HW1.out.box))
      | (go_at_call 16; ((with_reducible refine (HIx.out _).mono ?_); rintro e1 w2 ⟨r, rfl, hr, rfl⟩)))
    have hx := mk_box HW1.out.box (.int .u8 0) (.int .i64 0) (.int .i64 0) (.int .i64 0) (.int .i64 0) (.int .i64 0)
    obtain ⟨g0, g1, g2, g3, g4, g5⟩ := mk_cells hx
    try simp only [Exit.inBlock, Exit.then]
    refine bodyPost_ret (v := .tuple #[.agg #[.int .u8 0, .int .i64 0, .int .i64 0, .int .i64 0, .int .i64 0, .int .i64 0], .bool false]) (by simp [results, Tryd.results7, go_sem, g0, g1, g2, g3, g4, g5]) rfl ⟨?_, (mk_up HW1.out.up (Nat.le_refl _) _ _ _ _ _ _)⟩
    rfl
  have HIx := Lib.hid (fun W => (HIx0 W).mono fun e w' ⟨r, h1, h2, h3⟩ => (⟨r, h1, fun k => h2.1 k (hokR.1 hcc), h3⟩ : ∃ r : Int, e = Ending.returned (.int .i64 r) ∧ ¬ (r < 0) ∧ W = w'))
  clear HIx0 hokR
  by_cases hKo : K < o.size
  · have t1 : (K : Int) < (o.size : Int) := by omega
    rw [if_neg (fun h => by have := h.2.1; omega)]
    clear hcc hKo HE hkC hKl
    go_enter Tryd.func7, Tryd.ntmps7
    go_wp2_with (first
      | (go_at_call 15; ((with_reducible refine (HRe.out _).mono ?_); rintro e1 w1 ⟨rfl, h1⟩; have HW1 := Lib.hid (HW.out.more h1.up); clear h1 HW; obtain ⟨r0, r1, r2, r3, r4, r5⟩ := mk_cells HW1.out.box; obtain ⟨f0, f1, f2, f3, f4, f5⟩ := mk_frz HW1.out.box))
      | (go_at_call 16; ((with_reducible refine (HIx.out _).mono ?_); rintro e1 w2 ⟨r, rfl, hr, rfl⟩))
      | (go_at_call 17; ((with_reducible refine (HSm.out _).mono ?_); rintro e1 w3 ⟨b, rfl, hb0, hb, hu3⟩; have HCT := Lib.hid (ct_new w1 w3 b c 26 hb0 hb hu3); clear hb hb0 hu3))
      | (go_at_call 18; ((with_reducible refine (HRw.out w1 _ _ _ HCT.out).mono ?_); rintro e1 w4 ⟨rfl, hct⟩; have c7 := cellOf (j := 0) hct.ct rfl; have HW2 := Lib.hid (HW1.out.more hct.up); clear HW1 r0 r1 r2 r3 r4 r5 f0 f1 f2 f3 f4 f5; have HW1 := HW2; clear HW2; obtain ⟨r0, r1, r2, r3, r4, r5⟩ := mk_cells HW1.out.box; obtain ⟨f0, f1, f2, f3, f4, f5⟩ := mk_frz HW1.out.box; clear hct)))
    have hx := mk_box HW1.out.box (.int .u8 0) (.int .i64 0) (.int .i64 0) (.int .i64 0) (.int .i64 0) (.int .i64 0)
    obtain ⟨g0, g1, g2, g3, g4, g5⟩ := mk_cells hx
    try simp only [Exit.inBlock, Exit.then]
    refine bodyPost_ret (v := .tuple #[.agg #[.int .u8 0, .int .i64 0, .int .i64 0, .int .i64 0, .int .i64 0, .int .i64 0], .bool false]) (by simp [results, Tryd.results7, go_sem, g0, g1, g2, g3, g4, g5]) rfl ⟨?_, (mk_up HW1.out.up (Nat.le_refl _) _ _ _ _ _ _)⟩
    rfl
  have t1 : ¬ ((K : Int) < (o.size : Int)) := by omega
  have hkc := hkC (by omega)
  by_cases h3 : k < 3
  · have t3 : (k : Int) < 3 := by omega
    rw [if_neg (fun h => by have := h.2.2; omega)]
    clear hcc hKo HE hkC hKl hkc h3
    go_enter Tryd.func7, Tryd.ntmps7
    go_wp2_with (first
      | (go_at_call 15; ((with_reducible refine (HRe.out _).mono ?_); rintro e1 w1 ⟨rfl, h1⟩; have HW1 := Lib.hid (HW.out.more h1.up); clear h1 HW; obtain ⟨r0, r1, r2, r3, r4, r5⟩ := mk_cells HW1.out.box; obtain ⟨f0, f1, f2, f3, f4, f5⟩ := mk_frz HW1.out.box))
      | (go_at_call 16; ((with_reducible refine (HIx.out _).mono ?_); rintro e1 w2 ⟨r, rfl, hr, rfl⟩))
      | (go_at_call 17; ((with_reducible refine (HSm.out _).mono ?_); rintro e1 w3 ⟨b, rfl, hb0, hb, hu3⟩; have HCT := Lib.hid (ct_new w1 w3 b c 26 hb0 hb hu3); clear hb hb0 hu3))
      | (go_at_call 18; ((with_reducible refine (HRw.out w1 _ _ _ HCT.out).mono ?_); rintro e1 w4 ⟨rfl, hct⟩; have c7 := cellOf (j := 0) hct.ct rfl; have HW2 := Lib.hid (HW1.out.more hct.up); clear HW1 r0 r1 r2 r3 r4 r5 f0 f1 f2 f3 f4 f5; have HW1 := HW2; clear HW2; obtain ⟨r0, r1, r2, r3, r4, r5⟩ := mk_cells HW1.out.box; obtain ⟨f0, f1, f2, f3, f4, f5⟩ := mk_frz HW1.out.box; clear hct)))
    have hx := mk_box HW1.out.box (.int .u8 0) (.int .i64 0) (.int .i64 0) (.int .i64 0) (.int .i64 0) (.int .i64 0)
    obtain ⟨g0, g1, g2, g3, g4, g5⟩ := mk_cells hx
    try simp only [Exit.inBlock, Exit.then]
    refine bodyPost_ret (v := .tuple #[.agg #[.int .u8 0, .int .i64 0, .int .i64 0, .int .i64 0, .int .i64 0, .int .i64 0], .bool false]) (by simp [results, Tryd.results7, go_sem, g0, g1, g2, g3, g4, g5]) rfl ⟨?_, (mk_up HW1.out.up (Nat.le_refl _) _ _ _ _ _ _)⟩
    rfl
  have t3 : ¬ ((k : Int) < 3) := by omega
  rw [if_pos ⟨hcc, by omega, by omega⟩, ← hkc]
  clear hcc hKo hkC hKl hkc h3
  have e1 := HE.out
  go_enter Tryd.func7, Tryd.ntmps7
  go_wp2_with (first
    | (go_at_call 15; ((with_reducible refine (HRe.out _).mono ?_); rintro e1 w1 ⟨rfl, h1⟩; have HW1 := Lib.hid (HW.out.more h1.up); clear h1 HW; obtain ⟨r0, r1, r2, r3, r4, r5⟩ := mk_cells HW1.out.box; obtain ⟨f0, f1, f2, f3, f4, f5⟩ := mk_frz HW1.out.box))
    | (go_at_call 16; ((with_reducible refine (HIx.out _).mono ?_); rintro e1 w2 ⟨r, rfl, hr, rfl⟩))
    | (go_at_call 17; ((with_reducible refine (HSm.out _).mono ?_); rintro e1 w3 ⟨b, rfl, hb0, hb, hu3⟩; have HCT := Lib.hid (ct_new w1 w3 b c 26 hb0 hb hu3); clear hb hb0 hu3))
    | (go_at_call 18; ((with_reducible refine (HRw.out w1 _ _ _ HCT.out).mono ?_); rintro e1 w4 ⟨rfl, hct⟩; have c7 := cellOf (j := 0) hct.ct rfl; have HW2 := Lib.hid (HW1.out.more hct.up); clear HW1 r0 r1 r2 r3 r4 r5 f0 f1 f2 f3 f4 f5; have HW1 := HW2; clear HW2; obtain ⟨r0, r1, r2, r3, r4, r5⟩ := mk_cells HW1.out.box; obtain ⟨f0, f1, f2, f3, f4, f5⟩ := mk_frz HW1.out.box; clear hct)))
  go_region_law (first | (go_simp; (go_at_call 21; ((with_reducible refine (HLa.out _).mono ?_); rintro e1 w5 ⟨rfl, hu5⟩; have HW2 := Lib.hid (HW1.out.more ((Up.drew _).trans hu5)); clear HW1 r0 r1 r2 r3 r4 r5 f0 f1 f2 f3 f4 f5; have HW1 := HW2; clear HW2; obtain ⟨r0, r1, r2, r3, r4, r5⟩ := mk_cells HW1.out.box; obtain ⟨f0, f1, f2, f3, f4, f5⟩ := mk_frz HW1.out.box; have c8 := cell_up ((Up.drew _).trans hu5) c7; clear hu5))))
  all_goals
    go_wp2
    have hx := mk_box HW1.out.box (.int .u8 (c : Nat)) (.int .i64 (k : Nat)) (.int .i64 0) (.int .i64 0) (.int .i64 0) (.int .i64 (Y : Nat))
    obtain ⟨g0, g1, g2, g3, g4, g5⟩ := mk_cells hx
    try simp only [Exit.inBlock, Exit.then]
    refine bodyPost_ret (v := .tuple #[.agg #[.int .u8 (c : Nat), .int .i64 (k : Nat), .int .i64 0, .int .i64 0, .int .i64 0, .int .i64 (Y : Nat)], .bool true]) (by simp [results, Tryd.results7, go_sem, g0, g1, g2, g3, g4, g5]) rfl ⟨?_, (mk_up HW1.out.up (Nat.le_refl _) _ _ _ _ _ _)⟩
    rfl
end Go.Proofs.YtopdbilkpkgccaaDoor
