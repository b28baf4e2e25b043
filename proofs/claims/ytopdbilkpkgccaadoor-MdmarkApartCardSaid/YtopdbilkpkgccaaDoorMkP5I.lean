/- The program's Item. -/
import Derived.Test.YtopdbilkpkgccaaDoorMkP4
import Derived.Test.YtopdbilkpkgccaaDoorShelfB
import Derived.Test.YtopdbilkpkgccaaDoorMkRefI0
import Derived.Stop.LaidErr
namespace Go.Proofs.YtopdbilkpkgccaaDoor
open Go.RowKit Go.Shelf

theorem decFrom_nu : ∀ (l : List UInt8) (acc : Nat), (∀ x ∈ l, dgL x.toNat = true) → Lib.decFrom acc l = some ((l.map (·.toNat)).foldl (fun n c => 10 * n + (c - 48)) acc)
  | [], _, _ => rfl
  | b :: r, acc, h => by
    have hb := h b (by simp)
    unfold dgL at hb
    have hb := of_decide_eq_true hb
    have hd : Lib.digitVal b = some (b.toNat - 48) := by
      unfold Lib.digitVal
      simp
      omega
    rw [Lib.decFrom, hd]
    dsimp only
    rw [decFrom_nu r _ (fun x hx => h x (by simp [hx])), List.map_cons, List.foldl_cons, Nat.mul_comm acc 10]
theorem atoi_dig (o : ByteArray) (d : Nat) (h0 : 0 < d) (hl : d ≤ o.size) (hdg : ∀ x ∈ (bl o).take d, dgL x = true) : Lib.atoi (o.extract 0 d).data.toList = some ((nuL ((bl o).take d) : Nat) : Int) := by
  have hb : (o.extract 0 d).data.toList.map (·.toNat) = (bl o).take d := (take_bytes o d).symm
  obtain ⟨b, r, hbr⟩ : ∃ b r, (o.extract 0 d).data.toList = b :: r := by
    cases hq : (o.extract 0 d).data.toList with
    | nil =>
      rw [hq] at hb
      have := congrArg List.length hb
      rw [List.length_take, bl_len] at this
      simp at this
      omega
    | cons b r => exact ⟨b, r, rfl⟩
  rw [hbr] at hb ⊢
  have hall : ∀ x ∈ b :: r, dgL x.toNat = true := fun x hx => hdg _ (by rw [← hb]; exact List.mem_map_of_mem hx)
  have hbd := hall b (by simp)
  unfold dgL at hbd
  have hbd := of_decide_eq_true hbd
  have n1 : (b == 45) = false := beq_eq_false_iff_ne.2 (fun e => by rw [e] at hbd; exact absurd hbd (by decide))
  have n2 : (b == 43) = false := beq_eq_false_iff_ne.2 (fun e => by rw [e] at hbd; exact absurd hbd (by decide))
  rw [Lib.atoi, n1, n2, if_neg (by decide), if_neg (by decide), Lib.decNat, if_neg (by simp), decFrom_nu _ _ hall, hb]
  rfl
/-- strconv's ErrSyntax holds an error. -/
def ErrT (w : World) : Prop := ∃ tp p, w.var? Tryd.prog "strconv.ErrSyntax" = some #[.iface tp p]
theorem gErr : ∃ g, Tryd.prog.globalNamed "strconv.ErrSyntax" = some g := ⟨1, by kernel_rfl⟩
theorem ErrT.up {w w' : World} (h : ErrT w) (hu : Up w w') : ErrT w' := by
  obtain ⟨tp, p, hv⟩ := h
  obtain ⟨g, hg⟩ := gErr
  refine ⟨tp, p, var?_below hu hg ?_ hv⟩
  by_cases hlt : g < w.heap.size
  · exact hlt
  · exfalso
    have hn : w.heap[g]? = none := by simp; omega
    unfold World.var? at hv
    simp [hg, hn] at hv
theorem atoiN_any (w : World) (hE : ErrT w) : Calls Tryd.prog 26 #[.string ⟨#[]⟩] w fun e w' => ∃ v, e = .returned (.tuple #[.int .i64 0, v]) ∧ Up w w' := by
  obtain ⟨tp, p, hv⟩ := hE
  have h := Any.strconv_Atoi_syntax_var Tryd.laysC172 ⟨#[]⟩ (by decide) (by rfl) tp p w hv
  change Calls Tryd.prog 26 #[.string ⟨#[]⟩] w _ at h
  exact h.mono fun e w' ⟨N, h1, _, _, h4⟩ => ⟨_, h1, h4⟩
theorem atoiD_any (o : ByteArray) (d n : Nat) (h0 : 0 < d) (hl : d ≤ o.size) (h9 : d ≤ 9) (hdg : ∀ x ∈ (bl o).take d, dgL x = true) (hn : nuL ((bl o).take d) = n) (w : World) : Calls Tryd.prog 26 #[.string (o.extract 0 d)] w fun e w' => ∃ v, e = .returned (.tuple #[.int .i64 (n : Nat), v]) ∧ Up w w' := by
  have h := Any.strconv_Atoi Tryd.lays172 (o.extract 0 d) (n : Nat) (by rw [ByteArray.size_extract]; omega) (by rw [atoi_dig o d h0 hl hdg, hn]) w
  change Calls Tryd.prog 26 #[.string (o.extract 0 d)] w _ at h
  refine h.mono fun e w' ⟨h1, t, h4⟩ => ⟨_, h1, ?_⟩
  rw [h4]
  have h1 : Up w (w.drew.alloc (.cells #[] 5)) := (Up.drew w).trans (Up.alloc _ _)
  refine ⟨h1.os, h1.tape, h1.output, ?_, ?_⟩
  · rw [Lib.bytesWorld_size]; omega
  · intro k hk
    exact Lib.bytesWorld_at_old w _ _ k hk
set_option maxRecDepth 100000 in
set_option maxHeartbeats 4000000 in
theorem pItem_any (s : ByteArray) (a : Int) (w : World) (hs : (s.size : Int) ≤ 1000000) (hE : ErrT w) :
    Calls Tryd.prog 11 #[.string s, .int .i64 a] w fun e w' => e = .returned (mkV (itemL a.toNat (restL (bl s) a))) ∧ Up w w' := by
  have HRe0 := (fun W => rest_any s a W hs)
  have HW := Lib.hid (NewM.new w 23)
  have hbl := restB_bl s a
  have hsz := restB_size s a
  rw [← hbl]
  obtain ⟨o, ho⟩ : ∃ o, restB s a = o := ⟨_, rfl⟩
  rw [ho] at HRe0 hbl hsz ⊢
  have HRe := Lib.hid HRe0
  have HEr := Lib.hid hE
  clear hE
  obtain ⟨d, hK⟩ : ∃ d, rwL dgL (bl o) = d := ⟨_, rfl⟩
  have hl := rwL_le dgL (bl o)
  rw [hK, bl_len] at hl
  have HRw0 := (fun W => rowDg_any o W (by omega))
  rw [hK] at HRw0
  have HRw := Lib.hid HRw0
  have hdg := rwL_all (p := dgL) (l := bl o) (k := d) (by rw [hK]; exact Nat.le_refl _)
  have HD9 := Lib.hid (show (9 : Int) < (d : Int) ∨ ¬ ((9 : Int) < (d : Int)) by omega)
  by_cases h9 : 9 < d
  · have t9 : (9 : Int) < (d : Int) := by omega
    have t0 : (0 : Int) < (d : Int) := by omega
    have hsp : itemL a.toNat (bl o) = (noM, false) := by
      cases hrest : (bl o).drop d with
      | nil => exact itemL_nil hK hrest
      | cons y r => rw [itemL_cons hK hrest, if_pos (.inl h9)]
    rw [hsp]
    clear hsp hK hl HRw0 hdg h9 HRe0 hbl ho hsz hs HEr HD9
    go_enter Tryd.func11, Tryd.ntmps11
    go_wp2_with (first
      | (go_at_call 15; ((with_reducible refine (HRe.out _).mono ?_); rintro e1 w1 ⟨rfl, h1⟩; have HW1 := Lib.hid (HW.out.more h1.up); clear h1 HW; obtain ⟨r0, r1, r2, r3, r4, r5⟩ := mk_cells HW1.out.box; obtain ⟨f0, f1, f2, f3, f4, f5⟩ := mk_frz HW1.out.box))
      | (go_at_call 18; ((with_reducible refine (HRw.out _).mono ?_); rintro e1 w4 ⟨rfl, rfl⟩)))
    have hx := mk_box HW1.out.box (.int .u8 0) (.int .i64 0) (.int .i64 0) (.int .i64 0) (.int .i64 0) (.int .i64 0)
    obtain ⟨g0, g1, g2, g3, g4, g5⟩ := mk_cells hx
    try simp only [Exit.inBlock, Exit.then]
    refine bodyPost_ret (v := .tuple #[.agg #[.int .u8 0, .int .i64 0, .int .i64 0, .int .i64 0, .int .i64 0, .int .i64 0], .bool false]) (by simp [results, Tryd.results11, go_sem, g0, g1, g2, g3, g4, g5]) rfl ⟨?_, (mk_up HW1.out.up (Nat.le_refl _) _ _ _ _ _ _)⟩
    rfl
  have t9 : ¬ ((9 : Int) < (d : Int)) := by omega
  by_cases hend : d = o.size
  · have hsp : itemL a.toNat (bl o) = (noM, false) := itemL_nil hK (bl_end (by omega))
    rw [hsp]
    have t1 : ((d : Int) == (o.size : Int)) = true := by rw [hend]; exact beq_self_eq_true _
    by_cases h0 : 0 < d
    · have t0 : (0 : Int) < (d : Int) := by omega
      clear hsp hK hl HRw0 hdg h9 HRe0 hbl ho hsz hs hend HEr HD9 h0
      go_enter Tryd.func11, Tryd.ntmps11
      go_wp2_with (first
        | (go_at_call 15; ((with_reducible refine (HRe.out _).mono ?_); rintro e1 w1 ⟨rfl, h1⟩; have HW1 := Lib.hid (HW.out.more h1.up); clear h1 HW; obtain ⟨r0, r1, r2, r3, r4, r5⟩ := mk_cells HW1.out.box; obtain ⟨f0, f1, f2, f3, f4, f5⟩ := mk_frz HW1.out.box))
        | (go_at_call 18; ((with_reducible refine (HRw.out _).mono ?_); rintro e1 w4 ⟨rfl, rfl⟩)))
      have hx := mk_box HW1.out.box (.int .u8 0) (.int .i64 0) (.int .i64 0) (.int .i64 0) (.int .i64 0) (.int .i64 0)
      obtain ⟨g0, g1, g2, g3, g4, g5⟩ := mk_cells hx
      try simp only [Exit.inBlock, Exit.then]
      refine bodyPost_ret (v := .tuple #[.agg #[.int .u8 0, .int .i64 0, .int .i64 0, .int .i64 0, .int .i64 0, .int .i64 0], .bool false]) (by simp [results, Tryd.results11, go_sem, g0, g1, g2, g3, g4, g5]) rfl ⟨?_, (mk_up HW1.out.up (Nat.le_refl _) _ _ _ _ _ _)⟩
      rfl
    · obtain rfl : d = 0 := by omega
      rw [show ((0 : Nat) : Int) = 0 from rfl] at HRw t1 t9
      clear hsp hK hl HRw0 hdg h9 HRe0 hbl ho hsz hs hend HEr HD9 h0
      go_enter Tryd.func11, Tryd.ntmps11
      go_wp2_with (first
        | (go_at_call 15; ((with_reducible refine (HRe.out _).mono ?_); rintro e1 w1 ⟨rfl, h1⟩; have HW1 := Lib.hid (HW.out.more h1.up); clear h1 HW; obtain ⟨r0, r1, r2, r3, r4, r5⟩ := mk_cells HW1.out.box; obtain ⟨f0, f1, f2, f3, f4, f5⟩ := mk_frz HW1.out.box))
        | (go_at_call 18; ((with_reducible refine (HRw.out _).mono ?_); rintro e1 w4 ⟨rfl, rfl⟩)))
      have hx := mk_box HW1.out.box (.int .u8 0) (.int .i64 0) (.int .i64 0) (.int .i64 0) (.int .i64 0) (.int .i64 0)
      obtain ⟨g0, g1, g2, g3, g4, g5⟩ := mk_cells hx
      try simp only [Exit.inBlock, Exit.then]
      refine bodyPost_ret (v := .tuple #[.agg #[.int .u8 0, .int .i64 0, .int .i64 0, .int .i64 0, .int .i64 0, .int .i64 0], .bool false]) (by simp [results, Tryd.results11, go_sem, g0, g1, g2, g3, g4, g5]) rfl ⟨?_, (mk_up HW1.out.up (Nat.le_refl _) _ _ _ _ _ _)⟩
      rfl
  have hdo : d < o.size := by omega
  have t1 : ((d : Int) == (o.size : Int)) = false := beq_eq_false_iff_ne.2 (by omega)
  obtain ⟨p, hap, hps⟩ : ∃ p : Nat, a = (p : Int) ∧ p < s.size := by
    cases hout : outE s a with
    | true =>
      rw [rest_out hout] at hbl
      have := congrArg List.length hbl
      rw [bl_len, List.length_nil] at this
      omega
    | false =>
      obtain ⟨p, h1, h2⟩ := out_in hout
      exact ⟨p, h1, by have := own_le s; omega⟩
  subst hap
  rw [Int.toNat_natCast]
  obtain ⟨c, hc⟩ : ∃ c, bt o d = c := ⟨_, rfl⟩
  have hx0 : o[d].toNat = c := by rw [bt_eq hdo]; exact hc
  have hc256 : c < 256 := by rw [← hc]; exact bt_lt o d
  have hd := bl_drop hdo
  rw [hc] at hd
  have hsp := itemL_cons (a := p) hK hd
  rw [hsp]
  have p0 : (0 : Int) ≤ (d : Int) := by omega
  have p1 : (d : Int) < o.size := by omega
  have p2 : (d : Int) ≤ o.size := by omega
  obtain ⟨B, hB⟩ : ∃ B, ptL ((bl o).drop (d + 1)) = B := ⟨_, rfl⟩
  obtain ⟨D1, hD1⟩ : ∃ D1, d + 1 = D1 := ⟨_, rfl⟩
  have HPt0 := (fun W => isPart_any o D1 W (by omega))
  have HLa0 := (fun W => last_any o D1 W (by omega) (by omega))
  rw [← hD1, hB, hD1] at HPt0
  obtain ⟨L, hL⟩ : ∃ L, laL ((bl o).drop (d + 1)) = L := ⟨_, rfl⟩
  have hLl := laL_le ((bl o).drop (d + 1))
  rw [List.length_drop, bl_len, hL] at hLl
  rw [← hD1, hL, hD1] at HLa0
  obtain ⟨M, hM⟩ : ∃ M, D1 + L = M := ⟨_, rfl⟩
  rw [hM] at HLa0
  have HPt := Lib.hid HPt0
  have HLa := Lib.hid HLa0
  obtain ⟨n, hn⟩ : ∃ n, nuL ((bl o).take d) = n := ⟨_, rfl⟩
  rw [hB, hL, hn]
  obtain ⟨V, hV⟩ : ∃ V, p + d + 1 = V := ⟨_, rfl⟩
  obtain ⟨Y, hY⟩ : ∃ Y, p + d + 1 + L = Y := ⟨_, rfl⟩
  obtain ⟨U, hU⟩ : ∃ U, p + d = U := ⟨_, rfl⟩
  rw [hY, hV]
  have HE1 := Lib.hid (show IntKind.i64.wrap ((d : Int) + 1) = (D1 : Nat) from (IntWalk.i64_in _ (by omega)).trans (by omega))
  have HE2 := Lib.hid (show IntKind.i64.wrap ((p : Int) + (d : Nat)) = (U : Nat) from (IntWalk.i64_in _ (by omega)).trans (by omega))
  have HE3 := Lib.hid (show IntKind.i64.wrap ((U : Int) + 1) = (V : Nat) from (IntWalk.i64_in _ (by omega)).trans (by omega))
  have HE4 := Lib.hid (show IntKind.i64.wrap ((p : Int) + (M : Nat)) = (Y : Nat) from (IntWalk.i64_in _ (by omega)).trans (by omega))
  have HAt := Lib.hid (show 0 < d → ∀ W, Calls Tryd.prog 26 #[.string (o.extract 0 d)] W fun e w' => ∃ v, e = .returned (.tuple #[.int .i64 (n : Nat), v]) ∧ Up W w' from fun h0 W => atoiD_any o d n h0 (by omega) (by omega) hdg hn W)
  have HD1 := Lib.hid hD1
  have HUp := Lib.hid hU
  have HPs := Lib.hid (show (p : Int) ≤ 1000000 by omega)
  have hn0 : d = 0 → n = 0 := fun h => by rw [← hn, h]; rfl
  have HIx0 := (fun S W => idx_any S c hc256 W)
  clear hsp hK hl HRw0 hdg HRe0 hbl ho hsz hs hend hd hc hB hD1 HPt0 HLa0 hL hLl hM hn hV hY hU hps HD9
  by_cases h0 : 0 < d
  · have t0 : (0 : Int) < (d : Int) := by omega
    have HAt1 := Lib.hid (HAt.out h0)
    have HIx1 := (fun W => HIx0 ⟨#[46, 41]⟩ W)
    rw [show bl ⟨#[46, 41]⟩ = [46, 41] from rfl] at HIx1
    clear HIx0
    by_cases hcc : c = 46 ∨ c = 41
    case neg =>
      have HIx := Lib.hid (fun W => (HIx1 W).mono fun e w' ⟨r, h1, h2, h3⟩ => (⟨r, h1, h2.2 (by simp; omega), h3⟩ : ∃ r : Int, e = Ending.returned (.int .i64 r) ∧ r < 0 ∧ W = w'))
      rw [if_pos (.inr (.inl (by rw [if_pos h0]; omega)))]
      clear HIx1 hcc HAt HAt1 hn0 HEr h0 h9
      go_enter Tryd.func11, Tryd.ntmps11
      go_wp2_with (first
        | (go_at_call 15; ((with_reducible refine (HRe.out _).mono ?_); rintro e1 w1 ⟨rfl, h1⟩; have HW1 := Lib.hid (HW.out.more h1.up); clear h1 HW; obtain ⟨r0, r1, r2, r3, r4, r5⟩ := mk_cells HW1.out.box; obtain ⟨f0, f1, f2, f3, f4, f5⟩ := mk_frz HW1.out.box))
        | (go_at_call 18; ((with_reducible refine (HRw.out _).mono ?_); rintro e1 w4 ⟨rfl, rfl⟩))
        | (go_at_call 16; ((with_reducible refine (HIx.out _).mono ?_); rintro e1 w2 ⟨r, rfl, hr, rfl⟩)))
      have hx := mk_box HW1.out.box (.int .u8 0) (.int .i64 0) (.int .i64 0) (.int .i64 0) (.int .i64 0) (.int .i64 0)
      obtain ⟨g0, g1, g2, g3, g4, g5⟩ := mk_cells hx
      try simp only [Exit.inBlock, Exit.then]
      refine bodyPost_ret (v := .tuple #[.agg #[.int .u8 0, .int .i64 0, .int .i64 0, .int .i64 0, .int .i64 0, .int .i64 0], .bool false]) (by simp [results, Tryd.results11, go_sem, g0, g1, g2, g3, g4, g5]) rfl ⟨?_, (mk_up HW1.out.up (Nat.le_refl _) _ _ _ _ _ _)⟩
      rfl
    have HIx := Lib.hid (fun W => (HIx1 W).mono fun e w' ⟨r, h1, h2, h3⟩ => (⟨r, h1, fun k => h2.1 k (by simp; omega), h3⟩ : ∃ r : Int, e = Ending.returned (.int .i64 r) ∧ ¬ (r < 0) ∧ W = w'))
    cases B with
    | false =>
      rw [if_pos (.inr (.inr rfl))]
      clear HIx1 hcc HAt HAt1 hn0 HEr h0 h9
      have e1 := HE1.out
      go_enter Tryd.func11, Tryd.ntmps11
      go_wp2_with (first
        | (go_at_call 15; ((with_reducible refine (HRe.out _).mono ?_); rintro e1 w1 ⟨rfl, h1⟩; have HW1 := Lib.hid (HW.out.more h1.up); clear h1 HW; obtain ⟨r0, r1, r2, r3, r4, r5⟩ := mk_cells HW1.out.box; obtain ⟨f0, f1, f2, f3, f4, f5⟩ := mk_frz HW1.out.box))
        | (go_at_call 18; ((with_reducible refine (HRw.out _).mono ?_); rintro e1 w4 ⟨rfl, rfl⟩))
        | (go_at_call 16; ((with_reducible refine (HIx.out _).mono ?_); rintro e1 w2 ⟨r, rfl, hr, rfl⟩))
        | (go_at_call 22; ((with_reducible refine (HPt.out _).mono ?_); rintro e1 w6 ⟨rfl, rfl⟩)))
      have hx := mk_box HW1.out.box (.int .u8 0) (.int .i64 0) (.int .i64 0) (.int .i64 0) (.int .i64 0) (.int .i64 0)
      obtain ⟨g0, g1, g2, g3, g4, g5⟩ := mk_cells hx
      try simp only [Exit.inBlock, Exit.then]
      refine bodyPost_ret (v := .tuple #[.agg #[.int .u8 0, .int .i64 0, .int .i64 0, .int .i64 0, .int .i64 0, .int .i64 0], .bool false]) (by simp [results, Tryd.results11, go_sem, g0, g1, g2, g3, g4, g5]) rfl ⟨?_, (mk_up HW1.out.up (Nat.le_refl _) _ _ _ _ _ _)⟩
      rfl
    | true =>
      rw [if_neg (by rw [if_pos h0]; rintro (h | h | h) <;> first | omega | cases h)]
      clear HIx1 hcc HAt hn0 HEr h0 h9
      have e1 := HE1.out
      have e2 := HE2.out
      have e3 := HE3.out
      have e4 := HE4.out
      go_enter Tryd.func11, Tryd.ntmps11
      go_wp2_with (first
        | (go_at_call 15; ((with_reducible refine (HRe.out _).mono ?_); rintro e1 w1 ⟨rfl, h1⟩; have HW1 := Lib.hid (HW.out.more h1.up); clear h1 HW; obtain ⟨r0, r1, r2, r3, r4, r5⟩ := mk_cells HW1.out.box; obtain ⟨f0, f1, f2, f3, f4, f5⟩ := mk_frz HW1.out.box))
        | (go_at_call 18; ((with_reducible refine (HRw.out _).mono ?_); rintro e1 w4 ⟨rfl, rfl⟩))
        | (go_at_call 16; ((with_reducible refine (HIx.out _).mono ?_); rintro e1 w2 ⟨r, rfl, hr, rfl⟩))
        | (go_at_call 22; ((with_reducible refine (HPt.out _).mono ?_); rintro e1 w6 ⟨rfl, rfl⟩))
        | (go_at_call 26; ((with_reducible refine (HAt1.out _ ).mono ?_); rintro e1 w7 ⟨v7, rfl, hu7⟩; have HW2 := Lib.hid (HW1.out.more hu7); clear HW1 r0 r1 r2 r3 r4 r5 f0 f1 f2 f3 f4 f5; have HW1 := HW2; clear HW2; obtain ⟨r0, r1, r2, r3, r4, r5⟩ := mk_cells HW1.out.box; obtain ⟨f0, f1, f2, f3, f4, f5⟩ := mk_frz HW1.out.box; clear hu7)))
      go_region_law (first | (go_simp; (go_at_call 21; ((with_reducible refine (HLa.out _).mono ?_); rintro e1 w5 ⟨rfl, hu5⟩; have HW2 := Lib.hid (HW1.out.more ((Up.drew _).trans hu5)); clear HW1 r0 r1 r2 r3 r4 r5 f0 f1 f2 f3 f4 f5; have HW1 := HW2; clear HW2; obtain ⟨r0, r1, r2, r3, r4, r5⟩ := mk_cells HW1.out.box; obtain ⟨f0, f1, f2, f3, f4, f5⟩ := mk_frz HW1.out.box; clear hu5))))
      all_goals
        go_wp2
        have hx := mk_box HW1.out.box (.int .u8 (c : Nat)) (.int .i64 (n : Nat)) (.int .i64 (V : Nat)) (.int .i64 0) (.int .i64 0) (.int .i64 (Y : Nat))
        obtain ⟨g0, g1, g2, g3, g4, g5⟩ := mk_cells hx
        try simp only [Exit.inBlock, Exit.then]
        refine bodyPost_ret (v := .tuple #[.agg #[.int .u8 (c : Nat), .int .i64 (n : Nat), .int .i64 (V : Nat), .int .i64 0, .int .i64 0, .int .i64 (Y : Nat)], .bool true]) (by simp [results, Tryd.results11, go_sem, g0, g1, g2, g3, g4, g5]) rfl ⟨?_, (mk_up HW1.out.up (Nat.le_refl _) _ _ _ _ _ _)⟩
        rfl
  · obtain rfl : d = 0 := by omega
    obtain rfl : n = 0 := hn0 rfl
    have HIx1 := (fun W => HIx0 ⟨#[45, 43, 42]⟩ W)
    rw [show bl ⟨#[45, 43, 42]⟩ = [45, 43, 42] from rfl] at HIx1
    obtain rfl : D1 = 1 := HD1.out.symm
    obtain rfl : U = p := HUp.out.symm
    have HE5 := Lib.hid (show IntKind.i64.wrap (U : Int) = (U : Nat) from IntWalk.i64_in _ (by have := HPs.out; omega))
    have HE6 := Lib.hid (show wrap64 (U : Int) = (U : Nat) from IntWalk.wrap64_in _ (by have := HPs.out; omega))
    rw [show ((0 : Nat) : Int) = 0 from rfl] at *
    rw [show ((1 : Nat) : Int) = 1 from rfl] at HPt HLa HE1
    clear HIx0
    by_cases hcc : c = 45 ∨ c = 43 ∨ c = 42
    case neg =>
      have HIx := Lib.hid (fun W => (HIx1 W).mono fun e w' ⟨r, h1, h2, h3⟩ => (⟨r, h1, h2.2 (by simp; omega), h3⟩ : ∃ r : Int, e = Ending.returned (.int .i64 r) ∧ r < 0 ∧ W = w'))
      rw [if_pos (.inr (.inl (by rw [if_neg h0]; omega)))]
      clear HIx1 hcc HAt hn0 HEr h0 h9
      go_enter Tryd.func11, Tryd.ntmps11
      go_wp2_with (first
        | (go_at_call 15; ((with_reducible refine (HRe.out _).mono ?_); rintro e1 w1 ⟨rfl, h1⟩; have HW1 := Lib.hid (HW.out.more h1.up); clear h1 HW; obtain ⟨r0, r1, r2, r3, r4, r5⟩ := mk_cells HW1.out.box; obtain ⟨f0, f1, f2, f3, f4, f5⟩ := mk_frz HW1.out.box))
        | (go_at_call 18; ((with_reducible refine (HRw.out _).mono ?_); rintro e1 w4 ⟨rfl, rfl⟩))
        | (go_at_call 16; ((with_reducible refine (HIx.out _).mono ?_); rintro e1 w2 ⟨r, rfl, hr, rfl⟩)))
      have hx := mk_box HW1.out.box (.int .u8 0) (.int .i64 0) (.int .i64 0) (.int .i64 0) (.int .i64 0) (.int .i64 0)
      obtain ⟨g0, g1, g2, g3, g4, g5⟩ := mk_cells hx
      try simp only [Exit.inBlock, Exit.then]
      refine bodyPost_ret (v := .tuple #[.agg #[.int .u8 0, .int .i64 0, .int .i64 0, .int .i64 0, .int .i64 0, .int .i64 0], .bool false]) (by simp [results, Tryd.results11, go_sem, g0, g1, g2, g3, g4, g5]) rfl ⟨?_, (mk_up HW1.out.up (Nat.le_refl _) _ _ _ _ _ _)⟩
      rfl
    have HIx := Lib.hid (fun W => (HIx1 W).mono fun e w' ⟨r, h1, h2, h3⟩ => (⟨r, h1, fun k => h2.1 k (by simp; omega), h3⟩ : ∃ r : Int, e = Ending.returned (.int .i64 r) ∧ ¬ (r < 0) ∧ W = w'))
    cases B with
    | false =>
      rw [if_pos (.inr (.inr rfl))]
      clear HIx1 hcc HAt hn0 HEr h0 h9
      go_enter Tryd.func11, Tryd.ntmps11
      go_wp2_with (first
        | (go_at_call 15; ((with_reducible refine (HRe.out _).mono ?_); rintro e1 w1 ⟨rfl, h1⟩; have HW1 := Lib.hid (HW.out.more h1.up); clear h1 HW; obtain ⟨r0, r1, r2, r3, r4, r5⟩ := mk_cells HW1.out.box; obtain ⟨f0, f1, f2, f3, f4, f5⟩ := mk_frz HW1.out.box))
        | (go_at_call 18; ((with_reducible refine (HRw.out _).mono ?_); rintro e1 w4 ⟨rfl, rfl⟩))
        | (go_at_call 16; ((with_reducible refine (HIx.out _).mono ?_); rintro e1 w2 ⟨r, rfl, hr, rfl⟩))
        | (go_at_call 22; ((with_reducible refine (HPt.out _).mono ?_); rintro e1 w6 ⟨rfl, rfl⟩)))
      have hx := mk_box HW1.out.box (.int .u8 0) (.int .i64 0) (.int .i64 0) (.int .i64 0) (.int .i64 0) (.int .i64 0)
      obtain ⟨g0, g1, g2, g3, g4, g5⟩ := mk_cells hx
      try simp only [Exit.inBlock, Exit.then]
      refine bodyPost_ret (v := .tuple #[.agg #[.int .u8 0, .int .i64 0, .int .i64 0, .int .i64 0, .int .i64 0, .int .i64 0], .bool false]) (by simp [results, Tryd.results11, go_sem, g0, g1, g2, g3, g4, g5]) rfl ⟨?_, (mk_up HW1.out.up (Nat.le_refl _) _ _ _ _ _ _)⟩
      rfl
    | true =>
      rw [if_neg (by rw [if_neg h0]; rintro (h | h | h) <;> first | omega | cases h)]
      clear HIx1 hcc HAt hn0 h0 h9
      have HAt2 := Lib.hid (fun W (h : ErrT W) => by have q := atoiN_any W h; rw [show (⟨#[]⟩ : ByteArray) = ByteArray.empty from rfl] at q; exact q)
      have e3 := HE3.out
      have e4 := HE4.out
      have e5 := HE5.out
      have e6 := HE6.out
      have e7 : IntKind.i64.wrap 1 = 1 := by decide
      go_enter Tryd.func11, Tryd.ntmps11
      go_wp2_with (first
        | (go_at_call 15; ((with_reducible refine (HRe.out _).mono ?_); rintro e1 w1 ⟨rfl, h1⟩; have HW1 := Lib.hid (HW.out.more h1.up); have HEr1 := Lib.hid (HEr.out.up ((Up.alloc w (.cells #[.int .u8 0, .int .i64 0, .int .i64 0, .int .i64 0, .int .i64 0, .int .i64 0] 23)).trans h1.up)); clear h1 HW; obtain ⟨r0, r1, r2, r3, r4, r5⟩ := mk_cells HW1.out.box; obtain ⟨f0, f1, f2, f3, f4, f5⟩ := mk_frz HW1.out.box))
        | (go_at_call 18; ((with_reducible refine (HRw.out _).mono ?_); rintro e1 w4 ⟨rfl, rfl⟩))
        | (go_at_call 16; ((with_reducible refine (HIx.out _).mono ?_); rintro e1 w2 ⟨r, rfl, hr, rfl⟩))
        | (go_at_call 22; ((with_reducible refine (HPt.out _).mono ?_); rintro e1 w6 ⟨rfl, rfl⟩))
        | (go_at_call 26; ((with_reducible refine (HAt2.out _ HEr1.out).mono ?_); rintro e1 w7 ⟨v7, rfl, hu7⟩; have HW2 := Lib.hid (HW1.out.more hu7); clear HW1 r0 r1 r2 r3 r4 r5 f0 f1 f2 f3 f4 f5; have HW1 := HW2; clear HW2; obtain ⟨r0, r1, r2, r3, r4, r5⟩ := mk_cells HW1.out.box; obtain ⟨f0, f1, f2, f3, f4, f5⟩ := mk_frz HW1.out.box; clear hu7)))
      go_region_law (first | (go_simp; (go_at_call 21; ((with_reducible refine (HLa.out _).mono ?_); rintro e1 w5 ⟨rfl, hu5⟩; have HW2 := Lib.hid (HW1.out.more ((Up.drew _).trans hu5)); clear HW1 r0 r1 r2 r3 r4 r5 f0 f1 f2 f3 f4 f5; have HW1 := HW2; clear HW2; obtain ⟨r0, r1, r2, r3, r4, r5⟩ := mk_cells HW1.out.box; obtain ⟨f0, f1, f2, f3, f4, f5⟩ := mk_frz HW1.out.box; clear hu5))))
      all_goals
        go_wp2
        have hx := mk_box HW1.out.box (.int .u8 (c : Nat)) (.int .i64 0) (.int .i64 (V : Nat)) (.int .i64 0) (.int .i64 0) (.int .i64 (Y : Nat))
        obtain ⟨g0, g1, g2, g3, g4, g5⟩ := mk_cells hx
        try simp only [Exit.inBlock, Exit.then]
        refine bodyPost_ret (v := .tuple #[.agg #[.int .u8 (c : Nat), .int .i64 0, .int .i64 (V : Nat), .int .i64 0, .int .i64 0, .int .i64 (Y : Nat)], .bool true]) (by simp [results, Tryd.results11, go_sem, g0, g1, g2, g3, g4, g5]) rfl ⟨?_, (mk_up HW1.out.up (Nat.le_refl _) _ _ _ _ _ _)⟩
        rfl
end Go.Proofs.YtopdbilkpkgccaaDoor
