/- The document's word. -/
import Derived.Test.YtmeipmkiknekjaaDoorHRefM
namespace Go.Proofs.YtmeipmkiknekjaaDoor
open Go.RowKit
set_option linter.unusedVariables false
/-- A text's bytes, as a string. -/
theorem conv_nb50 {W : World} {B : Nat} {v : Value} {l : List Nat} (h : W.ownsRow B U8 1 v l.length (nbC l)) : (convert 50 9 v).run Tryd.prog W = .ok (.string (toB l)) W := by
  have hl : (u8s l).length = l.length := by simp [u8s]
  rcases h.2 with ⟨rfl, hz⟩ | ⟨g, cap, cur, rfl, hb, hg, hnc, hcm, hcs, ht⟩
  · obtain rfl : l = [] := List.eq_nil_of_length_eq_zero hz
    exact (by kernel_rfl : (convert 50 9 (.slice none 0 0)).run Tryd.prog W = .ok (.string ⟨#[]⟩) W)
  · have := run_convert_bytes_back (P := Tryd.prog) W 50 9 U8 ⟨g, 0, none⟩ cap (u8s l) Tryd.underlying50 Tryd.underlying5 Tryd.underlying9 (fun j hj => by
      have h1 := h.cells (g := g) rfl j (.int .u8 ((u8s l)[j].toNat : Int)) (by simp [nbC, Lib.byteCells, hj])
      exact h1)
    rw [hl] at this
    exact this
theorem stp_con0 {m : Nat} {L : List Nat} (h : con L = 0) : stp m L = none := by
  cases hs : stp m L with
  | none => rfl
  | some x => exact absurd h (stp_con hs).1
set_option maxRecDepth 100000 in
set_option maxHeartbeats 16000000 in
theorem refWord_any (w0 : World) (line : ByteArray) (p m : Nat) (hm : m = 0 ∨ m = 39 ∨ m = 34) (hs : (line.size : Int) ≤ 500000) (hp : p ≤ con (bl line)) :
    Calls Tryd.prog 19 #[.string line, .int .i64 (p : Nat), .int .u8 (m : Nat)] w0 fun e w' => e = .returned (.tuple #[.agg (pcV (wpc (bl line) p m)).toArray, .int .u8 ((wd m ((bl line).drop p)).2.2 : Nat)]) ∧ Up w0 w' := by
  have HC := Lib.hid (fun w => content_any line w (by omega))
  have HO := Lib.hid (fun w q (hq : q ≤ con (bl line)) => refOpC_any w line q hq (by omega))
  have HJ := Lib.hid (fun w q (hq : q < con (bl line)) => join_any line q w (by omega) hq)
  have HI0 := Lib.hid (WInv.start hp hm)
  have hcl := con_le (bl line)
  rw [bl_len] at hcl
  obtain ⟨n, hn⟩ : ∃ n, con (bl line) = n := ⟨_, rfl⟩
  rw [hn] at HC HO HJ hcl hp
  have HN := Lib.hid hn
  have HCL := Lib.hid hcl
  have HS := Lib.hid hs
  have HP := Lib.hid hp
  have m1 : ((m : Int) != 0) = decide (m ≠ 0) := by
    by_cases h : m = 0
    · subst h; rfl
    · rw [decide_eq_true h, bne, beq_eq_false_iff_ne.2 (by omega)]; rfl
  have m2 : ((m : Int) == 0) = decide (m = 0) := by
    by_cases h : m = 0
    · subst h; rfl
    · rw [decide_eq_false h, beq_eq_false_iff_ne.2 (by omega)]
  obtain ⟨r0, hr0⟩ : ∃ r0, decide (m ≠ 0) = r0 := ⟨_, rfl⟩
  obtain ⟨wh, hwh⟩ : ∃ wh, decide (m = 0) = wh := ⟨_, rfl⟩
  rw [hr0] at m1 HI0
  rw [hwh] at m2
  have HWH := Lib.hid hwh
  clear hs hp hcl hn hm hr0 hwh
  go_enter Tryd.func19, Tryd.ntmps19
  go_wp2_with (first
    | (go_at_call 18; ((with_reducible refine (HC.out _).mono ?_); rintro e w1 ⟨rfl, rfl⟩)))
  have hw0 : WdS w0 ((w0.alloc (.cells zA P42)).alloc (.cells (wA p 0 ⟨#[]⟩ r0 wh) P42)) (w0.heap.size + 1) w0.heap.size (wA p 0 ⟨#[]⟩ r0 wh) (.slice none 0 0) [] := by
    have hz : (w0.alloc (.cells zA P42)).heap.size = w0.heap.size + 1 := by show (w0.heap.push _).size = _; exact Array.size_push _
    refine ⟨?_, ?_, World.ownsRow_nil _ _ _ _, by omega, by omega, by omega, (Up.alloc _ _).trans (Up.alloc _ _)⟩
    · rw [← hz]; exact heap_alloc_new _ _
    · exact box_up (heap_alloc_new _ _) (Up.alloc _ _)
  have HW0 := Lib.hid hw0
  clear hw0 m1 m2
  go_loopg [1, 2, 10] (n - p) (fun g v1 v2 v10 wr => ∃ (q k : Nat) (l : List Nat) (r : Bool), g = n - q ∧ v1 = .int .i64 (q : Nat) ∧ v2 = .int .u8 (k : Nat) ∧ Hid (WdS w0 wr (w0.heap.size + 1) w0.heap.size (wA p 0 ⟨#[]⟩ r wh) v10 l) ∧ Hid (WInv (bl line) p m q k l r))
  case atStart => exact ⟨p, m, [], r0, rfl, rfl, rfl, HW0, HI0⟩
  case round =>
    clear HW0 HI0
    obtain ⟨q, k, l, r, hg, rfl, rfl, HW, HI⟩ := hrel
    have HG := Lib.hid hg
    clear hg
    obtain ⟨i0, hi0, hz0, hz1, hz2⟩ := info_parts infoByte
    by_cases hlt : q < n
    · obtain ⟨c, hc⟩ : ∃ c, bt line q = c := ⟨_, rfl⟩
      have hql : q < line.size := by have := HCL.out; omega
      have hx : line[q].toNat = c := by rw [bt_eq hql]; exact hc
      have hc256 : c < 256 := by rw [← hx]; exact UInt8.toNat_lt _
      have hd : (bl line).drop q = c :: (bl line).drop (q + 1) := by rw [← hc]; exact bl_drop hql
      have hcon := con_drop q (bl line) HI.out.qn
      rw [hd, HN.out] at hcon
      have h0 : con (c :: (bl line).drop (q + 1)) ≠ 0 := by omega
      have hcr := con_pos h0
      rw [hcon] at hcr
      have p0 : (0 : Int) ≤ (q : Int) := by omega
      have p1 : (q : Int) < line.size := by omega
      have p2 : (q : Int) < (n : Int) := by omega
      have e1 : IntKind.i64.wrap ((q : Int) + 1) = (q : Int) + 1 := IntWalk.i64_in _ (by have := HS.out; omega)
      have e2 : IntKind.i64.wrap ((q : Int) + 2) = (q : Int) + 2 := IntWalk.i64_in _ (by have := HS.out; omega)
      have hll := HI.out.ll
      obtain ⟨A, cap, hv⟩ := own_slice HW.out.trow
      obtain ⟨kk, hkk⟩ : ∃ kk, l.length = kk := ⟨_, rfl⟩
      rw [hkk] at hv hll
      subst hv
      have b1 : kk + 1 ≤ maxLen := by have := HS.out; unfold maxLen; omega
      have b2 : (kk + 1) * 1 ≤ 140737488355328 := by have := HS.out; omega
      have HLT := Lib.hid hlt
      have hk := HI.out.mrk
      rcases hk with hk | hk | hk
      · subst hk
        obtain ⟨ov, hov⟩ : ∃ ov, opL ((bl line).drop q) = ov := ⟨_, rfl⟩
        obtain ⟨jv, hjv⟩ : ∃ jv, ((bl line).drop q == [92, 10]) = jv := ⟨_, rfl⟩
        have HOQ := Lib.hid (fun w => by have := HO.out w q (by omega); rwa [hov] at this)
        have HJQ := Lib.hid (fun w => by have := HJ.out w q (by omega); rwa [hjv] at this)
        have hbhd : bhd (c :: (bl line).drop (q + 1)) = (isW c || decide (0 < ov) || jv) := by
          unfold bhd
          rw [← hov, ← hjv, hd, decide_eq_false h0]
          rfl
        have z0 : (0 : Int) ≤ (n : Int) := by omega
        have z1 : (n : Int) ≤ line.size := by have := HCL.out; omega
        have z2n : n ≤ line.size := by have := HCL.out; omega
        cases hb : bhd (c :: (bl line).drop (q + 1)) with
        | true =>
          have HE := Lib.hid (HI.out.last (by rw [hd, stp_cons, if_neg h0, if_neg (by decide), if_neg (by decide), if_pos hb]))
          have HPQ := Lib.hid HI.out.pq
          rw [hbhd] at hb
          have hcase : (c = 32) ∨ (c ≠ 32 ∧ c = 9) ∨ (c ≠ 32 ∧ c ≠ 9 ∧ 0 < ov) ∨ (c ≠ 32 ∧ c ≠ 9 ∧ ov = 0 ∧ jv = true) := by
            have hw : isW c = true ↔ (c = 32 ∨ c = 9) := by unfold isW; simp
            simp only [Bool.or_eq_true, decide_eq_true_eq, hw] at hb
            by_cases a1 : c = 32
            · exact .inl a1
            by_cases a2 : c = 9
            · exact .inr (.inl ⟨a1, a2⟩)
            by_cases a3 : 0 < ov
            · exact .inr (.inr (.inl ⟨a1, a2, a3⟩))
            refine .inr (.inr (.inr ⟨a1, a2, by omega, ?_⟩))
            rcases hb with (h | h) | h
            · omega
            · exact absurd h a3
            · exact h
          clear hb hbhd hov hjv h0 hcr hcon hd hc hll hlt hkk
          rcases hcase with h | ⟨g1, h⟩ | ⟨g1, g2, h⟩ | ⟨g1, g2, h, h'⟩
          case' inl => have c32 : ((c : Int) == 32) = true := beq_iff_eq.2 (by omega)
          case' inr.inl => have c32 : ((c : Int) == 32) = false := beq_eq_false_iff_ne.2 (by omega)
          case' inr.inl => have c9 : ((c : Int) == 9) = true := beq_iff_eq.2 (by omega)
          case' inr.inr.inl => have c32 : ((c : Int) == 32) = false := beq_eq_false_iff_ne.2 (by omega)
          case' inr.inr.inl => have c9 : ((c : Int) == 9) = false := beq_eq_false_iff_ne.2 (by omega)
          case' inr.inr.inl => have o1 : (0 : Int) < (ov : Int) := by omega
          case' inr.inr.inr => have c32 : ((c : Int) == 32) = false := beq_eq_false_iff_ne.2 (by omega)
          case' inr.inr.inr => have c9 : ((c : Int) == 9) = false := beq_eq_false_iff_ne.2 (by omega)
          case' inr.inr.inr => have o1 : ¬ ((0 : Int) < (ov : Int)) := by omega
          case' inr.inr.inr => have o2 : decide ((0 : Int) < (ov : Int)) = false := decide_eq_false o1
          case' inr.inr.inr => have o3 : decide (0 < ov) = false := decide_eq_false (by omega)
          case' inr.inr.inr => subst h'
          all_goals
            clear h
            go_upto_region 39 with (first
              | (go_at_call 13; ((with_reducible refine (HOQ.out _).mono ?_); rintro e wv ⟨rfl, hu⟩; have HW := Lib.hid (HW.out.more hu); clear hu))
              | (go_at_call 20; ((with_reducible refine (HJQ.out _).mono ?_); rintro e wz ⟨rfl, rfl⟩)))
            have hb := conv_nb50 (HW.out.set 2 (.int .i64 (q : Nat))).trow
            have z2 := HW.out.fr 2
            have y2 := HW.out.cell (k := 2) (u := .int .i64 0) rfl
            have y3 := (HW.out.set 2 (.int .i64 (q : Nat))).cell (k := 3) (u := .string ⟨#[]⟩) rfl
            have z3 := (HW.out.set 2 (.int .i64 (q : Nat))).fr 3
            have hf := (HW.out.set 2 (.int .i64 (q : Nat))).set 3 (.string (toB l))
            have k0 := hf.cell (k := 0) (u := .int .u8 51) rfl
            have k1 := hf.cell (k := 1) (u := .int .i64 (p : Nat)) rfl
            have k2 := hf.cell (k := 2) (u := .int .i64 (q : Nat)) rfl
            have k3 := hf.cell (k := 3) (u := .string (toB l)) rfl
            have k4 := hf.cell (k := 4) (u := .bool r) rfl
            have k5 := hf.cell (k := 5) (u := .bool wh) rfl
            have r0c := cellOf (j := 0) hf.rbox (v := .int .u8 0) rfl
            have r1c := cellOf (j := 1) hf.rbox (v := .int .i64 0) rfl
            have r2c := cellOf (j := 2) hf.rbox (v := .int .i64 0) rfl
            have r3c := cellOf (j := 3) hf.rbox (v := .string ⟨#[]⟩) rfl
            have r4c := cellOf (j := 4) hf.rbox (v := .bool false) rfl
            have r5c := cellOf (j := 5) hf.rbox (v := .bool false) rfl
            have s0 := hf.rfr 0
            have s1 := hf.rfr 1
            have s2 := hf.rfr 2
            have s3 := hf.rfr 3
            have s4 := hf.rfr 4
            have s5 := hf.rfr 5
            have HF := Lib.hid hf
            clear hf
            go_wp2
            have ho := HF.out.out (.int .u8 51) (.int .i64 (p : Nat)) (.int .i64 (q : Nat)) (.string (toB l)) (.bool r) (.bool wh)
            have g0 := ho.1 0 _ rfl
            have g1 := ho.1 1 _ rfl
            have g2 := ho.1 2 _ rfl
            have g3 := ho.1 3 _ rfl
            have g4 := ho.1 4 _ rfl
            have g5 := ho.1 5 _ rfl
            try simp only [Exit.inBlock, Exit.then]
            refine bodyPost_ret (v := .tuple #[.agg #[.int .u8 51, .int .i64 (p : Nat), .int .i64 (q : Nat), .string (toB l), .bool r, .bool wh], .int .u8 (0)]) (by simp [results, Tryd.results19, go_sem, g0, g1, g2, g3, g4, g5]) rfl ⟨?_, ho.2⟩
            rw [wpc_fin0 HE.out HPQ.out, HE.out.1, HWH.out]
            rfl
        | false =>
          have hb2 := hb
          rw [hbhd] at hb2
          have hcase : c ≠ 32 ∧ c ≠ 9 ∧ ov = 0 ∧ jv = false := by
            have hw : isW c = false ↔ (c ≠ 32 ∧ c ≠ 9) := by unfold isW; simp
            simp only [Bool.or_eq_false_iff, decide_eq_false_iff_not, hw] at hb2
            exact ⟨hb2.1.1.1, hb2.1.1.2, by omega, hb2.2⟩
          obtain ⟨g1, g2, g3, rfl⟩ := hcase
          have c32 : ((c : Int) == 32) = false := beq_eq_false_iff_ne.2 (by omega)
          have c9 : ((c : Int) == 9) = false := beq_eq_false_iff_ne.2 (by omega)
          have o1 : ¬ ((0 : Int) < (ov : Int)) := by omega
          have o2 : decide ((0 : Int) < (ov : Int)) = false := decide_eq_false o1
          have o3 : decide (0 < ov) = false := decide_eq_false (by omega)
          have HD := Lib.hid hd
          have HB := Lib.hid hb
          have HH0 := Lib.hid h0
          have HCR := Lib.hid hcr
          have HKK := Lib.hid hkk
          clear hb hb2 hbhd hov hjv g1 g2 g3 h0 hcr hcon hd hc hll hlt hkk
          go_upto_region 24 with (first
            | (go_at_call 13; ((with_reducible refine (HOQ.out _).mono ?_); rintro e wv ⟨rfl, hu⟩; have HW := Lib.hid (HW.out.more hu); clear hu))
            | (go_at_call 20; ((with_reducible refine (HJQ.out _).mono ?_); rintro e wz ⟨rfl, rfl⟩)))
          clear c32 c9 o1 o2 o3
          have hkk := HKK.out
          have hb := HB.out
          have h0 := HH0.out
          have hd := HD.out
          have hcr := HCR.out
          have hcase : (c = 39) ∨ (c ≠ 39 ∧ c = 34) ∨ (c ≠ 39 ∧ c ≠ 34 ∧ c = 92 ∧ q + 1 < n) ∨ (c ≠ 39 ∧ c ≠ 34 ∧ c = 92 ∧ ¬ q + 1 < n) ∨ (c ≠ 39 ∧ c ≠ 34 ∧ c ≠ 92) := by omega
          have y4 := HW.out.cell (k := 4) (u := .bool r) rfl
          have z4 := HW.out.fr 4
          have hwr : WdS w0 (wv.setCell ⟨w0.heap.size + 1, 4, none⟩ (.bool true)) (w0.heap.size + 1) w0.heap.size (wA p 0 ⟨#[]⟩ true wh) (.slice A kk cap) l := HW.out.set 4 (.bool true)
          have HWR := Lib.hid hwr
          rcases hcase with h39 | ⟨h39, h34⟩ | ⟨h39, h34, h92, hq1⟩ | ⟨h39, h34, h92, hq1⟩ | ⟨h39, h34, h92⟩
          · have hI2 := HI.out.step (x := (1, [], 39)) (by rw [hd, stp_cons, if_neg h0, if_neg (by decide), if_neg (by decide), if_neg (by rw [hb]; decide), if_pos h39]) (r' := true) (by rw [hd]; show true = (r || ((c :: (bl line).drop (q + 1)).take _).any sgB); rw [any_head sgB (by rw [h39]; rfl) (by simp), Bool.or_true])
            rw [List.append_nil, ← h39] at hI2
            have HI2 := Lib.hid hI2
            have c39 : ((c : Int) == 39) = true := beq_iff_eq.2 (by omega)
            clear hI2 h39 h0 hcr hd hb hwr hkk
            go_wp2
            go_roundg (n - (q + 1))
            case measure => rw [HG.out]; have := HLT.out; omega
            case rel => exact ⟨q + 1, c, l, true, rfl, by go_num, rfl, HWR, HI2⟩
          · have hI2 := HI.out.step (x := (1, [], 34)) (by rw [hd, stp_cons, if_neg h0, if_neg (by decide), if_neg (by decide), if_neg (by rw [hb]; decide), if_neg h39, if_pos h34]) (r' := true) (by rw [hd]; show true = (r || ((c :: (bl line).drop (q + 1)).take _).any sgB); rw [any_head sgB (by rw [h34]; rfl) (by simp), Bool.or_true])
            rw [List.append_nil, ← h34] at hI2
            have HI2 := Lib.hid hI2
            have c39 : ((c : Int) == 39) = false := beq_eq_false_iff_ne.2 (by omega)
            have c34 : ((c : Int) == 34) = true := beq_iff_eq.2 (by omega)
            clear hI2 h39 h34 h0 hcr hd hb hwr hkk
            go_wp2
            go_roundg (n - (q + 1))
            case measure => rw [HG.out]; have := HLT.out; omega
            case rel => exact ⟨q + 1, c, l, true, rfl, by go_num, rfl, HWR, HI2⟩
          · obtain ⟨d, hdd⟩ : ∃ d, bt line (q + 1) = d := ⟨_, rfl⟩
            have hql2 : q + 1 < line.size := by omega
            have hx2 : line[q + 1].toNat = d := by rw [bt_eq hql2]; exact hdd
            have hd256 : d < 256 := by rw [← hx2]; exact UInt8.toNat_lt _
            have hd2 : (bl line).drop (q + 1) = d :: (bl line).drop (q + 1 + 1) := by rw [← hdd]; exact bl_drop hql2
            have ha : alg false ((bl line).drop (q + 1)) = (1, d) := by
              unfold alg
              rw [if_neg (by omega), hd2]
              rfl
            have hI2 := HI.out.step (x := (2, [d], 0)) (by rw [hd, stp_cons, if_neg h0, if_neg (by decide), if_neg (by decide), if_neg (by rw [hb]; decide), if_neg h39, if_neg h34, if_pos h92, ha]) (r' := true) (by rw [hd]; show true = (r || ((c :: (bl line).drop (q + 1)).take _).any sgB); rw [any_head sgB (by rw [h92]; rfl) (by simp), Bool.or_true])
            have HI2 := Lib.hid hI2
            have p3 : (0 : Int) ≤ (q : Int) + 1 := by omega
            have p4 : (q : Int) + 1 < line.size := by omega
            have p5 : (q : Int) + 1 < (n : Int) := by omega
            have HLT2 := Lib.hid hq1
            have c39 : ((c : Int) == 39) = false := beq_eq_false_iff_ne.2 (by omega)
            have c34 : ((c : Int) == 34) = false := beq_eq_false_iff_ne.2 (by omega)
            have c92 : ((c : Int) == 92) = true := beq_iff_eq.2 (by omega)
            have hnews : ∀ u ∈ [Value.int .u8 (d : Nat)], u.oneCell' = true := by intro u hu; simp at hu; subst hu; rfl
            have HAP := Lib.hid (fun (w5 : World) (v5 : Value) (hg : ((wv.setCell ⟨w0.heap.size + 1, 4, none⟩ (.bool true)).alloc (.cells #[Value.int .u8 (d : Nat)] U8)).grownBy w5 (Value.slice A kk cap).ownBlock) (ho : w5.ownsRow w0.heap.size U8 1 v5 (kk + 1) (nbC l ++ [.int .u8 (d : Nat)])) => (hwr).app (l' := l ++ [d]) (Up.alloc _ _) hg (by rw [List.length_append, nbC_snoc l hd256, hkk]; exact ho))
            have hb0 : w0.heap.size ≤ ((wv.setCell ⟨w0.heap.size + 1, 4, none⟩ (.bool true)).alloc (.cells #[Value.int .u8 (d : Nat)] U8)).heap.size := Nat.le_trans (Below.size (hwr).up) (Below.size (Up.alloc _ _))
            have HOWN := Lib.hid (show (wv.setCell ⟨w0.heap.size + 1, 4, none⟩ (.bool true)).ownsRow w0.heap.size U8 1 (.slice A kk cap) kk (nbC l) from by have h := (hwr).trow; rwa [hkk] at h)
            have HNB := Lib.hid (show ((wv.setCell ⟨w0.heap.size + 1, 4, none⟩ (.bool true)).alloc (.cells #[Value.int .u8 (d : Nat)] U8)).heap[wv.heap.size]? = some (.cells #[Value.int .u8 (d : Nat)] U8 (0, 0)) from by have h := heap_alloc_new (wv.setCell ⟨w0.heap.size + 1, 4, none⟩ (.bool true)) (.cells #[Value.int .u8 (d : Nat)] U8); rwa [show (wv.setCell ⟨w0.heap.size + 1, 4, none⟩ (.bool true)).heap.size = wv.heap.size from by simp] at h)
            clear hI2 h39 h34 h92 hq1 h0 hcr hd hd2 hdd ha hb hwr hkk
            go_wp2_with (at_builtin; go_loud (refine wpList_append_lies _ rfl _ _ 50 rfl w0.heap.size U8 i0 (.int .u8 0) 1 1 Tryd.underlying50 hi0 hz0 hz1 hz2 rfl (by decide) (.slice A kk cap) kk (nbC l) rfl (HOWN.out.alloc _) ⟨wv.heap.size, 0, none⟩ 1 1 [.int .u8 (d : Nat)] rfl rfl (World.news_of_block (cs := #[Value.int .u8 (d : Nat)]) (t := U8) (fr := (0, 0)) HNB.out) hnews (by omega) b1 b2 hb0 _ rfl ?_); intro g5 cap5 w5 hown5 hgrow hat5 hlt5; have HW5 := Lib.hid (HAP.out _ _ hgrow hown5))
            go_roundg (n - (q + 2))
            case measure => rw [HG.out]; have := HLT2.out; omega
            case rel => exact ⟨q + 2, 0, l ++ [d], true, rfl, by go_num, rfl, HW5, HI2⟩
          · have ha : alg false ((bl line).drop (q + 1)) = (0, 92) := by unfold alg; rw [if_pos (by omega)]
            have hI2 := HI.out.step (x := (1, [c], 0)) (by rw [hd, stp_cons, if_neg h0, if_neg (by decide), if_neg (by decide), if_neg (by rw [hb]; decide), if_neg h39, if_neg h34, if_pos h92, ha, h92]) (r' := true) (by rw [hd]; show true = (r || ((c :: (bl line).drop (q + 1)).take _).any sgB); rw [any_head sgB (by rw [h92]; rfl) (by simp), Bool.or_true])
            have HI2 := Lib.hid hI2
            have q1 : ¬ ((q : Int) + 1 < (n : Int)) := by omega
            have q2 : decide (q + 1 < n) = false := decide_eq_false hq1
            have c39 : ((c : Int) == 39) = false := beq_eq_false_iff_ne.2 (by omega)
            have c34 : ((c : Int) == 34) = false := beq_eq_false_iff_ne.2 (by omega)
            have c92 : ((c : Int) == 92) = true := beq_iff_eq.2 (by omega)
            have hnews : ∀ u ∈ [Value.int .u8 (c : Nat)], u.oneCell' = true := by intro u hu; simp at hu; subst hu; rfl
            have HAP := Lib.hid (fun (w5 : World) (v5 : Value) (hg : ((wv.setCell ⟨w0.heap.size + 1, 4, none⟩ (.bool true)).alloc (.cells #[Value.int .u8 (c : Nat)] U8)).grownBy w5 (Value.slice A kk cap).ownBlock) (ho : w5.ownsRow w0.heap.size U8 1 v5 (kk + 1) (nbC l ++ [.int .u8 (c : Nat)])) => (hwr).app (l' := l ++ [c]) (Up.alloc _ _) hg (by rw [List.length_append, nbC_snoc l hc256, hkk]; exact ho))
            have hb0 : w0.heap.size ≤ ((wv.setCell ⟨w0.heap.size + 1, 4, none⟩ (.bool true)).alloc (.cells #[Value.int .u8 (c : Nat)] U8)).heap.size := Nat.le_trans (Below.size (hwr).up) (Below.size (Up.alloc _ _))
            have HOWN := Lib.hid (show (wv.setCell ⟨w0.heap.size + 1, 4, none⟩ (.bool true)).ownsRow w0.heap.size U8 1 (.slice A kk cap) kk (nbC l) from by have h := (hwr).trow; rwa [hkk] at h)
            have HNB := Lib.hid (show ((wv.setCell ⟨w0.heap.size + 1, 4, none⟩ (.bool true)).alloc (.cells #[Value.int .u8 (c : Nat)] U8)).heap[wv.heap.size]? = some (.cells #[Value.int .u8 (c : Nat)] U8 (0, 0)) from by have h := heap_alloc_new (wv.setCell ⟨w0.heap.size + 1, 4, none⟩ (.bool true)) (.cells #[Value.int .u8 (c : Nat)] U8); rwa [show (wv.setCell ⟨w0.heap.size + 1, 4, none⟩ (.bool true)).heap.size = wv.heap.size from by simp] at h)
            clear hI2 h39 h34 h92 hq1 h0 hcr hd ha hb hwr hkk
            go_wp2_with (at_builtin; go_loud (refine wpList_append_lies _ rfl _ _ 50 rfl w0.heap.size U8 i0 (.int .u8 0) 1 1 Tryd.underlying50 hi0 hz0 hz1 hz2 rfl (by decide) (.slice A kk cap) kk (nbC l) rfl (HOWN.out.alloc _) ⟨wv.heap.size, 0, none⟩ 1 1 [.int .u8 (c : Nat)] rfl rfl (World.news_of_block (cs := #[Value.int .u8 (c : Nat)]) (t := U8) (fr := (0, 0)) HNB.out) hnews (by omega) b1 b2 hb0 _ rfl ?_); intro g5 cap5 w5 hown5 hgrow hat5 hlt5; have HW5 := Lib.hid (HAP.out _ _ hgrow hown5))
            go_roundg (n - (q + 1))
            case measure => rw [HG.out]; have := HLT.out; omega
            case rel => exact ⟨q + 1, 0, l ++ [c], true, rfl, by go_num, rfl, HW5, HI2⟩
          · have hI2 := HI.out.step (x := (1, [c], 0)) (by rw [hd, stp_cons, if_neg h0, if_neg (by decide), if_neg (by decide), if_neg (by rw [hb]; decide), if_neg h39, if_neg h34, if_neg h92]) (r' := r) (by
              rw [hd]
              have hs : sgB c = false := by unfold sgB; simp [h39, h34, h92]
              simp [hs])
            have HI2 := Lib.hid hI2
            have c39 : ((c : Int) == 39) = false := beq_eq_false_iff_ne.2 (by omega)
            have c34 : ((c : Int) == 34) = false := beq_eq_false_iff_ne.2 (by omega)
            have c92 : ((c : Int) == 92) = false := beq_eq_false_iff_ne.2 (by omega)
            have hnews : ∀ u ∈ [Value.int .u8 (c : Nat)], u.oneCell' = true := by intro u hu; simp at hu; subst hu; rfl
            have HAP := Lib.hid (fun (w5 : World) (v5 : Value) (hg : ((wv).alloc (.cells #[Value.int .u8 (c : Nat)] U8)).grownBy w5 (Value.slice A kk cap).ownBlock) (ho : w5.ownsRow w0.heap.size U8 1 v5 (kk + 1) (nbC l ++ [.int .u8 (c : Nat)])) => (HW.out).app (l' := l ++ [c]) (Up.alloc _ _) hg (by rw [List.length_append, nbC_snoc l hc256, hkk]; exact ho))
            have hb0 : w0.heap.size ≤ ((wv).alloc (.cells #[Value.int .u8 (c : Nat)] U8)).heap.size := Nat.le_trans (Below.size (HW.out).up) (Below.size (Up.alloc _ _))
            have HOWN := Lib.hid (show (wv).ownsRow w0.heap.size U8 1 (.slice A kk cap) kk (nbC l) from by have h := (HW.out).trow; rwa [hkk] at h)
            clear hI2 h39 h34 h92 h0 hcr hd hb hwr hkk
            go_wp2_with (at_builtin; go_loud (refine wpList_append_lies _ rfl _ _ 50 rfl w0.heap.size U8 i0 (.int .u8 0) 1 1 Tryd.underlying50 hi0 hz0 hz1 hz2 rfl (by decide) (.slice A kk cap) kk (nbC l) rfl (HOWN.out.alloc _) ⟨(wv).heap.size, 0, none⟩ 1 1 [.int .u8 (c : Nat)] rfl rfl (World.news_of_block (cs := #[Value.int .u8 (c : Nat)]) (t := U8) (fr := (0, 0)) (heap_alloc_new (wv) _)) hnews (by omega) b1 b2 hb0 _ rfl ?_); intro g5 cap5 w5 hown5 hgrow hat5 hlt5; have HW5 := Lib.hid (HAP.out _ _ hgrow hown5))
            go_roundg (n - (q + 1))
            case measure => rw [HG.out]; have := HLT.out; omega
            case rel => exact ⟨q + 1, 0, l ++ [c], r, rfl, by go_num, rfl, HW5, HI2⟩
      · have k39 : ((k : Int) == 39) = true := beq_iff_eq.2 (by omega)
        by_cases h39 : c = 39
        · have hI2 := HI.out.step (x := (1, [], 0)) (by rw [hk, hd, stp_cons, if_neg h0, if_pos rfl, if_pos h39]) (r' := r) (by rw [HI.out.kr (by omega)]; rfl)
          rw [List.append_nil] at hI2
          have HI2 := Lib.hid hI2
          have c39 : ((c : Int) == 39) = true := beq_iff_eq.2 (by omega)
          clear hI2 h39 h0 hcr hcon hd hc hll hlt hk hkk
          go_wp2
          go_roundg (n - (q + 1))
          case measure => rw [HG.out]; have := HLT.out; omega
          case rel => exact ⟨q + 1, 0, l, r, rfl, by go_num, rfl, HW, HI2⟩
        · have hI2 := HI.out.step (x := (1, [c], 39)) (by rw [hk, hd, stp_cons, if_neg h0, if_pos rfl, if_neg h39]) (r' := r) (by rw [HI.out.kr (by omega)]; rfl)
          rw [show (39 : Nat) = k from hk.symm] at hI2
          have HI2 := Lib.hid hI2
          have c39 : ((c : Int) == 39) = false := beq_eq_false_iff_ne.2 (by omega)
          have hnews : ∀ u ∈ [Value.int .u8 (c : Nat)], u.oneCell' = true := by intro u hu; simp at hu; subst hu; rfl
          have HAP := Lib.hid (fun (w5 : World) (v5 : Value) (hg : ((wr).alloc (.cells #[Value.int .u8 (c : Nat)] U8)).grownBy w5 (Value.slice A kk cap).ownBlock) (ho : w5.ownsRow w0.heap.size U8 1 v5 (kk + 1) (nbC l ++ [.int .u8 (c : Nat)])) => (HW.out).app (l' := l ++ [c]) (Up.alloc _ _) hg (by rw [List.length_append, nbC_snoc l hc256, hkk]; exact ho))
          have hb0 : w0.heap.size ≤ ((wr).alloc (.cells #[Value.int .u8 (c : Nat)] U8)).heap.size := Nat.le_trans (Below.size (HW.out).up) (Below.size (Up.alloc _ _))
          have HOWN := Lib.hid (show (wr).ownsRow w0.heap.size U8 1 (.slice A kk cap) kk (nbC l) from by have h := (HW.out).trow; rwa [hkk] at h)
          clear hI2 h39 h0 hcr hcon hd hc hll hlt hk hkk
          go_wp2_with (at_builtin; go_loud (refine wpList_append_lies _ rfl _ _ 50 rfl w0.heap.size U8 i0 (.int .u8 0) 1 1 Tryd.underlying50 hi0 hz0 hz1 hz2 rfl (by decide) (.slice A kk cap) kk (nbC l) rfl (HOWN.out.alloc _) ⟨(wr).heap.size, 0, none⟩ 1 1 [.int .u8 (c : Nat)] rfl rfl (World.news_of_block (cs := #[Value.int .u8 (c : Nat)]) (t := U8) (fr := (0, 0)) (heap_alloc_new (wr) _)) hnews (by omega) b1 b2 hb0 _ rfl ?_); intro g5 cap5 w5 hown5 hgrow hat5 hlt5; have HW5 := Lib.hid (HAP.out _ _ hgrow hown5))
          go_roundg (n - (q + 1))
          case measure => rw [HG.out]; have := HLT.out; omega
          case rel => exact ⟨q + 1, k, l ++ [c], r, rfl, by go_num, rfl, HW5, HI2⟩
      · have k39 : ((k : Int) == 39) = false := beq_eq_false_iff_ne.2 (by omega)
        have k34 : ((k : Int) == 34) = true := beq_iff_eq.2 (by omega)
        have hcase : (c = 34) ∨ (c ≠ 34 ∧ c ≠ 92) ∨ (c = 92 ∧ ¬ q + 1 < n) ∨ (c = 92 ∧ q + 1 < n) := by omega
        rcases hcase with h34 | ⟨h34, h92⟩ | ⟨h92, hq1⟩ | ⟨h92, hq1⟩
        · have hI2 := HI.out.step (x := (1, [], 0)) (by rw [hk, hd, stp_cons, if_neg h0, if_neg (by decide), if_pos rfl, if_pos h34]) (r' := r) (by rw [HI.out.kr (by omega)]; rfl)
          rw [List.append_nil] at hI2
          have HI2 := Lib.hid hI2
          have c34 : ((c : Int) == 34) = true := beq_iff_eq.2 (by omega)
          clear h34
          clear hI2 h0 hcr hcon hd hc hll hlt hk hkk
          go_wp2
          go_roundg (n - (q + 1))
          case measure => rw [HG.out]; have := HLT.out; omega
          case rel => exact ⟨q + 1, 0, l, r, rfl, by go_num, rfl, HW, HI2⟩
        · have hI2 := HI.out.step (x := (1, [c], 34)) (by rw [hk, hd, stp_cons, if_neg h0, if_neg (by decide), if_pos rfl, if_neg h34, if_neg h92]) (r' := r) (by rw [HI.out.kr (by omega)]; rfl)
          rw [show (34 : Nat) = k from hk.symm] at hI2
          have HI2 := Lib.hid hI2
          have c34 : ((c : Int) == 34) = false := beq_eq_false_iff_ne.2 (by omega)
          have c92 : ((c : Int) == 92) = false := beq_eq_false_iff_ne.2 (by omega)
          clear h34 h92
          have hnews : ∀ u ∈ [Value.int .u8 (c : Nat)], u.oneCell' = true := by intro u hu; simp at hu; subst hu; rfl
          have HAP := Lib.hid (fun (w5 : World) (v5 : Value) (hg : ((wr).alloc (.cells #[Value.int .u8 (c : Nat)] U8)).grownBy w5 (Value.slice A kk cap).ownBlock) (ho : w5.ownsRow w0.heap.size U8 1 v5 (kk + 1) (nbC l ++ [.int .u8 (c : Nat)])) => (HW.out).app (l' := l ++ [c]) (Up.alloc _ _) hg (by rw [List.length_append, nbC_snoc l hc256, hkk]; exact ho))
          have hb0 : w0.heap.size ≤ ((wr).alloc (.cells #[Value.int .u8 (c : Nat)] U8)).heap.size := Nat.le_trans (Below.size (HW.out).up) (Below.size (Up.alloc _ _))
          have HOWN := Lib.hid (show (wr).ownsRow w0.heap.size U8 1 (.slice A kk cap) kk (nbC l) from by have h := (HW.out).trow; rwa [hkk] at h)
          clear hI2 h0 hcr hcon hd hc hll hlt hk hkk
          go_wp2_with (at_builtin; go_loud (refine wpList_append_lies _ rfl _ _ 50 rfl w0.heap.size U8 i0 (.int .u8 0) 1 1 Tryd.underlying50 hi0 hz0 hz1 hz2 rfl (by decide) (.slice A kk cap) kk (nbC l) rfl (HOWN.out.alloc _) ⟨(wr).heap.size, 0, none⟩ 1 1 [.int .u8 (c : Nat)] rfl rfl (World.news_of_block (cs := #[Value.int .u8 (c : Nat)]) (t := U8) (fr := (0, 0)) (heap_alloc_new (wr) _)) hnews (by omega) b1 b2 hb0 _ rfl ?_); intro g5 cap5 w5 hown5 hgrow hat5 hlt5; have HW5 := Lib.hid (HAP.out _ _ hgrow hown5))
          go_roundg (n - (q + 1))
          case measure => rw [HG.out]; have := HLT.out; omega
          case rel => exact ⟨q + 1, k, l ++ [c], r, rfl, by go_num, rfl, HW5, HI2⟩
        · have hI2 := HI.out.step (x := (1, [c], 34)) (by
            have ha : alg true ((bl line).drop (q + 1)) = (0, 92) := by unfold alg; rw [if_pos (by omega)]
            rw [hk, hd, stp_cons, if_neg h0, if_neg (by decide), if_pos rfl, if_neg (by omega), if_pos h92, ha, h92]) (r' := r) (by rw [HI.out.kr (by omega)]; rfl)
          rw [show (34 : Nat) = k from hk.symm] at hI2
          have HI2 := Lib.hid hI2
          have c34 : ((c : Int) == 34) = false := beq_eq_false_iff_ne.2 (by omega)
          have c92 : ((c : Int) == 92) = true := beq_iff_eq.2 (by omega)
          have q1 : ¬ ((q : Int) + 1 < (n : Int)) := by omega
          have q2 : decide (q + 1 < n) = false := decide_eq_false hq1
          clear h92 hq1
          have hnews : ∀ u ∈ [Value.int .u8 (c : Nat)], u.oneCell' = true := by intro u hu; simp at hu; subst hu; rfl
          have HAP := Lib.hid (fun (w5 : World) (v5 : Value) (hg : ((wr).alloc (.cells #[Value.int .u8 (c : Nat)] U8)).grownBy w5 (Value.slice A kk cap).ownBlock) (ho : w5.ownsRow w0.heap.size U8 1 v5 (kk + 1) (nbC l ++ [.int .u8 (c : Nat)])) => (HW.out).app (l' := l ++ [c]) (Up.alloc _ _) hg (by rw [List.length_append, nbC_snoc l hc256, hkk]; exact ho))
          have hb0 : w0.heap.size ≤ ((wr).alloc (.cells #[Value.int .u8 (c : Nat)] U8)).heap.size := Nat.le_trans (Below.size (HW.out).up) (Below.size (Up.alloc _ _))
          have HOWN := Lib.hid (show (wr).ownsRow w0.heap.size U8 1 (.slice A kk cap) kk (nbC l) from by have h := (HW.out).trow; rwa [hkk] at h)
          clear hI2 h0 hcr hcon hd hc hll hlt hk hkk
          go_wp2_with (at_builtin; go_loud (refine wpList_append_lies _ rfl _ _ 50 rfl w0.heap.size U8 i0 (.int .u8 0) 1 1 Tryd.underlying50 hi0 hz0 hz1 hz2 rfl (by decide) (.slice A kk cap) kk (nbC l) rfl (HOWN.out.alloc _) ⟨(wr).heap.size, 0, none⟩ 1 1 [.int .u8 (c : Nat)] rfl rfl (World.news_of_block (cs := #[Value.int .u8 (c : Nat)]) (t := U8) (fr := (0, 0)) (heap_alloc_new (wr) _)) hnews (by omega) b1 b2 hb0 _ rfl ?_); intro g5 cap5 w5 hown5 hgrow hat5 hlt5; have HW5 := Lib.hid (HAP.out _ _ hgrow hown5))
          go_roundg (n - (q + 1))
          case measure => rw [HG.out]; have := HLT.out; omega
          case rel => exact ⟨q + 1, k, l ++ [c], r, rfl, by go_num, rfl, HW5, HI2⟩
        · obtain ⟨d, hdd⟩ : ∃ d, bt line (q + 1) = d := ⟨_, rfl⟩
          have hql2 : q + 1 < line.size := by have := HCL.out; omega
          have hx2 : line[q + 1].toNat = d := by rw [bt_eq hql2]; exact hdd
          have hd256 : d < 256 := by rw [← hx2]; exact UInt8.toNat_lt _
          have hd2 : (bl line).drop (q + 1) = d :: (bl line).drop (q + 1 + 1) := by rw [← hdd]; exact bl_drop hql2
          have p3 : (0 : Int) ≤ (q : Int) + 1 := by omega
          have p4 : (q : Int) + 1 < line.size := by omega
          have p5 : (q : Int) + 1 < (n : Int) := by omega
          have c34 : ((c : Int) == 34) = false := beq_eq_false_iff_ne.2 (by omega)
          have c92 : ((c : Int) == 92) = true := beq_iff_eq.2 (by omega)
          have hne : con ((bl line).drop (q + 1)) ≠ 0 := by omega
          have hlt2 : q + 1 < n := hq1
          have HLT2 := Lib.hid hlt2
          have ha : alg true ((bl line).drop (q + 1)) = if frd d = true then (1, d) else (0, 92) := by
            unfold alg
            rw [if_neg hne, hd2]
            cases hfd : frd d <;> simp [hfd]
          cases hf : frd d with
          | true =>
            have hI2 := HI.out.step (x := (2, [d], 34)) (by rw [hk, hd, stp_cons, if_neg h0, if_neg (by decide), if_pos rfl, if_neg (by omega), if_pos h92, ha, if_pos hf]) (r' := r) (by rw [HI.out.kr (by omega)]; rfl)
            rw [show (34 : Nat) = k from hk.symm] at hI2
            have HI2 := Lib.hid hI2
            have hdv : d = 92 ∨ (d ≠ 92 ∧ d = 34) ∨ (d ≠ 92 ∧ d ≠ 34 ∧ d = 36) ∨ (d ≠ 92 ∧ d ≠ 34 ∧ d ≠ 36 ∧ d = 96) := by
              have : d = 92 ∨ d = 34 ∨ d = 36 ∨ d = 96 := by unfold frd at hf; simp at hf; omega
              omega
            have hnews : ∀ u ∈ [Value.int .u8 (d : Nat)], u.oneCell' = true := by intro u hu; simp at hu; subst hu; rfl
            have HAP := Lib.hid (fun (w5 : World) (v5 : Value) (hg : ((wr).alloc (.cells #[Value.int .u8 (d : Nat)] U8)).grownBy w5 (Value.slice A kk cap).ownBlock) (ho : w5.ownsRow w0.heap.size U8 1 v5 (kk + 1) (nbC l ++ [.int .u8 (d : Nat)])) => (HW.out).app (l' := l ++ [d]) (Up.alloc _ _) hg (by rw [List.length_append, nbC_snoc l hd256, hkk]; exact ho))
            have hb0 : w0.heap.size ≤ ((wr).alloc (.cells #[Value.int .u8 (d : Nat)] U8)).heap.size := Nat.le_trans (Below.size (HW.out).up) (Below.size (Up.alloc _ _))
            have HOWN := Lib.hid (show (wr).ownsRow w0.heap.size U8 1 (.slice A kk cap) kk (nbC l) from by have h := (HW.out).trow; rwa [hkk] at h)
            clear hI2 h92 hq1 hne ha hf hd2 hdd hlt2 h0 hcr hcon hd hc hll hlt hk hkk
            rcases hdv with h | ⟨g1, h⟩ | ⟨g1, g2, h⟩ | ⟨g1, g2, g3, h⟩
            case' inl => have d92 : ((d : Int) != 92) = false := by rw [bne, beq_iff_eq.2 (by omega)]; rfl
            case' inr.inl => have d92 : ((d : Int) != 92) = true := by rw [bne, beq_eq_false_iff_ne.2 (by omega)]; rfl
            case' inr.inl => have d34 : ((d : Int) != 34) = false := by rw [bne, beq_iff_eq.2 (by omega)]; rfl
            case' inr.inr.inl => have d92 : ((d : Int) != 92) = true := by rw [bne, beq_eq_false_iff_ne.2 (by omega)]; rfl
            case' inr.inr.inl => have d34 : ((d : Int) != 34) = true := by rw [bne, beq_eq_false_iff_ne.2 (by omega)]; rfl
            case' inr.inr.inl => have d36 : ((d : Int) != 36) = false := by rw [bne, beq_iff_eq.2 (by omega)]; rfl
            case' inr.inr.inr => have d92 : ((d : Int) != 92) = true := by rw [bne, beq_eq_false_iff_ne.2 (by omega)]; rfl
            case' inr.inr.inr => have d34 : ((d : Int) != 34) = true := by rw [bne, beq_eq_false_iff_ne.2 (by omega)]; rfl
            case' inr.inr.inr => have d36 : ((d : Int) != 36) = true := by rw [bne, beq_eq_false_iff_ne.2 (by omega)]; rfl
            case' inr.inr.inr => have d96 : ((d : Int) != 96) = false := by rw [bne, beq_iff_eq.2 (by omega)]; rfl
            all_goals
              clear h
              go_wp2_with (at_builtin; go_loud (refine wpList_append_lies _ rfl _ _ 50 rfl w0.heap.size U8 i0 (.int .u8 0) 1 1 Tryd.underlying50 hi0 hz0 hz1 hz2 rfl (by decide) (.slice A kk cap) kk (nbC l) rfl (HOWN.out.alloc _) ⟨(wr).heap.size, 0, none⟩ 1 1 [.int .u8 (d : Nat)] rfl rfl (World.news_of_block (cs := #[Value.int .u8 (d : Nat)]) (t := U8) (fr := (0, 0)) (heap_alloc_new (wr) _)) hnews (by omega) b1 b2 hb0 _ rfl ?_); intro g5 cap5 w5 hown5 hgrow hat5 hlt5; have HW5 := Lib.hid (HAP.out _ _ hgrow hown5))
              go_roundg (n - (q + 2))
              case measure => rw [HG.out]; have := HLT2.out; omega
              case rel => exact ⟨q + 2, k, l ++ [d], r, rfl, by go_num, rfl, HW5, HI2⟩
          | false =>
            have hI1 := HI.out.step (x := (1, [c], 34)) (by rw [hk, hd, stp_cons, if_neg h0, if_neg (by decide), if_pos rfl, if_neg (by omega), if_pos h92, ha, if_neg (by rw [hf]; decide), h92]) (r' := r) (by rw [HI.out.kr (by omega)]; rfl)
            have hdn : d ≠ 92 ∧ d ≠ 34 ∧ d ≠ 36 ∧ d ≠ 96 := by unfold frd at hf; simp at hf; omega
            have h02 : con (d :: (bl line).drop (q + 1 + 1)) ≠ 0 := by rw [← hd2]; exact hne
            have hI2 := hI1.step (x := (1, [d], 34)) (by
              show stp 34 ((bl line).drop (q + 1)) = _
              rw [hd2, stp_cons, if_neg h02, if_neg (by decide), if_pos rfl, if_neg hdn.2.1, if_neg hdn.1]) (r' := r) (by rw [HI.out.kr (by omega)]; rfl)
            rw [show (34 : Nat) = k from hk.symm] at hI2
            have HI2 := Lib.hid (show WInv (bl line) p m (q + 2) k (l ++ [c] ++ [d]) r from hI2)
            have d92 : ((d : Int) != 92) = true := by rw [bne, beq_eq_false_iff_ne.2 (by omega)]; rfl
            have d34 : ((d : Int) != 34) = true := by rw [bne, beq_eq_false_iff_ne.2 (by omega)]; rfl
            have d36 : ((d : Int) != 36) = true := by rw [bne, beq_eq_false_iff_ne.2 (by omega)]; rfl
            have d96 : ((d : Int) != 96) = true := by rw [bne, beq_eq_false_iff_ne.2 (by omega)]; rfl
            have hnews : ∀ u ∈ [Value.int .u8 (c : Nat)], u.oneCell' = true := by intro u hu; simp at hu; subst hu; rfl
            have HAP := Lib.hid (fun (w5 : World) (v5 : Value) (hg : ((wr).alloc (.cells #[Value.int .u8 (c : Nat)] U8)).grownBy w5 (Value.slice A kk cap).ownBlock) (ho : w5.ownsRow w0.heap.size U8 1 v5 (kk + 1) (nbC l ++ [.int .u8 (c : Nat)])) => (HW.out).app (l' := l ++ [c]) (Up.alloc _ _) hg (by rw [List.length_append, nbC_snoc l hc256, hkk]; exact ho))
            have hb0 : w0.heap.size ≤ ((wr).alloc (.cells #[Value.int .u8 (c : Nat)] U8)).heap.size := Nat.le_trans (Below.size (HW.out).up) (Below.size (Up.alloc _ _))
            have HOWN := Lib.hid (show (wr).ownsRow w0.heap.size U8 1 (.slice A kk cap) kk (nbC l) from by have h := (HW.out).trow; rwa [hkk] at h)
            have hnews2 : ∀ u ∈ [Value.int .u8 (d : Nat)], u.oneCell' = true := by intro u hu; simp at hu; subst hu; rfl
            have HAP2 := Lib.hid (fun (w4 : World) (v4 : Value) (h4 : WdS w0 w4 (w0.heap.size + 1) w0.heap.size (wA p 0 ⟨#[]⟩ r wh) v4 (l ++ [c])) (w5 : World) (v5 : Value) (hg : (w4.alloc (.cells #[Value.int .u8 (d : Nat)] U8)).grownBy w5 v4.ownBlock) (ho : w5.ownsRow w0.heap.size U8 1 v5 (kk + 1 + 1) (nbC l ++ [.int .u8 (c : Nat)] ++ [.int .u8 (d : Nat)])) => h4.app (l' := l ++ [c] ++ [d]) (Up.alloc _ _) hg (by rw [List.length_append, List.length_append, nbC_snoc _ hd256, nbC_snoc l hc256, hkk]; exact ho))
            have b3 : kk + 1 + 1 ≤ maxLen := by have := HS.out; unfold maxLen; omega
            have b4 : (kk + 1 + 1) * 1 ≤ 140737488355328 := by have := HS.out; omega
            clear hI1 hI2 h92 hq1 hne ha hf hd2 hdd hlt2 h02 hdn h0 hcr hcon hd hc hll hlt hk hkk
            go_wp2_with (first
              | (at_builtin; go_loud (refine wpList_append_lies _ rfl _ _ 50 rfl w0.heap.size U8 i0 (.int .u8 0) 1 1 Tryd.underlying50 hi0 hz0 hz1 hz2 rfl (by decide) (.slice A kk cap) kk (nbC l) rfl (HOWN.out.alloc _) ⟨(wr).heap.size, 0, none⟩ 1 1 [.int .u8 (c : Nat)] rfl rfl (World.news_of_block (cs := #[Value.int .u8 (c : Nat)]) (t := U8) (fr := (0, 0)) (heap_alloc_new (wr) _)) hnews (by omega) b1 b2 hb0 _ rfl ?_); intro g5 cap5 w5 hown5 hgrow hat5 hlt5; have HW5 := Lib.hid (HAP.out _ _ hgrow hown5); have HOWN5 := Lib.hid hown5; have HB5 := Lib.hid (Below.size HW5.out.up))
              | (at_builtin; go_loud (refine wpList_append_lies _ rfl _ _ 50 rfl w0.heap.size U8 i0 (.int .u8 0) 1 1 Tryd.underlying50 hi0 hz0 hz1 hz2 rfl (by decide) _ (kk + 1) (nbC l ++ [.int .u8 (c : Nat)]) rfl (HOWN5.out.alloc _) ⟨w5.heap.size, 0, none⟩ 1 1 [.int .u8 (d : Nat)] rfl rfl (World.news_of_block (cs := #[Value.int .u8 (d : Nat)]) (t := U8) (fr := (0, 0)) (heap_alloc_new w5 _)) hnews2 (by omega) b3 b4 (Nat.le_trans HB5.out (Below.size (Up.alloc _ _))) _ rfl ?_); intro g6 cap6 w6 hown6 hgrow6 hat6 hlt6; have HW6 := Lib.hid (HAP2.out _ _ HW5.out _ _ hgrow6 hown6)))
            go_roundg (n - (q + 2))
            case measure => rw [HG.out]; have := HLT2.out; omega
            case rel => exact ⟨q + 2, k, l ++ [c] ++ [d], r, rfl, by go_num, rfl, HW6, HI2⟩
    · have hqn : q = n := by have := HI.out.qn; have := HN.out; omega
      have HE := Lib.hid (HI.out.last (stp_con0 (by rw [con_drop _ _ HI.out.qn, HN.out]; omega)))
      have HPQ := Lib.hid HI.out.pq
      have hll := HI.out.ll
      have l1 : ¬ ((q : Int) < (n : Int)) := by omega
      have hk := HI.out.mrk
      have HLL := Lib.hid (show l.length ≤ 500000 from by have := HCL.out; have := HS.out; omega)
      clear HI HG hlt hqn hll
      rcases hk with rfl | hk
      · have hb := conv_nb50 (HW.out.set 2 (.int .i64 (q : Nat))).trow
        have z2 := HW.out.fr 2
        have y2 := HW.out.cell (k := 2) (u := .int .i64 0) rfl
        have y3 := (HW.out.set 2 (.int .i64 (q : Nat))).cell (k := 3) (u := .string ⟨#[]⟩) rfl
        have z3 := (HW.out.set 2 (.int .i64 (q : Nat))).fr 3
        have hf := (HW.out.set 2 (.int .i64 (q : Nat))).set 3 (.string (toB l))
        have k0 := hf.cell (k := 0) (u := .int .u8 51) rfl
        have k1 := hf.cell (k := 1) (u := .int .i64 (p : Nat)) rfl
        have k2 := hf.cell (k := 2) (u := .int .i64 (q : Nat)) rfl
        have k3 := hf.cell (k := 3) (u := .string (toB l)) rfl
        have k4 := hf.cell (k := 4) (u := .bool r) rfl
        have k5 := hf.cell (k := 5) (u := .bool wh) rfl
        have r0c := cellOf (j := 0) hf.rbox (v := .int .u8 0) rfl
        have r1c := cellOf (j := 1) hf.rbox (v := .int .i64 0) rfl
        have r2c := cellOf (j := 2) hf.rbox (v := .int .i64 0) rfl
        have r3c := cellOf (j := 3) hf.rbox (v := .string ⟨#[]⟩) rfl
        have r4c := cellOf (j := 4) hf.rbox (v := .bool false) rfl
        have r5c := cellOf (j := 5) hf.rbox (v := .bool false) rfl
        have s0 := hf.rfr 0
        have s1 := hf.rfr 1
        have s2 := hf.rfr 2
        have s3 := hf.rfr 3
        have s4 := hf.rfr 4
        have s5 := hf.rfr 5
        have HF := Lib.hid hf
        clear hf
        go_wp2
        have ho := HF.out.out (.int .u8 51) (.int .i64 (p : Nat)) (.int .i64 (q : Nat)) (.string (toB l)) (.bool r) (.bool wh)
        have g0 := ho.1 0 _ rfl
        have g1 := ho.1 1 _ rfl
        have g2 := ho.1 2 _ rfl
        have g3 := ho.1 3 _ rfl
        have g4 := ho.1 4 _ rfl
        have g5 := ho.1 5 _ rfl
        try simp only [Exit.inBlock, Exit.then]
        refine bodyPost_ret (v := .tuple #[.agg #[.int .u8 51, .int .i64 (p : Nat), .int .i64 (q : Nat), .string (toB l), .bool r, .bool wh], .int .u8 (0)]) (by simp [results, Tryd.results19, go_sem, g0, g1, g2, g3, g4, g5]) rfl ⟨?_, ho.2⟩
        rw [wpc_fin0 HE.out HPQ.out, HE.out.1, HWH.out]
        rfl
      · have hkz : k ≠ 0 := by omega
        have kz : ((k : Int) != 0) = true := by rw [bne, beq_eq_false_iff_ne.2 (by omega)]; rfl
        obtain ⟨A, cap, hv⟩ := own_slice HW.out.trow
        obtain ⟨kk, hkk⟩ : ∃ kk, l.length = kk := ⟨_, rfl⟩
        rw [hkk] at hv
        subst hv
        have z2 := HW.out.fr 2
        have y2 := HW.out.cell (k := 2) (u := .int .i64 0) rfl
        have hw2 := HW.out.set 2 (.int .i64 (q : Nat))
        have HOWN := Lib.hid (show (wr.setCell ⟨w0.heap.size + 1, 2, none⟩ (.int .i64 (q : Nat))).ownsRow w0.heap.size U8 1 (.slice A kk cap) kk (nbC l) from by have h := hw2.trow; rwa [hkk] at h)
        have hsz : (line.extract n line.size).size = line.size - n := by rw [ByteArray.size_extract]; omega
        have hbx : bl (line.extract n line.size) = (bl line).drop n := by rw [bl_extract, List.take_of_length_le (by rw [bl_len]; exact Nat.le_refl _)]
        have b0 : (0 : Int) ≤ (n : Int) := by omega
        have b1 : (n : Int) ≤ line.size := by have := HCL.out; omega
        have b2 : n ≤ line.size := by have := HCL.out; omega
        have b3 : kk + (line.extract n line.size).size ≤ maxLen := by have := HLL.out; have := HCL.out; have := HS.out; unfold maxLen; omega
        have b4 : kk + (line.extract n line.size).size ≤ 140737488355328 := by have := HLL.out; have := HCL.out; have := HS.out; omega
        have hb0 : w0.heap.size ≤ (wr.setCell ⟨w0.heap.size + 1, 2, none⟩ (.int .i64 (q : Nat))).heap.size := Below.size hw2.up
        have HAP := Lib.hid (fun (w5 : World) (v5 : Value) (hg : (wr.setCell ⟨w0.heap.size + 1, 2, none⟩ (.int .i64 (q : Nat))).grownBy w5 (Value.slice A kk cap).ownBlock) (ho : w5.ownsRow w0.heap.size U8 1 v5 (kk + (line.extract n line.size).size) (nbC l ++ Lib.strCells (line.extract n line.size))) => hw2.app (l' := l ++ (bl line).drop n) (Up.refl _) hg (by rw [strCells_nb, hbx, ← nbC_append] at ho; rw [List.length_append, List.length_drop, bl_len, hkk, ← hsz]; exact ho))
        have HKZ := Lib.hid hkz
        clear hw2 hsz hbx hkk hk hkz
        go_wp2_with (at_builtin; go_loud (refine wpList_append_str rfl _ _ _ _ rfl w0.heap.size U8 i0 Tryd.underlying50 Tryd.underlying9 hi0 hz0 hz1 hz2 (.slice A kk cap) kk (nbC l) rfl HOWN.out (line.extract n line.size) rfl b3 b4 hb0 ?_); intro v5 w5 hown5 hgrow; have hh := HAP.out _ _ hgrow hown5; have z2 := hh.fr 2; have y2 := hh.cell (k := 2) (u := .int .i64 (q : Nat)) rfl; have hh2 := hh.set 2 (.int .i64 (line.size : Nat)); have z5 := hh2.fr 5; have y5 := hh2.cell (k := 5) (u := .bool wh) rfl; have hh3 := hh2.set 5 (.bool false); have z3 := hh3.fr 3; have y3 := hh3.cell (k := 3) (u := .string ⟨#[]⟩) rfl; have hb := conv_nb50 hh3.trow; have hf := hh3.set 3 (.string (toB (l ++ (bl line).drop n))); have k0 := hf.cell (k := 0) (u := .int .u8 51) rfl; have k1 := hf.cell (k := 1) (u := .int .i64 (p : Nat)) rfl; have k2 := hf.cell (k := 2) (u := .int .i64 (line.size : Nat)) rfl; have k3 := hf.cell (k := 3) (u := .string (toB (l ++ (bl line).drop n))) rfl; have k4 := hf.cell (k := 4) (u := .bool r) rfl; have k5 := hf.cell (k := 5) (u := .bool false) rfl; have r0c := cellOf (j := 0) hf.rbox (v := .int .u8 0) rfl; have r1c := cellOf (j := 1) hf.rbox (v := .int .i64 0) rfl; have r2c := cellOf (j := 2) hf.rbox (v := .int .i64 0) rfl; have r3c := cellOf (j := 3) hf.rbox (v := .string ⟨#[]⟩) rfl; have r4c := cellOf (j := 4) hf.rbox (v := .bool false) rfl; have r5c := cellOf (j := 5) hf.rbox (v := .bool false) rfl; have s0 := hf.rfr 0; have s1 := hf.rfr 1; have s2 := hf.rfr 2; have s3 := hf.rfr 3; have s4 := hf.rfr 4; have s5 := hf.rfr 5; have HF := Lib.hid hf; clear hf hh hh2 hh3)
        have ho := HF.out.out (.int .u8 51) (.int .i64 (p : Nat)) (.int .i64 (line.size : Nat)) (.string (toB (l ++ (bl line).drop n))) (.bool r) (.bool false)
        have g0 := ho.1 0 _ rfl
        have g1 := ho.1 1 _ rfl
        have g2 := ho.1 2 _ rfl
        have g3 := ho.1 3 _ rfl
        have g4 := ho.1 4 _ rfl
        have g5 := ho.1 5 _ rfl
        try simp only [Exit.inBlock, Exit.then]
        refine bodyPost_ret (v := .tuple #[.agg #[.int .u8 51, .int .i64 (p : Nat), .int .i64 (line.size : Nat), .string (toB (l ++ (bl line).drop n)), .bool r, .bool false], .int .u8 ((k : Nat))]) (by simp [results, Tryd.results19, go_sem, g0, g1, g2, g3, g4, g5]) rfl ⟨?_, ho.2⟩
        rw [wpc_fin1 HE.out HKZ.out, HE.out.1, bl_len, HN.out]
        rfl
end Go.Proofs.YtmeipmkiknekjaaDoor
