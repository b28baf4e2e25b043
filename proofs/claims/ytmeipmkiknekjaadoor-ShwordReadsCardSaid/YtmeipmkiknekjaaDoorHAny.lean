/- strings.ContainsAny of a text of whatever bytes, asked for the three signs of the shell. -/
import Derived.Test.YtmeipmkiknekjaaDoorHMem
import Derived.Test.YtmeipmkiknekjaaDoorShelf
import Derived.Laws.RangeAny
import Derived.LoopN
import Derived.WalkMore
import Derived.Lib.OthersKept
import Derived.Lib.MapLaws
import Derived.Lib.TrimUEq
namespace Go.Proofs.YtmeipmkiknekjaaDoor
open Go.RowKit

/-- The three signs. -/
def sgS : ByteArray := ⟨#[39, 34, 92]⟩
theorem bt_getD (s : ByteArray) (i : Nat) : (s.data.toList.getD i 0).toNat = bt s i := by
  unfold bt
  split
  · rename_i h
    rw [List.getD_eq_getElem?_getD, List.getElem?_eq_getElem (by rw [← Lib.size_eq]; exact h)]
    rfl
  · rename_i h
    rw [List.getD_eq_getElem?_getD, List.getElem?_eq_none (by rw [← Lib.size_eq]; omega)]
    rfl
/-- A rune that is no ASCII byte: none of its bytes is one. -/
theorem decode_hi {s : ByteArray} {p : Nat} (h : p < s.size) (h128 : 128 ≤ bt s p) : 1 ≤ (Utf8.decode s p).2 ∧ p + (Utf8.decode s p).2 ≤ s.size ∧ 128 ≤ (Utf8.decode s p).1 ∧ (Utf8.decode s p).1 ≤ 1114111 ∧ ∀ j, j < (Utf8.decode s p).2 → 128 ≤ bt s (p + j) := by
  have hl : s.data.toList.length = s.size := (Lib.size_eq s).symm
  have e := Lib.decode_N s p
  rw [bt_getD, bt_getD, bt_getD, bt_getD, hl] at e
  have b0 := bt_lt s p; have b1 := bt_lt s (p + 1); have b2 := bt_lt s (p + 2); have b3 := bt_lt s (p + 3)
  have case0 : ∀ j, j < 1 → 128 ≤ bt s (p + j) := fun j hj => by rw [show j = 0 from by omega]; exact h128
  rcases Lib.decodeN_shape (s.size - p) (bt s p) (bt s (p + 1)) (bt s (p + 2)) (bt s (p + 3)) with ⟨c, -⟩ | ⟨c0, c1, c2, c3, d⟩ | ⟨c0, c1, c2, c3, c4, c5, d⟩ | ⟨c0, c1, c2, c3, c4, c5, c6, d⟩ | d
  · omega
  · rw [e, d]
    refine ⟨(by decide : 1 ≤ 2), by simp only []; omega, by simp only []; omega, by simp only []; omega, fun j hj => ?_⟩
    have hj : j < 2 := hj
    match j, hj with
    | 0, _ => exact h128
    | 1, _ => omega
  · rw [e, d]
    refine ⟨(by decide : 1 ≤ 3), by simp only []; omega, by simp only []; omega, by simp only []; omega, fun j hj => ?_⟩
    have hj : j < 3 := hj
    match j, hj with
    | 0, _ => exact h128
    | 1, _ => omega
    | 2, _ => omega
  · rw [e, d]
    refine ⟨(by decide : 1 ≤ 4), by simp only []; omega, by simp only []; omega, by simp only []; omega, fun j hj => ?_⟩
    have hj : j < 4 := hj
    match j, hj with
    | 0, _ => exact h128
    | 1, _ => omega
    | 2, _ => omega
    | 3, _ => omega
  · rw [e, d]
    exact ⟨by decide, by simp only []; omega, by decide, by decide, case0⟩
/-- What a rune that is no ASCII byte is written as. -/
def EncOk (b : ByteArray) : Prop := ∃ k : Nat, b.size = k + 1 ∧ 1 ≤ k ∧ k ≤ 3 ∧ 128 ≤ bt b k
theorem encode_hi {r : Int} (h0 : 128 ≤ r) (hv : Utf8.valid r = true) : EncOk (Utf8.encode r) := by
  obtain ⟨c, rfl⟩ : ∃ c : Nat, r = (c : Int) := ⟨r.toNat, by omega⟩
  have hc : 128 ≤ c := by omega
  unfold Utf8.encode
  rw [if_pos hv, Int.toNat_natCast]
  simp only []
  rw [if_neg (by omega)]
  have q : ∀ x, 128 ≤ (UInt8.ofNat (128 + x % 64)).toNat := fun x => by simp; omega
  split
  · exact ⟨1, rfl, by decide, by decide, q c⟩
  · split
    · exact ⟨2, rfl, by decide, by decide, q c⟩
    · exact ⟨3, rfl, by decide, by decide, q c⟩
theorem ib_hi (l : List UInt8) (c : UInt8) (hl : ∀ d ∈ l, d.toNat < 128) (hc : 128 ≤ c.toNat) : Lib.indexByte l c = -1 := by
  induction l with
  | nil => rfl
  | cons d r ih =>
    have hd : d ≠ c := fun e => by have := hl d (by simp); rw [e] at this; omega
    have := ih (fun x hx => hl x (by simp [hx]))
    unfold Lib.indexByte
    simp [hd, this]
theorem ib_two (c : UInt8) (hc : 128 ≤ c.toNat) : Lib.indexByte (sgS.extract 2 3).data.toList c = -1 := ib_hi _ c (by decide) hc
theorem ib_none (c : UInt8) (hc : 128 ≤ c.toNat) : Lib.indexByte ByteArray.empty.data.toList c = -1 := ib_hi _ c (by decide) hc
set_option maxRecDepth 100000 in
set_option maxHeartbeats 4000000 in
theorem validRune_any (r : Int) (w : World) : Calls Tryd.prog 42 #[.int .i32 r] w fun e w' => e = .returned (.bool (Utf8.valid r)) ∧ w' = w := by
  have e : Utf8.valid r = (decide (0 ≤ r) && decide (r < 55296) || decide (57343 < r) && decide (r ≤ 1114111)) := by
    unfold Utf8.valid
    rw [Bool.eq_iff_iff]
    simp only [Bool.or_eq_true, Bool.and_eq_true, decide_eq_true_eq]
    omega
  rw [e]
  clear e
  by_cases h0 : 0 ≤ r
  · by_cases h1 : r < 55296
    · rw [decide_eq_true h0, decide_eq_true h1]
      go_enter Tryd.func42, Tryd.ntmps42
      go_wp2
      go_ret
      exact ⟨rfl, rfl⟩
    · have g1 : decide (r < 55296) = false := decide_eq_false h1
      by_cases h2 : 57343 < r
      · have g2 : decide (57343 < r) = true := decide_eq_true h2
        have hx : (decide (0 ≤ r) && decide (r < 55296) || decide (57343 < r) && decide (r ≤ 1114111)) = decide (r ≤ 1114111) := by rw [g1, g2]; simp
        rw [hx]
        clear hx h2
        cases hg : decide (r ≤ 1114111)
        · have h3 : ¬ (r ≤ 1114111) := of_decide_eq_false hg
          go_enter Tryd.func42, Tryd.ntmps42
          go_wp2
          go_ret
          exact ⟨rfl, rfl⟩
        · have h3 : r ≤ 1114111 := of_decide_eq_true hg
          go_enter Tryd.func42, Tryd.ntmps42
          go_wp2
          go_ret
          exact ⟨rfl, rfl⟩
      · have g2 : decide (57343 < r) = false := decide_eq_false h2
        have hx : (decide (0 ≤ r) && decide (r < 55296) || decide (57343 < r) && decide (r ≤ 1114111)) = false := by rw [g1, g2]; simp
        rw [hx]
        clear hx
        go_enter Tryd.func42, Tryd.ntmps42
        go_wp2
        go_ret
        exact ⟨rfl, rfl⟩
  · have g0 : decide (0 ≤ r) = false := decide_eq_false h0
    have h2 : ¬ (57343 < r) := by omega
    have g2 : decide (57343 < r) = false := decide_eq_false h2
    have hx : (decide (0 ≤ r) && decide (r < 55296) || decide (57343 < r) && decide (r ≤ 1114111)) = false := by rw [g0, g2]; simp
    rw [hx]
    clear hx
    go_enter Tryd.func42, Tryd.ntmps42
    go_wp2
    go_ret
    exact ⟨rfl, rfl⟩
set_option maxRecDepth 100000 in
set_option maxHeartbeats 4000000 in
theorem idxRune_hi (r : Int) (w : World) (h0 : 128 ≤ r) (h1 : r ≤ 1114111) : Calls Tryd.prog 37 #[.string sgS, .int .i32 r] w fun e w' => e = .returned (.int .i64 (-1)) ∧ Up w w' := by
  have HV := Lib.hid (fun W => validRune_any r W)
  have n0 : ¬ (r < 128) := by omega
  have g0 : decide (r < 128) = false := decide_eq_false n0
  have m0 : 0 ≤ r := by omega
  have hsz : sgS.size = 3 := rfl
  by_cases hb : r = 65533
  · subst hb
    clear HV
    have x0 : ∀ ty, (Instr.next (.pointer (some ⟨w.heap.size, 0, none⟩)) true ty).run Tryd.prog (w.iter sgS 0) = .ok (.tuple #[.bool true, .int .i64 0, .int .i32 39]) (w.iter sgS 1) := fun ty => run_next_ascii (P := Tryd.prog) w sgS 0 ty (by decide) (by decide)
    have x1 : ∀ ty, (Instr.next (.pointer (some ⟨w.heap.size, 0, none⟩)) true ty).run Tryd.prog (w.iter sgS 1) = .ok (.tuple #[.bool true, .int .i64 1, .int .i32 34]) (w.iter sgS 2) := fun ty => run_next_ascii (P := Tryd.prog) w sgS 1 ty (by decide) (by decide)
    have x2 : ∀ ty, (Instr.next (.pointer (some ⟨w.heap.size, 0, none⟩)) true ty).run Tryd.prog (w.iter sgS 2) = .ok (.tuple #[.bool true, .int .i64 2, .int .i32 92]) (w.iter sgS 3) := fun ty => run_next_ascii (P := Tryd.prog) w sgS 2 ty (by decide) (by decide)
    have x3 : ∀ ty, (Instr.next (.pointer (some ⟨w.heap.size, 0, none⟩)) true ty).run Tryd.prog (w.iter sgS 3) = .ok (.tuple #[.bool false]) (w.iter sgS 3) := fun ty => run_next_end (P := Tryd.prog) w sgS 3 ty (by decide)
    clear h0 h1 g0 m0 n0 hsz
    go_enter Tryd.func37, Tryd.ntmps37
    go_wp2
    refine wp_loop_rounds 4 ?_
    iterate 4
      rw [rounds_succ]
      go_wp2
    go_ret
    exact ⟨rfl, Up.alloc _ _⟩
  have e1 : (r == 65533) = false := beq_eq_false_iff_ne.2 hb
  cases hv : Utf8.valid r with
  | false =>
    rw [hv] at HV
    go_enter Tryd.func37, Tryd.ntmps37
    go_wp2_with (go_at_call 42; ((with_reducible refine (HV.out _).mono ?_); rintro e w1 ⟨rfl, rfl⟩))
    go_ret
    exact ⟨rfl, Up.refl _⟩
  | true =>
    rw [hv] at HV
    have henc := encode_hi h0 hv
    have hcv : ∀ W, (Conv.intToString r).run Tryd.prog W = .ok (.string (Utf8.encode r)) W := fun W => rfl
    clear hcv
    generalize hrs : Utf8.encode r = rs at henc
    obtain ⟨k, hk, k1, k3, hkb⟩ := henc
    have hks : k < rs.size := by omega
    have hx : 128 ≤ (rs[k]'hks).toNat := by rw [bt_eq hks]; exact hkb
    obtain ⟨x, hxe⟩ : ∃ x, (rs[k]'hks).toNat = x := ⟨_, rfl⟩
    obtain ⟨c, hce⟩ : ∃ c, rs[k]'hks = c := ⟨_, rfl⟩
    rw [hxe] at hx
    have e34 : ((34 : Int) == (x : Int)) = false := beq_eq_false_iff_ne.2 (by omega)
    have e92 : ((92 : Int) == (x : Int)) = false := beq_eq_false_iff_ne.2 (by omega)
    have m34 : ((34 : Int) != (x : Int)) = true := by rw [bne, e34]; rfl
    have m92 : ((92 : Int) != (x : Int)) = true := by rw [bne, e92]; rfl
    have hk0 : (0 : Int) ≤ (k : Int) := by omega
    have hk1 : (k : Int) < (rs.size : Int) := by omega
    have ew : IntKind.i64.wrap ((rs.size : Int) - 1) = (k : Nat) := (IntWalk.i64_in _ (by omega)).trans (by omega)
    have hxc : (x : Int).toNat.toUInt8 = c := by rw [← hxe, hce]; simp
    have hc128 : 128 ≤ c.toNat := by rw [← hce, hxe]; exact hx
    have HI1 := Lib.hid (fun W => (Tryd.strings_IndexByte (sgS.extract 2 3) (x : Int) W).mono (fun e w' h => by rw [hxc, ib_two c hc128] at h; exact h))
    have HI2 := Lib.hid (fun W => (Tryd.strings_IndexByte ByteArray.empty (x : Int) W).mono (fun e w' h => by rw [hxc, ib_none c hc128] at h; exact h))
    clear hkb hxc hc128 hce
    have w2 : IntKind.i64.wrap 2 = 2 := rfl
    have w3 : IntKind.i64.wrap 3 = 3 := rfl
    have hs1 : sgS[1].toNat = 34 := rfl
    have hs2 : sgS[2].toNat = 92 := rfl
    have hk3 : k = 1 ∨ k = 2 ∨ k = 3 := by omega
    rcases hk3 with rfl | rfl | rfl
    · go_enter Tryd.func37, Tryd.ntmps37
      go_wp2_with (go_at_call 42; ((with_reducible refine (HV.out _).mono ?_); rintro e w1 ⟨rfl, rfl⟩))
      go_step3
      go_wp2
      refine wp_loop_rounds 1 ?_
      rw [rounds_succ]
      go_wp2
      go_step3
      go_wp2
      go_quiet (fail)
      have HU2 := Lib.hid (Up.drewN w1 nq)
      generalize w1.drewN nq = W2 at HU2 ⊢
      go_wp2
      go_quiet (first
        | (go_at_call 36; with_reducible exact Calls.quiet_of_same (HI1.out _))
        | (go_at_call 36; with_reducible exact Calls.quiet_of_same (HI2.out _)))
      go_wp2
      simp only [Exit.noGoto_ret, Exit.inBlock, Exit.then]
      go_ret
      exact ⟨rfl, HU2.out.trans (Up.drewN _ _)⟩
    · go_enter Tryd.func37, Tryd.ntmps37
      go_wp2_with (go_at_call 42; ((with_reducible refine (HV.out _).mono ?_); rintro e w1 ⟨rfl, rfl⟩))
      go_step3
      go_wp2
      refine wp_loop_rounds 1 ?_
      rw [rounds_succ]
      go_wp2
      go_step3
      go_wp2
      go_quiet (fail)
      have HU2 := Lib.hid (Up.drewN w1 nq)
      generalize w1.drewN nq = W2 at HU2 ⊢
      go_wp2
      go_quiet (first
        | (go_at_call 36; with_reducible exact Calls.quiet_of_same (HI1.out _))
        | (go_at_call 36; with_reducible exact Calls.quiet_of_same (HI2.out _)))
      go_wp2
      simp only [Exit.noGoto_ret, Exit.inBlock, Exit.then]
      go_ret
      exact ⟨rfl, HU2.out.trans (Up.drewN _ _)⟩
    · go_enter Tryd.func37, Tryd.ntmps37
      go_wp2_with (go_at_call 42; ((with_reducible refine (HV.out _).mono ?_); rintro e w1 ⟨rfl, rfl⟩))
      go_step3
      go_wp2
      refine wp_loop_rounds 1 ?_
      rw [rounds_succ]
      go_wp2
      simp only [Exit.noGoto_ret, Exit.inBlock]
      go_ret
      exact ⟨rfl, Up.refl _⟩
/-- None of the first i bytes is a sign. -/
def NoSg (s : ByteArray) (i : Nat) : Prop := ((bl s).take i).any sgB = false
theorem noSg_iff {s : ByteArray} {i : Nat} (hi : i ≤ s.size) : NoSg s i ↔ ∀ j, j < i → sgB (bt s j) = false := by
  unfold NoSg
  rw [List.any_eq_false]
  constructor
  · intro h j hj
    have hm : bt s j ∈ (bl s).take i := by
      refine List.mem_iff_getElem?.2 ⟨j, ?_⟩
      rw [List.getElem?_take_of_lt hj]
      exact bl_at (by omega)
    simpa using h _ hm
  · intro h c hc
    obtain ⟨j, hj⟩ := List.mem_iff_getElem?.1 hc
    have hji : j < i := by
      have := (List.getElem?_eq_some_iff.1 hj).1
      rw [List.length_take] at this
      omega
    rw [List.getElem?_take_of_lt hji, bl_at (by omega)] at hj
    have := h j hji
    rw [Option.some.inj hj] at this
    rw [this]
    decide
theorem sg_any {s : ByteArray} {j : Nat} (hj : j < s.size) (h : sgB (bt s j) = true) : (bl s).any sgB = true := by
  rw [List.any_eq_true]
  exact ⟨bt s j, List.mem_iff_getElem?.2 ⟨j, bl_at hj⟩, h⟩
theorem sg_hi {c : Nat} (h : 128 ≤ c) : sgB c = false := by
  unfold sgB
  rw [beq_eq_false_iff_ne.2 (by omega), beq_eq_false_iff_ne.2 (by omega), beq_eq_false_iff_ne.2 (by omega)]
  rfl
theorem sg_idx (c : UInt8) : decide (0 ≤ Lib.indexByte sgS.data.toList c) = sgB c.toNat := by
  have h : ∀ d : Fin 256, decide (0 ≤ Lib.indexByte sgS.data.toList (UInt8.ofNat d.val)) = sgB d.val := by decide +kernel
  have := h ⟨c.toNat, c.toNat_lt⟩
  simpa using this
set_option maxRecDepth 100000 in
set_option maxHeartbeats 4000000 in
theorem idxAny_short (s : ByteArray) (w : World) (h8 : s.size ≤ 8) : Calls Tryd.prog 35 #[.string s, .string sgS] w fun e w' => (∃ z : Int, e = .returned (.int .i64 z) ∧ decide (0 ≤ z) = (bl s).any sgB) ∧ Up w w' := by
  have h8z : decide ((8 : Int) < (s.size : Int)) = false := decide_eq_false (by omega)
  have HSH := Lib.hid (fun W => by have h := Tryd.strings_shouldUseASCIISet (s.size : Int) W; rw [h8z] at h; exact h)
  have HI := Lib.hid (fun W (r : Int) (h0 : 128 ≤ r) (h1 : r ≤ 1114111) => idxRune_hi r W h0 h1)
  have HA := Lib.hid (fun W (r : Int) (h0 : 0 ≤ r) (h1 : r < 128) => Tryd.strings_IndexRune_ascii sgS r W h0 h1)
  have hsz : sgS.size = 3 := rfl
  have hem : (sgS.toList.isEmpty) = false := by rw [Lib.toList_data]; rfl
  go_enter Tryd.func35, Tryd.ntmps35
  go_wp2_with (go_at_call 38; ((with_reducible refine (HSH.out _).mono ?_); rintro e w1 ⟨rfl, rfl⟩))
  clear hsz hem h8z
  go_loopg [9, 10] s.size (fun g _ _ wx => ∃ i : Nat, i ≤ s.size ∧ g = s.size - i ∧ Hid (wx.heap[w1.heap.size]? = some (.stringIter s i)) ∧ Hid (Up w1 wx) ∧ Hid (NoSg s i))
  case atStart => exact ⟨0, Nat.zero_le _, rfl, Lib.hid (World.iter_heap w1 s 0), Lib.hid (Up.alloc _ _), Lib.hid ((noSg_iff (Nat.zero_le _)).2 (fun j hj => absurd hj (Nat.not_lt_zero _)))⟩
  case round =>
    obtain ⟨i, hi, hg, HB, HU, HN⟩ := hrel
    have HG := Lib.hid hg
    clear hg
    by_cases hlt : i < s.size
    · have hnx := fun ty => Lib.run_next_any_at (P := Tryd.prog) wr w1.heap.size s i ty HB.out hlt
      have hfact : ∃ R D : Nat, (Utf8.decode s i).1 = R ∧ (Utf8.decode s i).2 = D ∧ i + D ≤ s.size ∧ 1 ≤ D ∧ ((R < 128 ∧ D = 1 ∧ R = bt s i) ∨ (128 ≤ R ∧ R ≤ 1114111 ∧ ∀ j, j < D → sgB (bt s (i + j)) = false)) := by
        by_cases h128 : bt s i < 128
        · have hd := decode_ascii s i hlt (by rw [bt_eq hlt]; exact h128)
          rw [hd, bt_eq hlt]
          exact ⟨_, _, rfl, rfl, by omega, by omega, .inl ⟨h128, rfl, rfl⟩⟩
        · obtain ⟨d1, d2, d3, d4, d5⟩ := decode_hi hlt (by omega)
          exact ⟨_, _, rfl, rfl, d2, d1, .inr ⟨d3, d4, fun j hj => sg_hi (d5 j hj)⟩⟩
      obtain ⟨R, D, hR, hD, hDs, hD1, hcase⟩ := hfact
      rw [hR, hD] at hnx
      have HB2 := Lib.hid (Lib.iterAt_heap wr w1.heap.size s i (i + D) HB.out)
      have HU2 := Lib.hid (show Up w1 (wr.iterAt w1.heap.size s (i + D)) from Lib.below_iterAt HU.out (Nat.le_refl _) s (i + D))
      generalize wr.iterAt w1.heap.size s (i + D) = W2 at hnx HB2 HU2
      have HLT := Lib.hid hlt
      clear hR hD HB HU
      have hns : ∀ j, j < i → sgB (bt s j) = false := (noSg_iff hi).1 HN.out
      rcases hcase with ⟨r1, rfl, r2⟩ | ⟨r1, r2, r3⟩
      · have HC := Lib.hid (fun W => by have h := HA.out W (R : Int) (by omega) (by omega); rw [Int.toNat_natCast] at h; exact h)
        have hq := sg_idx R.toUInt8
        rw [u8_nat (by omega)] at hq
        generalize Lib.indexByte sgS.data.toList R.toUInt8 = z at HC hq
        cases hsg : sgB R with
        | true =>
          rw [hsg] at hq
          have hz : 0 ≤ z := of_decide_eq_true hq
          have HF := Lib.hid (show (bl s).any sgB = true from sg_any hlt (by rw [← r2]; exact hsg))
          clear hq hsg hns r2 hlt hDs hD1 r1
          go_wp2_with (go_at_call 37; ((with_reducible refine (HC.out _).mono ?_); rintro e w3 ⟨rfl, rfl⟩))
          go_ret
          exact ⟨⟨_, rfl, by rw [HF.out]; exact decide_eq_true (by omega)⟩, HU2.out⟩
        | false =>
          rw [hsg] at hq
          have hz : ¬ (0 ≤ z) := of_decide_eq_false hq
          have HN2 := Lib.hid ((noSg_iff (show i + 1 ≤ s.size from hDs)).2 (fun j hj => by
            by_cases e : j = i
            · subst e; rw [← r2]; exact hsg
            · exact hns j (by omega)))
          clear hq hsg hns r2 hlt hDs hD1 r1
          go_wp2_with (go_at_call 37; ((with_reducible refine (HC.out _).mono ?_); rintro e w3 ⟨rfl, rfl⟩))
          go_roundg (s.size - (i + 1))
          case measure => rw [HG.out]; have := HLT.out; omega
          case rel => exact ⟨i + 1, HLT.out, rfl, HB2, HU2, HN2⟩
      · have HC := Lib.hid (fun W => HI.out W (R : Int) (by omega) (by omega))
        have HN2 := Lib.hid ((noSg_iff hDs).2 (fun j hj => by
            by_cases e : j < i
            · exact hns j e
            · have := r3 (j - i) (by omega)
              rwa [show i + (j - i) = j from by omega] at this))
        have HDS := Lib.hid hDs
        have HD1 := Lib.hid hD1
        clear hns r3 hlt hDs hD1 r1 r2
        go_wp2_with (go_at_call 37; ((with_reducible refine (HC.out _).mono ?_); rintro e w3 ⟨rfl, hu3⟩; have HB3 := Lib.hid (box_up HB2.out hu3); have HU3 := Lib.hid (HU2.out.trans hu3); clear hu3))
        go_roundg (s.size - (i + D))
        case measure => rw [HG.out]; have := HLT.out; have := HD1.out; omega
        case rel => exact ⟨i + D, HDS.out, rfl, HB3, HU3, HN2⟩
    · obtain rfl : i = s.size := by omega
      have hnx := fun ty => Lib.run_next_end_at (P := Tryd.prog) wr w1.heap.size s s.size ty HB.out hlt
      have HF := Lib.hid (show (bl s).any sgB = false from by have := HN.out; unfold NoSg at this; rwa [List.take_of_length_le (by rw [bl_len]; exact Nat.le_refl _)] at this)
      clear hlt
      go_wp2
      go_ret
      exact ⟨⟨_, rfl, by rw [HF.out]; rfl⟩, HU.out⟩
theorem idxAny_sg (l : List UInt8) : decide (0 ≤ Lib.indexAny l sgS.data.toList) = (l.map (·.toNat)).any sgB := by
  induction l with
  | nil => rfl
  | cons b r ih =>
    have hc : sgS.data.toList.contains b = sgB b.toNat := by
      have h : ∀ d : Fin 256, sgS.data.toList.contains (UInt8.ofNat d.val) = sgB d.val := by decide +kernel
      have := h ⟨b.toNat, b.toNat_lt⟩
      simpa using this
    have hge := Lib.indexAny_ge sgS.data.toList r
    have hst : Lib.indexAny (b :: r) sgS.data.toList = if sgS.data.toList.contains b then 0 else if Lib.indexAny r sgS.data.toList == -1 then -1 else Lib.indexAny r sgS.data.toList + 1 := rfl
    rw [List.map_cons, List.any_cons, ← ih, ← hc, hst]
    generalize Lib.indexAny r sgS.data.toList = z at hge ⊢
    cases hcc : sgS.data.toList.contains b
    · rw [if_neg (by decide), Bool.false_or]
      split
      · rename_i h
        rw [beq_iff_eq.1 h]
      · rename_i h
        have : z ≠ -1 := fun e => h (by rw [e]; rfl)
        rw [decide_eq_true (by omega), decide_eq_true (by omega)]
    · rw [if_pos rfl, Bool.true_or]
      rfl
theorem h116 : (Tryd.prog.info? (Tryd.lays153_ren.t 116)).map (fun i => (i.zero, i.size)) = some (some (.agg (Array.replicate 256 (.bool false))), 256) := by kernel_rfl
set_option maxRecDepth 100000 in
set_option maxHeartbeats 4000000 in
theorem containsAny_any (s : ByteArray) (w : World) (hs : (s.size : Int) ≤ 1000000) : Calls Tryd.prog 26 #[.string s, .string sgS] w fun e w' => e = .returned (.bool ((bl s).any sgB)) ∧ Up w w' := by
  have HI := Lib.hid (fun W => (show Calls Tryd.prog 35 #[.string s, .string sgS] W fun e w' => (∃ z : Int, e = .returned (.int .i64 z) ∧ decide (0 ≤ z) = (bl s).any sgB) ∧ Up W w' from by
    by_cases h8 : s.size ≤ 8
    · exact idxAny_short s W h8
    · refine (Tryd.strings_IndexAny_long (zero_of_info h116).1 s sgS W (by decide) (by omega) (by omega) (by decide) (fun j b hb => ?_)).mono ?_
      · have hm := List.mem_of_getElem? hb
        exact (show ∀ b ∈ sgS.data.toList, b.toNat < 128 from by decide) b hm
      · rintro e w' ⟨rfl, rfl⟩
        exact ⟨⟨_, rfl, idxAny_sg _⟩, (Up.alloc _ _).trans (Up.alloc _ _)⟩))
  clear hs
  go_enter Tryd.func26, Tryd.ntmps26
  go_wp2_with (go_at_call 35; ((with_reducible refine (HI.out _).mono ?_); rintro e w1 ⟨⟨z, rfl, hz⟩, hu⟩; have HZ := Lib.hid hz; have HU := Lib.hid hu; clear hz hu))
  go_ret
  exact ⟨ret_bool HZ.out, HU.out⟩
end Go.Proofs.YtmeipmkiknekjaaDoor
