/- The document's Read. -/
import Derived.Test.YtmeipmkiknekjaaDoorHRefW
import Derived.Test.YtmeipmkiknekjaaDoorHSame
namespace Go.Proofs.YtmeipmkiknekjaaDoor
open Go.RowKit
set_option linter.unusedVariables false
/-- A piece that is being told, and the pieces so far. -/
structure RdQ (w0 W : World) (bp : Nat) (ar : Array Value) (v : Value) (ps : List Pc) : Prop where
  pbox : W.heap[bp]? = some (.cells ar P42)
  row : RowQ W w0.heap.size v ps
  lo : w0.heap.size ≤ bp
  ne : ∀ g, v.ownBlock = some g → g ≠ bp
  up : Up w0 W
variable {w0 W W' w2 : World} {bp : Nat} {ar : Array Value} {v v' : Value} {ps : List Pc}
theorem RdQ.more (h : RdQ w0 W bp ar v ps) (hu : Up W W') : RdQ w0 W' bp ar v ps :=
  ⟨box_up h.pbox hu, row_up h.row hu, h.lo, h.ne, h.up.trans hu⟩
theorem RdQ.cell (h : RdQ w0 W bp ar v ps) {k : Nat} {u : Value} (hk : ar[k]? = some u) : W.cell? ⟨bp, k, none⟩ = some u := cellOf h.pbox hk
theorem RdQ.fr (h : RdQ w0 W bp ar v ps) (k : Nat) : W.frozen? ⟨bp, k, none⟩ = false := frozenOf h.pbox
theorem RdQ.set (h : RdQ w0 W bp ar v ps) (k : Nat) (u : Value) : RdQ w0 (W.setCell ⟨bp, k, none⟩ u) bp (ar.setIfInBounds k u) v ps :=
  ⟨heap_setCell_same W bp k _ _ u h.pbox, row_keep h.row fun g e => setCell_far W bp k u g (h.ne g e).symm, h.lo, h.ne, Below.setCell h.up (p := ⟨bp, k, none⟩) h.lo u⟩
theorem RdQ.app {x : Pc} (h : RdQ w0 W bp ar v ps) (hu : Up W W') (hgrow : W'.grownBy w2 v.ownBlock) (hown : w2.ownsRow w0.heap.size P42 6 v' (ps.length + 1) (pcC ps ++ pcV x)) :
    RowQ w2 w0.heap.size v' (ps ++ [x]) ∧ Up w0 w2 ∧ w2.heap[bp]? = some (.cells ar P42) := by
  have hup : Up w0 w2 := (h.up.trans hu).grown hgrow (Nat.le_trans (Below.size h.up) (Below.size hu)) (fun q hq => own_base h.row hq)
  have hlt := (Array.getElem?_eq_some_iff.1 h.pbox).1
  refine ⟨?_, hup, ?_⟩
  · unfold RowQ
    rw [List.length_append, pcC_snoc]
    exact hown
  · rw [hgrow.block bp (Nat.lt_of_lt_of_le hlt (Below.size hu)) (fun e => h.ne bp e.symm rfl), Below.block hu bp hlt]
    exact h.pbox
theorem RdQ.new (w0 W : World) (ar : Array Value) {v : Value} {ps : List Pc} (hr : RowQ W w0.heap.size v ps) (hu : Up w0 W) : RdQ w0 (W.alloc (.cells ar P42)) W.heap.size ar v ps :=
  ⟨heap_alloc_new _ _, row_up hr (Up.alloc _ _), Below.size hu, fun g e => by
    obtain ⟨cs, fr, hg⟩ := row_blk hr e
    have := (Array.getElem?_eq_some_iff.1 hg).1
    omega, hu.trans (Up.alloc _ _)⟩

set_option maxRecDepth 100000 in
set_option maxHeartbeats 4000000 in
theorem refRead_out (w0 : World) (line : ByteArray) (x : Int) (m : Nat) (hs : (line.size : Int) ≤ 500000) (ho : x < 0 ∨ (con (bl line) : Int) < x) :
    Calls Tryd.prog 10 #[.string line, .int .i64 x, .int .u8 (m : Nat)] w0 fun e w' => e = .returned (.tuple #[.slice none 0 0, .int .u8 0]) ∧ Up w0 w' := by
  have HC := Lib.hid (fun w => content_any line w (by omega))
  generalize con (bl line) = n at HC ho
  have hcase : x < 0 ∨ (¬ x < 0 ∧ (n : Int) < x) := by omega
  clear ho
  rcases hcase with g0 | ⟨g0, g1⟩
  case' inr => have g2 : decide (x < 0) = false := decide_eq_false g0
  all_goals
    go_enter Tryd.func10, Tryd.ntmps10
    go_wp2_with (go_at_call 18; ((with_reducible refine (HC.out _).mono ?_); rintro e w1 ⟨rfl, rfl⟩))
    go_ret2
    exact ⟨rfl, Up.refl _⟩
set_option maxRecDepth 100000 in
set_option maxHeartbeats 16000000 in
theorem refRead_bare (w0 : World) (line : ByteArray) (p m : Nat) (hm : m ≠ 39 ∧ m ≠ 34) (hs : (line.size : Int) ≤ 500000) (hp : p ≤ con (bl line)) :
    Calls Tryd.prog 10 #[.string line, .int .i64 (p : Nat), .int .u8 (m : Nat)] w0 fun e w' => (∃ v, e = .returned (.tuple #[v, .int .u8 ((rd (bl line) 0 p).2 : Nat)]) ∧ RowQ w' w0.heap.size v (rd (bl line) 0 p).1) ∧ Up w0 w' := by
  have HC := Lib.hid (fun w => content_any line w (by omega))
  have HO := Lib.hid (fun w q (hq : q ≤ con (bl line)) => refOpC_any w line q hq (by omega))
  have HJ := Lib.hid (fun w q (hq : q < con (bl line)) => join_any line q w (by omega) hq)
  have hcl := con_le (bl line)
  rw [bl_len] at hcl
  obtain ⟨n, hn⟩ : ∃ n, con (bl line) = n := ⟨_, rfl⟩
  rw [hn] at HC HO HJ hcl hp
  have HN := Lib.hid hn
  have HCL := Lib.hid hcl
  have HS := Lib.hid hs
  obtain ⟨PS, hPS⟩ : ∃ PS, (rd (bl line) 0 p).1 = PS := ⟨_, rfl⟩
  obtain ⟨M, hM⟩ : ∃ M, (rd (bl line) 0 p).2 = M := ⟨_, rfl⟩
  rw [hPS, hM]
  have HI0 := Lib.hid (show ([] : List Pc) ++ (rd (bl line) 0 p).1 = PS ∧ (rd (bl line) 0 p).2 = M from ⟨hPS, hM⟩)
  have HPL := Lib.hid (show p ≤ line.size from by omega)
  have g0 : ¬ ((p : Int) < 0) := by omega
  have g1 : ¬ ((n : Int) < (p : Int)) := by omega
  have g2 : decide (n < p) = false := decide_eq_false (by omega)
  have m1 : ((m : Int) != 39) = true := by rw [bne, beq_eq_false_iff_ne.2 (by omega)]; rfl
  have m2 : ((m : Int) != 34) = true := by rw [bne, beq_eq_false_iff_ne.2 (by omega)]; rfl
  clear hs hp hcl hn hm hPS hM
  go_enter Tryd.func10, Tryd.ntmps10
  go_wp2_with (go_at_call 18; ((with_reducible refine (HC.out _).mono ?_); rintro e w1 ⟨rfl, rfl⟩))
  clear g0 g1 g2 m1 m2
  go_loopg [1, 2, 9] (line.size - p) (fun g v1 v2 v9 wr => ∃ (q k : Nat) (ps : List Pc), g = line.size - q ∧ v1 = .int .i64 (q : Nat) ∧ v2 = .int .u8 (k : Nat) ∧ Hid (RowQ wr w0.heap.size v9 ps ∧ Up w0 wr) ∧ Hid (q ≤ line.size ∧ ps.length ≤ q + 1) ∧ Hid (ps ++ (rd (bl line) k q).1 = PS ∧ (rd (bl line) k q).2 = M))
  case atStart => exact ⟨p, 0, [], rfl, rfl, rfl, Lib.hid ⟨World.ownsRow_nil _ _ _ _, Up.refl _⟩, Lib.hid ⟨HPL.out, by simp⟩, HI0⟩
  case round =>
    obtain ⟨q, k, ps, hg, rfl, rfl, HR, HQB, HI⟩ := hrel
    have HG := Lib.hid hg
    clear hg
    obtain ⟨i0, hi0, hz0, hz1, hz2⟩ := info_parts info42
    by_cases hlt : q < n
    · have hlt' : q < con (bl line) := by rw [HN.out]; exact hlt
      obtain ⟨c, hc⟩ : ∃ c, bt line q = c := ⟨_, rfl⟩
      have hql : q < line.size := by have := HCL.out; omega
      have hx : line[q].toNat = c := by rw [bt_eq hql]; exact hc
      have hd : (bl line).drop q = c :: (bl line).drop (q + 1) := by rw [← hc]; exact bl_drop hql
      have p0 : (0 : Int) ≤ (q : Int) := by omega
      have p1 : (q : Int) < line.size := by omega
      have p2 : (q : Int) < (n : Int) := by omega
      have p4 : (0 : Int) ≤ (n : Int) := by omega
      have p5 : (n : Int) ≤ line.size := by have := HCL.out; omega
      have p6 : n ≤ line.size := by have := HCL.out; omega
      have e1 : IntKind.i64.wrap ((q : Int) + 1) = (q : Int) + 1 := IntWalk.i64_in _ (by have := HS.out; omega)
      have hnb := nx_b (mk := k) ps hlt'
      rw [bl_len] at hnb
      have hnb : q < (nxH (bl line) q k ps).1 ∧ (nxH (bl line) q k ps).1 ≤ line.size ∧ (nxH (bl line) q k ps).2.2.length ≤ (nxH (bl line) q k ps).1 + 1 := ⟨hnb.1, hnb.2.1, by have := HQB.out.2; have := hnb.1; have := hnb.2.2; omega⟩
      have hI := rd_all HI.out hlt'
      have HQN := Lib.hid (And.intro hlt hql)
      have hwc : hdW ((bl line).drop q) = isW c := by rw [hd]; rfl
      cases hw : isW c with
      | true =>
        have h2 : c = 32 ∨ (c ≠ 32 ∧ c = 9) := by
          have : c = 32 ∨ c = 9 := by unfold isW at hw; simpa using hw
          omega
        have hnx : nxH (bl line) q k ps = (q + 1, k, ps) := by unfold nxH; rw [if_pos (hwc.trans hw)]
        rw [hnx] at hnb hI
        have HNB2 := Lib.hid hnb
        have HI2 := Lib.hid hI
        clear hnx hnb hI hw hwc hd hlt hlt' hc
        rcases h2 with h | ⟨g1, h⟩
        case' inl => have c32 : ((c : Int) == 32) = true := beq_iff_eq.2 (by omega)
        case' inr => have c32 : ((c : Int) == 32) = false := beq_eq_false_iff_ne.2 (by omega)
        case' inr => have c9 : ((c : Int) == 9) = true := beq_iff_eq.2 (by omega)
        all_goals
          clear h
          go_wp2
          go_roundg (line.size - (q + 1))
          case measure => rw [HG.out]; have := HQN.out; omega
          case rel => exact ⟨q + 1, k, ps, rfl, by go_num, rfl, HR, Lib.hid ⟨HNB2.out.2.1, HNB2.out.2.2⟩, HI2⟩
      | false =>
        rw [hw] at hwc
        have hw' := hwc
        clear hwc
        have h2 : c ≠ 32 ∧ c ≠ 9 := by unfold isW at hw; simpa using hw
        have hw := hw'
        clear hw'
        have c32 : ((c : Int) == 32) = false := beq_eq_false_iff_ne.2 (by omega)
        have c9 : ((c : Int) == 9) = false := beq_eq_false_iff_ne.2 (by omega)
        obtain ⟨ov, hov'⟩ : ∃ ov, opL ((bl line).drop q) = ov := ⟨_, rfl⟩
        obtain ⟨jv, hjv'⟩ : ∃ jv, ((bl line).drop q == [92, 10]) = jv := ⟨_, rfl⟩
        have HOQ := Lib.hid (fun w => by have := HO.out w q (Nat.le_of_lt hlt); rwa [hov'] at this)
        have HJQ := Lib.hid (fun w => by have := HJ.out w q hlt; rwa [hjv'] at this)
        have HOV := Lib.hid hov'
        have HJV := Lib.hid hjv'
        obtain ⟨A, cap, hv⟩ := own_slice HR.out.1
        obtain ⟨kk, hkk⟩ : ∃ kk, ps.length = kk := ⟨_, rfl⟩
        rw [hkk] at hv
        subst hv
        have HKK := Lib.hid hkk
        have hkb : kk ≤ q + 1 := by have := HQB.out.2; omega
        have b1 : kk + 1 ≤ maxLen := by have := HS.out; unfold maxLen; omega
        have b2 : (kk + 1) * 48 ≤ 140737488355328 := by have := HS.out; omega
        have hq := RdQ.new w0 wr #[.int .u8 0, .int .i64 (q : Nat), .int .i64 0, .string ⟨#[]⟩, .bool false, .bool false] HR.out.1 HR.out.2
        clear h2 hov' hjv' hlt' hc hkb hkk
        go_upto_region 18 with fail
        generalize wr.heap.size = bp at hq ⊢
        generalize World.alloc wr (.cells #[.int .u8 0, .int .i64 (q : Nat), .int .i64 0, .string ⟨#[]⟩, .bool false, .bool false] P42) = wa at hq ⊢
        have HQ := Lib.hid hq
        clear hq c32 c9
        have hcase : (c = 35) ∨ (c ≠ 35 ∧ 0 < ov) ∨ (c ≠ 35 ∧ ov = 0 ∧ jv = true) ∨ (c ≠ 35 ∧ ov = 0 ∧ jv = false) := by
          by_cases h1 : c = 35
          · exact .inl h1
          by_cases h2 : 0 < ov
          · exact .inr (.inl ⟨h1, h2⟩)
          cases jv with
          | true => exact .inr (.inr (.inl ⟨h1, by omega, rfl⟩))
          | false => exact .inr (.inr (.inr ⟨h1, by omega, rfl⟩))
        rcases hcase with h35 | ⟨h35, hov⟩ | ⟨h35, hov, rfl⟩ | ⟨h35, hov, rfl⟩
        · clear hlt
          have hnx : nxH (bl line) q k ps = (n, k, ps ++ [⟨53, q, n, [], false, false⟩]) := by unfold nxH; rw [if_neg (by rw [hw]; decide), show tk (bl line) q k = (⟨53, q, n, [], false, false⟩, k) from by unfold tk; rw [if_pos (by rw [hd, h35]; rfl), HN.out]]
          rw [hnx] at hnb hI
          have HNB2 := Lib.hid hnb
          have HI2 := Lib.hid hI
          clear hnx
          have c35 : ((c : Int) == 35) = true := beq_iff_eq.2 (by omega)
          have hq := HQ.out
          have y0 := (hq).cell (k := 0) (u := .int .u8 0) rfl
          have z0 := (hq).fr 0
          have y2 := (hq.set 0 (.int .u8 53)).cell (k := 2) (u := .int .i64 0) rfl
          have z2 := (hq.set 0 (.int .u8 53)).fr 2
          clear h35 hq hd hnb hI hw
          go_upto_region 27 with (fail)
          have HQ2 := Lib.hid (show RdQ w0 ((wa.setCell ⟨bp, 0, none⟩ (.int .u8 53)).setCell ⟨bp, 2, none⟩ (.int .i64 (n : Nat))) bp #[Value.int .u8 53, Value.int .i64 (q : Nat), Value.int .i64 (n : Nat), Value.string ⟨#[]⟩, Value.bool false, Value.bool false] (.slice A kk cap) ps from (HQ.out.set 0 (.int .u8 53)).set 2 (.int .i64 (n : Nat)))
          have k0 := (HQ2.out).cell (k := 0) (u := .int .u8 53) rfl
          have k1 := (HQ2.out).cell (k := 1) (u := .int .i64 (q : Nat)) rfl
          have k2 := (HQ2.out).cell (k := 2) (u := .int .i64 (n : Nat)) rfl
          have k3 := (HQ2.out).cell (k := 3) (u := .string ⟨#[]⟩) rfl
          have k4 := (HQ2.out).cell (k := 4) (u := .bool false) rfl
          have k5 := (HQ2.out).cell (k := 5) (u := .bool false) rfl
          have hkk := HKK.out
          have HOWN := Lib.hid (show ((wa.setCell ⟨bp, 0, none⟩ (.int .u8 53)).setCell ⟨bp, 2, none⟩ (.int .i64 (n : Nat))).ownsRow w0.heap.size P42 6 (.slice A kk cap) kk (pcC ps) from by have h := (HQ2.out).row; unfold RowQ at h; rwa [hkk] at h)
          have HAP := Lib.hid (fun (w5 : World) (v5 : Value) (hg : (((wa.setCell ⟨bp, 0, none⟩ (.int .u8 53)).setCell ⟨bp, 2, none⟩ (.int .i64 (n : Nat))).alloc (.cells #[Value.int .u8 53, Value.int .i64 (q : Nat), Value.int .i64 (n : Nat), Value.string ⟨#[]⟩, Value.bool false, Value.bool false] P42)).grownBy w5 (Value.slice A kk cap).ownBlock) (ho : w5.ownsRow w0.heap.size P42 6 v5 (kk + 1) (pcC ps ++ [Value.int .u8 53, Value.int .i64 (q : Nat), Value.int .i64 (n : Nat), Value.string ⟨#[]⟩, Value.bool false, Value.bool false])) => (HQ2.out).app (x := ⟨53, q, n, [], false, false⟩) (Up.alloc _ _) hg (by rw [hkk]; exact ho))
          have hb0 : w0.heap.size ≤ (((wa.setCell ⟨bp, 0, none⟩ (.int .u8 53)).setCell ⟨bp, 2, none⟩ (.int .i64 (n : Nat))).alloc (.cells #[Value.int .u8 53, Value.int .i64 (q : Nat), Value.int .i64 (n : Nat), Value.string ⟨#[]⟩, Value.bool false, Value.bool false] P42)).heap.size := Nat.le_trans (Below.size (HQ2.out).up) (Below.size (Up.alloc _ _))
          have hnews : ∀ u ∈ [Value.int .u8 53, Value.int .i64 (q : Nat), Value.int .i64 (n : Nat), Value.string ⟨#[]⟩, Value.bool false, Value.bool false], u.oneCell' = true := by intro u hu; simp at hu; rcases hu with rfl | rfl | rfl | rfl | rfl | rfl <;> rfl
          have HNB := Lib.hid (show (((wa.setCell ⟨bp, 0, none⟩ (.int .u8 53)).setCell ⟨bp, 2, none⟩ (.int .i64 (n : Nat))).alloc (.cells #[Value.int .u8 53, Value.int .i64 (q : Nat), Value.int .i64 (n : Nat), Value.string ⟨#[]⟩, Value.bool false, Value.bool false] P42)).heap[(wa).heap.size]? = some (.cells #[Value.int .u8 53, Value.int .i64 (q : Nat), Value.int .i64 (n : Nat), Value.string ⟨#[]⟩, Value.bool false, Value.bool false] P42 (0, 0)) from by have h := heap_alloc_new ((wa.setCell ⟨bp, 0, none⟩ (.int .u8 53)).setCell ⟨bp, 2, none⟩ (.int .i64 (n : Nat))) (.cells #[Value.int .u8 53, Value.int .i64 (q : Nat), Value.int .i64 (n : Nat), Value.string ⟨#[]⟩, Value.bool false, Value.bool false] P42); rwa [show ((wa.setCell ⟨bp, 0, none⟩ (.int .u8 53)).setCell ⟨bp, 2, none⟩ (.int .i64 (n : Nat))).heap.size = (wa).heap.size from by simp] at h)
          clear hkk
          go_wp2_with (at_builtin; go_loud (refine wpList_append_lies _ rfl _ _ 26 rfl w0.heap.size P42 i0 (.agg #[.int .u8 0, .int .i64 0, .int .i64 0, .string ⟨#[]⟩, .bool false, .bool false]) 6 48 Tryd.underlying26 hi0 hz0 hz1 hz2 rfl (by decide) (.slice A kk cap) kk (pcC ps) rfl (HOWN.out.alloc _) ⟨(wa).heap.size, 0, none⟩ 1 1 [Value.int .u8 53, Value.int .i64 (q : Nat), Value.int .i64 (n : Nat), Value.string ⟨#[]⟩, Value.bool false, Value.bool false] rfl rfl (World.news_of_block (cs := #[Value.int .u8 53, Value.int .i64 (q : Nat), Value.int .i64 (n : Nat), Value.string ⟨#[]⟩, Value.bool false, Value.bool false]) (t := P42) (fr := (0, 0)) HNB.out) hnews (by omega) b1 b2 hb0 _ rfl ?_); intro g5 cap5 w5 hown5 hgrow hat5 hlt5; obtain ⟨hr5, hu5, hp5⟩ := HAP.out _ _ hgrow hown5; have HR5 := Lib.hid hr5; have HU5 := Lib.hid hu5; have t2 : w5.cell? ⟨bp, 2, none⟩ = some (.int .i64 (n : Nat)) := cellOf hp5 rfl; clear hr5 hu5 hp5)
          go_roundg (line.size - n)
          case measure => rw [HG.out]; have := HNB2.out; have := HQN.out; omega
          case rel => exact ⟨n, k, ps ++ [⟨53, q, n, [], false, false⟩], rfl, rfl, rfl, Lib.hid ⟨HR5.out, HU5.out⟩, Lib.hid ⟨HNB2.out.2.1, by have := HNB2.out.2.2; exact this⟩, HI2⟩
        · clear hlt
          obtain ⟨e, he⟩ : ∃ e, q + ov = e := ⟨_, rfl⟩
          have hnx : nxH (bl line) q k ps = (e, k, ps ++ [⟨52, q, e, [], false, false⟩]) := by unfold nxH; rw [if_neg (by rw [hw]; decide), show tk (bl line) q k = (⟨52, q, e, [], false, false⟩, k) from by unfold tk; rw [if_neg (by rw [hd]; simpa using h35), if_pos (by rw [HOV.out]; exact hov), HOV.out, he]]
          rw [hnx] at hnb hI
          have HNB2 := Lib.hid hnb
          have HI2 := Lib.hid hI
          clear hnx
          have c35 : ((c : Int) == 35) = false := beq_eq_false_iff_ne.2 (by omega)
          have o1 : (0 : Int) < (ov : Int) := by omega
          have ew : IntKind.i64.wrap ((q : Int) + (ov : Int)) = (e : Nat) := (IntWalk.i64_in _ (by have := HNB2.out.2.1; have := HS.out; omega)).trans (by omega)
          clear h35 hov he hd hnb hI hw
          go_upto_region 27 with (first | (go_at_call 13; ((with_reducible refine (HOQ.out _).mono ?_); rintro e wv ⟨rfl, hu⟩; have HQ := Lib.hid (HQ.out.more hu); have hq := HQ.out; have y0 := (hq).cell (k := 0) (u := .int .u8 0) rfl; have z0 := (hq).fr 0; clear hq; clear hu)) | (go_at_call 13; ((with_reducible refine (HOQ.out _).mono ?_); rintro e wv ⟨rfl, hu⟩; have HQ := Lib.hid ((HQ.out.set 0 (.int .u8 52)).more hu); have y2 := HQ.out.cell (k := 2) (u := .int .i64 0) rfl; have z2 := HQ.out.fr 2; clear hu)))
          have HQ2 := Lib.hid (show RdQ w0 (wv.setCell ⟨bp, 2, none⟩ (.int .i64 (e : Nat))) bp #[Value.int .u8 52, Value.int .i64 (q : Nat), Value.int .i64 (e : Nat), Value.string ⟨#[]⟩, Value.bool false, Value.bool false] (.slice A kk cap) ps from HQ.out.set 2 (.int .i64 (e : Nat)))
          have k0 := (HQ2.out).cell (k := 0) (u := .int .u8 52) rfl
          have k1 := (HQ2.out).cell (k := 1) (u := .int .i64 (q : Nat)) rfl
          have k2 := (HQ2.out).cell (k := 2) (u := .int .i64 (e : Nat)) rfl
          have k3 := (HQ2.out).cell (k := 3) (u := .string ⟨#[]⟩) rfl
          have k4 := (HQ2.out).cell (k := 4) (u := .bool false) rfl
          have k5 := (HQ2.out).cell (k := 5) (u := .bool false) rfl
          have hkk := HKK.out
          have HOWN := Lib.hid (show (wv.setCell ⟨bp, 2, none⟩ (.int .i64 (e : Nat))).ownsRow w0.heap.size P42 6 (.slice A kk cap) kk (pcC ps) from by have h := (HQ2.out).row; unfold RowQ at h; rwa [hkk] at h)
          have HAP := Lib.hid (fun (w5 : World) (v5 : Value) (hg : ((wv.setCell ⟨bp, 2, none⟩ (.int .i64 (e : Nat))).alloc (.cells #[Value.int .u8 52, Value.int .i64 (q : Nat), Value.int .i64 (e : Nat), Value.string ⟨#[]⟩, Value.bool false, Value.bool false] P42)).grownBy w5 (Value.slice A kk cap).ownBlock) (ho : w5.ownsRow w0.heap.size P42 6 v5 (kk + 1) (pcC ps ++ [Value.int .u8 52, Value.int .i64 (q : Nat), Value.int .i64 (e : Nat), Value.string ⟨#[]⟩, Value.bool false, Value.bool false])) => (HQ2.out).app (x := ⟨52, q, e, [], false, false⟩) (Up.alloc _ _) hg (by rw [hkk]; exact ho))
          have hb0 : w0.heap.size ≤ ((wv.setCell ⟨bp, 2, none⟩ (.int .i64 (e : Nat))).alloc (.cells #[Value.int .u8 52, Value.int .i64 (q : Nat), Value.int .i64 (e : Nat), Value.string ⟨#[]⟩, Value.bool false, Value.bool false] P42)).heap.size := Nat.le_trans (Below.size (HQ2.out).up) (Below.size (Up.alloc _ _))
          have hnews : ∀ u ∈ [Value.int .u8 52, Value.int .i64 (q : Nat), Value.int .i64 (e : Nat), Value.string ⟨#[]⟩, Value.bool false, Value.bool false], u.oneCell' = true := by intro u hu; simp at hu; rcases hu with rfl | rfl | rfl | rfl | rfl | rfl <;> rfl
          have HNB := Lib.hid (show ((wv.setCell ⟨bp, 2, none⟩ (.int .i64 (e : Nat))).alloc (.cells #[Value.int .u8 52, Value.int .i64 (q : Nat), Value.int .i64 (e : Nat), Value.string ⟨#[]⟩, Value.bool false, Value.bool false] P42)).heap[(wv).heap.size]? = some (.cells #[Value.int .u8 52, Value.int .i64 (q : Nat), Value.int .i64 (e : Nat), Value.string ⟨#[]⟩, Value.bool false, Value.bool false] P42 (0, 0)) from by have h := heap_alloc_new (wv.setCell ⟨bp, 2, none⟩ (.int .i64 (e : Nat))) (.cells #[Value.int .u8 52, Value.int .i64 (q : Nat), Value.int .i64 (e : Nat), Value.string ⟨#[]⟩, Value.bool false, Value.bool false] P42); rwa [show (wv.setCell ⟨bp, 2, none⟩ (.int .i64 (e : Nat))).heap.size = (wv).heap.size from by simp] at h)
          clear hkk
          go_wp2_with (at_builtin; go_loud (refine wpList_append_lies _ rfl _ _ 26 rfl w0.heap.size P42 i0 (.agg #[.int .u8 0, .int .i64 0, .int .i64 0, .string ⟨#[]⟩, .bool false, .bool false]) 6 48 Tryd.underlying26 hi0 hz0 hz1 hz2 rfl (by decide) (.slice A kk cap) kk (pcC ps) rfl (HOWN.out.alloc _) ⟨(wv).heap.size, 0, none⟩ 1 1 [Value.int .u8 52, Value.int .i64 (q : Nat), Value.int .i64 (e : Nat), Value.string ⟨#[]⟩, Value.bool false, Value.bool false] rfl rfl (World.news_of_block (cs := #[Value.int .u8 52, Value.int .i64 (q : Nat), Value.int .i64 (e : Nat), Value.string ⟨#[]⟩, Value.bool false, Value.bool false]) (t := P42) (fr := (0, 0)) HNB.out) hnews (by omega) b1 b2 hb0 _ rfl ?_); intro g5 cap5 w5 hown5 hgrow hat5 hlt5; obtain ⟨hr5, hu5, hp5⟩ := HAP.out _ _ hgrow hown5; have HR5 := Lib.hid hr5; have HU5 := Lib.hid hu5; have t2 : w5.cell? ⟨bp, 2, none⟩ = some (.int .i64 (e : Nat)) := cellOf hp5 rfl; clear hr5 hu5 hp5)
          go_roundg (line.size - e)
          case measure => rw [HG.out]; have := HNB2.out; have := HQN.out; omega
          case rel => exact ⟨e, k, ps ++ [⟨52, q, e, [], false, false⟩], rfl, rfl, rfl, Lib.hid ⟨HR5.out, HU5.out⟩, Lib.hid ⟨HNB2.out.2.1, by have := HNB2.out.2.2; exact this⟩, HI2⟩
        · clear hlt
          have hnx : nxH (bl line) q k ps = (line.size, k, ps ++ [⟨54, q, line.size, [], false, false⟩]) := by unfold nxH; rw [if_neg (by rw [hw]; decide), show tk (bl line) q k = (⟨54, q, line.size, [], false, false⟩, k) from by unfold tk; rw [if_neg (by rw [hd]; simpa using h35), if_neg (by rw [HOV.out]; omega), if_pos (by have := HJV.out; simpa using this), bl_len]]
          rw [hnx] at hnb hI
          have HNB2 := Lib.hid hnb
          have HI2 := Lib.hid hI
          clear hnx
          have c35 : ((c : Int) == 35) = false := beq_eq_false_iff_ne.2 (by omega)
          have o1 : ¬ ((0 : Int) < (ov : Int)) := by omega
          have o2 : decide ((0 : Int) < (ov : Int)) = false := decide_eq_false o1
          have o3 : decide (0 < ov) = false := decide_eq_false (by omega)
          clear h35 hov hd hnb hI hw
          go_upto_region 27 with (first | (go_at_call 13; ((with_reducible refine (HOQ.out _).mono ?_); rintro e wv ⟨rfl, hu⟩; have HQ := Lib.hid (HQ.out.more hu); have hq := HQ.out; have y0 := (hq).cell (k := 0) (u := .int .u8 0) rfl; have z0 := (hq).fr 0; have y2 := (hq.set 0 (.int .u8 54)).cell (k := 2) (u := .int .i64 0) rfl; have z2 := (hq.set 0 (.int .u8 54)).fr 2; clear hq; clear hu)) | (go_at_call 20; ((with_reducible refine (HJQ.out _).mono ?_); rintro e wz ⟨rfl, rfl⟩)))
          have HQ2 := Lib.hid (show RdQ w0 ((wv.setCell ⟨bp, 0, none⟩ (.int .u8 54)).setCell ⟨bp, 2, none⟩ (.int .i64 (line.size : Nat))) bp #[Value.int .u8 54, Value.int .i64 (q : Nat), Value.int .i64 (line.size : Nat), Value.string ⟨#[]⟩, Value.bool false, Value.bool false] (.slice A kk cap) ps from (HQ.out.set 0 (.int .u8 54)).set 2 (.int .i64 (line.size : Nat)))
          have k0 := (HQ2.out).cell (k := 0) (u := .int .u8 54) rfl
          have k1 := (HQ2.out).cell (k := 1) (u := .int .i64 (q : Nat)) rfl
          have k2 := (HQ2.out).cell (k := 2) (u := .int .i64 (line.size : Nat)) rfl
          have k3 := (HQ2.out).cell (k := 3) (u := .string ⟨#[]⟩) rfl
          have k4 := (HQ2.out).cell (k := 4) (u := .bool false) rfl
          have k5 := (HQ2.out).cell (k := 5) (u := .bool false) rfl
          have hkk := HKK.out
          have HOWN := Lib.hid (show ((wv.setCell ⟨bp, 0, none⟩ (.int .u8 54)).setCell ⟨bp, 2, none⟩ (.int .i64 (line.size : Nat))).ownsRow w0.heap.size P42 6 (.slice A kk cap) kk (pcC ps) from by have h := (HQ2.out).row; unfold RowQ at h; rwa [hkk] at h)
          have HAP := Lib.hid (fun (w5 : World) (v5 : Value) (hg : (((wv.setCell ⟨bp, 0, none⟩ (.int .u8 54)).setCell ⟨bp, 2, none⟩ (.int .i64 (line.size : Nat))).alloc (.cells #[Value.int .u8 54, Value.int .i64 (q : Nat), Value.int .i64 (line.size : Nat), Value.string ⟨#[]⟩, Value.bool false, Value.bool false] P42)).grownBy w5 (Value.slice A kk cap).ownBlock) (ho : w5.ownsRow w0.heap.size P42 6 v5 (kk + 1) (pcC ps ++ [Value.int .u8 54, Value.int .i64 (q : Nat), Value.int .i64 (line.size : Nat), Value.string ⟨#[]⟩, Value.bool false, Value.bool false])) => (HQ2.out).app (x := ⟨54, q, line.size, [], false, false⟩) (Up.alloc _ _) hg (by rw [hkk]; exact ho))
          have hb0 : w0.heap.size ≤ (((wv.setCell ⟨bp, 0, none⟩ (.int .u8 54)).setCell ⟨bp, 2, none⟩ (.int .i64 (line.size : Nat))).alloc (.cells #[Value.int .u8 54, Value.int .i64 (q : Nat), Value.int .i64 (line.size : Nat), Value.string ⟨#[]⟩, Value.bool false, Value.bool false] P42)).heap.size := Nat.le_trans (Below.size (HQ2.out).up) (Below.size (Up.alloc _ _))
          have hnews : ∀ u ∈ [Value.int .u8 54, Value.int .i64 (q : Nat), Value.int .i64 (line.size : Nat), Value.string ⟨#[]⟩, Value.bool false, Value.bool false], u.oneCell' = true := by intro u hu; simp at hu; rcases hu with rfl | rfl | rfl | rfl | rfl | rfl <;> rfl
          have HNB := Lib.hid (show (((wv.setCell ⟨bp, 0, none⟩ (.int .u8 54)).setCell ⟨bp, 2, none⟩ (.int .i64 (line.size : Nat))).alloc (.cells #[Value.int .u8 54, Value.int .i64 (q : Nat), Value.int .i64 (line.size : Nat), Value.string ⟨#[]⟩, Value.bool false, Value.bool false] P42)).heap[(wv).heap.size]? = some (.cells #[Value.int .u8 54, Value.int .i64 (q : Nat), Value.int .i64 (line.size : Nat), Value.string ⟨#[]⟩, Value.bool false, Value.bool false] P42 (0, 0)) from by have h := heap_alloc_new ((wv.setCell ⟨bp, 0, none⟩ (.int .u8 54)).setCell ⟨bp, 2, none⟩ (.int .i64 (line.size : Nat))) (.cells #[Value.int .u8 54, Value.int .i64 (q : Nat), Value.int .i64 (line.size : Nat), Value.string ⟨#[]⟩, Value.bool false, Value.bool false] P42); rwa [show ((wv.setCell ⟨bp, 0, none⟩ (.int .u8 54)).setCell ⟨bp, 2, none⟩ (.int .i64 (line.size : Nat))).heap.size = (wv).heap.size from by simp] at h)
          clear hkk
          go_wp2_with (at_builtin; go_loud (refine wpList_append_lies _ rfl _ _ 26 rfl w0.heap.size P42 i0 (.agg #[.int .u8 0, .int .i64 0, .int .i64 0, .string ⟨#[]⟩, .bool false, .bool false]) 6 48 Tryd.underlying26 hi0 hz0 hz1 hz2 rfl (by decide) (.slice A kk cap) kk (pcC ps) rfl (HOWN.out.alloc _) ⟨(wv).heap.size, 0, none⟩ 1 1 [Value.int .u8 54, Value.int .i64 (q : Nat), Value.int .i64 (line.size : Nat), Value.string ⟨#[]⟩, Value.bool false, Value.bool false] rfl rfl (World.news_of_block (cs := #[Value.int .u8 54, Value.int .i64 (q : Nat), Value.int .i64 (line.size : Nat), Value.string ⟨#[]⟩, Value.bool false, Value.bool false]) (t := P42) (fr := (0, 0)) HNB.out) hnews (by omega) b1 b2 hb0 _ rfl ?_); intro g5 cap5 w5 hown5 hgrow hat5 hlt5; obtain ⟨hr5, hu5, hp5⟩ := HAP.out _ _ hgrow hown5; have HR5 := Lib.hid hr5; have HU5 := Lib.hid hu5; have t2 : w5.cell? ⟨bp, 2, none⟩ = some (.int .i64 (line.size : Nat)) := cellOf hp5 rfl; clear hr5 hu5 hp5)
          go_roundg (line.size - line.size)
          case measure => rw [HG.out]; have := HNB2.out; have := HQN.out; omega
          case rel => exact ⟨line.size, k, ps ++ [⟨54, q, line.size, [], false, false⟩], rfl, rfl, rfl, Lib.hid ⟨HR5.out, HU5.out⟩, Lib.hid ⟨HNB2.out.2.1, by have := HNB2.out.2.2; exact this⟩, HI2⟩
        · have HWQ := Lib.hid (fun w => refWord_any w line q 0 (.inl rfl) HS.out (by rw [HN.out]; exact Nat.le_of_lt hlt))
          clear hlt
          generalize hXX : wpc (bl line) q 0 = XX at HWQ
          generalize hmw : (wd 0 ((bl line).drop q)).2.2 = mw at HWQ
          obtain ⟨kd, xa, xb, tx, rw1, wh1⟩ := XX
          have HWQ := Lib.hid (fun w => (show Calls Tryd.prog 19 #[.string line, .int .i64 (q : Nat), .int .u8 0] w fun e w' => e = .returned (.tuple #[.agg #[.int .u8 (kd : Nat), .int .i64 (xa : Nat), .int .i64 (xb : Nat), .string (toB tx), .bool rw1, .bool wh1], .int .u8 (mw : Nat)]) ∧ Up w w' from HWQ.out w))
          have hnx : nxH (bl line) q k ps = (xb, mw, ps ++ [⟨kd, xa, xb, tx, rw1, wh1⟩]) := by unfold nxH; rw [if_neg (by rw [hw]; decide), show tk (bl line) q k = (⟨kd, xa, xb, tx, rw1, wh1⟩, mw) from by unfold tk; rw [if_neg (by rw [hd]; simpa using h35), if_neg (by rw [HOV.out]; omega), if_neg (by have := HJV.out; simpa using this), hXX, hmw]]
          rw [hnx] at hnb hI
          have HNB2 := Lib.hid hnb
          have HI2 := Lib.hid hI
          clear hnx
          have c35 : ((c : Int) == 35) = false := beq_eq_false_iff_ne.2 (by omega)
          have o1 : ¬ ((0 : Int) < (ov : Int)) := by omega
          have o2 : decide ((0 : Int) < (ov : Int)) = false := decide_eq_false o1
          have o3 : decide (0 < ov) = false := decide_eq_false (by omega)
          clear h35 hov hXX hmw hd hnb hI hw
          go_upto_region 27 with (first | (go_at_call 13; ((with_reducible refine (HOQ.out _).mono ?_); rintro e wv ⟨rfl, hu⟩; have HQ := Lib.hid (HQ.out.more hu); clear hu)) | (go_at_call 20; ((with_reducible refine (HJQ.out _).mono ?_); rintro e wz ⟨rfl, rfl⟩)) | (go_at_call 19; ((with_reducible refine (HWQ.out _).mono ?_); rintro e wx ⟨rfl, hu⟩; have HQ := Lib.hid (HQ.out.more hu); have hq := HQ.out; have y0 := (hq).cell (k := 0) (u := .int .u8 0) rfl; have z0 := (hq).fr 0; have y1 := (hq).cell (k := 1) (u := .int .i64 (q : Nat)) rfl; have z1 := (hq).fr 1; have y2 := (hq).cell (k := 2) (u := .int .i64 0) rfl; have z2 := (hq).fr 2; have y3 := (hq).cell (k := 3) (u := .string ⟨#[]⟩) rfl; have z3 := (hq).fr 3; have y4 := (hq).cell (k := 4) (u := .bool false) rfl; have z4 := (hq).fr 4; have y5 := (hq).cell (k := 5) (u := .bool false) rfl; have z5 := (hq).fr 5; clear hu hq)))
          have HQ2 := Lib.hid (show RdQ w0 ((((((wx.setCell ⟨bp, 0, none⟩ (.int .u8 (kd : Nat))).setCell ⟨bp, 1, none⟩ (.int .i64 (xa : Nat))).setCell ⟨bp, 2, none⟩ (.int .i64 (xb : Nat))).setCell ⟨bp, 3, none⟩ (.string (toB tx))).setCell ⟨bp, 4, none⟩ (.bool rw1)).setCell ⟨bp, 5, none⟩ (.bool wh1)) bp #[Value.int .u8 (kd : Nat), Value.int .i64 (xa : Nat), Value.int .i64 (xb : Nat), Value.string (toB tx), Value.bool rw1, Value.bool wh1] (.slice A kk cap) ps from (((((HQ.out.set 0 (.int .u8 (kd : Nat))).set 1 (.int .i64 (xa : Nat))).set 2 (.int .i64 (xb : Nat))).set 3 (.string (toB tx))).set 4 (.bool rw1)).set 5 (.bool wh1))
          have k0 := (HQ2.out).cell (k := 0) (u := .int .u8 (kd : Nat)) rfl
          have k1 := (HQ2.out).cell (k := 1) (u := .int .i64 (xa : Nat)) rfl
          have k2 := (HQ2.out).cell (k := 2) (u := .int .i64 (xb : Nat)) rfl
          have k3 := (HQ2.out).cell (k := 3) (u := .string (toB tx)) rfl
          have k4 := (HQ2.out).cell (k := 4) (u := .bool rw1) rfl
          have k5 := (HQ2.out).cell (k := 5) (u := .bool wh1) rfl
          have hkk := HKK.out
          have HOWN := Lib.hid (show ((((((wx.setCell ⟨bp, 0, none⟩ (.int .u8 (kd : Nat))).setCell ⟨bp, 1, none⟩ (.int .i64 (xa : Nat))).setCell ⟨bp, 2, none⟩ (.int .i64 (xb : Nat))).setCell ⟨bp, 3, none⟩ (.string (toB tx))).setCell ⟨bp, 4, none⟩ (.bool rw1)).setCell ⟨bp, 5, none⟩ (.bool wh1)).ownsRow w0.heap.size P42 6 (.slice A kk cap) kk (pcC ps) from by have h := (HQ2.out).row; unfold RowQ at h; rwa [hkk] at h)
          have HAP := Lib.hid (fun (w5 : World) (v5 : Value) (hg : (((((((wx.setCell ⟨bp, 0, none⟩ (.int .u8 (kd : Nat))).setCell ⟨bp, 1, none⟩ (.int .i64 (xa : Nat))).setCell ⟨bp, 2, none⟩ (.int .i64 (xb : Nat))).setCell ⟨bp, 3, none⟩ (.string (toB tx))).setCell ⟨bp, 4, none⟩ (.bool rw1)).setCell ⟨bp, 5, none⟩ (.bool wh1)).alloc (.cells #[Value.int .u8 (kd : Nat), Value.int .i64 (xa : Nat), Value.int .i64 (xb : Nat), Value.string (toB tx), Value.bool rw1, Value.bool wh1] P42)).grownBy w5 (Value.slice A kk cap).ownBlock) (ho : w5.ownsRow w0.heap.size P42 6 v5 (kk + 1) (pcC ps ++ [Value.int .u8 (kd : Nat), Value.int .i64 (xa : Nat), Value.int .i64 (xb : Nat), Value.string (toB tx), Value.bool rw1, Value.bool wh1])) => (HQ2.out).app (x := ⟨kd, xa, xb, tx, rw1, wh1⟩) (Up.alloc _ _) hg (by rw [hkk]; exact ho))
          have hb0 : w0.heap.size ≤ (((((((wx.setCell ⟨bp, 0, none⟩ (.int .u8 (kd : Nat))).setCell ⟨bp, 1, none⟩ (.int .i64 (xa : Nat))).setCell ⟨bp, 2, none⟩ (.int .i64 (xb : Nat))).setCell ⟨bp, 3, none⟩ (.string (toB tx))).setCell ⟨bp, 4, none⟩ (.bool rw1)).setCell ⟨bp, 5, none⟩ (.bool wh1)).alloc (.cells #[Value.int .u8 (kd : Nat), Value.int .i64 (xa : Nat), Value.int .i64 (xb : Nat), Value.string (toB tx), Value.bool rw1, Value.bool wh1] P42)).heap.size := Nat.le_trans (Below.size (HQ2.out).up) (Below.size (Up.alloc _ _))
          have hnews : ∀ u ∈ [Value.int .u8 (kd : Nat), Value.int .i64 (xa : Nat), Value.int .i64 (xb : Nat), Value.string (toB tx), Value.bool rw1, Value.bool wh1], u.oneCell' = true := by intro u hu; simp at hu; rcases hu with rfl | rfl | rfl | rfl | rfl | rfl <;> rfl
          have HNB := Lib.hid (show (((((((wx.setCell ⟨bp, 0, none⟩ (.int .u8 (kd : Nat))).setCell ⟨bp, 1, none⟩ (.int .i64 (xa : Nat))).setCell ⟨bp, 2, none⟩ (.int .i64 (xb : Nat))).setCell ⟨bp, 3, none⟩ (.string (toB tx))).setCell ⟨bp, 4, none⟩ (.bool rw1)).setCell ⟨bp, 5, none⟩ (.bool wh1)).alloc (.cells #[Value.int .u8 (kd : Nat), Value.int .i64 (xa : Nat), Value.int .i64 (xb : Nat), Value.string (toB tx), Value.bool rw1, Value.bool wh1] P42)).heap[(wx).heap.size]? = some (.cells #[Value.int .u8 (kd : Nat), Value.int .i64 (xa : Nat), Value.int .i64 (xb : Nat), Value.string (toB tx), Value.bool rw1, Value.bool wh1] P42 (0, 0)) from by have h := heap_alloc_new ((((((wx.setCell ⟨bp, 0, none⟩ (.int .u8 (kd : Nat))).setCell ⟨bp, 1, none⟩ (.int .i64 (xa : Nat))).setCell ⟨bp, 2, none⟩ (.int .i64 (xb : Nat))).setCell ⟨bp, 3, none⟩ (.string (toB tx))).setCell ⟨bp, 4, none⟩ (.bool rw1)).setCell ⟨bp, 5, none⟩ (.bool wh1)) (.cells #[Value.int .u8 (kd : Nat), Value.int .i64 (xa : Nat), Value.int .i64 (xb : Nat), Value.string (toB tx), Value.bool rw1, Value.bool wh1] P42); rwa [show ((((((wx.setCell ⟨bp, 0, none⟩ (.int .u8 (kd : Nat))).setCell ⟨bp, 1, none⟩ (.int .i64 (xa : Nat))).setCell ⟨bp, 2, none⟩ (.int .i64 (xb : Nat))).setCell ⟨bp, 3, none⟩ (.string (toB tx))).setCell ⟨bp, 4, none⟩ (.bool rw1)).setCell ⟨bp, 5, none⟩ (.bool wh1)).heap.size = (wx).heap.size from by simp] at h)
          clear hkk
          go_wp2_with (at_builtin; go_loud (refine wpList_append_lies _ rfl _ _ 26 rfl w0.heap.size P42 i0 (.agg #[.int .u8 0, .int .i64 0, .int .i64 0, .string ⟨#[]⟩, .bool false, .bool false]) 6 48 Tryd.underlying26 hi0 hz0 hz1 hz2 rfl (by decide) (.slice A kk cap) kk (pcC ps) rfl (HOWN.out.alloc _) ⟨(wx).heap.size, 0, none⟩ 1 1 [Value.int .u8 (kd : Nat), Value.int .i64 (xa : Nat), Value.int .i64 (xb : Nat), Value.string (toB tx), Value.bool rw1, Value.bool wh1] rfl rfl (World.news_of_block (cs := #[Value.int .u8 (kd : Nat), Value.int .i64 (xa : Nat), Value.int .i64 (xb : Nat), Value.string (toB tx), Value.bool rw1, Value.bool wh1]) (t := P42) (fr := (0, 0)) HNB.out) hnews (by omega) b1 b2 hb0 _ rfl ?_); intro g5 cap5 w5 hown5 hgrow hat5 hlt5; obtain ⟨hr5, hu5, hp5⟩ := HAP.out _ _ hgrow hown5; have HR5 := Lib.hid hr5; have HU5 := Lib.hid hu5; have t2 : w5.cell? ⟨bp, 2, none⟩ = some (.int .i64 (xb : Nat)) := cellOf hp5 rfl; clear hr5 hu5 hp5)
          go_roundg (line.size - xb)
          case measure => rw [HG.out]; have := HNB2.out; have := HQN.out; omega
          case rel => exact ⟨xb, mw, ps ++ [⟨kd, xa, xb, tx, rw1, wh1⟩], rfl, rfl, rfl, Lib.hid ⟨HR5.out, HU5.out⟩, Lib.hid ⟨HNB2.out.2.1, by have := HNB2.out.2.2; exact this⟩, HI2⟩
    · have hqn : con (bl line) ≤ q := by rw [HN.out]; omega
      have hI := HI.out
      rw [rd_end hqn] at hI
      simp only [List.append_nil] at hI
      have l1 : ¬ ((q : Int) < (n : Int)) := by omega
      obtain ⟨hI1, hI2⟩ := hI
      subst hI1
      subst hI2
      clear hqn hlt HI HG
      go_wp2
      go_ret2
      exact ⟨⟨_, rfl, HR.out.1⟩, HR.out.2⟩
set_option maxRecDepth 100000 in
set_option maxHeartbeats 16000000 in
theorem refRead_sgn (w0 : World) (line : ByteArray) (p m : Nat) (hm : m = 39 ∨ m = 34) (hs : (line.size : Int) ≤ 500000) (hp : p ≤ con (bl line)) :
    Calls Tryd.prog 10 #[.string line, .int .i64 (p : Nat), .int .u8 (m : Nat)] w0 fun e w' => (∃ v, e = .returned (.tuple #[v, .int .u8 ((rd (bl line) (wd m ((bl line).drop p)).2.2 (wpc (bl line) p m).b).2 : Nat)]) ∧ RowQ w' w0.heap.size v ([wpc (bl line) p m] ++ (rd (bl line) (wd m ((bl line).drop p)).2.2 (wpc (bl line) p m).b).1)) ∧ Up w0 w' := by
  have HC := Lib.hid (fun w => content_any line w (by omega))
  have HO := Lib.hid (fun w q (hq : q ≤ con (bl line)) => refOpC_any w line q hq (by omega))
  have HJ := Lib.hid (fun w q (hq : q < con (bl line)) => join_any line q w (by omega) hq)
  have HWQ := Lib.hid (refWord_any w0 line p m (.inr hm) hs hp)
  have hcl := con_le (bl line)
  rw [bl_len] at hcl
  obtain ⟨n, hn⟩ : ∃ n, con (bl line) = n := ⟨_, rfl⟩
  have hwb : (wpc (bl line) p m).b ≤ line.size := by
    have hal := wd_all n m ((bl line).drop p) (by rw [con_drop p _ hp]; omega) (.inr hm)
    rw [con_drop p _ hp] at hal
    unfold wpc
    rw [bl_len]
    simp only []
    split <;> omega
  rw [hn] at HC HO HJ hcl hp
  have HN := Lib.hid hn
  have HCL := Lib.hid hcl
  have HS := Lib.hid hs
  generalize wpc (bl line) p m = XX at HWQ hwb ⊢
  generalize (wd m ((bl line).drop p)).2.2 = mw at HWQ ⊢
  obtain ⟨kd, xa, xb, tx, rw1, wh1⟩ := XX
  simp only [] at hwb ⊢
  have HWQ := Lib.hid (show Calls Tryd.prog 19 #[.string line, .int .i64 (p : Nat), .int .u8 (m : Nat)] w0 fun e w' => e = .returned (.tuple #[.agg #[.int .u8 (kd : Nat), .int .i64 (xa : Nat), .int .i64 (xb : Nat), .string (toB tx), .bool rw1, .bool wh1], .int .u8 (mw : Nat)]) ∧ Up w0 w' from HWQ.out)
  obtain ⟨PS, hPS⟩ : ∃ PS, [(⟨kd, xa, xb, tx, rw1, wh1⟩ : Pc)] ++ (rd (bl line) mw xb).1 = PS := ⟨_, rfl⟩
  obtain ⟨M, hM⟩ : ∃ M, (rd (bl line) mw xb).2 = M := ⟨_, rfl⟩
  rw [hPS, hM]
  have HI0 := Lib.hid (show [(⟨kd, xa, xb, tx, rw1, wh1⟩ : Pc)] ++ (rd (bl line) mw xb).1 = PS ∧ (rd (bl line) mw xb).2 = M from ⟨hPS, hM⟩)
  have HXB := Lib.hid hwb
  have g0 : ¬ ((p : Int) < 0) := by omega
  have g1 : ¬ ((n : Int) < (p : Int)) := by omega
  have g2 : decide (n < p) = false := decide_eq_false (by omega)
  have m0 : ((m : Int) != 0) = true := by rw [bne, beq_eq_false_iff_ne.2 (by omega)]; rfl
  have hmm : m = 39 ∨ (m ≠ 39 ∧ m = 34) := by omega
  clear hs hp hcl hn hm hPS hM hwb
  rcases hmm with h | ⟨h1, h⟩
  case' inl => have m1 : ((m : Int) != 39) = false := by rw [bne, beq_iff_eq.2 (by omega)]; rfl
  case' inr => have m1 : ((m : Int) != 39) = true := by rw [bne, beq_eq_false_iff_ne.2 (by omega)]; rfl
  case' inr => have m2 : ((m : Int) != 34) = false := by rw [bne, beq_iff_eq.2 (by omega)]; rfl
  all_goals
    clear h
    go_enter Tryd.func10, Tryd.ntmps10
    go_upto_region 9 with (first
      | (go_at_call 18; ((with_reducible refine (HC.out _).mono ?_); rintro e w1 ⟨rfl, rfl⟩))
      | (go_at_call 19; ((with_reducible refine (HWQ.out).mono ?_); rintro e wx ⟨rfl, hu⟩; have HUX := Lib.hid hu; clear hu)))
    clear g0 g1 g2 m0 m1
    have hq := RdQ.new w0 wx #[Value.int .u8 (kd : Nat), Value.int .i64 (xa : Nat), Value.int .i64 (xb : Nat), Value.string (toB tx), Value.bool rw1, Value.bool wh1] (v := .slice none 0 0) (ps := []) (World.ownsRow_nil _ _ _ _) HUX.out
    generalize wx.heap.size = bp at hq ⊢
    generalize World.alloc wx (.cells #[Value.int .u8 (kd : Nat), Value.int .i64 (xa : Nat), Value.int .i64 (xb : Nat), Value.string (toB tx), Value.bool rw1, Value.bool wh1] P42) = wa at hq ⊢
    obtain ⟨i0, hi0, hz0, hz1, hz2⟩ := info_parts info42
    have k0 := (hq).cell (k := 0) (u := .int .u8 (kd : Nat)) rfl
    have k1 := (hq).cell (k := 1) (u := .int .i64 (xa : Nat)) rfl
    have k2 := (hq).cell (k := 2) (u := .int .i64 (xb : Nat)) rfl
    have k3 := (hq).cell (k := 3) (u := .string (toB tx)) rfl
    have k4 := (hq).cell (k := 4) (u := .bool rw1) rfl
    have k5 := (hq).cell (k := 5) (u := .bool wh1) rfl
    have HQ := Lib.hid hq
    clear hq
    have b1 : 0 + 1 ≤ maxLen := by unfold maxLen; omega
    have b2 : (0 + 1) * 48 ≤ 140737488355328 := by omega
    have HOWN := Lib.hid (show wa.ownsRow w0.heap.size P42 6 (.slice none 0 0) 0 (pcC []) from World.ownsRow_nil _ _ _ _)
    have HAP := Lib.hid (fun (w5 : World) (v5 : Value) (hg : (wa.alloc (.cells #[Value.int .u8 (kd : Nat), Value.int .i64 (xa : Nat), Value.int .i64 (xb : Nat), Value.string (toB tx), Value.bool rw1, Value.bool wh1] P42)).grownBy w5 (Value.slice none 0 0).ownBlock) (ho : w5.ownsRow w0.heap.size P42 6 v5 (0 + 1) (pcC [] ++ [Value.int .u8 (kd : Nat), Value.int .i64 (xa : Nat), Value.int .i64 (xb : Nat), Value.string (toB tx), Value.bool rw1, Value.bool wh1])) => HQ.out.app (x := ⟨kd, xa, xb, tx, rw1, wh1⟩) (Up.alloc _ _) hg ho)
    have hb0 : w0.heap.size ≤ (wa.alloc (.cells #[Value.int .u8 (kd : Nat), Value.int .i64 (xa : Nat), Value.int .i64 (xb : Nat), Value.string (toB tx), Value.bool rw1, Value.bool wh1] P42)).heap.size := Nat.le_trans (Below.size HQ.out.up) (Below.size (Up.alloc _ _))
    have hnews : ∀ u ∈ [Value.int .u8 (kd : Nat), Value.int .i64 (xa : Nat), Value.int .i64 (xb : Nat), Value.string (toB tx), Value.bool rw1, Value.bool wh1], u.oneCell' = true := by intro u hu; simp at hu; rcases hu with rfl | rfl | rfl | rfl | rfl | rfl <;> rfl
    have HNB := Lib.hid (heap_alloc_new wa (.cells #[Value.int .u8 (kd : Nat), Value.int .i64 (xa : Nat), Value.int .i64 (xb : Nat), Value.string (toB tx), Value.bool rw1, Value.bool wh1] P42))
    go_wp2_with (at_builtin; go_loud (refine wpList_append_lies _ rfl _ _ 26 rfl w0.heap.size P42 i0 (.agg #[.int .u8 0, .int .i64 0, .int .i64 0, .string ⟨#[]⟩, .bool false, .bool false]) 6 48 Tryd.underlying26 hi0 hz0 hz1 hz2 rfl (by decide) (.slice none 0 0) 0 (pcC []) rfl (HOWN.out.alloc _) ⟨wa.heap.size, 0, none⟩ 1 1 [Value.int .u8 (kd : Nat), Value.int .i64 (xa : Nat), Value.int .i64 (xb : Nat), Value.string (toB tx), Value.bool rw1, Value.bool wh1] rfl rfl (World.news_of_block (cs := #[Value.int .u8 (kd : Nat), Value.int .i64 (xa : Nat), Value.int .i64 (xb : Nat), Value.string (toB tx), Value.bool rw1, Value.bool wh1]) (t := P42) (fr := (0, 0)) HNB.out) hnews (by omega) b1 b2 hb0 _ rfl ?_); intro g5 cap5 w5 hown5 hgrow hat5 hlt5; obtain ⟨hr5, hu5, hp5⟩ := HAP.out _ _ hgrow hown5; have HR5 := Lib.hid hr5; have HU5 := Lib.hid hu5; have t2 : w5.cell? ⟨bp, 2, none⟩ = some (.int .i64 (xb : Nat)) := cellOf hp5 rfl; clear hr5 hu5 hp5 hown5 hgrow hat5 hlt5)
    clear t2 HOWN HAP hb0 hnews HNB b1 b2 k0 k1 k2 k3 k4 k5 hi0 hz0 hz1 hz2
    go_loopg [1, 2, 9] (line.size - xb) (fun g v1 v2 v9 wr => ∃ (q k : Nat) (ps : List Pc), g = line.size - q ∧ v1 = .int .i64 (q : Nat) ∧ v2 = .int .u8 (k : Nat) ∧ Hid (RowQ wr w0.heap.size v9 ps ∧ Up w0 wr) ∧ Hid (q ≤ line.size ∧ ps.length ≤ q + 1) ∧ Hid (ps ++ (rd (bl line) k q).1 = PS ∧ (rd (bl line) k q).2 = M))
    case atStart => exact ⟨xb, mw, [⟨kd, xa, xb, tx, rw1, wh1⟩], rfl, rfl, rfl, Lib.hid ⟨HR5.out, HU5.out⟩, Lib.hid ⟨HXB.out, by simp⟩, HI0⟩
    case round =>
      obtain ⟨q, k, ps, hg, rfl, rfl, HR, HQB, HI⟩ := hrel
      have HG := Lib.hid hg
      clear hg
      obtain ⟨i0, hi0, hz0, hz1, hz2⟩ := info_parts info42
      by_cases hlt : q < n
      · have hlt' : q < con (bl line) := by rw [HN.out]; exact hlt
        obtain ⟨c, hc⟩ : ∃ c, bt line q = c := ⟨_, rfl⟩
        have hql : q < line.size := by have := HCL.out; omega
        have hx : line[q].toNat = c := by rw [bt_eq hql]; exact hc
        have hd : (bl line).drop q = c :: (bl line).drop (q + 1) := by rw [← hc]; exact bl_drop hql
        have p0 : (0 : Int) ≤ (q : Int) := by omega
        have p1 : (q : Int) < line.size := by omega
        have p2 : (q : Int) < (n : Int) := by omega
        have p4 : (0 : Int) ≤ (n : Int) := by omega
        have p5 : (n : Int) ≤ line.size := by have := HCL.out; omega
        have p6 : n ≤ line.size := by have := HCL.out; omega
        have e1 : IntKind.i64.wrap ((q : Int) + 1) = (q : Int) + 1 := IntWalk.i64_in _ (by have := HS.out; omega)
        have hnb := nx_b (mk := k) ps hlt'
        rw [bl_len] at hnb
        have hnb : q < (nxH (bl line) q k ps).1 ∧ (nxH (bl line) q k ps).1 ≤ line.size ∧ (nxH (bl line) q k ps).2.2.length ≤ (nxH (bl line) q k ps).1 + 1 := ⟨hnb.1, hnb.2.1, by have := HQB.out.2; have := hnb.1; have := hnb.2.2; omega⟩
        have hI := rd_all HI.out hlt'
        have HQN := Lib.hid (And.intro hlt hql)
        have hwc : hdW ((bl line).drop q) = isW c := by rw [hd]; rfl
        cases hw : isW c with
        | true =>
          have h2 : c = 32 ∨ (c ≠ 32 ∧ c = 9) := by
            have : c = 32 ∨ c = 9 := by unfold isW at hw; simpa using hw
            omega
          have hnx : nxH (bl line) q k ps = (q + 1, k, ps) := by unfold nxH; rw [if_pos (hwc.trans hw)]
          rw [hnx] at hnb hI
          have HNB2 := Lib.hid hnb
          have HI2 := Lib.hid hI
          clear hnx hnb hI hw hwc hd hlt hlt' hc
          rcases h2 with h | ⟨g1, h⟩
          case' inl => have c32 : ((c : Int) == 32) = true := beq_iff_eq.2 (by omega)
          case' inr => have c32 : ((c : Int) == 32) = false := beq_eq_false_iff_ne.2 (by omega)
          case' inr => have c9 : ((c : Int) == 9) = true := beq_iff_eq.2 (by omega)
          all_goals
            clear h
            go_wp2
            go_roundg (line.size - (q + 1))
            case measure => rw [HG.out]; have := HQN.out; omega
            case rel => exact ⟨q + 1, k, ps, rfl, by go_num, rfl, HR, Lib.hid ⟨HNB2.out.2.1, HNB2.out.2.2⟩, HI2⟩
        | false =>
          rw [hw] at hwc
          have hw' := hwc
          clear hwc
          have h2 : c ≠ 32 ∧ c ≠ 9 := by unfold isW at hw; simpa using hw
          have hw := hw'
          clear hw'
          have c32 : ((c : Int) == 32) = false := beq_eq_false_iff_ne.2 (by omega)
          have c9 : ((c : Int) == 9) = false := beq_eq_false_iff_ne.2 (by omega)
          obtain ⟨ov, hov'⟩ : ∃ ov, opL ((bl line).drop q) = ov := ⟨_, rfl⟩
          obtain ⟨jv, hjv'⟩ : ∃ jv, ((bl line).drop q == [92, 10]) = jv := ⟨_, rfl⟩
          have HOQ := Lib.hid (fun w => by have := HO.out w q (Nat.le_of_lt hlt); rwa [hov'] at this)
          have HJQ := Lib.hid (fun w => by have := HJ.out w q hlt; rwa [hjv'] at this)
          have HOV := Lib.hid hov'
          have HJV := Lib.hid hjv'
          obtain ⟨A, cap, hv⟩ := own_slice HR.out.1
          obtain ⟨kk, hkk⟩ : ∃ kk, ps.length = kk := ⟨_, rfl⟩
          rw [hkk] at hv
          subst hv
          have HKK := Lib.hid hkk
          have hkb : kk ≤ q + 1 := by have := HQB.out.2; omega
          have b1 : kk + 1 ≤ maxLen := by have := HS.out; unfold maxLen; omega
          have b2 : (kk + 1) * 48 ≤ 140737488355328 := by have := HS.out; omega
          have hq := RdQ.new w0 wr #[.int .u8 0, .int .i64 (q : Nat), .int .i64 0, .string ⟨#[]⟩, .bool false, .bool false] HR.out.1 HR.out.2
          clear h2 hov' hjv' hlt' hc hkb hkk
          go_upto_region 18 with fail
          generalize wr.heap.size = bp at hq ⊢
          generalize World.alloc wr (.cells #[.int .u8 0, .int .i64 (q : Nat), .int .i64 0, .string ⟨#[]⟩, .bool false, .bool false] P42) = wa at hq ⊢
          have HQ := Lib.hid hq
          clear hq c32 c9
          have hcase : (c = 35) ∨ (c ≠ 35 ∧ 0 < ov) ∨ (c ≠ 35 ∧ ov = 0 ∧ jv = true) ∨ (c ≠ 35 ∧ ov = 0 ∧ jv = false) := by
            by_cases h1 : c = 35
            · exact .inl h1
            by_cases h2 : 0 < ov
            · exact .inr (.inl ⟨h1, h2⟩)
            cases jv with
            | true => exact .inr (.inr (.inl ⟨h1, by omega, rfl⟩))
            | false => exact .inr (.inr (.inr ⟨h1, by omega, rfl⟩))
          rcases hcase with h35 | ⟨h35, hov⟩ | ⟨h35, hov, rfl⟩ | ⟨h35, hov, rfl⟩
          · clear hlt
            have hnx : nxH (bl line) q k ps = (n, k, ps ++ [⟨53, q, n, [], false, false⟩]) := by unfold nxH; rw [if_neg (by rw [hw]; decide), show tk (bl line) q k = (⟨53, q, n, [], false, false⟩, k) from by unfold tk; rw [if_pos (by rw [hd, h35]; rfl), HN.out]]
            rw [hnx] at hnb hI
            have HNB2 := Lib.hid hnb
            have HI2 := Lib.hid hI
            clear hnx
            have c35 : ((c : Int) == 35) = true := beq_iff_eq.2 (by omega)
            have hq := HQ.out
            have y0 := (hq).cell (k := 0) (u := .int .u8 0) rfl
            have z0 := (hq).fr 0
            have y2 := (hq.set 0 (.int .u8 53)).cell (k := 2) (u := .int .i64 0) rfl
            have z2 := (hq.set 0 (.int .u8 53)).fr 2
            clear h35 hq hd hnb hI hw
            go_upto_region 27 with (fail)
            have HQ2 := Lib.hid (show RdQ w0 ((wa.setCell ⟨bp, 0, none⟩ (.int .u8 53)).setCell ⟨bp, 2, none⟩ (.int .i64 (n : Nat))) bp #[Value.int .u8 53, Value.int .i64 (q : Nat), Value.int .i64 (n : Nat), Value.string ⟨#[]⟩, Value.bool false, Value.bool false] (.slice A kk cap) ps from (HQ.out.set 0 (.int .u8 53)).set 2 (.int .i64 (n : Nat)))
            have k0 := (HQ2.out).cell (k := 0) (u := .int .u8 53) rfl
            have k1 := (HQ2.out).cell (k := 1) (u := .int .i64 (q : Nat)) rfl
            have k2 := (HQ2.out).cell (k := 2) (u := .int .i64 (n : Nat)) rfl
            have k3 := (HQ2.out).cell (k := 3) (u := .string ⟨#[]⟩) rfl
            have k4 := (HQ2.out).cell (k := 4) (u := .bool false) rfl
            have k5 := (HQ2.out).cell (k := 5) (u := .bool false) rfl
            have hkk := HKK.out
            have HOWN := Lib.hid (show ((wa.setCell ⟨bp, 0, none⟩ (.int .u8 53)).setCell ⟨bp, 2, none⟩ (.int .i64 (n : Nat))).ownsRow w0.heap.size P42 6 (.slice A kk cap) kk (pcC ps) from by have h := (HQ2.out).row; unfold RowQ at h; rwa [hkk] at h)
            have HAP := Lib.hid (fun (w5 : World) (v5 : Value) (hg : (((wa.setCell ⟨bp, 0, none⟩ (.int .u8 53)).setCell ⟨bp, 2, none⟩ (.int .i64 (n : Nat))).alloc (.cells #[Value.int .u8 53, Value.int .i64 (q : Nat), Value.int .i64 (n : Nat), Value.string ⟨#[]⟩, Value.bool false, Value.bool false] P42)).grownBy w5 (Value.slice A kk cap).ownBlock) (ho : w5.ownsRow w0.heap.size P42 6 v5 (kk + 1) (pcC ps ++ [Value.int .u8 53, Value.int .i64 (q : Nat), Value.int .i64 (n : Nat), Value.string ⟨#[]⟩, Value.bool false, Value.bool false])) => (HQ2.out).app (x := ⟨53, q, n, [], false, false⟩) (Up.alloc _ _) hg (by rw [hkk]; exact ho))
            have hb0 : w0.heap.size ≤ (((wa.setCell ⟨bp, 0, none⟩ (.int .u8 53)).setCell ⟨bp, 2, none⟩ (.int .i64 (n : Nat))).alloc (.cells #[Value.int .u8 53, Value.int .i64 (q : Nat), Value.int .i64 (n : Nat), Value.string ⟨#[]⟩, Value.bool false, Value.bool false] P42)).heap.size := Nat.le_trans (Below.size (HQ2.out).up) (Below.size (Up.alloc _ _))
            have hnews : ∀ u ∈ [Value.int .u8 53, Value.int .i64 (q : Nat), Value.int .i64 (n : Nat), Value.string ⟨#[]⟩, Value.bool false, Value.bool false], u.oneCell' = true := by intro u hu; simp at hu; rcases hu with rfl | rfl | rfl | rfl | rfl | rfl <;> rfl
            have HNB := Lib.hid (show (((wa.setCell ⟨bp, 0, none⟩ (.int .u8 53)).setCell ⟨bp, 2, none⟩ (.int .i64 (n : Nat))).alloc (.cells #[Value.int .u8 53, Value.int .i64 (q : Nat), Value.int .i64 (n : Nat), Value.string ⟨#[]⟩, Value.bool false, Value.bool false] P42)).heap[(wa).heap.size]? = some (.cells #[Value.int .u8 53, Value.int .i64 (q : Nat), Value.int .i64 (n : Nat), Value.string ⟨#[]⟩, Value.bool false, Value.bool false] P42 (0, 0)) from by have h := heap_alloc_new ((wa.setCell ⟨bp, 0, none⟩ (.int .u8 53)).setCell ⟨bp, 2, none⟩ (.int .i64 (n : Nat))) (.cells #[Value.int .u8 53, Value.int .i64 (q : Nat), Value.int .i64 (n : Nat), Value.string ⟨#[]⟩, Value.bool false, Value.bool false] P42); rwa [show ((wa.setCell ⟨bp, 0, none⟩ (.int .u8 53)).setCell ⟨bp, 2, none⟩ (.int .i64 (n : Nat))).heap.size = (wa).heap.size from by simp] at h)
            clear hkk
            go_wp2_with (at_builtin; go_loud (refine wpList_append_lies _ rfl _ _ 26 rfl w0.heap.size P42 i0 (.agg #[.int .u8 0, .int .i64 0, .int .i64 0, .string ⟨#[]⟩, .bool false, .bool false]) 6 48 Tryd.underlying26 hi0 hz0 hz1 hz2 rfl (by decide) (.slice A kk cap) kk (pcC ps) rfl (HOWN.out.alloc _) ⟨(wa).heap.size, 0, none⟩ 1 1 [Value.int .u8 53, Value.int .i64 (q : Nat), Value.int .i64 (n : Nat), Value.string ⟨#[]⟩, Value.bool false, Value.bool false] rfl rfl (World.news_of_block (cs := #[Value.int .u8 53, Value.int .i64 (q : Nat), Value.int .i64 (n : Nat), Value.string ⟨#[]⟩, Value.bool false, Value.bool false]) (t := P42) (fr := (0, 0)) HNB.out) hnews (by omega) b1 b2 hb0 _ rfl ?_); intro g5 cap5 w5 hown5 hgrow hat5 hlt5; obtain ⟨hr5, hu5, hp5⟩ := HAP.out _ _ hgrow hown5; have HR5 := Lib.hid hr5; have HU5 := Lib.hid hu5; have t2 : w5.cell? ⟨bp, 2, none⟩ = some (.int .i64 (n : Nat)) := cellOf hp5 rfl; clear hr5 hu5 hp5)
            go_roundg (line.size - n)
            case measure => rw [HG.out]; have := HNB2.out; have := HQN.out; omega
            case rel => exact ⟨n, k, ps ++ [⟨53, q, n, [], false, false⟩], rfl, rfl, rfl, Lib.hid ⟨HR5.out, HU5.out⟩, Lib.hid ⟨HNB2.out.2.1, by have := HNB2.out.2.2; exact this⟩, HI2⟩
          · clear hlt
            obtain ⟨e, he⟩ : ∃ e, q + ov = e := ⟨_, rfl⟩
            have hnx : nxH (bl line) q k ps = (e, k, ps ++ [⟨52, q, e, [], false, false⟩]) := by unfold nxH; rw [if_neg (by rw [hw]; decide), show tk (bl line) q k = (⟨52, q, e, [], false, false⟩, k) from by unfold tk; rw [if_neg (by rw [hd]; simpa using h35), if_pos (by rw [HOV.out]; exact hov), HOV.out, he]]
            rw [hnx] at hnb hI
            have HNB2 := Lib.hid hnb
            have HI2 := Lib.hid hI
            clear hnx
            have c35 : ((c : Int) == 35) = false := beq_eq_false_iff_ne.2 (by omega)
            have o1 : (0 : Int) < (ov : Int) := by omega
            have ew : IntKind.i64.wrap ((q : Int) + (ov : Int)) = (e : Nat) := (IntWalk.i64_in _ (by have := HNB2.out.2.1; have := HS.out; omega)).trans (by omega)
            clear h35 hov he hd hnb hI hw
            go_upto_region 27 with (first | (go_at_call 13; ((with_reducible refine (HOQ.out _).mono ?_); rintro e wv ⟨rfl, hu⟩; have HQ := Lib.hid (HQ.out.more hu); have hq := HQ.out; have y0 := (hq).cell (k := 0) (u := .int .u8 0) rfl; have z0 := (hq).fr 0; clear hq; clear hu)) | (go_at_call 13; ((with_reducible refine (HOQ.out _).mono ?_); rintro e wv ⟨rfl, hu⟩; have HQ := Lib.hid ((HQ.out.set 0 (.int .u8 52)).more hu); have y2 := HQ.out.cell (k := 2) (u := .int .i64 0) rfl; have z2 := HQ.out.fr 2; clear hu)))
            have HQ2 := Lib.hid (show RdQ w0 (wv.setCell ⟨bp, 2, none⟩ (.int .i64 (e : Nat))) bp #[Value.int .u8 52, Value.int .i64 (q : Nat), Value.int .i64 (e : Nat), Value.string ⟨#[]⟩, Value.bool false, Value.bool false] (.slice A kk cap) ps from HQ.out.set 2 (.int .i64 (e : Nat)))
            have k0 := (HQ2.out).cell (k := 0) (u := .int .u8 52) rfl
            have k1 := (HQ2.out).cell (k := 1) (u := .int .i64 (q : Nat)) rfl
            have k2 := (HQ2.out).cell (k := 2) (u := .int .i64 (e : Nat)) rfl
            have k3 := (HQ2.out).cell (k := 3) (u := .string ⟨#[]⟩) rfl
            have k4 := (HQ2.out).cell (k := 4) (u := .bool false) rfl
            have k5 := (HQ2.out).cell (k := 5) (u := .bool false) rfl
            have hkk := HKK.out
            have HOWN := Lib.hid (show (wv.setCell ⟨bp, 2, none⟩ (.int .i64 (e : Nat))).ownsRow w0.heap.size P42 6 (.slice A kk cap) kk (pcC ps) from by have h := (HQ2.out).row; unfold RowQ at h; rwa [hkk] at h)
            have HAP := Lib.hid (fun (w5 : World) (v5 : Value) (hg : ((wv.setCell ⟨bp, 2, none⟩ (.int .i64 (e : Nat))).alloc (.cells #[Value.int .u8 52, Value.int .i64 (q : Nat), Value.int .i64 (e : Nat), Value.string ⟨#[]⟩, Value.bool false, Value.bool false] P42)).grownBy w5 (Value.slice A kk cap).ownBlock) (ho : w5.ownsRow w0.heap.size P42 6 v5 (kk + 1) (pcC ps ++ [Value.int .u8 52, Value.int .i64 (q : Nat), Value.int .i64 (e : Nat), Value.string ⟨#[]⟩, Value.bool false, Value.bool false])) => (HQ2.out).app (x := ⟨52, q, e, [], false, false⟩) (Up.alloc _ _) hg (by rw [hkk]; exact ho))
            have hb0 : w0.heap.size ≤ ((wv.setCell ⟨bp, 2, none⟩ (.int .i64 (e : Nat))).alloc (.cells #[Value.int .u8 52, Value.int .i64 (q : Nat), Value.int .i64 (e : Nat), Value.string ⟨#[]⟩, Value.bool false, Value.bool false] P42)).heap.size := Nat.le_trans (Below.size (HQ2.out).up) (Below.size (Up.alloc _ _))
            have hnews : ∀ u ∈ [Value.int .u8 52, Value.int .i64 (q : Nat), Value.int .i64 (e : Nat), Value.string ⟨#[]⟩, Value.bool false, Value.bool false], u.oneCell' = true := by intro u hu; simp at hu; rcases hu with rfl | rfl | rfl | rfl | rfl | rfl <;> rfl
            have HNB := Lib.hid (show ((wv.setCell ⟨bp, 2, none⟩ (.int .i64 (e : Nat))).alloc (.cells #[Value.int .u8 52, Value.int .i64 (q : Nat), Value.int .i64 (e : Nat), Value.string ⟨#[]⟩, Value.bool false, Value.bool false] P42)).heap[(wv).heap.size]? = some (.cells #[Value.int .u8 52, Value.int .i64 (q : Nat), Value.int .i64 (e : Nat), Value.string ⟨#[]⟩, Value.bool false, Value.bool false] P42 (0, 0)) from by have h := heap_alloc_new (wv.setCell ⟨bp, 2, none⟩ (.int .i64 (e : Nat))) (.cells #[Value.int .u8 52, Value.int .i64 (q : Nat), Value.int .i64 (e : Nat), Value.string ⟨#[]⟩, Value.bool false, Value.bool false] P42); rwa [show (wv.setCell ⟨bp, 2, none⟩ (.int .i64 (e : Nat))).heap.size = (wv).heap.size from by simp] at h)
            clear hkk
            go_wp2_with (at_builtin; go_loud (refine wpList_append_lies _ rfl _ _ 26 rfl w0.heap.size P42 i0 (.agg #[.int .u8 0, .int .i64 0, .int .i64 0, .string ⟨#[]⟩, .bool false, .bool false]) 6 48 Tryd.underlying26 hi0 hz0 hz1 hz2 rfl (by decide) (.slice A kk cap) kk (pcC ps) rfl (HOWN.out.alloc _) ⟨(wv).heap.size, 0, none⟩ 1 1 [Value.int .u8 52, Value.int .i64 (q : Nat), Value.int .i64 (e : Nat), Value.string ⟨#[]⟩, Value.bool false, Value.bool false] rfl rfl (World.news_of_block (cs := #[Value.int .u8 52, Value.int .i64 (q : Nat), Value.int .i64 (e : Nat), Value.string ⟨#[]⟩, Value.bool false, Value.bool false]) (t := P42) (fr := (0, 0)) HNB.out) hnews (by omega) b1 b2 hb0 _ rfl ?_); intro g5 cap5 w5 hown5 hgrow hat5 hlt5; obtain ⟨hr5, hu5, hp5⟩ := HAP.out _ _ hgrow hown5; have HR5 := Lib.hid hr5; have HU5 := Lib.hid hu5; have t2 : w5.cell? ⟨bp, 2, none⟩ = some (.int .i64 (e : Nat)) := cellOf hp5 rfl; clear hr5 hu5 hp5)
            go_roundg (line.size - e)
            case measure => rw [HG.out]; have := HNB2.out; have := HQN.out; omega
            case rel => exact ⟨e, k, ps ++ [⟨52, q, e, [], false, false⟩], rfl, rfl, rfl, Lib.hid ⟨HR5.out, HU5.out⟩, Lib.hid ⟨HNB2.out.2.1, by have := HNB2.out.2.2; exact this⟩, HI2⟩
          · clear hlt
            have hnx : nxH (bl line) q k ps = (line.size, k, ps ++ [⟨54, q, line.size, [], false, false⟩]) := by unfold nxH; rw [if_neg (by rw [hw]; decide), show tk (bl line) q k = (⟨54, q, line.size, [], false, false⟩, k) from by unfold tk; rw [if_neg (by rw [hd]; simpa using h35), if_neg (by rw [HOV.out]; omega), if_pos (by have := HJV.out; simpa using this), bl_len]]
            rw [hnx] at hnb hI
            have HNB2 := Lib.hid hnb
            have HI2 := Lib.hid hI
            clear hnx
            have c35 : ((c : Int) == 35) = false := beq_eq_false_iff_ne.2 (by omega)
            have o1 : ¬ ((0 : Int) < (ov : Int)) := by omega
            have o2 : decide ((0 : Int) < (ov : Int)) = false := decide_eq_false o1
            have o3 : decide (0 < ov) = false := decide_eq_false (by omega)
            clear h35 hov hd hnb hI hw
            go_upto_region 27 with (first | (go_at_call 13; ((with_reducible refine (HOQ.out _).mono ?_); rintro e wv ⟨rfl, hu⟩; have HQ := Lib.hid (HQ.out.more hu); have hq := HQ.out; have y0 := (hq).cell (k := 0) (u := .int .u8 0) rfl; have z0 := (hq).fr 0; have y2 := (hq.set 0 (.int .u8 54)).cell (k := 2) (u := .int .i64 0) rfl; have z2 := (hq.set 0 (.int .u8 54)).fr 2; clear hq; clear hu)) | (go_at_call 20; ((with_reducible refine (HJQ.out _).mono ?_); rintro e wz ⟨rfl, rfl⟩)))
            have HQ2 := Lib.hid (show RdQ w0 ((wv.setCell ⟨bp, 0, none⟩ (.int .u8 54)).setCell ⟨bp, 2, none⟩ (.int .i64 (line.size : Nat))) bp #[Value.int .u8 54, Value.int .i64 (q : Nat), Value.int .i64 (line.size : Nat), Value.string ⟨#[]⟩, Value.bool false, Value.bool false] (.slice A kk cap) ps from (HQ.out.set 0 (.int .u8 54)).set 2 (.int .i64 (line.size : Nat)))
            have k0 := (HQ2.out).cell (k := 0) (u := .int .u8 54) rfl
            have k1 := (HQ2.out).cell (k := 1) (u := .int .i64 (q : Nat)) rfl
            have k2 := (HQ2.out).cell (k := 2) (u := .int .i64 (line.size : Nat)) rfl
            have k3 := (HQ2.out).cell (k := 3) (u := .string ⟨#[]⟩) rfl
            have k4 := (HQ2.out).cell (k := 4) (u := .bool false) rfl
            have k5 := (HQ2.out).cell (k := 5) (u := .bool false) rfl
            have hkk := HKK.out
            have HOWN := Lib.hid (show ((wv.setCell ⟨bp, 0, none⟩ (.int .u8 54)).setCell ⟨bp, 2, none⟩ (.int .i64 (line.size : Nat))).ownsRow w0.heap.size P42 6 (.slice A kk cap) kk (pcC ps) from by have h := (HQ2.out).row; unfold RowQ at h; rwa [hkk] at h)
            have HAP := Lib.hid (fun (w5 : World) (v5 : Value) (hg : (((wv.setCell ⟨bp, 0, none⟩ (.int .u8 54)).setCell ⟨bp, 2, none⟩ (.int .i64 (line.size : Nat))).alloc (.cells #[Value.int .u8 54, Value.int .i64 (q : Nat), Value.int .i64 (line.size : Nat), Value.string ⟨#[]⟩, Value.bool false, Value.bool false] P42)).grownBy w5 (Value.slice A kk cap).ownBlock) (ho : w5.ownsRow w0.heap.size P42 6 v5 (kk + 1) (pcC ps ++ [Value.int .u8 54, Value.int .i64 (q : Nat), Value.int .i64 (line.size : Nat), Value.string ⟨#[]⟩, Value.bool false, Value.bool false])) => (HQ2.out).app (x := ⟨54, q, line.size, [], false, false⟩) (Up.alloc _ _) hg (by rw [hkk]; exact ho))
            have hb0 : w0.heap.size ≤ (((wv.setCell ⟨bp, 0, none⟩ (.int .u8 54)).setCell ⟨bp, 2, none⟩ (.int .i64 (line.size : Nat))).alloc (.cells #[Value.int .u8 54, Value.int .i64 (q : Nat), Value.int .i64 (line.size : Nat), Value.string ⟨#[]⟩, Value.bool false, Value.bool false] P42)).heap.size := Nat.le_trans (Below.size (HQ2.out).up) (Below.size (Up.alloc _ _))
            have hnews : ∀ u ∈ [Value.int .u8 54, Value.int .i64 (q : Nat), Value.int .i64 (line.size : Nat), Value.string ⟨#[]⟩, Value.bool false, Value.bool false], u.oneCell' = true := by intro u hu; simp at hu; rcases hu with rfl | rfl | rfl | rfl | rfl | rfl <;> rfl
            have HNB := Lib.hid (show (((wv.setCell ⟨bp, 0, none⟩ (.int .u8 54)).setCell ⟨bp, 2, none⟩ (.int .i64 (line.size : Nat))).alloc (.cells #[Value.int .u8 54, Value.int .i64 (q : Nat), Value.int .i64 (line.size : Nat), Value.string ⟨#[]⟩, Value.bool false, Value.bool false] P42)).heap[(wv).heap.size]? = some (.cells #[Value.int .u8 54, Value.int .i64 (q : Nat), Value.int .i64 (line.size : Nat), Value.string ⟨#[]⟩, Value.bool false, Value.bool false] P42 (0, 0)) from by have h := heap_alloc_new ((wv.setCell ⟨bp, 0, none⟩ (.int .u8 54)).setCell ⟨bp, 2, none⟩ (.int .i64 (line.size : Nat))) (.cells #[Value.int .u8 54, Value.int .i64 (q : Nat), Value.int .i64 (line.size : Nat), Value.string ⟨#[]⟩, Value.bool false, Value.bool false] P42); rwa [show ((wv.setCell ⟨bp, 0, none⟩ (.int .u8 54)).setCell ⟨bp, 2, none⟩ (.int .i64 (line.size : Nat))).heap.size = (wv).heap.size from by simp] at h)
            clear hkk
            go_wp2_with (at_builtin; go_loud (refine wpList_append_lies _ rfl _ _ 26 rfl w0.heap.size P42 i0 (.agg #[.int .u8 0, .int .i64 0, .int .i64 0, .string ⟨#[]⟩, .bool false, .bool false]) 6 48 Tryd.underlying26 hi0 hz0 hz1 hz2 rfl (by decide) (.slice A kk cap) kk (pcC ps) rfl (HOWN.out.alloc _) ⟨(wv).heap.size, 0, none⟩ 1 1 [Value.int .u8 54, Value.int .i64 (q : Nat), Value.int .i64 (line.size : Nat), Value.string ⟨#[]⟩, Value.bool false, Value.bool false] rfl rfl (World.news_of_block (cs := #[Value.int .u8 54, Value.int .i64 (q : Nat), Value.int .i64 (line.size : Nat), Value.string ⟨#[]⟩, Value.bool false, Value.bool false]) (t := P42) (fr := (0, 0)) HNB.out) hnews (by omega) b1 b2 hb0 _ rfl ?_); intro g5 cap5 w5 hown5 hgrow hat5 hlt5; obtain ⟨hr5, hu5, hp5⟩ := HAP.out _ _ hgrow hown5; have HR5 := Lib.hid hr5; have HU5 := Lib.hid hu5; have t2 : w5.cell? ⟨bp, 2, none⟩ = some (.int .i64 (line.size : Nat)) := cellOf hp5 rfl; clear hr5 hu5 hp5)
            go_roundg (line.size - line.size)
            case measure => rw [HG.out]; have := HNB2.out; have := HQN.out; omega
            case rel => exact ⟨line.size, k, ps ++ [⟨54, q, line.size, [], false, false⟩], rfl, rfl, rfl, Lib.hid ⟨HR5.out, HU5.out⟩, Lib.hid ⟨HNB2.out.2.1, by have := HNB2.out.2.2; exact this⟩, HI2⟩
          · have HWQ := Lib.hid (fun w => refWord_any w line q 0 (.inl rfl) HS.out (by rw [HN.out]; exact Nat.le_of_lt hlt))
            clear hlt
            generalize hXX : wpc (bl line) q 0 = XX at HWQ
            generalize hmw : (wd 0 ((bl line).drop q)).2.2 = mw at HWQ
            obtain ⟨kd, xa, xb, tx, rw1, wh1⟩ := XX
            have HWQ := Lib.hid (fun w => (show Calls Tryd.prog 19 #[.string line, .int .i64 (q : Nat), .int .u8 0] w fun e w' => e = .returned (.tuple #[.agg #[.int .u8 (kd : Nat), .int .i64 (xa : Nat), .int .i64 (xb : Nat), .string (toB tx), .bool rw1, .bool wh1], .int .u8 (mw : Nat)]) ∧ Up w w' from HWQ.out w))
            have hnx : nxH (bl line) q k ps = (xb, mw, ps ++ [⟨kd, xa, xb, tx, rw1, wh1⟩]) := by unfold nxH; rw [if_neg (by rw [hw]; decide), show tk (bl line) q k = (⟨kd, xa, xb, tx, rw1, wh1⟩, mw) from by unfold tk; rw [if_neg (by rw [hd]; simpa using h35), if_neg (by rw [HOV.out]; omega), if_neg (by have := HJV.out; simpa using this), hXX, hmw]]
            rw [hnx] at hnb hI
            have HNB2 := Lib.hid hnb
            have HI2 := Lib.hid hI
            clear hnx
            have c35 : ((c : Int) == 35) = false := beq_eq_false_iff_ne.2 (by omega)
            have o1 : ¬ ((0 : Int) < (ov : Int)) := by omega
            have o2 : decide ((0 : Int) < (ov : Int)) = false := decide_eq_false o1
            have o3 : decide (0 < ov) = false := decide_eq_false (by omega)
            clear h35 hov hXX hmw hd hnb hI hw
            go_upto_region 27 with (first | (go_at_call 13; ((with_reducible refine (HOQ.out _).mono ?_); rintro e wv ⟨rfl, hu⟩; have HQ := Lib.hid (HQ.out.more hu); clear hu)) | (go_at_call 20; ((with_reducible refine (HJQ.out _).mono ?_); rintro e wz ⟨rfl, rfl⟩)) | (go_at_call 19; ((with_reducible refine (HWQ.out _).mono ?_); rintro e wx ⟨rfl, hu⟩; have HQ := Lib.hid (HQ.out.more hu); have hq := HQ.out; have y0 := (hq).cell (k := 0) (u := .int .u8 0) rfl; have z0 := (hq).fr 0; have y1 := (hq).cell (k := 1) (u := .int .i64 (q : Nat)) rfl; have z1 := (hq).fr 1; have y2 := (hq).cell (k := 2) (u := .int .i64 0) rfl; have z2 := (hq).fr 2; have y3 := (hq).cell (k := 3) (u := .string ⟨#[]⟩) rfl; have z3 := (hq).fr 3; have y4 := (hq).cell (k := 4) (u := .bool false) rfl; have z4 := (hq).fr 4; have y5 := (hq).cell (k := 5) (u := .bool false) rfl; have z5 := (hq).fr 5; clear hu hq)))
            have HQ2 := Lib.hid (show RdQ w0 ((((((wx.setCell ⟨bp, 0, none⟩ (.int .u8 (kd : Nat))).setCell ⟨bp, 1, none⟩ (.int .i64 (xa : Nat))).setCell ⟨bp, 2, none⟩ (.int .i64 (xb : Nat))).setCell ⟨bp, 3, none⟩ (.string (toB tx))).setCell ⟨bp, 4, none⟩ (.bool rw1)).setCell ⟨bp, 5, none⟩ (.bool wh1)) bp #[Value.int .u8 (kd : Nat), Value.int .i64 (xa : Nat), Value.int .i64 (xb : Nat), Value.string (toB tx), Value.bool rw1, Value.bool wh1] (.slice A kk cap) ps from (((((HQ.out.set 0 (.int .u8 (kd : Nat))).set 1 (.int .i64 (xa : Nat))).set 2 (.int .i64 (xb : Nat))).set 3 (.string (toB tx))).set 4 (.bool rw1)).set 5 (.bool wh1))
            have k0 := (HQ2.out).cell (k := 0) (u := .int .u8 (kd : Nat)) rfl
            have k1 := (HQ2.out).cell (k := 1) (u := .int .i64 (xa : Nat)) rfl
            have k2 := (HQ2.out).cell (k := 2) (u := .int .i64 (xb : Nat)) rfl
            have k3 := (HQ2.out).cell (k := 3) (u := .string (toB tx)) rfl
            have k4 := (HQ2.out).cell (k := 4) (u := .bool rw1) rfl
            have k5 := (HQ2.out).cell (k := 5) (u := .bool wh1) rfl
            have hkk := HKK.out
            have HOWN := Lib.hid (show ((((((wx.setCell ⟨bp, 0, none⟩ (.int .u8 (kd : Nat))).setCell ⟨bp, 1, none⟩ (.int .i64 (xa : Nat))).setCell ⟨bp, 2, none⟩ (.int .i64 (xb : Nat))).setCell ⟨bp, 3, none⟩ (.string (toB tx))).setCell ⟨bp, 4, none⟩ (.bool rw1)).setCell ⟨bp, 5, none⟩ (.bool wh1)).ownsRow w0.heap.size P42 6 (.slice A kk cap) kk (pcC ps) from by have h := (HQ2.out).row; unfold RowQ at h; rwa [hkk] at h)
            have HAP := Lib.hid (fun (w5 : World) (v5 : Value) (hg : (((((((wx.setCell ⟨bp, 0, none⟩ (.int .u8 (kd : Nat))).setCell ⟨bp, 1, none⟩ (.int .i64 (xa : Nat))).setCell ⟨bp, 2, none⟩ (.int .i64 (xb : Nat))).setCell ⟨bp, 3, none⟩ (.string (toB tx))).setCell ⟨bp, 4, none⟩ (.bool rw1)).setCell ⟨bp, 5, none⟩ (.bool wh1)).alloc (.cells #[Value.int .u8 (kd : Nat), Value.int .i64 (xa : Nat), Value.int .i64 (xb : Nat), Value.string (toB tx), Value.bool rw1, Value.bool wh1] P42)).grownBy w5 (Value.slice A kk cap).ownBlock) (ho : w5.ownsRow w0.heap.size P42 6 v5 (kk + 1) (pcC ps ++ [Value.int .u8 (kd : Nat), Value.int .i64 (xa : Nat), Value.int .i64 (xb : Nat), Value.string (toB tx), Value.bool rw1, Value.bool wh1])) => (HQ2.out).app (x := ⟨kd, xa, xb, tx, rw1, wh1⟩) (Up.alloc _ _) hg (by rw [hkk]; exact ho))
            have hb0 : w0.heap.size ≤ (((((((wx.setCell ⟨bp, 0, none⟩ (.int .u8 (kd : Nat))).setCell ⟨bp, 1, none⟩ (.int .i64 (xa : Nat))).setCell ⟨bp, 2, none⟩ (.int .i64 (xb : Nat))).setCell ⟨bp, 3, none⟩ (.string (toB tx))).setCell ⟨bp, 4, none⟩ (.bool rw1)).setCell ⟨bp, 5, none⟩ (.bool wh1)).alloc (.cells #[Value.int .u8 (kd : Nat), Value.int .i64 (xa : Nat), Value.int .i64 (xb : Nat), Value.string (toB tx), Value.bool rw1, Value.bool wh1] P42)).heap.size := Nat.le_trans (Below.size (HQ2.out).up) (Below.size (Up.alloc _ _))
            have hnews : ∀ u ∈ [Value.int .u8 (kd : Nat), Value.int .i64 (xa : Nat), Value.int .i64 (xb : Nat), Value.string (toB tx), Value.bool rw1, Value.bool wh1], u.oneCell' = true := by intro u hu; simp at hu; rcases hu with rfl | rfl | rfl | rfl | rfl | rfl <;> rfl
            have HNB := Lib.hid (show (((((((wx.setCell ⟨bp, 0, none⟩ (.int .u8 (kd : Nat))).setCell ⟨bp, 1, none⟩ (.int .i64 (xa : Nat))).setCell ⟨bp, 2, none⟩ (.int .i64 (xb : Nat))).setCell ⟨bp, 3, none⟩ (.string (toB tx))).setCell ⟨bp, 4, none⟩ (.bool rw1)).setCell ⟨bp, 5, none⟩ (.bool wh1)).alloc (.cells #[Value.int .u8 (kd : Nat), Value.int .i64 (xa : Nat), Value.int .i64 (xb : Nat), Value.string (toB tx), Value.bool rw1, Value.bool wh1] P42)).heap[(wx).heap.size]? = some (.cells #[Value.int .u8 (kd : Nat), Value.int .i64 (xa : Nat), Value.int .i64 (xb : Nat), Value.string (toB tx), Value.bool rw1, Value.bool wh1] P42 (0, 0)) from by have h := heap_alloc_new ((((((wx.setCell ⟨bp, 0, none⟩ (.int .u8 (kd : Nat))).setCell ⟨bp, 1, none⟩ (.int .i64 (xa : Nat))).setCell ⟨bp, 2, none⟩ (.int .i64 (xb : Nat))).setCell ⟨bp, 3, none⟩ (.string (toB tx))).setCell ⟨bp, 4, none⟩ (.bool rw1)).setCell ⟨bp, 5, none⟩ (.bool wh1)) (.cells #[Value.int .u8 (kd : Nat), Value.int .i64 (xa : Nat), Value.int .i64 (xb : Nat), Value.string (toB tx), Value.bool rw1, Value.bool wh1] P42); rwa [show ((((((wx.setCell ⟨bp, 0, none⟩ (.int .u8 (kd : Nat))).setCell ⟨bp, 1, none⟩ (.int .i64 (xa : Nat))).setCell ⟨bp, 2, none⟩ (.int .i64 (xb : Nat))).setCell ⟨bp, 3, none⟩ (.string (toB tx))).setCell ⟨bp, 4, none⟩ (.bool rw1)).setCell ⟨bp, 5, none⟩ (.bool wh1)).heap.size = (wx).heap.size from by simp] at h)
            clear hkk
            go_wp2_with (at_builtin; go_loud (refine wpList_append_lies _ rfl _ _ 26 rfl w0.heap.size P42 i0 (.agg #[.int .u8 0, .int .i64 0, .int .i64 0, .string ⟨#[]⟩, .bool false, .bool false]) 6 48 Tryd.underlying26 hi0 hz0 hz1 hz2 rfl (by decide) (.slice A kk cap) kk (pcC ps) rfl (HOWN.out.alloc _) ⟨(wx).heap.size, 0, none⟩ 1 1 [Value.int .u8 (kd : Nat), Value.int .i64 (xa : Nat), Value.int .i64 (xb : Nat), Value.string (toB tx), Value.bool rw1, Value.bool wh1] rfl rfl (World.news_of_block (cs := #[Value.int .u8 (kd : Nat), Value.int .i64 (xa : Nat), Value.int .i64 (xb : Nat), Value.string (toB tx), Value.bool rw1, Value.bool wh1]) (t := P42) (fr := (0, 0)) HNB.out) hnews (by omega) b1 b2 hb0 _ rfl ?_); intro g5 cap5 w5 hown5 hgrow hat5 hlt5; obtain ⟨hr5, hu5, hp5⟩ := HAP.out _ _ hgrow hown5; have HR5 := Lib.hid hr5; have HU5 := Lib.hid hu5; have t2 : w5.cell? ⟨bp, 2, none⟩ = some (.int .i64 (xb : Nat)) := cellOf hp5 rfl; clear hr5 hu5 hp5)
            go_roundg (line.size - xb)
            case measure => rw [HG.out]; have := HNB2.out; have := HQN.out; omega
            case rel => exact ⟨xb, mw, ps ++ [⟨kd, xa, xb, tx, rw1, wh1⟩], rfl, rfl, rfl, Lib.hid ⟨HR5.out, HU5.out⟩, Lib.hid ⟨HNB2.out.2.1, by have := HNB2.out.2.2; exact this⟩, HI2⟩
      · have hqn : con (bl line) ≤ q := by rw [HN.out]; omega
        have hI := HI.out
        rw [rd_end hqn] at hI
        simp only [List.append_nil] at hI
        have l1 : ¬ ((q : Int) < (n : Int)) := by omega
        obtain ⟨hI1, hI2⟩ := hI
        subst hI1
        subst hI2
        clear hqn hlt HI HG
        go_wp2
        go_ret2
        exact ⟨⟨_, rfl, HR.out.1⟩, HR.out.2⟩
theorem refRead_any (w0 : World) (line : ByteArray) (x : Int) (m : Nat) (hs : (line.size : Int) ≤ 500000) :
    Calls Tryd.prog 10 #[.string line, .int .i64 x, .int .u8 (m : Nat)] w0 fun e w' => (∃ v, e = .returned (.tuple #[v, .int .u8 ((rdE (bl line) x m).2 : Nat)]) ∧ RowQ w' w0.heap.size v (rdE (bl line) x m).1) ∧ Up w0 w' := by
  by_cases ho : x < 0 ∨ (con (bl line) : Int) < x
  · have e : rdE (bl line) x m = ([], 0) := by unfold rdE; rw [if_pos ho]
    rw [e]
    refine (refRead_out w0 line x m hs ho).mono ?_
    rintro e w' ⟨rfl, hu⟩
    exact ⟨⟨_, rfl, World.ownsRow_nil _ _ _ _⟩, hu⟩
  · obtain ⟨p, rfl⟩ : ∃ p : Nat, x = (p : Nat) := ⟨x.toNat, by omega⟩
    have hp : p ≤ con (bl line) := by omega
    rw [rdE_eq (bl line) p m hp]
    by_cases hm : sgM m = true
    · rw [if_pos hm]
      have hm2 : m = 39 ∨ m = 34 := by unfold sgM at hm; simpa using hm
      exact refRead_sgn w0 line p m hm2 hs hp
    · rw [if_neg hm]
      have hm2 : m ≠ 39 ∧ m ≠ 34 := by unfold sgM at hm; simpa using hm
      exact refRead_bare w0 line p m hm2 hs hp
end Go.Proofs.YtmeipmkiknekjaaDoor
