/- The program's ways down a tree: at, sumAhead, find. -/
import Derived.Test.YthiiemjbigcinaaQRows
import Derived.Test.YthiiemjbigcinaaQTie2
import Derived.Deep.LoopGhost
import Derived.Deep.DeepCutAuto
namespace Go.Proofs.Ythiiemjbigcinaa
open Go.RowKit

abbrev cntO (c : Nat) (s : Int) (d : Nat) : Obj := .cells #[.int .i64 (c : Nat), .int .i64 s, .int .i64 (d : Nat)] 65
theorem fldI0 (c s d : Int) (W : World) : (Instr.field 65 (.agg #[.int .i64 c, .int .i64 s, .int .i64 d]) 0).run Try.prog W = .ok (.int .i64 c) W := by kernel_rfl
theorem boxD {w w' : World} {b : Nat} {o : Obj} (h : w.heap[b]? = some o) (hu : Up w w') : w'.heap[b]? = some o := (Below.block hu b (Array.getElem?_eq_some_iff.1 h).1).trans h

set_option maxRecDepth 100000 in
set_option maxHeartbeats 1000000 in
theorem sum_any {G : Nat → Prop} (t0 : QT) (v0 : Value) (k0 : Nat) (w : World) (hn : Tr G w t0 v0) (hk : k0 ≤ t0.cn) (hok : ROk t0.row) :
    Calls Try.prog 19 #[v0, .int .i64 (k0 : Nat)] w fun e w' => e = .returned (.int .i64 (plc t0.row k0)) ∧ Up w w' := by
  obtain ⟨V, hV⟩ : ∃ V, plc t0.row k0 = V := ⟨_, rfl⟩
  have hV2 : 0 ≤ V ∧ V ≤ 1099511627776 := ⟨hV ▸ hok.plc0 k0, by rw [← hV]; exact Int.le_trans (hok.plcT hk) hok.all⟩
  rw [hV]
  go_enter Try.func19, Try.ntmps19
  go_wp2
  go_loopg [0, 1, 5] t0.dp (fun g n i s wr => ∃ (t : QT) (v : Value) (k : Nat) (z : Int), g = t.dp ∧ n = v ∧ i = .int .i64 (k : Nat) ∧ s = .int .i64 z ∧ Hid (Up w wr) ∧ Hid (Tr G wr t v) ∧ Hid (k ≤ t.cn) ∧ Hid (ROk t.row) ∧ Hid (0 ≤ z ∧ z + plc t.row k = V))
  case atStart => exact ⟨t0, v0, k0, 0, rfl, rfl, rfl, rfl, Lib.hid (Up.refl w), Lib.hid hn, Lib.hid hk, Lib.hid hok, Lib.hid ⟨Int.le_refl _, by omega⟩⟩
  case round =>
    obtain ⟨t, v, k, z, hg, rfl, rfl, rfl, HU, HN, HK, HO, HZ⟩ := hrel
    by_cases h0 : k = 0
    · subst h0
      have e : z = V := by
        have := HZ.out.2
        rw [qplc_zero] at this
        omega
      subst e
      go_wp2
      go_ret
      exact ⟨rfl, HU.out⟩
    · have h1 : (0 : Int) < k := by omega
      cases t with
      | nil => exact absurd HK.out (by rw [cn_nil]; omega)
      | node l x r =>
        obtain ⟨b, vl, vr, rfl, -, hc, hl, hr⟩ := HN.out
        have HL := Lib.hid hl
        have HR := Lib.hid hr
        have HC := Lib.hid (counted_any hl)
        have c1 : wr.cell? ⟨b, 1, none⟩ = some (.int .i64 x.2) := cellOf hc rfl
        have c5 : wr.cell? ⟨b, 5, none⟩ = some vl := cellOf hc rfl
        have c6 : wr.cell? ⟨b, 6, none⟩ = some vr := cellOf hc rfl
        have hnm := HO.out.nmt
        rw [cn_node, sm_node] at hnm
        obtain ⟨n1, n2, n3⟩ := hnm
        have hx0 := rok_x HO.out
        have hl0 := (ROk.nmt (rok_l HO.out)).s0
        have hr0 := (ROk.nmt (rok_r HO.out)).s0
        have hkc := HK.out
        rw [cn_node] at hkc
        have hp0 := HO.out.plc0 k
        obtain ⟨hz1, hz2⟩ := HZ.out
        have HG : Hid (gk = 1 + max l.dp r.dp) := Lib.hid hg
        by_cases hlk : k ≤ l.cn
        · have f1 : (k : Int) ≤ l.cn := by omega
          have HZ2 : Hid (0 ≤ z ∧ z + plc l.row k = V) := Lib.hid ⟨hz1, by rw [← qplc_left (x := x) (r := r) hlk]; exact hz2⟩
          have HK2 := Lib.hid hlk
          have HO2 := Lib.hid (rok_l HO.out)
          clear hg hkc hp0 hz1 hz2 n1 n2 n3 hx0 hl0 hr0 hlk hl hr hc h0
          go_wp2_with (go_at_call 30; ((with_reducible refine HC.out.mono ?_); rintro e w1 ⟨rfl, hu1⟩; have hA := Up.alloc w1 (cntO l.cn l.sm l.dp); have c5 := cell_up (hu1.trans hA) c5; have z0 : (w1.alloc (cntO l.cn l.sm l.dp)).cell? ⟨w1.heap.size, 0, none⟩ = some (.int .i64 (l.cn : Nat)) := cellOf (Go.heap_alloc_new _ _) rfl; have HU := Lib.hid (HU.out.trans (hu1.trans hA)); have HL := Lib.hid (HL.out.up (hu1.trans hA)); clear hu1 hA; unfold cnv))
          go_roundg l.dp
          case measure => rw [HG.out]; omega
          case rel => exact ⟨l, vl, k, z, rfl, rfl, rfl, rfl, HU, HL, HK2, HO2, HZ2⟩
        · have f1 : decide (k ≤ l.cn) = false := decide_eq_false hlk
          obtain ⟨j, hj⟩ : ∃ j, k = l.cn + 1 + j := ⟨k - (l.cn + 1), by omega⟩
          have hjc : j ≤ r.cn := by omega
          rw [hj, qplc_right hjc] at hz2
          rw [hj, qplc_right hjc] at hp0
          have hpj := (rok_r HO.out).plc0 j
          have e1 : IntKind.i64.wrap ((l.cn : Int) + 1) = (l.cn : Int) + 1 := IntWalk.i64_in _ (by omega)
          have e2 : IntKind.i64.wrap ((k : Int) - ((l.cn : Int) + 1)) = (j : Int) := (IntWalk.i64_in _ (by omega)).trans (by omega)
          have e3 : IntKind.i64.wrap (l.sm + x.2) = l.sm + x.2 := IntWalk.i64_in _ (by omega)
          have e4 : IntKind.i64.wrap (z + (l.sm + x.2)) = z + (l.sm + x.2) := IntWalk.i64_in _ (by omega)
          have HZ2 : Hid (0 ≤ z + (l.sm + x.2) ∧ z + (l.sm + x.2) + plc r.row j = V) := Lib.hid ⟨by omega, by omega⟩
          have HK2 := Lib.hid hjc
          have HO2 := Lib.hid (rok_r HO.out)
          clear hg hkc hp0 hz1 hz2 n1 n2 n3 hx0 hl0 hr0 hlk hl hr hc h0 hpj hjc hj
          go_wp2_with (go_at_call 30; ((with_reducible refine HC.out.mono ?_); rintro e w1 ⟨rfl, hu1⟩; have hA := Up.alloc w1 (cntO l.cn l.sm l.dp); have c1 := cell_up (hu1.trans hA) c1; have c6 := cell_up (hu1.trans hA) c6; have z0 : (w1.alloc (cntO l.cn l.sm l.dp)).cell? ⟨w1.heap.size, 0, none⟩ = some (.int .i64 (l.cn : Nat)) := cellOf (Go.heap_alloc_new _ _) rfl; have z1 : (w1.alloc (cntO l.cn l.sm l.dp)).cell? ⟨w1.heap.size, 1, none⟩ = some (.int .i64 l.sm) := cellOf (Go.heap_alloc_new _ _) rfl; have HU := Lib.hid (HU.out.trans (hu1.trans hA)); have HR := Lib.hid (HR.out.up (hu1.trans hA)); clear hu1 hA; unfold cnv))
          go_quiet (fail)
          obtain ⟨q0, rfl⟩ : ∃ q : Nat, q = nq := ⟨_, rfl⟩
          have huq := Up.drewN (w1.alloc (cntO l.cn l.sm l.dp)) q0
          have c6 := cell_up huq c6
          have HU := Lib.hid (HU.out.trans huq)
          have HR := Lib.hid (HR.out.up huq)
          go_wp2
          go_roundg r.dp
          case measure => rw [HG.out]; omega
          case rel => exact ⟨r, vr, j, z + (l.sm + x.2), rfl, rfl, rfl, rfl, HU, HR, HK2, HO2, HZ2⟩

set_option maxRecDepth 100000 in
set_option maxHeartbeats 2000000 in
theorem find_any {G : Nat → Prop} (t0 : QT) (v0 : Value) (off : Int) (w : World) (hn : Tr G w t0 v0) (h0 : 0 ≤ off) (h1 : off < t0.sm) (hok : ROk t0.row) :
    Calls Try.prog 20 #[v0, .int .i64 off] w fun e w' => (∃ i : Nat, i < t0.cn ∧ plc t0.row i ≤ off ∧ off < plc t0.row i + sz t0.row i ∧ e = .returned (.tuple #[.int .i64 (i : Nat), .int .i64 (off - plc t0.row i)])) ∧ Up w w' := by
  go_enter Try.func20, Try.ntmps20
  go_wp2
  go_loopg [0, 1, 6] t0.dp (fun g n i s wr => ∃ (t : QT) (v : Value) (o : Int) (a : Nat), g = t.dp ∧ n = v ∧ i = .int .i64 o ∧ s = .int .i64 (a : Nat) ∧ Hid (Up w wr) ∧ Hid (Tr G wr t v) ∧ Hid (0 ≤ o ∧ o < t.sm) ∧ Hid (ROk t.row) ∧ Hid (a + t.cn ≤ 2097152) ∧ Hid (Fnd t0 off t a o))
  case atStart => exact ⟨t0, v0, off, 0, rfl, rfl, rfl, rfl, Lib.hid (Up.refl w), Lib.hid hn, Lib.hid ⟨h0, h1⟩, Lib.hid hok, Lib.hid (by have := hok.nmt.c; omega), Lib.hid (Fnd.refl _ _)⟩
  case round =>
    obtain ⟨t, v, o, a, hg, rfl, rfl, rfl, HU, HN, HK, HO, HB, HF⟩ := hrel
    cases t with
    | nil => exact absurd HK.out (by rw [sm_nil]; omega)
    | node l x r =>
      obtain ⟨b, vl, vr, rfl, -, hc, hl, hr⟩ := HN.out
      have HL := Lib.hid hl
      have HR := Lib.hid hr
      have HC := Lib.hid (counted_any hl)
      have c1 : wr.cell? ⟨b, 1, none⟩ = some (.int .i64 x.2) := cellOf hc rfl
      have c5 : wr.cell? ⟨b, 5, none⟩ = some vl := cellOf hc rfl
      have c6 : wr.cell? ⟨b, 6, none⟩ = some vr := cellOf hc rfl
      have hnm := HO.out.nmt
      rw [cn_node, sm_node] at hnm
      obtain ⟨n1, n2, n3⟩ := hnm
      have hx0 := rok_x HO.out
      have hl0 := (ROk.nmt (rok_l HO.out)).s0
      have hr0 := (ROk.nmt (rok_r HO.out)).s0
      have hb := HB.out
      rw [cn_node] at hb
      obtain ⟨ho1, ho2⟩ := HK.out
      rw [sm_node] at ho2
      have HG : Hid (gk = 1 + max l.dp r.dp) := Lib.hid hg
      by_cases hlt : o < l.sm
      · have HK2 : Hid (0 ≤ o ∧ o < l.sm) := Lib.hid ⟨ho1, hlt⟩
        have HO2 := Lib.hid (rok_l HO.out)
        have HB2 : Hid (a + l.cn ≤ 2097152) := Lib.hid (by omega)
        have HF2 := Lib.hid HF.out.left
        clear hg hb ho1 ho2 n1 n2 n3 hx0 hl0 hr0 hl hr hc h0 h1
        go_wp2_with (go_at_call 30; ((with_reducible refine HC.out.mono ?_); rintro e w1 ⟨rfl, hu1⟩; have hA := Up.alloc w1 (cntO l.cn l.sm l.dp); have c5 := cell_up (hu1.trans hA) c5; have z1 : (w1.alloc (cntO l.cn l.sm l.dp)).cell? ⟨w1.heap.size, 1, none⟩ = some (.int .i64 l.sm) := cellOf (Go.heap_alloc_new _ _) rfl; have HU := Lib.hid (HU.out.trans (hu1.trans hA)); have HL := Lib.hid (HL.out.up (hu1.trans hA)); clear hu1 hA; unfold cnv))
        go_roundg l.dp
        case measure => rw [HG.out]; omega
        case rel => exact ⟨l, vl, o, a, rfl, rfl, rfl, rfl, HU, HL, HK2, HO2, HB2, HF2⟩
      · have f1 : decide (o < l.sm) = false := decide_eq_false hlt
        have e3 : IntKind.i64.wrap (l.sm + x.2) = l.sm + x.2 := IntWalk.i64_in _ (by omega)
        by_cases hmd : o < l.sm + x.2
        · have e1 : IntKind.i64.wrap ((a : Int) + l.cn) = ((a + l.cn : Nat) : Int) := (IntWalk.i64_in _ (by omega)).trans (by omega)
          have e2 : IntKind.i64.wrap (o - l.sm) = o - l.sm := IntWalk.i64_in _ (by omega)
          have HF2 := Lib.hid (HF.out.mid (by omega) hmd)
          clear hg hb ho1 ho2 n1 n2 n3 hx0 hl0 hr0 hl hr hc h0 h1
          go_wp2_with (go_at_call 30; ((with_reducible refine HC.out.mono ?_); rintro e w1 ⟨rfl, hu1⟩; have hA := Up.alloc w1 (cntO l.cn l.sm l.dp); have c1 := cell_up (hu1.trans hA) c1; have z0 : (w1.alloc (cntO l.cn l.sm l.dp)).cell? ⟨w1.heap.size, 0, none⟩ = some (.int .i64 (l.cn : Nat)) := cellOf (Go.heap_alloc_new _ _) rfl; have z1 : (w1.alloc (cntO l.cn l.sm l.dp)).cell? ⟨w1.heap.size, 1, none⟩ = some (.int .i64 l.sm) := cellOf (Go.heap_alloc_new _ _) rfl; have HU := Lib.hid (HU.out.trans (hu1.trans hA)); clear hu1 hA; unfold cnv))
          go_quiet (fail)
          obtain ⟨q0, rfl⟩ : ∃ q : Nat, q = nq := ⟨_, rfl⟩
          have huq := Up.drewN (w1.alloc (cntO l.cn l.sm l.dp)) q0
          have z0 := cell_up huq z0
          have z1 := cell_up huq z1
          have HU := Lib.hid (HU.out.trans huq)
          go_wp2
          go_quiet (fail)
          go_wp2
          go_ret2
          exact ⟨⟨a + l.cn, HF2.out.1, HF2.out.2.1, HF2.out.2.2.1, by rw [HF2.out.2.2.2]; rfl⟩, HU.out.trans (Up.drewN _ _)⟩
        · have f2 : decide (o < l.sm + x.2) = false := decide_eq_false hmd
          have e1 : IntKind.i64.wrap ((l.cn : Int) + 1) = (l.cn : Int) + 1 := IntWalk.i64_in _ (by omega)
          have e2 : IntKind.i64.wrap ((a : Int) + ((l.cn : Int) + 1)) = ((a + (l.cn + 1) : Nat) : Int) := (IntWalk.i64_in _ (by omega)).trans (by omega)
          have e4 : IntKind.i64.wrap (o - (l.sm + x.2)) = o - (l.sm + x.2) := IntWalk.i64_in _ (by omega)
          have HK2 : Hid (0 ≤ o - (l.sm + x.2) ∧ o - (l.sm + x.2) < r.sm) := Lib.hid ⟨by omega, by omega⟩
          have HO2 := Lib.hid (rok_r HO.out)
          have HB2 : Hid (a + (l.cn + 1) + r.cn ≤ 2097152) := Lib.hid (by omega)
          have HF2 := Lib.hid HF.out.right
          clear hg hb ho1 ho2 n1 n2 n3 hx0 hl0 hr0 hl hr hc h0 h1
          go_wp2_with (go_at_call 30; ((with_reducible refine HC.out.mono ?_); rintro e w1 ⟨rfl, hu1⟩; have hA := Up.alloc w1 (cntO l.cn l.sm l.dp); have c1 := cell_up (hu1.trans hA) c1; have c6 := cell_up (hu1.trans hA) c6; have z0 : (w1.alloc (cntO l.cn l.sm l.dp)).cell? ⟨w1.heap.size, 0, none⟩ = some (.int .i64 (l.cn : Nat)) := cellOf (Go.heap_alloc_new _ _) rfl; have z1 : (w1.alloc (cntO l.cn l.sm l.dp)).cell? ⟨w1.heap.size, 1, none⟩ = some (.int .i64 l.sm) := cellOf (Go.heap_alloc_new _ _) rfl; have HU := Lib.hid (HU.out.trans (hu1.trans hA)); have HR := Lib.hid (HR.out.up (hu1.trans hA)); clear hu1 hA; unfold cnv))
          go_quiet (fail)
          obtain ⟨q0, rfl⟩ : ∃ q : Nat, q = nq := ⟨_, rfl⟩
          have huq := Up.drewN (w1.alloc (cntO l.cn l.sm l.dp)) q0
          have z0 := cell_up huq z0
          have z1 := cell_up huq z1
          have c1 := cell_up huq c1
          have c6 := cell_up huq c6
          have HU := Lib.hid (HU.out.trans huq)
          have HR := Lib.hid (HR.out.up huq)
          generalize (w1.alloc (cntO l.cn l.sm l.dp)).drewN q0 = W2 at *
          go_wp2
          go_quiet (fail)
          obtain ⟨q1, rfl⟩ : ∃ q : Nat, q = nq := ⟨_, rfl⟩
          have huq := Up.drewN W2 q1
          have c6 := cell_up huq c6
          have HU := Lib.hid (HU.out.trans huq)
          have HR := Lib.hid (HR.out.up huq)
          go_wp2
          go_roundg r.dp
          case measure => rw [HG.out]; omega
          case rel => exact ⟨r, vr, o - (l.sm + x.2), a + (l.cn + 1), rfl, rfl, rfl, rfl, HU, HR, HK2, HO2, HB2, HF2⟩

theorem qset2 {w : World} {N : Nat} {a b u v : Value} {T : TypeId} (h : w.heap[N]? = some (.cells #[a, b] T)) : ((w.setCell ⟨N, 0, none⟩ u).setCell ⟨N, 1, none⟩ v).heap[N]? = some (.cells #[u, v] T) := by
  simp [World.setCell, Array.getElem?_modify, h]
set_option maxRecDepth 100000 in
set_option maxHeartbeats 2000000 in
theorem at_any {G : Nat → Prop} (t0 : QT) (v0 : Value) (k0 : Nat) (w : World) (hn : Tr G w t0 v0) (hk : k0 < t0.cn) (hok : ROk t0.row) :
    Calls Try.prog 18 #[v0, .int .i64 (k0 : Nat)] w fun e w' => e = .returned (thV (it t0.row k0)) ∧ Up w w' := by
  obtain ⟨V, hV⟩ : ∃ V, it t0.row k0 = V := ⟨_, rfl⟩
  rw [hV]
  obtain ⟨N, hN⟩ : ∃ N, w.heap.size = N := ⟨_, rfl⟩
  go_enter Try.func18, Try.ntmps18
  go_wp2
  go_loopg [0, 1] t0.dp (fun g n i wr => ∃ (t : QT) (v : Value) (k : Nat), g = t.dp ∧ n = v ∧ i = .int .i64 (k : Nat) ∧ Hid (Up w wr) ∧ Hid (wr.heap[N]? = some (.cells #[.string ⟨#[]⟩, .int .i64 0] 47)) ∧ Hid (Tr G wr t v) ∧ Hid (k < t.cn) ∧ Hid (ROk t.row) ∧ Hid (it t.row k = V))
  case atStart => exact ⟨t0, v0, k0, rfl, rfl, rfl, Lib.hid (Up.alloc _ _), Lib.hid (by rw [← hN]; exact Go.heap_alloc_new _ _), Lib.hid (hn.up (Up.alloc _ _)), Lib.hid hk, Lib.hid hok, Lib.hid hV⟩
  case round =>
    obtain ⟨t, v, k, hg, rfl, rfl, HU, HBx, HT, HK, HO, HV⟩ := hrel
    have HNn := Lib.hid hN
    cases t with
    | nil => exact absurd HK.out (by rw [cn_nil]; omega)
    | node l x r =>
      obtain ⟨b, vl, vr, rfl, -, hc, hl, hr⟩ := HT.out
      have HL := Lib.hid hl
      have HR := Lib.hid hr
      have HC := Lib.hid (counted_any hl)
      have hfd : ∀ W, (Instr.field 65 (.agg #[.int .i64 (l.cn : Nat), .int .i64 l.sm, .int .i64 (l.dp : Nat)]) 0).run Try.prog W = .ok (.int .i64 (l.cn : Nat)) W := fldI0 _ _ _
      have c0 : wr.cell? ⟨b, 0, none⟩ = some (.string x.1) := cellOf hc rfl
      have c1 : wr.cell? ⟨b, 1, none⟩ = some (.int .i64 x.2) := cellOf hc rfl
      have c5 : wr.cell? ⟨b, 5, none⟩ = some vl := cellOf hc rfl
      have c6 : wr.cell? ⟨b, 6, none⟩ = some vr := cellOf hc rfl
      have hnm := HO.out.nmt
      rw [cn_node] at hnm
      have n1 := hnm.c
      have hkc := HK.out
      rw [cn_node] at hkc
      have HG : Hid (gk = 1 + max l.dp r.dp) := Lib.hid hg
      have hv := HV.out
      by_cases hlt : k < l.cn
      · rw [qit_left hlt] at hv
        have hlt' : (k : Int) < l.cn := by omega
        have HV2 := Lib.hid hv
        have HK2 := Lib.hid hlt
        have HO2 := Lib.hid (rok_l HO.out)
        clear hg hkc hnm n1 hl hr hc hv c0 c1 c6 hlt
        go_wp2_with (go_at_call 30; ((with_reducible refine HC.out.mono ?_); rintro e w1 ⟨rfl, hu1⟩; have c5 := cell_up hu1 c5; have HU := Lib.hid (HU.out.trans hu1); have HBx := Lib.hid (boxD HBx.out hu1); have HL := Lib.hid (HL.out.up hu1); clear hu1; unfold cnv))
        go_roundg l.dp
        case measure => rw [HG.out]; omega
        case rel => exact ⟨l, vl, k, rfl, rfl, rfl, HU, HBx, HL, HK2, HO2, HV2⟩
      · by_cases heq : k = l.cn
        · rw [heq, qit_mid] at hv
          subst hv
          subst heq
          clear hg hkc hnm n1 hl hr hc c6 hlt
          go_wp2_with (go_at_call 30; ((with_reducible refine HC.out.mono ?_); rintro e w1 ⟨rfl, hu1⟩; have c0 := cell_up hu1 c0; have c1 := cell_up hu1 c1; have HU := Lib.hid (HU.out.trans hu1); have HBx := Lib.hid (boxD HBx.out hu1); have z0 := cellOf (j := 0) HBx.out rfl; have z1 := cellOf (j := 1) HBx.out rfl; have y0 := frozenOf (j := 0) HBx.out; have y1 := frozenOf (j := 1) HBx.out; clear hu1; unfold cnv))
          have hbx := qset2 (u := .string x.1) (v := .int .i64 x.2) HBx.out
          (try simp only [Exit.inBlock, Exit.then]); refine bodyPost_ret (results_cell_row (ty := 47) rfl _ _ N _ _ _ _ rfl hbx Try.underlying47 rfl (by kernel_rfl)) rfl ?_
          exact ⟨rfl, (Below.setCell HU.out (p := ⟨N, 0, none⟩) (Nat.le_of_eq HNn.out) _).setCell (p := ⟨N, 1, none⟩) (Nat.le_of_eq HNn.out) _⟩
        · obtain ⟨j, hj⟩ : ∃ j, k = l.cn + 1 + j := ⟨k - (l.cn + 1), by omega⟩
          have f1 : decide (k < l.cn) = false := decide_eq_false hlt
          have f2 : decide (k = l.cn) = false := decide_eq_false heq
          have hjc : j < r.cn := by omega
          rw [hj, qit_right] at hv
          have e1 : IntKind.i64.wrap ((l.cn : Int) + 1) = (l.cn : Int) + 1 := IntWalk.i64_in _ (by omega)
          have e2 : IntKind.i64.wrap ((k : Int) - ((l.cn : Int) + 1)) = (j : Int) := (IntWalk.i64_in _ (by omega)).trans (by omega)
          have HV2 := Lib.hid hv
          have HK2 := Lib.hid hjc
          have HO2 := Lib.hid (rok_r HO.out)
          clear hg hkc hnm n1 hl hr hc hv c0 c1 hlt hj hjc
          go_wp2_with (go_at_call 30; ((with_reducible refine HC.out.mono ?_); rintro e w1 ⟨rfl, hu1⟩; have c6 := cell_up hu1 c6; have HU := Lib.hid (HU.out.trans hu1); have HBx := Lib.hid (boxD HBx.out hu1); have HR := Lib.hid (HR.out.up hu1); clear hu1; unfold cnv))
          go_roundg r.dp
          case measure => rw [HG.out]; omega
          case rel => exact ⟨r, vr, j, rfl, rfl, rfl, HU, HBx, HR, HK2, HO2, HV2⟩
end Go.Proofs.Ythiiemjbigcinaa
