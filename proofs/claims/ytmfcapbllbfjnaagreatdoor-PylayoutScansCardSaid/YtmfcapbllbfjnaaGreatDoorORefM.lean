/- The document's May. -/
import Derived.Test.YtmfcapbllbfjnaaGreatDoorOLawA
namespace Go.Proofs.YtmfcapbllbfjnaaGreatDoor
open Go.RowKit
attribute [local go_sem ↓] ldS_eq stS_eq elS_eq neS_eq zrS_eq bdS_eq
attribute [local go_sem] ldS_run stS_run elS_run neS_run zrS_run bdS_run0 bdS_run1 g0_rule ldV_drew ldV_drewN

theorem py_facts {V : SV} (h : condV V ∧ svL V = svL (svO V V.d.toNat)) : V.wa = 0 ∧ (∀ k, k < 4 → V.S k = ByteArray.empty ∧ V.P k = false ∧ V.Q k = false) ∧ (∀ j, j < 64 → j % 4 ≠ 3 → V.u j = if j / 4 < V.d.toNat ∧ j % 4 = 0 then 10 else 0) ∧ (∀ i, i < 16 → V.d.toNat ≤ i → V.c i = 0) := by
  have ht := svL_inj_t h.2
  unfold tlV at ht
  simp only [List.cons.injEq, Value.int.injEq, Value.string.injEq, Value.bool.injEq, true_and, and_true] at ht
  obtain ⟨-, -, -, -, -, s0, p0, q0, s1, p1, q1, s2, p2, q2, s3, p3, q3, hw⟩ := ht
  refine ⟨hw, fun k hk => ?_, fun j hj h4 => svL_inj_u h.2 hj h4, fun i hi hd => ?_⟩
  · match k, hk with
    | 0, _ => exact ⟨s0, p0, q0⟩
    | 1, _ => exact ⟨s1, p1, q1⟩
    | 2, _ => exact ⟨s2, p2, q2⟩
    | 3, _ => exact ⟨s3, p3, q3⟩
  · have := svL_inj_c h.2 hi
    rw [this]
    show (if i < V.d.toNat then V.c i else 0) = 0
    rw [if_neg (by omega)]
theorem py_build {V : SV} (hw : V.wa = 0) (hd : ∀ k, k < 4 → V.S k = ByteArray.empty ∧ V.P k = false ∧ V.Q k = false) (hu : ∀ j, j < 64 → j % 4 ≠ 3 → V.u j = if j / 4 < V.d.toNat ∧ j % 4 = 0 then 10 else 0) (hc : ∀ i, i < 16 → V.d.toNat ≤ i → V.c i = 0) : svL V = svL (svO V V.d.toNat) := by
  refine svL_ext hu (fun i hi => ?_) ?_
  · show V.c i = if i < V.d.toNat then V.c i else 0
    by_cases h : i < V.d.toNat
    · rw [if_pos h]
    · rw [if_neg h]; exact hc i hi (by omega)
  · obtain ⟨s0, p0, q0⟩ := hd 0 (by omega)
    obtain ⟨s1, p1, q1⟩ := hd 1 (by omega)
    obtain ⟨s2, p2, q2⟩ := hd 2 (by omega)
    obtain ⟨s3, p3, q3⟩ := hd 3 (by omega)
    unfold tlV
    rw [hw, s0, p0, q0, s1, p1, q1, s2, p2, q2, s3, p3, q3]
    rfl
/-- What stands between rounds over the frames. -/
structure FrM (V : SV) (k : Nat) : Prop where
  u : ∀ j, j < k * 4 → j % 4 ≠ 3 → V.u j = if j / 4 < V.d.toNat ∧ j % 4 = 0 then 10 else 0
  c : ∀ i, i < k → V.d.toNat ≤ i → V.c i = 0
  r : ∀ i, i < k → i < V.d.toNat → preC V i < V.c i ∧ V.c i ≤ 8388608
theorem FrM.zero (V : SV) : FrM V 0 := ⟨fun j h => absurd h (by omega), fun i h => absurd h (by omega), fun i h => absurd h (by omega)⟩
theorem FrM.pos {V : SV} {k : Nat} (h : FrM V k) : ∀ i, i < k → i < V.d.toNat → 1 ≤ V.c i := by
  intro i hi hd
  have hr : riseV V (i + 1) := fun j hj => h.r j (by omega) (by omega)
  exact rise_pos hr i (by omega)
/-- A frame in use. -/
def frIn (V : SV) (k : Nat) : Prop := V.u (k * 4) = 10 ∧ V.u (k * 4 + 1) = 0 ∧ V.u (k * 4 + 2) = 0 ∧ 1 ≤ V.c k ∧ V.c k ≤ 8388608 ∧ (0 < k → V.c (k - 1) < V.c k)
theorem FrM.next_in {V : SV} {k : Nat} (h : FrM V k) (hd : k < V.d.toNat) (hf : frIn V k) : FrM V (k + 1) := by
  obtain ⟨h0, h1, h2, h3, h4, h5⟩ := hf
  refine ⟨fun j hj hj4 => ?_, fun i hi hi2 => ?_, fun i hi hi2 => ?_⟩
  · by_cases hlt : j < k * 4
    · exact h.u j hlt hj4
    · have e : j = k * 4 ∨ j = k * 4 + 1 ∨ j = k * 4 + 2 := by omega
      rcases e with rfl | rfl | rfl
      · rw [h0, if_pos (by omega)]
      · rw [h1, if_neg (by omega)]
      · rw [h2, if_neg (by omega)]
  · exact h.c i (by omega) hi2
  · by_cases e : i = k
    · subst e
      refine ⟨?_, h4⟩
      unfold preC
      by_cases hz : i = 0
      · rw [if_pos hz]; omega
      · rw [if_neg hz]; exact h5 (by omega)
    · exact h.r i (by omega) hi2
theorem FrM.next_out {V : SV} {k : Nat} (h : FrM V k) (hd : V.d.toNat ≤ k) (h0 : V.u (k * 4) = 0) (h1 : V.u (k * 4 + 1) = 0) (h2 : V.u (k * 4 + 2) = 0) (h3 : V.c k = 0) : FrM V (k + 1) := by
  refine ⟨fun j hj hj4 => ?_, fun i hi hi2 => ?_, fun i hi hi2 => ?_⟩
  · by_cases hlt : j < k * 4
    · exact h.u j hlt hj4
    · have e : j = k * 4 ∨ j = k * 4 + 1 ∨ j = k * 4 + 2 := by omega
      rcases e with rfl | rfl | rfl
      · rw [h0, if_neg (by omega)]
      · rw [h1, if_neg (by omega)]
      · rw [h2, if_neg (by omega)]
  · by_cases e : i = k
    · subst e; exact h3
    · exact h.c i (by omega) hi2
  · exact h.r i (by omega) hi2
theorem not_in {V : SV} {k : Nat} (hk : k < 16) (hd : k < V.d.toNat) (hf : ¬ frIn V k) : pyB V = false := pyB_false (fun hp => hf (by
  obtain ⟨-, -, hu, -⟩ := py_facts hp
  have hr := hp.1.2.2.2
  have e := hr k hd
  refine ⟨?_, ?_, ?_, rise_pos hr k hd, e.2, fun h0 => ?_⟩
  · rw [hu (k * 4) (by omega) (by omega), if_pos (by omega)]
  · rw [hu (k * 4 + 1) (by omega) (by omega), if_neg (by omega)]
  · rw [hu (k * 4 + 2) (by omega) (by omega), if_neg (by omega)]
  · have h1 := e.1
    unfold preC at h1
    rw [if_neg (by omega)] at h1
    exact h1))
theorem not_out {V : SV} {k : Nat} (hk : k < 16) (hd : V.d.toNat ≤ k) (hf : ¬ (V.u (k * 4) = 0 ∧ V.u (k * 4 + 1) = 0 ∧ V.u (k * 4 + 2) = 0 ∧ V.c k = 0)) : pyB V = false := pyB_false (fun hp => hf (by
  obtain ⟨-, -, hu, hc⟩ := py_facts hp
  refine ⟨?_, ?_, ?_, hc k hk hd⟩
  · rw [hu (k * 4) (by omega) (by omega), if_neg (by omega)]
  · rw [hu (k * 4 + 1) (by omega) (by omega), if_neg (by omega)]
  · rw [hu (k * 4 + 2) (by omega) (by omega), if_neg (by omega)]))
theorem may_end {V : SV} (h0 : 0 ≤ V.d) (h1 : V.d ≤ 16) (hw : V.wa = 0) (hd : ∀ k, k < 4 → V.S k = ByteArray.empty ∧ V.P k = false ∧ V.Q k = false) (hf : FrM V 16) : pyB V = decide (lineV V) := by
  have he := py_build hw hd (fun j hj h4 => hf.u j (by omega) h4) (fun i hi hdd => hf.c i hi hdd)
  by_cases hl : lineV V
  · rw [decide_eq_true hl]
    exact pyB_of ⟨h0, h1, hl, fun i hi => hf.r i (by omega) hi⟩ he
  · rw [decide_eq_false hl]
    exact pyB_false (fun h => hl h.1.2.2.1)
theorem empty_iff (s : ByteArray) : s = ByteArray.empty ↔ s.toList = [] := by
  have e : ByteArray.empty.toList = [] := by rw [ByteArray.toList_eq]; rfl
  constructor
  · rintro rfl; exact e
  · intro h
    exact bytes_ext (h.trans e.symm)
set_option maxRecDepth 100000 in
theorem neq_doc (s : ByteArray) (p q : Bool) (w : World) : (binOp .neq 26 (.agg #[.string s, .bool p, .bool q]) (.agg #[.string ⟨#[]⟩, .bool false, .bool false])).run Tryz.prog w = .ok (.bool (!decide (s = ByteArray.empty ∧ p = false ∧ q = false))) w := by
  rw [run_neq_struct, run_equalIn_agg _ 9999 _ _ _ (by kernel_rfl) (by kernel_rfl)]
  simp [go_sem]
  by_cases h : s.toList = []
  · rw [if_pos h, decide_eq_true ((empty_iff s).2 h)]
    cases p <;> cases q <;> rfl
  · rw [if_neg h, decide_eq_false (fun k => h ((empty_iff s).1 k))]
    rfl
set_option maxRecDepth 100000 in
theorem neq_frame (a b c : Nat) (d : Int) (w : World) : (binOp .neq 23 (.agg #[.int .u8 (a : Nat), .int .u8 (b : Nat), .int .u8 (c : Nat), .int .i64 d]) (.agg #[.int .u8 0, .int .u8 0, .int .u8 0, .int .i64 0])).run Tryz.prog w = .ok (.bool (!decide (a = 0 ∧ b = 0 ∧ c = 0 ∧ d = 0))) w := by
  rw [run_neq_struct, run_equalIn_agg _ 9999 _ _ _ (by kernel_rfl) (by kernel_rfl)]
  simp [go_sem]
  by_cases h0 : a = 0 <;> by_cases h1 : b = 0 <;> by_cases h2 : c = 0 <;> by_cases h3 : d = 0 <;> simp [h0, h1, h2, h3]
/-- What stands between rounds over the documents. -/
def DocM (V : SV) (k : Nat) : Prop := ∀ i, i < k → V.S i = ByteArray.empty ∧ V.P i = false ∧ V.Q i = false
theorem doc_cells (V : SV) {w : World} {b k : Nat} (h : w.heap[b]? = some (.cells (svA V) TS)) (hk : k < 4) : w.cell? ⟨b, 69 + k * 3, none⟩ = some (.string (V.S k)) ∧ w.cell? ⟨b, 69 + k * 3 + 1, none⟩ = some (.bool (V.P k)) ∧ w.cell? ⟨b, 69 + k * 3 + 2, none⟩ = some (.bool (V.Q k)) := by
  match k, hk with
  | 0, _ => exact ⟨cellOf h (svA_tl V 5), cellOf h (svA_tl V 6), cellOf h (svA_tl V 7)⟩
  | 1, _ => exact ⟨cellOf h (svA_tl V 8), cellOf h (svA_tl V 9), cellOf h (svA_tl V 10)⟩
  | 2, _ => exact ⟨cellOf h (svA_tl V 11), cellOf h (svA_tl V 12), cellOf h (svA_tl V 13)⟩
  | 3, _ => exact ⟨cellOf h (svA_tl V 14), cellOf h (svA_tl V 15), cellOf h (svA_tl V 16)⟩
attribute [local go_sem ↓] neq_doc neq_frame
set_option maxRecDepth 100000 in
set_option maxHeartbeats 16000000 in
theorem may12_any (W : World) (V : SV) : Calls Tryz.prog 15 #[.agg (svA V)] W fun e w' => e = .returned (.bool (pyB V)) ∧ Up W w' := by
  have c4 : (W.alloc (.cells (svA V) TS)).cell? ⟨W.heap.size, 64, none⟩ = some (.int .i64 V.d) := sv_tl V W 0 rfl
  have c5 : (W.alloc (.cells (svA V) TS)).cell? ⟨W.heap.size, 65, none⟩ = some (.int .u8 (V.mo : Nat)) := sv_tl V W 1 rfl
  have cw : (W.alloc (.cells (svA V) TS)).cell? ⟨W.heap.size, 81, none⟩ = some (.int .i64 V.wa) := sv_tl V W 17 rfl
  have HU := Lib.hid (Up.alloc W (.cells (svA V) TS))
  have HSRC := Lib.hid (Go.heap_alloc_new W (.cells (svA V) TS))
  by_cases hpre : V.d < 0 ∨ 16 < V.d ∨ V.wa ≠ 0 ∨ 1 < V.mo
  · have hpy : pyB V = false := pyB_false (fun h => by
      obtain ⟨k1, k2, k3, -⟩ := h.1
      have k4 := (py_facts h).1
      unfold lineV at k3
      omega)
    rw [hpy]
    generalize svA V = x at *
    obtain ⟨A, hA⟩ : ∃ A, decide (V.d < 0) = A := ⟨_, rfl⟩
    obtain ⟨B, hB⟩ : ∃ B, decide (16 < V.d) = B := ⟨_, rfl⟩
    obtain ⟨C, hC⟩ : ∃ C, (V.wa != 0) = C := ⟨_, rfl⟩
    obtain ⟨C2, hC2⟩ : ∃ C2, (V.wa == 0) = C2 := ⟨_, rfl⟩
    obtain ⟨D, hD⟩ : ∃ D, decide (1 < (V.mo : Int)) = D := ⟨_, rfl⟩
    have hor : (A || B || C || D) = true := by
      rw [← hA, ← hB, ← hC, ← hD]
      simp only [Bool.or_eq_true, decide_eq_true_eq, bne_iff_ne]
      omega
    have hcc : C2 = !C := by rw [← hC, ← hC2]; simp [bne]
    clear hpre hpy HSRC
    cases A <;> cases B <;> cases C <;> cases D <;> (subst hcc; simp at hor)
    all_goals
      clear hor
      go_enter Tryz.func15, Tryz.ntmps15
      go_wp2
      go_ret
      exact ⟨rfl, HU.out⟩
  · obtain ⟨d, hd⟩ : ∃ d : Nat, V.d = (d : Int) := ⟨V.d.toNat, by omega⟩
    have hw : V.wa = 0 := by omega
    have hd16 : d ≤ 16 := by omega
    rw [hd] at c4
    rw [hw] at cw
    have t0 : decide ((d : Int) < 0) = false := decide_eq_false (by omega)
    have t1 : decide (16 < (d : Int)) = false := decide_eq_false (by omega)
    have t2 : decide (1 < (V.mo : Int)) = false := decide_eq_false (by omega)
    have HD := Lib.hid (And.intro hd hd16)
    have HWA := Lib.hid hw
    have HMO := Lib.hid (show V.mo ≤ 1 by omega)
    clear hpre hd hw hd16
    go_enter Tryz.func15, Tryz.ntmps15
    go_upto_region 4 with fail
    generalize hw0 : W.alloc (.cells (svA V) TS) = w0 at *
    generalize hbs : W.heap.size = bs at *
    clear hw0 hbs c4 c5 cw t0 t1 t2
    go_wp2
    go_loopg [3] 4 (fun g iv wr => ∃ k : Nat, g = 4 - k ∧ iv = .int .i64 (k : Nat) ∧ Hid (k ≤ 4 ∧ DocM V k) ∧ Hid (Up w0 wr))
    case atStart => exact ⟨0, rfl, rfl, Lib.hid ⟨by omega, fun i h => absurd h (Nat.not_lt_zero _)⟩, Lib.hid (Up.refl _)⟩
    case round =>
      obtain ⟨k, hg, rfl, HK, HR⟩ := hrel
      have HG := Lib.hid hg
      clear hg
      by_cases hlt : k < 4
      · have HLT := Lib.hid hlt
        have hb := (Below.block HR.out bs (Array.getElem?_eq_some_iff.1 HSRC.out).1).trans HSRC.out
        obtain ⟨c0, c1, c2⟩ := doc_cells V hb hlt
        have i0 : (0 : Int) ≤ k := by omega
        have i1 : (k : Int) < 4 := by omega
        have e4 : IntKind.i64.wrap ((k : Int) + 1) = (k : Int) + 1 := IntWalk.i64_in _ (by omega)
        generalize hS : V.S k = sk at c0
        generalize hP : V.P k = pk at c1
        generalize hQ : V.Q k = qk at c2
        have HSPQ := Lib.hid (And.intro hS (And.intro hP hQ))
        clear hS hP hQ hb hlt
        by_cases hz : sk = ByteArray.empty ∧ pk = false ∧ qk = false
        · have hz' : decide (sk = ByteArray.empty ∧ pk = false ∧ qk = false) = true := decide_eq_true hz
          have HZ := Lib.hid hz
          clear hz
          go_wp2
          go_roundg (4 - (k + 1))
          case measure => rw [HG.out]; have := HLT.out; omega
          case rel =>
            refine ⟨k + 1, rfl, by go_num, Lib.hid ⟨HLT.out, fun i hi => ?_⟩, HR⟩
            by_cases e : i = k
            · subst e
              rw [HSPQ.out.1, HSPQ.out.2.1, HSPQ.out.2.2]
              exact HZ.out
            · exact HK.out.2 i (by omega)
        · have hz' : decide (sk = ByteArray.empty ∧ pk = false ∧ qk = false) = false := decide_eq_false hz
          have HPY := Lib.hid (show pyB V = false from pyB_false (fun h => hz (by
            have := (py_facts h).2.1 k HLT.out
            rw [HSPQ.out.1, HSPQ.out.2.1, HSPQ.out.2.2] at this
            exact this)))
          clear hz
          go_wp2
          go_ret
          exact ⟨ret_bool HPY.out.symm, HU.out.trans HR.out⟩
      · have hk4 : k = 4 := by have := HK.out.1; omega
        subst hk4
        have HDOC := Lib.hid HK.out.2
        clear hlt HK HG
        obtain ⟨wo, hwo⟩ : ∃ wo : World, wo = wr := ⟨_, rfl⟩
        subst hwo
        go_wp2
        go_loopg [4] 16 (fun g iv wrX => ∃ k : Nat, g = 16 - k ∧ iv = .int .i64 (k : Nat) ∧ Hid (k ≤ 16 ∧ FrM V k) ∧ Hid (Up w0 wrX))
        case atStart => exact ⟨0, rfl, rfl, Lib.hid ⟨by omega, FrM.zero V⟩, HR⟩
        case round =>
          clear HR
          obtain ⟨k, hg, rfl, HK, HR⟩ := hrel
          have HG := Lib.hid hg
          clear hg
          have hb := (Below.block HR.out bs (Array.getElem?_eq_some_iff.1 HSRC.out).1).trans HSRC.out
          by_cases hlt : k < 16
          · have HLT := Lib.hid hlt
            have c0 := cellOf hb (svA_at V (j := k * 4) (by omega))
            have c1 := cellOf hb (svA_at V (j := k * 4 + 1) (by omega))
            have c2 := cellOf hb (svA_at V (j := k * 4 + 2) (by omega))
            have c3 := cellOf hb (svA_at V (j := k * 4 + 3) (by omega))
            have c4 := cellOf hb (svA_tl V 0)
            unfold frV at c0 c1 c2 c3
            rw [if_neg (by omega)] at c0 c1 c2
            rw [if_pos (by omega), show (k * 4 + 3) / 4 = k from by omega] at c3
            change _ = some (Value.int .i64 V.d) at c4
            rw [HD.out.1] at c4
            replace c4 := fun o => cell_up (Up.alloc wr o) c4
            have i0 : (0 : Int) ≤ k := by omega
            have i2 : (k : Int) < 16 := by omega
            have e4 : IntKind.i64.wrap ((k : Int) + 1) = (k : Int) + 1 := IntWalk.i64_in _ (by omega)
            have HB := Lib.hid hb
            clear hlt hb
            generalize hu0 : V.u (k * 4) = u0' at c0
            generalize hu1 : V.u (k * 4 + 1) = u1' at c1
            generalize hu2 : V.u (k * 4 + 2) = u2' at c2
            generalize hvc : V.c k = vc at c3
            have HP := Lib.hid (And.intro hu0 (And.intro hu1 (And.intro hu2 hvc)))
            clear hu0 hu1 hu2 hvc
            by_cases hd : d ≤ k
            · have t0 : decide (d ≤ k) = true := decide_eq_true hd
              have HDK := Lib.hid (show V.d.toNat ≤ k by rw [HD.out.1]; omega)
              clear hd
              by_cases hz : u0' = 0 ∧ u1' = 0 ∧ u2' = 0 ∧ vc = 0
              · have hz' : decide (u0' = 0 ∧ u1' = 0 ∧ u2' = 0 ∧ vc = 0) = true := decide_eq_true hz
                have HZ := Lib.hid hz
                clear hz
                go_wp2
                go_roundg (16 - (k + 1))
                case measure => rw [HG.out]; have := HLT.out; omega
                case rel =>
                  refine ⟨k + 1, rfl, by go_num, Lib.hid ⟨HLT.out, HK.out.2.next_out HDK.out ?_ ?_ ?_ ?_⟩, Lib.hid (HR.out.trans (Up.alloc _ _))⟩
                  · rw [HP.out.1]; exact HZ.out.1
                  · rw [HP.out.2.1]; exact HZ.out.2.1
                  · rw [HP.out.2.2.1]; exact HZ.out.2.2.1
                  · rw [HP.out.2.2.2]; exact HZ.out.2.2.2
              · have hz' : decide (u0' = 0 ∧ u1' = 0 ∧ u2' = 0 ∧ vc = 0) = false := decide_eq_false hz
                have HPY := Lib.hid (show pyB V = false from not_out HLT.out HDK.out (by rw [HP.out.1, HP.out.2.1, HP.out.2.2.1, HP.out.2.2.2]; exact hz))
                clear hz
                go_wp2
                go_ret
                exact ⟨ret_bool HPY.out.symm, HU.out.trans (HR.out.trans (Up.alloc _ _))⟩
            · have t0 : decide (d ≤ k) = false := decide_eq_false hd
              have HDK := Lib.hid (show k < V.d.toNat by rw [HD.out.1]; omega)
              clear hd
              generalize hpc : V.c (k - 1) = pc
              have HPC := Lib.hid hpc
              have cp : 0 < k → ∀ o, (wr.alloc o).cell? ⟨bs, (k - 1) * 4 + 3, none⟩ = some (.int .i64 pc) := fun h0 o => by
                have h1 := cellOf HB.out (svA_at V (j := (k - 1) * 4 + 3) (by have := HLT.out; omega))
                unfold frV at h1
                rw [if_pos (by omega), show ((k - 1) * 4 + 3) / 4 = k - 1 from by omega, hpc] at h1
                exact cell_up (Up.alloc wr o) h1
              have HCP := Lib.hid cp
              clear hpc cp
              have i3 : 0 < k → IntKind.i64.wrap ((k : Int) - 1) = ((k - 1 : Nat) : Int) := fun h0 => (IntWalk.i64_in _ (by have := HLT.out; omega)).trans (by omega)
              have HI3 := Lib.hid i3
              clear i3
              go_upto_region 15 with fail
              have hq : (u0' ≠ 10) ∨ (u0' = 10 ∧ u1' ≠ 0) ∨ (u0' = 10 ∧ u1' = 0 ∧ u2' ≠ 0) ∨ (u0' = 10 ∧ u1' = 0 ∧ u2' = 0 ∧ vc < 1) ∨ (u0' = 10 ∧ u1' = 0 ∧ u2' = 0 ∧ 1 ≤ vc ∧ 8388608 < vc) ∨ (u0' = 10 ∧ u1' = 0 ∧ u2' = 0 ∧ 1 ≤ vc ∧ vc ≤ 8388608 ∧ 0 < k ∧ vc ≤ pc) ∨ (u0' = 10 ∧ u1' = 0 ∧ u2' = 0 ∧ 1 ≤ vc ∧ vc ≤ 8388608 ∧ k = 0) ∨ (u0' = 10 ∧ u1' = 0 ∧ u2' = 0 ∧ 1 ≤ vc ∧ vc ≤ 8388608 ∧ 0 < k ∧ pc < vc) := by omega
              rcases hq with hq | hq | hq | hq | hq | hq | hq | hq
              · as_aux_lemma =>
                have x0a : ((u0' : Int) != 10) = true := by simp; omega
                have x0b : ((u0' : Int) == 10) = false := beq_eq_false_iff_ne.2 (by omega)
                have HPY := Lib.hid (show pyB V = false from not_in HLT.out HDK.out (by unfold frIn; rw [HP.out.1, HP.out.2.1, HP.out.2.2.1, HP.out.2.2.2, HPC.out]; omega))
                clear hq
                go_quiet (fail)
                go_wp2
                go_ret
                exact ⟨ret_bool HPY.out.symm, HU.out.trans (HR.out.trans ((Up.alloc _ _).trans (Up.drewN _ _)))⟩
              · as_aux_lemma =>
                have x0a : ((u0' : Int) != 10) = false := by simp; omega
                have x0b : ((u0' : Int) == 10) = true := beq_iff_eq.2 (by omega)
                have x1a : ((u1' : Int) != 0) = true := by simp; omega
                have x1b : ((u1' : Int) == 0) = false := beq_eq_false_iff_ne.2 (by omega)
                have HPY := Lib.hid (show pyB V = false from not_in HLT.out HDK.out (by unfold frIn; rw [HP.out.1, HP.out.2.1, HP.out.2.2.1, HP.out.2.2.2, HPC.out]; omega))
                clear hq
                go_quiet (fail)
                go_wp2
                go_ret
                exact ⟨ret_bool HPY.out.symm, HU.out.trans (HR.out.trans ((Up.alloc _ _).trans (Up.drewN _ _)))⟩
              · as_aux_lemma =>
                have x0a : ((u0' : Int) != 10) = false := by simp; omega
                have x0b : ((u0' : Int) == 10) = true := beq_iff_eq.2 (by omega)
                have x1a : ((u1' : Int) != 0) = false := by simp; omega
                have x1b : ((u1' : Int) == 0) = true := beq_iff_eq.2 (by omega)
                have x2a : ((u2' : Int) != 0) = true := by simp; omega
                have x2b : ((u2' : Int) == 0) = false := beq_eq_false_iff_ne.2 (by omega)
                have HPY := Lib.hid (show pyB V = false from not_in HLT.out HDK.out (by unfold frIn; rw [HP.out.1, HP.out.2.1, HP.out.2.2.1, HP.out.2.2.2, HPC.out]; omega))
                clear hq
                go_quiet (fail)
                go_wp2
                go_ret
                exact ⟨ret_bool HPY.out.symm, HU.out.trans (HR.out.trans ((Up.alloc _ _).trans (Up.drewN _ _)))⟩
              · as_aux_lemma =>
                have x0a : ((u0' : Int) != 10) = false := by simp; omega
                have x0b : ((u0' : Int) == 10) = true := beq_iff_eq.2 (by omega)
                have x1a : ((u1' : Int) != 0) = false := by simp; omega
                have x1b : ((u1' : Int) == 0) = true := beq_iff_eq.2 (by omega)
                have x2a : ((u2' : Int) != 0) = false := by simp; omega
                have x2b : ((u2' : Int) == 0) = true := beq_iff_eq.2 (by omega)
                have x3 : decide (vc < 1) = true := decide_eq_true (by omega)
                have HPY := Lib.hid (show pyB V = false from not_in HLT.out HDK.out (by unfold frIn; rw [HP.out.1, HP.out.2.1, HP.out.2.2.1, HP.out.2.2.2, HPC.out]; omega))
                clear hq
                go_quiet (fail)
                go_wp2
                go_ret
                exact ⟨ret_bool HPY.out.symm, HU.out.trans (HR.out.trans ((Up.alloc _ _).trans (Up.drewN _ _)))⟩
              · as_aux_lemma =>
                have x0a : ((u0' : Int) != 10) = false := by simp; omega
                have x0b : ((u0' : Int) == 10) = true := beq_iff_eq.2 (by omega)
                have x1a : ((u1' : Int) != 0) = false := by simp; omega
                have x1b : ((u1' : Int) == 0) = true := beq_iff_eq.2 (by omega)
                have x2a : ((u2' : Int) != 0) = false := by simp; omega
                have x2b : ((u2' : Int) == 0) = true := beq_iff_eq.2 (by omega)
                have x3 : decide (vc < 1) = false := decide_eq_false (by omega)
                have x4 : decide (8388608 < vc) = true := decide_eq_true (by omega)
                have HPY := Lib.hid (show pyB V = false from not_in HLT.out HDK.out (by unfold frIn; rw [HP.out.1, HP.out.2.1, HP.out.2.2.1, HP.out.2.2.2, HPC.out]; omega))
                clear hq
                go_quiet (fail)
                go_wp2
                go_ret
                exact ⟨ret_bool HPY.out.symm, HU.out.trans (HR.out.trans ((Up.alloc _ _).trans (Up.drewN _ _)))⟩
              · as_aux_lemma =>
                have x0a : ((u0' : Int) != 10) = false := by simp; omega
                have x0b : ((u0' : Int) == 10) = true := beq_iff_eq.2 (by omega)
                have x1a : ((u1' : Int) != 0) = false := by simp; omega
                have x1b : ((u1' : Int) == 0) = true := beq_iff_eq.2 (by omega)
                have x2a : ((u2' : Int) != 0) = false := by simp; omega
                have x2b : ((u2' : Int) == 0) = true := beq_iff_eq.2 (by omega)
                have x3 : decide (vc < 1) = false := decide_eq_false (by omega)
                have x4 : decide (8388608 < vc) = false := decide_eq_false (by omega)
                have x5 : decide (0 < k) = true := decide_eq_true (by omega)
                have x5b : (0 : Int) < (k : Int) := by omega
                have cp := HCP.out (by omega)
                have i3 := HI3.out (by omega)
                have i4 : (0 : Int) ≤ ((k - 1 : Nat) : Int) := by omega
                have i5 : ((k - 1 : Nat) : Int) < 16 := by omega
                have x6 : decide (vc ≤ pc) = true := decide_eq_true (by omega)
                have HPY := Lib.hid (show pyB V = false from not_in HLT.out HDK.out (by unfold frIn; rw [HP.out.1, HP.out.2.1, HP.out.2.2.1, HP.out.2.2.2, HPC.out]; omega))
                clear hq
                go_quiet (fail)
                go_wp2
                go_ret
                exact ⟨ret_bool HPY.out.symm, HU.out.trans (HR.out.trans ((Up.alloc _ _).trans (Up.drewN _ _)))⟩
              · as_aux_lemma =>
                have x0a : ((u0' : Int) != 10) = false := by simp; omega
                have x0b : ((u0' : Int) == 10) = true := beq_iff_eq.2 (by omega)
                have x1a : ((u1' : Int) != 0) = false := by simp; omega
                have x1b : ((u1' : Int) == 0) = true := beq_iff_eq.2 (by omega)
                have x2a : ((u2' : Int) != 0) = false := by simp; omega
                have x2b : ((u2' : Int) == 0) = true := beq_iff_eq.2 (by omega)
                have x3 : decide (vc < 1) = false := decide_eq_false (by omega)
                have x4 : decide (8388608 < vc) = false := decide_eq_false (by omega)
                have x5 : decide (0 < k) = false := decide_eq_false (by omega)
                have x5b : ¬ (0 : Int) < (k : Int) := by omega
                have HIN := Lib.hid (show frIn V k by unfold frIn; rw [HP.out.1, HP.out.2.1, HP.out.2.2.1, HP.out.2.2.2, HPC.out]; omega)
                clear hq
                go_quiet (fail)
                go_wp2
                go_roundg (16 - (k + 1))
                case measure => rw [HG.out]; have := HLT.out; omega
                case rel => exact ⟨k + 1, rfl, by go_num, Lib.hid ⟨HLT.out, HK.out.2.next_in HDK.out HIN.out⟩, Lib.hid (HR.out.trans ((Up.alloc _ _).trans (Up.drewN _ _)))⟩
              · as_aux_lemma =>
                have x0a : ((u0' : Int) != 10) = false := by simp; omega
                have x0b : ((u0' : Int) == 10) = true := beq_iff_eq.2 (by omega)
                have x1a : ((u1' : Int) != 0) = false := by simp; omega
                have x1b : ((u1' : Int) == 0) = true := beq_iff_eq.2 (by omega)
                have x2a : ((u2' : Int) != 0) = false := by simp; omega
                have x2b : ((u2' : Int) == 0) = true := beq_iff_eq.2 (by omega)
                have x3 : decide (vc < 1) = false := decide_eq_false (by omega)
                have x4 : decide (8388608 < vc) = false := decide_eq_false (by omega)
                have x5 : decide (0 < k) = true := decide_eq_true (by omega)
                have x5b : (0 : Int) < (k : Int) := by omega
                have cp := HCP.out (by omega)
                have i3 := HI3.out (by omega)
                have i4 : (0 : Int) ≤ ((k - 1 : Nat) : Int) := by omega
                have i5 : ((k - 1 : Nat) : Int) < 16 := by omega
                have x6 : decide (vc ≤ pc) = false := decide_eq_false (by omega)
                have HIN := Lib.hid (show frIn V k by unfold frIn; rw [HP.out.1, HP.out.2.1, HP.out.2.2.1, HP.out.2.2.2, HPC.out]; omega)
                clear hq
                go_quiet (fail)
                go_wp2
                go_roundg (16 - (k + 1))
                case measure => rw [HG.out]; have := HLT.out; omega
                case rel => exact ⟨k + 1, rfl, by go_num, Lib.hid ⟨HLT.out, HK.out.2.next_in HDK.out HIN.out⟩, Lib.hid (HR.out.trans ((Up.alloc _ _).trans (Up.drewN _ _)))⟩
          · have hk16 : k = 16 := by have := HK.out.1; omega
            subst hk16
            have HPY := Lib.hid (may_end (V := V) (by rw [HD.out.1]; omega) (by rw [HD.out.1]; have := HD.out.2; omega) HWA.out HDOC.out HK.out.2)
            have c5 : wr.cell? ⟨bs, 65, none⟩ = some (.int .u8 (V.mo : Nat)) := cellOf hb (svA_tl V 1)
            have c6 : wr.cell? ⟨bs, 66, none⟩ = some (.int .u8 (V.ma : Nat)) := cellOf hb (svA_tl V 2)
            have c7 : wr.cell? ⟨bs, 67, none⟩ = some (.int .u8 (V.fl : Nat)) := cellOf hb (svA_tl V 3)
            have c8 : wr.cell? ⟨bs, 68, none⟩ = some (.int .i64 V.co) := cellOf hb (svA_tl V 4)
            have hmo := HMO.out
            have hl : pyB V = decide ((V.mo = 0 ∧ V.ma = 0 ∧ V.co = 0 ∧ (V.fl = 0 ∨ V.fl = 1)) ∨ (V.mo = 1 ∧ V.ma ≤ 4 ∧ 0 ≤ V.co ∧ V.co ≤ 1048576 ∧ (V.fl = 0 ∨ V.fl = 2))) := by rw [HPY.out, Bool.eq_iff_iff, decide_eq_true_eq, decide_eq_true_eq]; exact Iff.rfl
            clear hlt hb HPY
            generalize V.mo = mo at *
            generalize V.ma = ma at *
            generalize V.fl = fl at *
            generalize V.co = co at *
            by_cases h0 : mo = 0
            · subst h0
              rw [show ((0 : Nat) : Int) = 0 from rfl] at c5
              obtain ⟨A, hA⟩ : ∃ A, ((ma : Int) == 0) = A := ⟨_, rfl⟩
              obtain ⟨B, hB⟩ : ∃ B, (co == 0) = B := ⟨_, rfl⟩
              obtain ⟨C, hC⟩ : ∃ C, ((fl : Int) == 0) = C := ⟨_, rfl⟩
              obtain ⟨D, hD⟩ : ∃ D, ((fl : Int) == 1) = D := ⟨_, rfl⟩
              have HE := Lib.hid (show pyB V = (A && (B && (C || D))) by
                rw [hl, ← hA, ← hB, ← hC, ← hD, Bool.eq_iff_iff]
                simp only [decide_eq_true_eq, Bool.and_eq_true, Bool.or_eq_true, beq_iff_eq, true_and]
                omega)
              clear hl hmo
              cases A <;> cases B <;> cases C <;> cases D
              all_goals
                go_wp2
                go_ret
                exact ⟨ret_bool HE.out.symm, HU.out.trans HR.out⟩
            · obtain rfl : mo = 1 := by omega
              rw [show ((1 : Nat) : Int) = 1 from rfl] at c5
              obtain ⟨A, hA⟩ : ∃ A, decide ((ma : Int) ≤ 4) = A := ⟨_, rfl⟩
              obtain ⟨B, hB⟩ : ∃ B, decide (0 ≤ co) = B := ⟨_, rfl⟩
              obtain ⟨B2, hB2⟩ : ∃ B2, decide (co ≤ 1048576) = B2 := ⟨_, rfl⟩
              obtain ⟨C, hC⟩ : ∃ C, ((fl : Int) == 0) = C := ⟨_, rfl⟩
              obtain ⟨D, hD⟩ : ∃ D, ((fl : Int) == 2) = D := ⟨_, rfl⟩
              have HE := Lib.hid (show pyB V = (A && (B && (B2 && (C || D)))) by
                rw [hl, ← hA, ← hB, ← hB2, ← hC, ← hD, Bool.eq_iff_iff]
                simp only [decide_eq_true_eq, Bool.and_eq_true, Bool.or_eq_true, beq_iff_eq, true_and]
                omega)
              clear hl hmo h0
              cases A <;> cases B <;> cases B2 <;> cases C <;> cases D
              all_goals
                go_wp2
                go_ret
                exact ⟨ret_bool HE.out.symm, HU.out.trans HR.out⟩
end Go.Proofs.YtmfcapbllbfjnaaGreatDoor
