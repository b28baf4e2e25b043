/- A tree cut in two, and two trees made one: the program's cut and link. -/
import Derived.Test.YthiiemjbigcinaaQJoin
import Derived.Test.YthiiemjbigcinaaQRows
namespace Go.Proofs.Ythiiemjbigcinaa
open Go.RowKit

/-- Two trees: of the first i items, and of those behind them. -/
def CPost (G : Nat → Prop) (A B : Row) (w : World) (e : Ending) (w' : World) : Prop := ∃ ta tb va vb, e = .returned (.tuple #[va, vb]) ∧ Tr G w' ta va ∧ Tr G w' tb vb ∧ Av ta ∧ Av tb ∧ ta.row = A ∧ tb.row = B ∧ Up w w'
set_option maxRecDepth 100000 in
set_option maxHeartbeats 400000 in
theorem cut_low (p : Option Addr) (i : Int) (hi : i ≤ 0) (w : World) : Calls Try.prog 26 #[.pointer p, .int .i64 i] w fun e w' => e = .returned (.tuple #[.pointer none, .pointer p]) ∧ w = w' := by
  go_enter Try.func26, Try.ntmps26
  go_wp2
  go_ret2
  exact ⟨rfl, rfl⟩
set_option maxRecDepth 100000 in
set_option maxHeartbeats 400000 in
theorem cut_high (p : Option Addr) (c d : Nat) (s : Int) (i : Int) (h0 : 0 < i) (hi : (c : Int) ≤ i) (w : World) (KA : CntC w (.pointer p) c s d) : Calls Try.prog 26 #[.pointer p, .int .i64 i] w fun e w' => e = .returned (.tuple #[.pointer p, .pointer none]) ∧ Up w w' := by
  have hU := Up.refl w
  have hfa := fld0 (c : Nat) s (d : Nat)
  have HKA := Lib.hid KA
  clear KA
  go_enter Try.func26, Try.ntmps26
  go_wp2_with (go_at_call 30; ((with_reducible refine (HKA.out.at_ hU).mono ?_); rintro e w1 ⟨rfl, hu1⟩))
  go_ret2
  exact ⟨rfl, hu1⟩
set_option maxRecDepth 100000 in
set_option maxHeartbeats 2000000 in
theorem cut_left {G : Nat → Prop} (w : World) (b i : Nat) (pl pr : Option Addr) (xs : ByteArray) (xz : Int) (c d cl dl : Nat) (s sl : Int) (A B : Row) (x : ByteArray × Int)
    (c_b_0 : w.cell? ⟨b, 0, none⟩ = some (.string xs)) (c_b_1 : w.cell? ⟨b, 1, none⟩ = some (.int .i64 xz)) (c_b_5 : w.cell? ⟨b, 5, none⟩ = some (.pointer pl)) (c_b_6 : w.cell? ⟨b, 6, none⟩ = some (.pointer pr))
    (KA : CntC w (ptr b) c s d) (KL : CntC w (.pointer pl) cl sl dl) (h0 : (0 : Int) < i) (hi : ¬ c ≤ i) (R : QT) (hl : (i : Int) ≤ cl)
    (PC : ∀ W, Up w W → Calls Try.prog 26 #[.pointer pl, .int .i64 (i : Nat)] W (CPost G A B W))
    (PJ : ∀ W v t, Up w W → Tr G W t v → Av t → t.row = B → Calls Try.prog 32 #[v, .agg #[.string xs, .int .i64 xz], .pointer pr] W (JPost G t x R W)) :
    Calls Try.prog 26 #[ptr b, .int .i64 (i : Nat)] w fun e w' => ∃ ta tb tj va vj, e = .returned (.tuple #[va, vj]) ∧ Tr G w' ta va ∧ Tr G w' tj vj ∧ Av ta ∧ ta.row = A ∧ tb.row = B ∧ Av tb ∧ Up w w' ∧ JSpec tb x R tj := by
  have f1 : decide (c ≤ i) = false := decide_eq_false hi
  have hU := Up.refl w
  have hfa := fld0 (c : Nat) s (d : Nat)
  have hfl := fld0 (cl : Nat) sl (dl : Nat)
  have HKA := Lib.hid KA
  have HKL := Lib.hid KL
  have HPC := Lib.hid PC
  have HPJ := Lib.hid PJ
  clear KA KL PC PJ hi
  go_enter Try.func26, Try.ntmps26
  go_wp2_with (first
    | (go_at_call 30; ((with_reducible refine (HKA.out.at_ hU).mono ?_); rintro e w1 ⟨rfl, hu1⟩; have c_b_0 := cell_up hu1 c_b_0; have c_b_1 := cell_up hu1 c_b_1; have c_b_5 := cell_up hu1 c_b_5; have c_b_6 := cell_up hu1 c_b_6; have hU := hU.trans hu1; clear hu1))
    | (go_at_call 30; ((with_reducible refine (HKL.out.at_ hU).mono ?_); rintro e w1 ⟨rfl, hu1⟩; have c_b_0 := cell_up hu1 c_b_0; have c_b_1 := cell_up hu1 c_b_1; have c_b_5 := cell_up hu1 c_b_5; have c_b_6 := cell_up hu1 c_b_6; have hU := hU.trans hu1; clear hu1))
    | (go_at_call 26; ((with_reducible refine (HPC.out _ hU).mono ?_); rintro e w3 ⟨ta, tb, va, vb, rfl, hta, htb, hav, hbv, hra, hrb, hu3⟩; have c_b_0 := cell_up hu3 c_b_0; have c_b_1 := cell_up hu3 c_b_1; have c_b_5 := cell_up hu3 c_b_5; have c_b_6 := cell_up hu3 c_b_6; have HRA := Lib.hid hra; have HRB := Lib.hid hrb; have hU := hU.trans hu3; clear hu3 hra hrb)))
  have hS : Up w w3 ∧ w3.cell? ⟨b, 0, none⟩ = some (.string xs) ∧ w3.cell? ⟨b, 1, none⟩ = some (.int .i64 xz) ∧ w3.cell? ⟨b, 5, none⟩ = some (.pointer pl) ∧ w3.cell? ⟨b, 6, none⟩ = some (.pointer pr) := ⟨hU, c_b_0, c_b_1, c_b_5, c_b_6⟩
  clear hU c_b_0 c_b_1 c_b_5 c_b_6
  go_region_held3 (fun w' => Up w w' ∧ w'.cell? ⟨b, 0, none⟩ = some (.string xs) ∧ w'.cell? ⟨b, 1, none⟩ = some (.int .i64 xz) ∧ w'.cell? ⟨b, 5, none⟩ = some (.pointer pl) ∧ w'.cell? ⟨b, 6, none⟩ = some (.pointer pr))
    (first | assumption | with_reducible exact qkeep4 hu2 (by assumption) | with_reducible exact qkeep4 (Up.drew _) (by assumption))
    (first
      | (go_at_call 32; ((with_reducible refine (HPJ.out _ _ _ ?_ ?_ ?_ HRB.out).mono ?_); (exact (by assumption : Up w _ ∧ _).1); (first | exact htb.up (Up.drew _) | exact hta.up (Up.drew _) | exact htb | exact hta); (first | exact hbv | exact hav); rintro e w2 ⟨tj, vj, rfl, hj, hnj, hu2⟩; have HJ := Lib.hid hj; clear hj))
      )
  have HF := Lib.hid (by assumption : Up w w2 ∧ _).1
  go_wp2
  go_ret2
  exact ⟨ta, tb, tj, va, vj, rfl, hta.up ((Up.drew _).trans hu2), hnj, hav, HRA.out, HRB.out, hbv, HF.out, HJ.out⟩
set_option maxRecDepth 100000 in
set_option maxHeartbeats 2000000 in
theorem cut_right {G : Nat → Prop} (w : World) (b i j : Nat) (pl pr : Option Addr) (xs : ByteArray) (xz : Int) (c d cl dl : Nat) (s sl : Int) (A B : Row) (x : ByteArray × Int)
    (c_b_0 : w.cell? ⟨b, 0, none⟩ = some (.string xs)) (c_b_1 : w.cell? ⟨b, 1, none⟩ = some (.int .i64 xz)) (c_b_5 : w.cell? ⟨b, 5, none⟩ = some (.pointer pl)) (c_b_6 : w.cell? ⟨b, 6, none⟩ = some (.pointer pr))
    (KA : CntC w (ptr b) c s d) (KL : CntC w (.pointer pl) cl sl dl) (h0 : (0 : Int) < i) (hi : ¬ c ≤ i) (hc : (c : Int) ≤ 2097152) (L : QT) (hl : ¬ i ≤ cl) (hj : (i : Int) = cl + 1 + j)
    (PC : ∀ W, Up w W → Calls Try.prog 26 #[.pointer pr, .int .i64 (j : Nat)] W (CPost G A B W))
    (PJ : ∀ W v t, Up w W → Tr G W t v → Av t → t.row = A → Calls Try.prog 32 #[.pointer pl, .agg #[.string xs, .int .i64 xz], v] W (JPost G L x t W)) :
    Calls Try.prog 26 #[ptr b, .int .i64 (i : Nat)] w fun e w' => ∃ ta tb tj vj vb, e = .returned (.tuple #[vj, vb]) ∧ Tr G w' tb vb ∧ Tr G w' tj vj ∧ Av tb ∧ ta.row = A ∧ tb.row = B ∧ Av ta ∧ Up w w' ∧ JSpec L x ta tj := by
  have f1 : decide (c ≤ i) = false := decide_eq_false hi
  have hU := Up.refl w
  have hfa := fld0 (c : Nat) s (d : Nat)
  have hfl := fld0 (cl : Nat) sl (dl : Nat)
  have f2 : decide (i ≤ cl) = false := decide_eq_false hl
  have e1 : IntKind.i64.wrap ((i : Int) - cl) = (i : Int) - cl := IntWalk.i64_in _ (by omega)
  have e2 : IntKind.i64.wrap ((i : Int) - cl - 1) = (j : Int) := (IntWalk.i64_in _ (by omega)).trans (by omega)
  clear hl hj
  have HKA := Lib.hid KA
  have HKL := Lib.hid KL
  have HPC := Lib.hid PC
  have HPJ := Lib.hid PJ
  clear KA KL PC PJ hi hc
  go_enter Try.func26, Try.ntmps26
  go_wp2_with (first
    | (go_at_call 30; ((with_reducible refine (HKA.out.at_ hU).mono ?_); rintro e w1 ⟨rfl, hu1⟩; have c_b_0 := cell_up hu1 c_b_0; have c_b_1 := cell_up hu1 c_b_1; have c_b_5 := cell_up hu1 c_b_5; have c_b_6 := cell_up hu1 c_b_6; have hU := hU.trans hu1; clear hu1))
    | (go_at_call 30; ((with_reducible refine (HKL.out.at_ hU).mono ?_); rintro e w1 ⟨rfl, hu1⟩; have c_b_0 := cell_up hu1 c_b_0; have c_b_1 := cell_up hu1 c_b_1; have c_b_5 := cell_up hu1 c_b_5; have c_b_6 := cell_up hu1 c_b_6; have hU := hU.trans hu1; clear hu1))
    | (go_at_call 26; ((with_reducible refine (HPC.out _ hU).mono ?_); rintro e w3 ⟨ta, tb, va, vb, rfl, hta, htb, hav, hbv, hra, hrb, hu3⟩; have c_b_0 := cell_up hu3 c_b_0; have c_b_1 := cell_up hu3 c_b_1; have c_b_5 := cell_up hu3 c_b_5; have c_b_6 := cell_up hu3 c_b_6; have HRA := Lib.hid hra; have HRB := Lib.hid hrb; have hU := hU.trans hu3; clear hu3 hra hrb)))
  have hS : Up w w3 ∧ w3.cell? ⟨b, 0, none⟩ = some (.string xs) ∧ w3.cell? ⟨b, 1, none⟩ = some (.int .i64 xz) ∧ w3.cell? ⟨b, 5, none⟩ = some (.pointer pl) ∧ w3.cell? ⟨b, 6, none⟩ = some (.pointer pr) := ⟨hU, c_b_0, c_b_1, c_b_5, c_b_6⟩
  clear hU c_b_0 c_b_1 c_b_5 c_b_6
  go_region_held3 (fun w' => Up w w' ∧ w'.cell? ⟨b, 0, none⟩ = some (.string xs) ∧ w'.cell? ⟨b, 1, none⟩ = some (.int .i64 xz) ∧ w'.cell? ⟨b, 5, none⟩ = some (.pointer pl) ∧ w'.cell? ⟨b, 6, none⟩ = some (.pointer pr))
    (first | assumption | with_reducible exact qkeep4 hu2 (by assumption) | with_reducible exact qkeep4 (Up.drew _) (by assumption))
    (first
      | (go_at_call 32; ((with_reducible refine (HPJ.out _ _ _ ?_ ?_ ?_ HRA.out).mono ?_); (exact (by assumption : Up w _ ∧ _).1); (first | exact hta.up (Up.drew _) | exact htb.up (Up.drew _) | exact hta | exact htb); (first | exact hav | exact hbv); rintro e w2 ⟨tj, vj, rfl, hj, hnj, hu2⟩; have HJ := Lib.hid hj; clear hj))
      )
  have HF := Lib.hid (by assumption : Up w w2 ∧ _).1
  go_wp2
  go_ret2
  exact ⟨ta, tb, tj, vj, vb, rfl, htb.up ((Up.drew _).trans hu2), hnj, hbv, HRA.out, HRB.out, hav, HF.out, HJ.out⟩
set_option maxRecDepth 100000 in
set_option maxHeartbeats 1000000 in
theorem link_nil (p : Option Addr) (w : World) : Calls Try.prog 27 #[.pointer p, .pointer none] w fun e w' => e = .returned (.pointer p) ∧ w = w' := by
  go_enter Try.func27, Try.ntmps27
  go_wp2
  go_ret
  exact ⟨rfl, rfl⟩
/-- A new tree of these items. -/
def RPost (G : Nat → Prop) (R : Row) (w : World) (e : Ending) (w' : World) : Prop := ∃ t v, e = .returned v ∧ Tr G w' t v ∧ Av t ∧ t.row = R ∧ Up w w'
set_option maxRecDepth 100000 in
set_option maxHeartbeats 1000000 in
theorem link_some {G : Nat → Prop} (w : World) (bb : Nat) (pa : Option Addr) (B R : Row)
    (PC : ∀ W, Up w W → Calls Try.prog 26 #[ptr bb, .int .i64 1] W fun e w' => ∃ (fb : Nat) (x : ByteArray × Int) (p2 : Option Addr) (tb : QT), e = .returned (.tuple #[ptr fb, .pointer p2]) ∧ w'.cell? ⟨fb, 0, none⟩ = some (.string x.1) ∧ w'.cell? ⟨fb, 1, none⟩ = some (.int .i64 x.2) ∧ (Tr G w' tb (.pointer p2) ∧ Av tb ∧ x :: tb.row = B) ∧ Up W w')
    (PJ : ∀ W x tb p2, Up w W → (Tr G W tb (.pointer p2) ∧ Av tb ∧ x :: tb.row = B) → Calls Try.prog 32 #[.pointer pa, thV x, .pointer p2] W (RPost G R W)) :
    Calls Try.prog 27 #[.pointer pa, ptr bb] w (RPost G R w) := by
  have hU := Up.refl w
  have HPC := Lib.hid PC
  have HPJ := Lib.hid PJ
  clear PC PJ
  go_enter Try.func27, Try.ntmps27
  go_wp2_with (first
    | (go_at_call 26; ((with_reducible refine (HPC.out _ hU).mono ?_); rintro e w1 ⟨fb, x, p2, tb, rfl, c0, c1, ht, hu1⟩; have HT := Lib.hid ht; have hU := hU.trans hu1; clear ht hu1))
    | (go_at_call 32; ((with_reducible refine (HPJ.out _ x tb _ hU HT.out).mono ?_); rintro e w2 ⟨t, v, rfl, h1, h2, h3, hu2⟩; have H3 := Lib.hid h3; clear h3)))
  go_ret
  exact ⟨t, v, rfl, h1, h2, H3.out, hU.trans hu2⟩
theorem cut_any {G : Nat → Prop} : ∀ (t : QT) (v : Value) (i : Int) (w : World), Tr G w t v → (∀ i, w.heap.size ≤ i → G i) → Av t → ROk t.row →
    Calls Try.prog 26 #[v, .int .i64 i] w (CPost G (t.row.take i.toNat) (t.row.drop i.toNat) w)
  | t, v, i, w, ht, hG, ha, hok => by
    obtain ⟨p, rfl⟩ := ht.isPtr
    by_cases h0 : i ≤ 0
    · refine (cut_low p i h0 w).mono ?_
      rintro e w' ⟨rfl, rfl⟩
      rw [show i.toNat = 0 from by omega, List.take_zero, List.drop_zero]
      exact ⟨.nil, t, _, _, rfl, rfl, ht, trivial, ha, rfl, rfl, Up.refl w⟩
    by_cases h1 : (t.cn : Int) ≤ i
    · refine (cut_high p t.cn t.dp t.sm i (by omega) h1 w (cnt_of ht)).mono ?_
      rintro e w' ⟨rfl, hu⟩
      have h2 : t.row.length ≤ i.toNat := by unfold QT.cn at h1; omega
      rw [List.take_of_length_le h2, List.drop_eq_nil_of_le h2]
      exact ⟨t, .nil, _, _, rfl, ht.up hu, rfl, ha, trivial, rfl, rfl, hu⟩
    obtain ⟨k, rfl⟩ : ∃ k : Nat, i = (k : Int) := ⟨i.toNat, by omega⟩
    rw [Int.toNat_natCast]
    cases t with
    | nil => exact absurd h1 (by rw [cn_nil]; omega)
    | node l x r =>
      have hA := ht
      obtain ⟨b, vl, vr, e, -, hc, hl, hr⟩ := ht
      obtain ⟨pl, rfl⟩ := hl.isPtr
      obtain ⟨pr, rfl⟩ := hr.isPtr
      rw [e] at hA ⊢
      have hcn := hok.nmt.c
      by_cases h2 : k ≤ l.cn
      · have hsp : ROk (l.row.take k ++ (l.row.drop k ++ x :: r.row)) := by rw [← List.append_assoc, List.take_append_drop]; exact hok
        have hA2 : (QT.node l x r).row.take k = l.row.take k := List.take_append_of_le_length h2
        have hB2 : (QT.node l x r).row.drop k = l.row.drop k ++ x :: r.row := List.drop_append_of_le_length h2
        refine (cut_left w b k pl pr x.1 x.2 _ (QT.node l x r).dp l.cn l.dp (QT.node l x r).sm l.sm (l.row.take k) (l.row.drop k) x (cellOf hc rfl) (cellOf hc rfl) (cellOf hc rfl) (cellOf hc rfl) (cnt_of hA) (cnt_of hl) (by omega) (by omega) r (by omega)
          (fun W hu => cut_any l (.pointer pl) (k : Int) W (hl.up hu) (gUp hG hu) ha.1 (rok_l hok)) (fun W v t hu ht hav hrow => join_any _ t r x _ _ W (Nat.le_refl _) ht (hr.up hu) (gUp hG hu) hav ha.2.1 (by rw [hrow]; exact hsp.right))).mono ?_
        rintro e w' ⟨ta, tb, tj, va, vj, rfl, k1, k2, k3, k4, k5, k6, k7, k8⟩
        exact ⟨ta, tj, va, vj, rfl, k1, k2, k3, k8.av, by rw [k4, hA2], by rw [k8.row, k5, hB2], k7⟩
      · obtain ⟨j, rfl⟩ : ∃ j, k = l.cn + 1 + j := ⟨k - (l.cn + 1), by omega⟩
        have hA2 : (QT.node l x r).row.take (l.cn + 1 + j) = l.row ++ x :: r.row.take j := by
          rw [row_node, List.take_append, List.take_of_length_le (show l.row.length ≤ l.cn + 1 + j from by unfold QT.cn; omega), show l.cn + 1 + j - l.row.length = j + 1 from by unfold QT.cn; omega, List.take_succ_cons]
        have hB2 : (QT.node l x r).row.drop (l.cn + 1 + j) = r.row.drop j := by
          rw [row_node, List.drop_append, List.drop_eq_nil_of_le (show l.row.length ≤ l.cn + 1 + j from by unfold QT.cn; omega), show l.cn + 1 + j - l.row.length = j + 1 from by unfold QT.cn; omega, List.drop_succ_cons, List.nil_append]
        have hsp : ROk ((l.row ++ x :: r.row.take j) ++ r.row.drop j) := by rw [List.append_assoc, List.cons_append, List.take_append_drop]; exact hok
        refine (cut_right w b (l.cn + 1 + j) j pl pr x.1 x.2 _ (QT.node l x r).dp l.cn l.dp (QT.node l x r).sm l.sm (r.row.take j) (r.row.drop j) x (cellOf hc rfl) (cellOf hc rfl) (cellOf hc rfl) (cellOf hc rfl) (cnt_of hA) (cnt_of hl) (by omega) (by omega) hcn l (by omega) (by omega)
          (fun W hu => cut_any r (.pointer pr) (j : Int) W (hr.up hu) (gUp hG hu) ha.2.1 (rok_r hok)) (fun W v t hu ht hav hrow => join_any _ l t x _ _ W (Nat.le_refl _) (hl.up hu) ht (gUp hG hu) ha.1 hav (by rw [hrow]; exact hsp.left))).mono ?_
        rintro e w' ⟨ta, tb, tj, vj, vb, rfl, k1, k2, k3, k4, k5, k6, k7, k8⟩
        exact ⟨tj, tb, vj, vb, rfl, k2, k1, k8.av, k3, by rw [k8.row, k4, hA2], by rw [k5, hB2], k7⟩
theorem one_row {t : QT} {x0 : ByteArray × Int} (h : t.row = [x0]) : ∃ l r, t = .node l x0 r := by
  cases t with
  | nil => cases h
  | node l x r =>
    rw [row_node] at h
    cases hl : l.row with
    | nil =>
      rw [hl] at h
      injection h with h1 h2
      exact ⟨l, r, by rw [h1]⟩
    | cons y l2 =>
      rw [hl] at h
      injection h with h1 h2
      exact absurd h2 (by simp)
theorem link_any {G : Nat → Prop} {a b : QT} {va vb : Value} {w : World} (ha : Tr G w a va) (hb : Tr G w b vb) (hG : ∀ i, w.heap.size ≤ i → G i) (aa : Av a) (ab : Av b) (hok : ROk (a.row ++ b.row)) :
    Calls Try.prog 27 #[va, vb] w (RPost G (a.row ++ b.row) w) := by
  obtain ⟨pa, rfl⟩ := ha.isPtr
  cases hB : b with
  | nil =>
    rw [hB] at hb
    obtain rfl : vb = .pointer none := hb
    refine (link_nil pa w).mono ?_
    rintro e w' ⟨rfl, rfl⟩
    exact ⟨a, _, rfl, ha, aa, by simp [QT.row], Up.refl w⟩
  | node l x r =>
    rw [← hB]
    have hb2 := hb
    rw [hB] at hb2
    obtain ⟨bb, vl, vr, rfl, -⟩ := hb2
    have hlen : 0 < b.row.length := by rw [hB, row_node, List.length_append, List.length_cons]; omega
    refine link_some w bb pa b.row (a.row ++ b.row) (fun W hu => (cut_any b (ptr bb) 1 W (hb.up hu) (gUp hG hu) ab hok.right).mono ?_) (fun W x tb p2 hu hT => ?_)
    · rintro e w' ⟨ta, tb, va, vb, rfl, k1, k2, k3, k4, k5, k6, k7⟩
      obtain ⟨x0, hx0⟩ : ∃ x0, b.row.take (1 : Int).toNat = [x0] := by
        cases hr : b.row with
        | nil => rw [hr] at hlen; exact absurd hlen (Nat.lt_irrefl _)
        | cons y l2 => exact ⟨y, rfl⟩
      obtain ⟨l2, r2, rfl⟩ := one_row (k5.trans hx0)
      obtain ⟨fb, vl2, vr2, rfl, -, hc, -, -⟩ := k1
      obtain ⟨p2, rfl⟩ := k2.isPtr
      refine ⟨fb, x0, p2, tb, rfl, cellOf hc rfl, cellOf hc rfl, ⟨k2, k4, ?_⟩, k7⟩
      have := List.take_append_drop (1 : Int).toNat b.row
      rw [hx0, ← k6] at this
      exact this
    · obtain ⟨t1, t2, t3⟩ := hT
      refine (join_any _ a tb x _ _ W (Nat.le_refl _) (ha.up hu) t1 (gUp hG hu) aa t2 (by rw [t3]; exact hok)).mono ?_
      rintro e w' ⟨t, v, h1, h2, h3, h4⟩
      exact ⟨t, v, h1, h3, h2.av, by rw [h2.row, t3], h4⟩
end Go.Proofs.Ythiiemjbigcinaa
