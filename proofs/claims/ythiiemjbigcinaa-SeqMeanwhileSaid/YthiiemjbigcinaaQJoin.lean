/- Two trees made one, with an item between, however deep they are: the program's join. -/
import Derived.Test.YthiiemjbigcinaaQLevelAny
namespace Go.Proofs.Ythiiemjbigcinaa
open Go.RowKit

/-- A new tree that join may make. -/
def JPost (G : Nat → Prop) (a : QT) (x : ByteArray × Int) (b : QT) (w : World) (e : Ending) (w' : World) : Prop := ∃ t v, e = .returned v ∧ JSpec a x b t ∧ Tr G w' t v ∧ Up w w'
set_option maxRecDepth 100000 in
set_option maxHeartbeats 2000000 in
theorem join_l {G : Nat → Prop} (w : World) (ba : Nat) (pal par pb : Option Addr) (axs : ByteArray) (axz : Int) (ta tb : QT) (x : ByteArray × Int) (F : QT → QT) (xs : ByteArray) (xz : Int) (ca cb ad bd : Nat) (sa sb : Int)
    (c_ba_0 : w.cell? ⟨ba, 0, none⟩ = some (.string axs)) (c_ba_1 : w.cell? ⟨ba, 1, none⟩ = some (.int .i64 axz)) (c_ba_5 : w.cell? ⟨ba, 5, none⟩ = some (.pointer pal)) (c_ba_6 : w.cell? ⟨ba, 6, none⟩ = some (.pointer par))
    (hd1 : (bd : Int) ≤ 1048576000) (hd2 : (ad : Int) ≤ 1048576000) (h1 : (bd : Int) + 1 < ad)
    (KA : CntC w (ptr ba) ca sa ad) (KB : CntC w (.pointer pb) cb sb bd)
    (PJ : ∀ W, Up w W → Calls Try.prog 32 #[.pointer par, .agg #[.string xs, .int .i64 xz], .pointer pb] W (JPost G ta x tb W))
    (PL : ∀ W v t, Up w W → JSpec ta x tb t → Tr G W t v → Calls Try.prog 34 #[.pointer pal, .agg #[.string axs, .int .i64 axz], v] W (NewQ G (F t) W)) :
    Calls Try.prog 32 #[(ptr ba), .agg #[.string xs, .int .i64 xz], (.pointer pb)] w (fun e w' => ∃ t v, e = .returned v ∧ JSpec ta x tb t ∧ Tr G w' (F t) v ∧ Up w w') := by
  have e1 : IntKind.i64.wrap ((bd : Int) + 1) = (bd : Int) + 1 := IntWalk.i64_in _ (by omega)
  have e2 : IntKind.i64.wrap ((ad : Int) + 1) = (ad : Int) + 1 := IntWalk.i64_in _ (by omega)
  have hfa := fld2 (ca : Nat) sa (ad : Nat)
  have hfb := fld2 (cb : Nat) sb (bd : Nat)
  have HKA := Lib.hid KA
  have HKB := Lib.hid KB
  have HPJ := Lib.hid PJ
  have HPL := Lib.hid PL
  clear KA KB PJ PL
  have hU := Up.alloc w (.cells #[.string xs, .int .i64 xz] 47)
  have m0 : (w.alloc (.cells #[.string xs, .int .i64 xz] 47)).cell? ⟨w.heap.size, 0, none⟩ = some (.string xs) := cellOf (Go.heap_alloc_new _ _) rfl
  have m1 : (w.alloc (.cells #[.string xs, .int .i64 xz] 47)).cell? ⟨w.heap.size, 1, none⟩ = some (.int .i64 xz) := cellOf (Go.heap_alloc_new _ _) rfl
  have c_ba_0 := cell_up hU c_ba_0
  have c_ba_1 := cell_up hU c_ba_1
  have c_ba_5 := cell_up hU c_ba_5
  have c_ba_6 := cell_up hU c_ba_6
  clear hd1 hd2
  go_enter Try.func32, Try.ntmps32
  go_wp2_with (first
    | (go_at_call 30; ((with_reducible refine (HKA.out.at_ hU).mono ?_); rintro e w1 ⟨rfl, hu1⟩; have c_ba_0 := cell_up hu1 c_ba_0; have c_ba_1 := cell_up hu1 c_ba_1; have c_ba_5 := cell_up hu1 c_ba_5; have c_ba_6 := cell_up hu1 c_ba_6; have m0 := cell_up hu1 m0; have m1 := cell_up hu1 m1; have hU := hU.trans hu1; clear hu1))
    | (go_at_call 30; ((with_reducible refine (HKB.out.at_ hU).mono ?_); rintro e w1 ⟨rfl, hu1⟩; have c_ba_0 := cell_up hu1 c_ba_0; have c_ba_1 := cell_up hu1 c_ba_1; have c_ba_5 := cell_up hu1 c_ba_5; have c_ba_6 := cell_up hu1 c_ba_6; have m0 := cell_up hu1 m0; have m1 := cell_up hu1 m1; have hU := hU.trans hu1; clear hu1)))
  have hS : Up w w1 ∧ w1.cell? ⟨ba, 0, none⟩ = some (.string axs) ∧ w1.cell? ⟨ba, 1, none⟩ = some (.int .i64 axz) ∧ w1.cell? ⟨ba, 5, none⟩ = some (.pointer pal) ∧ w1.cell? ⟨ba, 6, none⟩ = some (.pointer par) ∧ w1.cell? ⟨w.heap.size, 0, none⟩ = some (.string xs) ∧ w1.cell? ⟨w.heap.size, 1, none⟩ = some (.int .i64 xz) := ⟨hU, c_ba_0, c_ba_1, c_ba_5, c_ba_6, m0, m1⟩
  clear hU c_ba_0 c_ba_1 c_ba_5 c_ba_6 m0 m1
  go_region_held3 (fun w' => Up w w' ∧ w'.cell? ⟨ba, 0, none⟩ = some (.string axs) ∧ w'.cell? ⟨ba, 1, none⟩ = some (.int .i64 axz) ∧ w'.cell? ⟨ba, 5, none⟩ = some (.pointer pal) ∧ w'.cell? ⟨ba, 6, none⟩ = some (.pointer par) ∧ w'.cell? ⟨w.heap.size, 0, none⟩ = some (.string xs) ∧ w'.cell? ⟨w.heap.size, 1, none⟩ = some (.int .i64 xz))
    (first | assumption | with_reducible exact qkeep6 hu3 (by assumption) | with_reducible exact qkeep6 hu2 (by assumption) | with_reducible exact qkeep6 (Up.drew _) (by assumption))
    (first
      | (go_at_call 32; ((with_reducible refine (HPJ.out _ ?_).mono ?_); (exact (by assumption : Up w _ ∧ _).1); rintro e w2 ⟨tj, vj, rfl, hj, hnj, hu2⟩; have HJ := Lib.hid hj; clear hj))
      | (go_at_call 34; ((with_reducible refine (HPL.out _ _ _ ?_ HJ.out hnj).mono ?_); (exact (by assumption : Up w _ ∧ _).1); rintro e w3 ⟨g3, rfl, hn3, hu3⟩))
      )
  have HF := Lib.hid (by assumption : Up w w3 ∧ _).1
  go_wp2
  go_ret
  exact ⟨tj, g3, rfl, HJ.out, hn3, HF.out⟩
set_option maxRecDepth 100000 in
set_option maxHeartbeats 2000000 in
theorem join_r {G : Nat → Prop} (w : World) (bb : Nat) (pa pbl pbr : Option Addr) (axs : ByteArray) (axz : Int) (ta tb : QT) (x : ByteArray × Int) (F : QT → QT) (xs : ByteArray) (xz : Int) (ca cb ad bd : Nat) (sa sb : Int)
    (c_bb_0 : w.cell? ⟨bb, 0, none⟩ = some (.string axs)) (c_bb_1 : w.cell? ⟨bb, 1, none⟩ = some (.int .i64 axz)) (c_bb_5 : w.cell? ⟨bb, 5, none⟩ = some (.pointer pbl)) (c_bb_6 : w.cell? ⟨bb, 6, none⟩ = some (.pointer pbr))
    (hd1 : (bd : Int) ≤ 1048576000) (hd2 : (ad : Int) ≤ 1048576000) (h0 : ¬ (bd : Int) + 1 < ad) (h1 : (ad : Int) + 1 < bd)
    (KA : CntC w (.pointer pa) ca sa ad) (KB : CntC w (ptr bb) cb sb bd)
    (PJ : ∀ W, Up w W → Calls Try.prog 32 #[.pointer pa, .agg #[.string xs, .int .i64 xz], .pointer pbl] W (JPost G ta x tb W))
    (PL : ∀ W v t, Up w W → JSpec ta x tb t → Tr G W t v → Calls Try.prog 34 #[v, .agg #[.string axs, .int .i64 axz], .pointer pbr] W (NewQ G (F t) W)) :
    Calls Try.prog 32 #[(.pointer pa), .agg #[.string xs, .int .i64 xz], (ptr bb)] w (fun e w' => ∃ t v, e = .returned v ∧ JSpec ta x tb t ∧ Tr G w' (F t) v ∧ Up w w') := by
  have e1 : IntKind.i64.wrap ((bd : Int) + 1) = (bd : Int) + 1 := IntWalk.i64_in _ (by omega)
  have e2 : IntKind.i64.wrap ((ad : Int) + 1) = (ad : Int) + 1 := IntWalk.i64_in _ (by omega)
  have hfa := fld2 (ca : Nat) sa (ad : Nat)
  have hfb := fld2 (cb : Nat) sb (bd : Nat)
  have HKA := Lib.hid KA
  have HKB := Lib.hid KB
  have HPJ := Lib.hid PJ
  have HPL := Lib.hid PL
  clear KA KB PJ PL
  have hU := Up.alloc w (.cells #[.string xs, .int .i64 xz] 47)
  have m0 : (w.alloc (.cells #[.string xs, .int .i64 xz] 47)).cell? ⟨w.heap.size, 0, none⟩ = some (.string xs) := cellOf (Go.heap_alloc_new _ _) rfl
  have m1 : (w.alloc (.cells #[.string xs, .int .i64 xz] 47)).cell? ⟨w.heap.size, 1, none⟩ = some (.int .i64 xz) := cellOf (Go.heap_alloc_new _ _) rfl
  have c_bb_0 := cell_up hU c_bb_0
  have c_bb_1 := cell_up hU c_bb_1
  have c_bb_5 := cell_up hU c_bb_5
  have c_bb_6 := cell_up hU c_bb_6
  have f1 : decide ((bd : Int) + 1 < ad) = false := decide_eq_false h0
  clear hd1 hd2
  go_enter Try.func32, Try.ntmps32
  go_wp2_with (first
    | (go_at_call 30; ((with_reducible refine (HKA.out.at_ hU).mono ?_); rintro e w1 ⟨rfl, hu1⟩; have c_bb_0 := cell_up hu1 c_bb_0; have c_bb_1 := cell_up hu1 c_bb_1; have c_bb_5 := cell_up hu1 c_bb_5; have c_bb_6 := cell_up hu1 c_bb_6; have m0 := cell_up hu1 m0; have m1 := cell_up hu1 m1; have hU := hU.trans hu1; clear hu1))
    | (go_at_call 30; ((with_reducible refine (HKB.out.at_ hU).mono ?_); rintro e w1 ⟨rfl, hu1⟩; have c_bb_0 := cell_up hu1 c_bb_0; have c_bb_1 := cell_up hu1 c_bb_1; have c_bb_5 := cell_up hu1 c_bb_5; have c_bb_6 := cell_up hu1 c_bb_6; have m0 := cell_up hu1 m0; have m1 := cell_up hu1 m1; have hU := hU.trans hu1; clear hu1)))
  have hS : Up w w1 ∧ w1.cell? ⟨bb, 0, none⟩ = some (.string axs) ∧ w1.cell? ⟨bb, 1, none⟩ = some (.int .i64 axz) ∧ w1.cell? ⟨bb, 5, none⟩ = some (.pointer pbl) ∧ w1.cell? ⟨bb, 6, none⟩ = some (.pointer pbr) ∧ w1.cell? ⟨w.heap.size, 0, none⟩ = some (.string xs) ∧ w1.cell? ⟨w.heap.size, 1, none⟩ = some (.int .i64 xz) := ⟨hU, c_bb_0, c_bb_1, c_bb_5, c_bb_6, m0, m1⟩
  clear hU c_bb_0 c_bb_1 c_bb_5 c_bb_6 m0 m1
  go_region_held3 (fun w' => Up w w' ∧ w'.cell? ⟨bb, 0, none⟩ = some (.string axs) ∧ w'.cell? ⟨bb, 1, none⟩ = some (.int .i64 axz) ∧ w'.cell? ⟨bb, 5, none⟩ = some (.pointer pbl) ∧ w'.cell? ⟨bb, 6, none⟩ = some (.pointer pbr) ∧ w'.cell? ⟨w.heap.size, 0, none⟩ = some (.string xs) ∧ w'.cell? ⟨w.heap.size, 1, none⟩ = some (.int .i64 xz))
    (first | assumption | with_reducible exact qkeep6 hu3 (by assumption) | with_reducible exact qkeep6 hu2 (by assumption) | with_reducible exact qkeep6 (Up.drew _) (by assumption))
    (first
      | (go_at_call 32; ((with_reducible refine (HPJ.out _ ?_).mono ?_); (exact (by assumption : Up w _ ∧ _).1); rintro e w2 ⟨tj, vj, rfl, hj, hnj, hu2⟩; have HJ := Lib.hid hj; clear hj))
      | (go_at_call 34; ((with_reducible refine (HPL.out _ _ _ ?_ HJ.out hnj).mono ?_); (exact (by assumption : Up w _ ∧ _).1); rintro e w3 ⟨g3, rfl, hn3, hu3⟩))
      )
  have HF := Lib.hid (by assumption : Up w w3 ∧ _).1
  go_wp2
  go_ret
  exact ⟨tj, g3, rfl, HJ.out, hn3, HF.out⟩
set_option maxRecDepth 100000 in
set_option maxHeartbeats 2000000 in
theorem join_m {G : Nat → Prop} (w : World) (pa pb : Option Addr) (t1 : QT) (xs : ByteArray) (xz : Int) (ca cb ad bd : Nat) (sa sb : Int)
    
    (hd1 : (bd : Int) ≤ 1048576000) (hd2 : (ad : Int) ≤ 1048576000) (h0 : ¬ (bd : Int) + 1 < ad) (h1 : ¬ (ad : Int) + 1 < bd)
    (KA : CntC w (.pointer pa) ca sa ad) (KB : CntC w (.pointer pb) cb sb bd)
    (P1 : ∀ W, Up w W → Calls Try.prog 33 #[.pointer pa, .agg #[.string xs, .int .i64 xz], .pointer pb] W (NewQ G t1 W)) :
    Calls Try.prog 32 #[(.pointer pa), .agg #[.string xs, .int .i64 xz], (.pointer pb)] w (fun e w' => NewQ G t1 w e w') := by
  have e1 : IntKind.i64.wrap ((bd : Int) + 1) = (bd : Int) + 1 := IntWalk.i64_in _ (by omega)
  have e2 : IntKind.i64.wrap ((ad : Int) + 1) = (ad : Int) + 1 := IntWalk.i64_in _ (by omega)
  have hfa := fld2 (ca : Nat) sa (ad : Nat)
  have hfb := fld2 (cb : Nat) sb (bd : Nat)
  have HKA := Lib.hid KA
  have HKB := Lib.hid KB
  have HP1 := Lib.hid P1
  clear KA KB P1
  have hU := Up.alloc w (.cells #[.string xs, .int .i64 xz] 47)
  have m0 : (w.alloc (.cells #[.string xs, .int .i64 xz] 47)).cell? ⟨w.heap.size, 0, none⟩ = some (.string xs) := cellOf (Go.heap_alloc_new _ _) rfl
  have m1 : (w.alloc (.cells #[.string xs, .int .i64 xz] 47)).cell? ⟨w.heap.size, 1, none⟩ = some (.int .i64 xz) := cellOf (Go.heap_alloc_new _ _) rfl
  have f1 : decide ((bd : Int) + 1 < ad) = false := decide_eq_false h0
  have f2 : decide ((ad : Int) + 1 < bd) = false := decide_eq_false h1
  clear hd1 hd2
  go_enter Try.func32, Try.ntmps32
  go_wp2_with (first
    | (go_at_call 30; ((with_reducible refine (HKA.out.at_ hU).mono ?_); rintro e w1 ⟨rfl, hu1⟩; have m0 := cell_up hu1 m0; have m1 := cell_up hu1 m1; have hU := hU.trans hu1; clear hu1))
    | (go_at_call 30; ((with_reducible refine (HKB.out.at_ hU).mono ?_); rintro e w1 ⟨rfl, hu1⟩; have m0 := cell_up hu1 m0; have m1 := cell_up hu1 m1; have hU := hU.trans hu1; clear hu1))
    | (go_at_call 33; ((with_reducible refine (HP1.out _ hU).mono ?_);  rintro e w4 ⟨g4, rfl, hn4, hu4⟩)))
  go_ret
  exact ⟨g4, rfl, hn4, hU.trans hu4⟩
theorem join_any {G : Nat → Prop} : ∀ (n : Nat) (a b : QT) (x : ByteArray × Int) (va vb : Value) (w : World), a.dp + b.dp ≤ n → Tr G w a va → Tr G w b vb → (∀ i, w.heap.size ≤ i → G i) → Av a → Av b → ROk (a.row ++ x :: b.row) →
    Calls Try.prog 32 #[va, thV x, vb] w (JPost G a x b w) := by
  intro n
  induction n with
  | zero =>
    intro a b x va vb w hn ha hb hG aa ab hok
    obtain ⟨pa, rfl⟩ := ha.isPtr
    obtain ⟨pb, rfl⟩ := hb.isPtr
    exact (join_m w pa pb _ x.1 x.2 a.cn b.cn a.dp b.dp a.sm b.sm (ROk.dpn (t := b) hok.tail) (ROk.dpn (t := a) hok.left) (by omega) (by omega) (cnt_of ha) (cnt_of hb) (fun W hu => tie_any (ha.up hu) (hb.up hu) (gUp hG hu) hok)).mono fun e w' ⟨v, h1, h2, h3⟩ => ⟨_, v, h1, jspec_m aa ab (by omega) (by omega), h2, h3⟩
  | succ n ih =>
    intro a b x va vb w hn ha hb hG aa ab hok
    have e1 := ROk.dpn (t := a) hok.left
    have e2 := ROk.dpn (t := b) hok.tail
    by_cases c1 : b.dp + 1 < a.dp
    · obtain ⟨al, ax, ar, rfl⟩ := not_nil (t := a) (by omega)
      obtain ⟨pb, rfl⟩ := hb.isPtr
      have hA := ha
      obtain ⟨ba, val, var, rfl, -, hc, hal, har⟩ := ha
      obtain ⟨pal, rfl⟩ := hal.isPtr
      obtain ⟨par, rfl⟩ := har.isPtr
      have k : (QT.node al ax ar).row ++ x :: b.row = al.row ++ ax :: (ar.row ++ x :: b.row) := by simp [row_node]
      rw [k] at hok
      rw [dp_node] at hn
      refine (join_l w ba pal par pb ax.1 ax.2 ar b x (fun t => qlev al ax t) x.1 x.2 (QT.node al ax ar).cn b.cn (QT.node al ax ar).dp b.dp (QT.node al ax ar).sm b.sm (cellOf hc rfl) (cellOf hc rfl) (cellOf hc rfl) (cellOf hc rfl) e2 e1 (by omega) (cnt_of hA) (cnt_of hb)
        (fun W hu => ih ar b x _ _ W (by omega) (har.up hu) (hb.up hu) (gUp hG hu) aa.2.1 ab hok.tail) (fun W v t hu hj ht => ?_)).mono ?_
      · obtain ⟨⟨k1, k2, k3, k4⟩, -⟩ := jspec_l aa hj c1
        exact level_any (hal.up hu) ht (gUp hG hu) k1 k2 (by rw [hj.row]; exact hok) k3 k4
      · rintro e w' ⟨t, v, h1, hj, h2, h3⟩
        exact ⟨_, v, h1, (jspec_l aa hj c1).2, h2, h3⟩
    · by_cases c3 : a.dp + 1 < b.dp
      · obtain ⟨bl, bx, br, rfl⟩ := not_nil (t := b) (by omega)
        obtain ⟨pa, rfl⟩ := ha.isPtr
        have hB := hb
        obtain ⟨bb, vbl, vbr, rfl, -, hc, hbl, hbr⟩ := hb
        obtain ⟨pbl, rfl⟩ := hbl.isPtr
        obtain ⟨pbr, rfl⟩ := hbr.isPtr
        have k : a.row ++ x :: (QT.node bl bx br).row = (a.row ++ x :: bl.row) ++ bx :: br.row := by simp [row_node]
        rw [k] at hok
        rw [dp_node] at hn
        refine (join_r w bb pa pbl pbr bx.1 bx.2 a bl x (fun t => qlev t bx br) x.1 x.2 a.cn (QT.node bl bx br).cn a.dp (QT.node bl bx br).dp a.sm (QT.node bl bx br).sm (cellOf hc rfl) (cellOf hc rfl) (cellOf hc rfl) (cellOf hc rfl) e2 e1 (by omega) (by omega) (cnt_of ha) (cnt_of hB)
          (fun W hu => ih a bl x _ _ W (by omega) (ha.up hu) (hbl.up hu) (gUp hG hu) aa ab.1 hok.left) (fun W v t hu hj ht => ?_)).mono ?_
        · obtain ⟨⟨k1, k2, k3, k4⟩, -⟩ := jspec_r ab hj c3
          exact level_any ht (hbr.up hu) (gUp hG hu) k1 k2 (by rw [hj.row]; exact hok) k3 k4
        · rintro e w' ⟨t, v, h1, hj, h2, h3⟩
          exact ⟨_, v, h1, (jspec_r ab hj c3).2, h2, h3⟩
      · obtain ⟨pa, rfl⟩ := ha.isPtr
        obtain ⟨pb, rfl⟩ := hb.isPtr
        exact (join_m w pa pb _ x.1 x.2 a.cn b.cn a.dp b.dp a.sm b.sm e2 e1 (by omega) (by omega) (cnt_of ha) (cnt_of hb) (fun W hu => tie_any (ha.up hu) (hb.up hu) (gUp hG hu) hok)).mono fun e w' ⟨v, h1, h2, h3⟩ => ⟨_, v, h1, jspec_m aa ab (by omega) (by omega), h2, h3⟩
end Go.Proofs.Ythiiemjbigcinaa
