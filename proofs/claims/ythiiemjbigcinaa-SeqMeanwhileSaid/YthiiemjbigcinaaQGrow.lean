/- A tree that grows at one time: the program's grow. -/
import Derived.Test.YthiiemjbigcinaaQSlc
namespace Go.Proofs.Ythiiemjbigcinaa
open Go.RowKit

set_option maxRecDepth 100000 in
set_option maxHeartbeats 400000 in
theorem grow_nil (w : World) (A B : Option Addr) (c d : Nat) : Calls Try.prog 28 #[.slice A 0 c, .slice B 0 d] w fun e w' => e = .returned (.pointer none) ∧ w = w' := by
  go_enter Try.func28, Try.ntmps28
  go_wp2
  go_ret
  exact ⟨rfl, rfl⟩
/-- What grow answers of a row, with its depth. -/
def GPost (G : Nat → Prop) (R : Row) (w : World) (e : Ending) (w' : World) : Prop := ∃ t v, e = .returned v ∧ Tr G w' t v ∧ Av t ∧ t.row = R ∧ t.dp = dg R.length ∧ Up w w'
set_option maxRecDepth 100000 in
set_option maxHeartbeats 2000000 in
theorem grow_some {G : Nat → Prop} (w : World) (ab ao bb bo k h m c d : Nat) (xs : ByteArray) (xz : Int) (R1 R2 : Row) (T : QT → QT → QT) (hk : 0 < k) (hh : h = k / 2) (hm : h + 1 + m = k) (hc : k ≤ c) (hd : k ≤ d) (hbig : (k : Int) ≤ 1048576)
    (c0 : w.cell? ⟨ab, ao + h, none⟩ = some (.string xs)) (c1 : w.cell? ⟨bb, bo + h, none⟩ = some (.int .i64 xz))
    (PL : ∀ W c' d', Up w W → h ≤ c' → h ≤ d' → Calls Try.prog 28 #[.slice (some ⟨ab, ao, none⟩) h c', .slice (some ⟨bb, bo, none⟩) h d'] W (GPost G R1 W))
    (PR : ∀ W A B c' d', Up w W → (0 < m → A = some ⟨ab, ao + (h + 1), none⟩ ∧ B = some ⟨bb, bo + (h + 1), none⟩) → m ≤ c' → m ≤ d' → Calls Try.prog 28 #[.slice A m c', .slice B m d'] W (GPost G R2 W))
    (PT : ∀ W t1 t2 v1 v2, Up w W → Tr G W t1 v1 → Tr G W t2 v2 → t1.row = R1 → t2.row = R2 → Calls Try.prog 33 #[v1, .agg #[.string xs, .int .i64 xz], v2] W (NewQ G (T t1 t2) W)) :
    Calls Try.prog 28 #[.slice (some ⟨ab, ao, none⟩) k c, .slice (some ⟨bb, bo, none⟩) k d] w fun e w' => ∃ t1 t2 v, e = .returned v ∧ Tr G w' (T t1 t2) v ∧ Av t1 ∧ Av t2 ∧ t1.row = R1 ∧ t2.row = R2 ∧ t1.dp = dg R1.length ∧ t2.dp = dg R2.length ∧ Up w w' := by
  have HPL := Lib.hid PL
  have HPR := Lib.hid PR
  have HPT := Lib.hid PT
  have HW := Lib.hid (IntWalk.wrap64_in (h : Int) (by omega))
  have HG1 := Lib.hid (show (k : Int) / 2 = (h : Int) from by omega)
  have s1 := slc_lo_s ab ao k c h (by omega) (by omega)
  have s2 := slc_lo_i bb bo k d h (by omega) (by omega)
  obtain ⟨XA, hXA, s3⟩ := slc_hi_s ab ao k c h m hm
  obtain ⟨XB, hXB, s4⟩ := slc_hi_i bb bo k d h m hm
  have HX := Lib.hid (fun h0 : 0 < m => And.intro (hXA h0 hc) (hXB h0 hd))
  have g2 : (0 : Int) ≤ h := by omega
  have g3 : (h : Int) < k := by omega
  have g4 : h < k := by omega
  have e1 : IntKind.i64.wrap ((h : Int) + 1) = (h : Int) + 1 := IntWalk.i64_in _ (by omega)
  clear hXA hXB
  have hU := Up.refl w
  have HM := Lib.hid hm
  have HK := Lib.hid (And.intro hc hd)
  have hk0 : ¬ k = 0 := by omega
  clear PL PR PT hh hm hc hd hk hbig
  go_enter Try.func28, Try.ntmps28
  go_wp2
  rw [HG1.out, HW.out]
  have hS : Up w w ∧ w.cell? ⟨ab, ao + h, none⟩ = some (.string xs) ∧ w.cell? ⟨bb, bo + h, none⟩ = some (.int .i64 xz) := ⟨hU, c0, c1⟩
  clear c0 c1 hU
  go_region_held3 (fun w' => Up w w' ∧ w'.cell? ⟨ab, ao + h, none⟩ = some (.string xs) ∧ w'.cell? ⟨bb, bo + h, none⟩ = some (.int .i64 xz))
    (first | assumption | with_reducible exact qkeep2 hu1 (by assumption) | with_reducible exact qkeep2 (Up.drew _) (by assumption))
    ((go_at_call 28; ((with_reducible refine (HPL.out _ _ _ ?_ ?_ ?_).mono ?_); (exact (by assumption : Up w _ ∧ _).1); (exact Nat.le_trans (by have := HM.out; omega) HK.out.1); (exact Nat.le_trans (by have := HM.out; omega) HK.out.2); rintro e w1 ⟨t1, v1, rfl, ht1, ha1, hr1, hd1, hu1⟩; have HR1 := Lib.hid hr1; have HD1 := Lib.hid hd1; clear hr1 hd1)))
  have hT : Up w w1 ∧ w1.cell? ⟨ab, ao + h, none⟩ = some (.string xs) ∧ w1.cell? ⟨bb, bo + h, none⟩ = some (.int .i64 xz) := by assumption
  clear hS
  have hS := hT
  have ht1 := Lib.hid ht1
  clear hT hu1
  go_wp2
  go_region_held3 (fun w' => Up w w' ∧ w'.cell? ⟨ab, ao + h, none⟩ = some (.string xs) ∧ w'.cell? ⟨bb, bo + h, none⟩ = some (.int .i64 xz))
    (first | assumption | with_reducible exact qkeep2 hu2 (by assumption) | with_reducible exact qkeep2 (Up.drew _) (by assumption))
    ((go_at_call 28; ((with_reducible refine (HPR.out _ _ _ _ _ ?_ ?_ ?_ ?_).mono ?_); (exact (by assumption : Up w _ ∧ _).1); (exact fun h0 => HX.out h0); (exact Nat.le_sub_of_add_le (by have := HM.out; have := HK.out.1; omega)); (exact Nat.le_sub_of_add_le (by have := HM.out; have := HK.out.2; omega)); rintro e w2 ⟨t2, v2, rfl, ht2, ha2, hr2, hd2, hu2⟩; have HR2 := Lib.hid hr2; have HD2 := Lib.hid hd2; clear hr2 hd2)))
  have hT : Up w w2 ∧ w2.cell? ⟨ab, ao + h, none⟩ = some (.string xs) ∧ w2.cell? ⟨bb, bo + h, none⟩ = some (.int .i64 xz) := by assumption
  clear hS
  have hS := hT
  have HT1 := Lib.hid (ht1.out.up ((Up.drew _).trans hu2))
  have HT2 := Lib.hid ht2
  clear hT hu2 ht1 ht2
  go_wp2
  go_region_held3 (fun w' => Up w w' ∧ w'.cell? ⟨ab, ao + h, none⟩ = some (.string xs) ∧ w'.cell? ⟨bb, bo + h, none⟩ = some (.int .i64 xz))
    (first | assumption | with_reducible exact qkeep2 hu3 (by assumption) | with_reducible exact qkeep2 (Up.drew _) (by assumption))
    ((go_at_call 33; ((with_reducible refine (HPT.out _ _ _ _ _ ?_ (HT1.out.up (Up.drew _)) (HT2.out.up (Up.drew _)) HR1.out HR2.out).mono ?_); (exact (by assumption : Up w _ ∧ _).1); rintro e w3 ⟨v3, rfl, ht3, hu3⟩)))
  have HF := Lib.hid (by assumption : Up w w3 ∧ _).1
  go_wp2
  go_ret
  exact ⟨t1, t2, v3, rfl, ht3, ha1, ha2, HR1.out, HR2.out, HD1.out, HD2.out, HF.out⟩
theorem Txs.front {w W : World} {ab ao k h : Nat} {L : List ByteArray} (hx : Txs w (some ⟨ab, ao, none⟩) k L) (hu : Up w W) (hh : h ≤ k) : Txs W (some ⟨ab, ao, none⟩) h (L.take h) := by
  have hl := hx.len
  refine ⟨by rw [List.length_take]; omega, fun i hi => ?_⟩
  rw [List.length_take] at hi
  obtain ⟨b, o, e, hb, hc⟩ := (hx.up hu).at_ i (by omega)
  exact ⟨b, o, e, hb, by rw [List.getElem_take]; exact hc⟩
theorem Nums.front {w W : World} {ab ao k h : Nat} {L : List Int} (hx : Nums w (some ⟨ab, ao, none⟩) k L) (hu : Up w W) (hh : h ≤ k) : Nums W (some ⟨ab, ao, none⟩) h (L.take h) := by
  have hl := hx.len
  refine ⟨by rw [List.length_take]; omega, fun i hi => ?_⟩
  rw [List.length_take] at hi
  obtain ⟨b, o, e, hb, hc⟩ := (hx.up hu).at_ i (by omega)
  exact ⟨b, o, e, hb, by rw [List.getElem_take]; exact hc⟩
theorem Txs.back {w W : World} {ab ao k h m : Nat} {A : Option Addr} {L : List ByteArray} (hx : Txs w (some ⟨ab, ao, none⟩) k L) (hu : Up w W) (hh : h + m = k) (hA : 0 < m → A = some ⟨ab, ao + h, none⟩) : Txs W A m (L.drop h) := by
  have hl := hx.len
  refine ⟨by rw [List.length_drop]; omega, fun i hi => ?_⟩
  rw [List.length_drop] at hi
  obtain ⟨b, o, e, hb, hc⟩ := (hx.up hu).at_ (h + i) (by omega)
  injection e with e
  injection e with e1 e2
  subst e1 e2
  exact ⟨_, _, hA (by omega), hb, by rw [List.getElem_drop, Nat.add_assoc]; exact hc⟩
theorem Nums.back {w W : World} {ab ao k h m : Nat} {A : Option Addr} {L : List Int} (hx : Nums w (some ⟨ab, ao, none⟩) k L) (hu : Up w W) (hh : h + m = k) (hA : 0 < m → A = some ⟨ab, ao + h, none⟩) : Nums W A m (L.drop h) := by
  have hl := hx.len
  refine ⟨by rw [List.length_drop]; omega, fun i hi => ?_⟩
  rw [List.length_drop] at hi
  obtain ⟨b, o, e, hb, hc⟩ := (hx.up hu).at_ (h + i) (by omega)
  injection e with e
  injection e with e1 e2
  subst e1 e2
  exact ⟨_, _, hA (by omega), hb, by rw [List.getElem_drop, Nat.add_assoc]; exact hc⟩
theorem grow_any {G : Nat → Prop} : ∀ (k : Nat) (w : World) (A B : Option Addr) (c d : Nat) (L : List ByteArray) (Z : List Int), Txs w A k L → Nums w B k Z → k ≤ c → k ≤ d → (k : Int) ≤ 1048576 → (∀ i, w.heap.size ≤ i → G i) → ROk (L.zip Z) →
    Calls Try.prog 28 #[.slice A k c, .slice B k d] w (GPost G (L.zip Z) w) := by
  intro k
  induction k using Nat.strongRecOn with
  | ind k ih =>
    intro w A B c d L Z hx hz hc hd hbig hG hok
    have hlx := hx.len
    have hlz := hz.len
    rcases Nat.eq_zero_or_pos k with rfl | hk
    · refine (grow_nil w A B c d).mono ?_
      rintro e w' ⟨rfl, rfl⟩
      obtain rfl : L = [] := List.eq_nil_of_length_eq_zero hlx
      exact ⟨.nil, _, rfl, rfl, trivial, rfl, by rw [List.zip_nil_left]; exact dg_zero.symm, Up.refl w⟩
    · have hh : k / 2 < k := by omega
      obtain ⟨ab, ao, rfl, -, c0⟩ := hx.at_ (k / 2) (by omega)
      obtain ⟨bb, bo, rfl, -, c1⟩ := hz.at_ (k / 2) (by omega)
      obtain ⟨h, hhd⟩ : ∃ h, h = k / 2 := ⟨_, rfl⟩
      obtain ⟨m, hmd⟩ : ∃ m, m = k - k / 2 - 1 := ⟨_, rfl⟩
      have hm : h + 1 + m = k := by omega
      have hzl : (L.zip Z).length = k := by rw [List.length_zip]; omega
      have hsp : L.zip Z = (L.zip Z).take h ++ (L.zip Z)[h]'(by omega) :: (L.zip Z).drop (h + 1) := by
        rw [← List.drop_eq_getElem_cons, List.take_append_drop]
      have hit : (L.zip Z)[h]'(by omega) = (L[h]'(by omega), Z[h]'(by omega)) := by simp
      have ht : (L.zip Z).take h = (L.take h).zip (Z.take h) := List.take_zipWith
      have hdr : (L.zip Z).drop (h + 1) = (L.drop (h + 1)).zip (Z.drop (h + 1)) := List.drop_zipWith
      have hok2 := hok
      rw [hsp] at hok2
      have hl1 : ((L.zip Z).take h).length = h := by rw [List.length_take]; omega
      have hl2 : ((L.zip Z).drop (h + 1)).length = m := by rw [List.length_drop]; omega
      obtain ⟨g1, g2, g3⟩ := dg_grow hk
      rw [← hmd, ← hhd] at g1 g2 g3
      subst hhd
      refine (grow_some (G := G) w ab ao bb bo k (k / 2) m c d (L[k / 2]'(by omega)) (Z[k / 2]'(by omega)) ((L.zip Z).take (k / 2)) ((L.zip Z).drop (k / 2 + 1)) (fun t1 t2 => .node t1 ((L.zip Z)[k / 2]'(by omega)) t2) hk rfl hm hc hd hbig c0 c1
        (fun W c' d' hu h1 h2 => ?_) (fun W A B c' d' hu hA h1 h2 => ?_) (fun W t1 t2 v1 v2 hu k1 k2 k3 k4 => ?_)).mono ?_
      · rw [ht]
        exact ih (k / 2) hh W _ _ c' d' _ _ (hx.front hu (by omega)) (hz.front hu (by omega)) h1 h2 (by omega) (gUp hG hu) (by rw [← ht]; exact hok2.left)
      · rw [hdr]
        exact ih m (by omega) W _ _ c' d' _ _ (hx.back hu (by omega) (fun h0 => (hA h0).1)) (hz.back hu (by omega) (fun h0 => (hA h0).2)) h1 h2 (by omega) (gUp hG hu) (by rw [← hdr]; exact hok2.tail)
      · have := tie_any (x := (L.zip Z)[k / 2]'(by omega)) k1 k2 (gUp hG hu) (by rw [k3, k4]; exact hok2)
        rw [hit] at this ⊢
        exact this
      · rintro e w' ⟨t1, t2, v, rfl, k1, k2, k3, k4, k5, k6, k7, k8⟩
        rw [hl1] at k6
        rw [hl2] at k7
        exact ⟨_, v, rfl, k1, av_node k2 k3 (by omega) (by omega), by rw [row_node, k4, k5]; exact hsp.symm, by rw [dp_node, k6, k7, hzl]; exact g3, k8⟩
end Go.Proofs.Ythiiemjbigcinaa
