/- Where a list's places go: the document's Move. -/
import Derived.Test.YtbgdphjjepbafaaSSize
import Derived.Test.YtbgdphjjepbafaaSMath4
namespace Go.Proofs.Ytbgdphjjepbafaa
open Go.RowKit

/-- What the document's Move answers. -/
def MvPost (L : List Rng) (a : Int × Int × ByteArray) (n : Nat) (w : World) (e : Ending) (w' : World) : Prop :=
  ∃ v F, e = .returned v ∧ RowR w' w.heap.size v F ∧ Form F ∧ (EdIn a → ∀ q, has F q = true ↔ MvIn L a q) ∧ (¬ EdIn a → ∀ q, has F q = has L q) ∧ F.length ≤ 8 * n + 10 ∧ Up w w'
theorem rowR_lower {w : World} {B B' : Nat} {v : Value} {F : List Rng} (h : RowR w B v F) (hb : B' ≤ B) : RowR w B' v F := owns_lower h hb
set_option maxRecDepth 100000 in
set_option maxHeartbeats 2000000 in
theorem refMv_out (w : World) (A : Option Addr) (n c : Nat) (L : List Rng) (a : Int × Int × ByteArray) (hL : Rgs w A n L) (hA : ∀ b, A = some b → b.block < w.heap.size) (hn : n ≤ 1000) (hE : ¬ EdIn a) :
    Calls Try.prog 21 #[.slice A n c, edV a] w (MvPost L a n w) := by
  have hu : Up w (edW w a) := Up.alloc w _
  have hO := of_any (edW w a) A none n 0 c 0 L [] 0 (hL.up hu) (Rgs.nil _ _) (fun b h => Nat.lt_of_lt_of_le (hA b h) (Below.size hu)) (fun b h => by cases h) (by omega)
  have hP : ∀ v F (w' : World), RowR w' (edW w a).heap.size v F → Form F → (∀ p, has F p = hasB 0 L [] p) → F.length ≤ 2 * n + 2 * 0 → Up (edW w a) w' → MvPost L a n w (.returned v) w' := fun v F w' h1 h2 h3 h4 h5 =>
    ⟨v, F, rfl, rowR_lower h1 (Below.size hu), h2, fun h => absurd h hE, fun _ q => (h3 q).trans (hasB_one L q), by omega, hu.trans h5⟩
  have HP := Lib.hid hP
  obtain ⟨p, d, x⟩ := a
  unfold edW at hO
  unfold edV
  dsimp only at hO
  obtain ⟨z, hz⟩ : ∃ z : Int, (x.size : Int) = z := ⟨_, rfl⟩
  have hE2 : ¬ (0 ≤ p ∧ p ≤ 1048576 ∧ 0 ≤ d ∧ d ≤ 1048576 ∧ z ≤ 1048576) := fun h => hE (by
    unfold EdIn
    simp only
    rw [hz]
    exact h)
  have HO := Lib.hid hO
  clear hO hE hP hu hL hA hn
  by_cases h0 : p < 0
  · clear hE2
    go_enter Try.func21, Try.ntmps21
    go_wp2_with (go_at_call 15; ((with_reducible refine HO.out.mono ?_); rintro e w1 ⟨v, F, rfl, ho, hf, hh, hl, hu⟩; have HR := Lib.hid (HP.out v F w1 ho hf hh hl hu); clear ho hf hh hl hu))
    go_ret
    exact HR.out
  have f0 : decide (p < 0) = false := decide_eq_false h0
  by_cases h1 : 1048576 < p
  · clear hE2 h0
    go_enter Try.func21, Try.ntmps21
    go_wp2_with (go_at_call 15; ((with_reducible refine HO.out.mono ?_); rintro e w1 ⟨v, F, rfl, ho, hf, hh, hl, hu⟩; have HR := Lib.hid (HP.out v F w1 ho hf hh hl hu); clear ho hf hh hl hu))
    go_ret
    exact HR.out
  have f1 : decide (1048576 < p) = false := decide_eq_false h1
  by_cases h2 : d < 0
  · clear hE2 h0 h1
    go_enter Try.func21, Try.ntmps21
    go_wp2_with (go_at_call 15; ((with_reducible refine HO.out.mono ?_); rintro e w1 ⟨v, F, rfl, ho, hf, hh, hl, hu⟩; have HR := Lib.hid (HP.out v F w1 ho hf hh hl hu); clear ho hf hh hl hu))
    go_ret
    exact HR.out
  have f2 : decide (d < 0) = false := decide_eq_false h2
  by_cases h3 : 1048576 < d
  · clear hE2 h0 h1 h2
    go_enter Try.func21, Try.ntmps21
    go_wp2_with (go_at_call 15; ((with_reducible refine HO.out.mono ?_); rintro e w1 ⟨v, F, rfl, ho, hf, hh, hl, hu⟩; have HR := Lib.hid (HP.out v F w1 ho hf hh hl hu); clear ho hf hh hl hu))
    go_ret
    exact HR.out
  have f3 : decide (1048576 < d) = false := decide_eq_false h3
  have h4 : 1048576 < z := by omega
  clear hE2 h0 h1 h2 h3
  go_enter Try.func21, Try.ntmps21
  go_wp2_with (go_at_call 15; ((with_reducible refine HO.out.mono ?_); rintro e w1 ⟨v, F, rfl, ho, hf, hh, hl, hu⟩; have HR := Lib.hid (HP.out v F w1 ho hf hh hl hu); clear ho hf hh hl hu))
  go_ret
  exact HR.out
theorem keepE {N : Nat} {v0 v1 v2 : Value} {W W' : World} (hu : Up W W') (h : W.cell? ⟨N, 0, none⟩ = some v0 ∧ W.cell? ⟨N, 1, none⟩ = some v1 ∧ W.cell? ⟨N, 2, none⟩ = some v2) : W'.cell? ⟨N, 0, none⟩ = some v0 ∧ W'.cell? ⟨N, 1, none⟩ = some v1 ∧ W'.cell? ⟨N, 2, none⟩ = some v2 :=
  ⟨cell_up hu h.1, cell_up hu h.2.1, cell_up hu h.2.2⟩
theorem own_lt {w : World} {B k n : Nat} {T : TypeId} {v : Value} {xs : List Value} (h : w.ownsRow B T k v n xs) : v.ownBlock ≠ some w.heap.size := by
  rcases h.2 with ⟨rfl, -⟩ | ⟨g, cap, cur, rfl, h1, h2, -⟩
  · intro e; cases e
  · intro e
    have e2 : some g = some w.heap.size := e
    injection e2 with e2
    have := (Array.getElem?_eq_some_iff.1 h2).1
    omega
theorem setCell_grown (w : World) (K j : Nat) (u : Value) : w.grownBy (w.setCell ⟨K, j, none⟩ u) (some K) := by
  have hb := Below.setCell (Below.refl K w) (p := ⟨K, j, none⟩) (Nat.le_refl _) u
  refine ⟨Below.os hb, Below.tape hb, Below.output hb, Below.size hb, fun k _ hne => ?_⟩
  have hk : K ≠ k := fun e => hne (by rw [e])
  simp [World.setCell, Array.getElem?_modify, hk]
theorem keepM {w W W' : World} {N K : Nat} {v0 v1 v2 u0 u1 : Value} (hu : Up W W') (h : Up w W ∧ W.cell? ⟨N, 0, none⟩ = some v0 ∧ W.cell? ⟨N, 1, none⟩ = some v1 ∧ W.cell? ⟨N, 2, none⟩ = some v2 ∧ W.cell? ⟨K, 0, none⟩ = some u0 ∧ W.cell? ⟨K, 1, none⟩ = some u1) :
    Up w W' ∧ W'.cell? ⟨N, 0, none⟩ = some v0 ∧ W'.cell? ⟨N, 1, none⟩ = some v1 ∧ W'.cell? ⟨N, 2, none⟩ = some v2 ∧ W'.cell? ⟨K, 0, none⟩ = some u0 ∧ W'.cell? ⟨K, 1, none⟩ = some u1 :=
  ⟨h.1.trans hu, cell_up hu h.2.1, cell_up hu h.2.2.1, cell_up hu h.2.2.2.1, cell_up hu h.2.2.2.2.1, cell_up hu h.2.2.2.2.2⟩
theorem keepMG {w W W' : World} {N K : Nat} {row : Option Nat} {v0 v1 v2 u0 u1 : Value} (hg : W.grownBy W' row) (hr : ∀ q, row = some q → w.heap.size ≤ q) (hK : row ≠ some K) (hN : N < w.heap.size)
    (h : Up w W ∧ W.cell? ⟨N, 0, none⟩ = some v0 ∧ W.cell? ⟨N, 1, none⟩ = some v1 ∧ W.cell? ⟨N, 2, none⟩ = some v2 ∧ W.cell? ⟨K, 0, none⟩ = some u0 ∧ W.cell? ⟨K, 1, none⟩ = some u1) :
    Up w W' ∧ W'.cell? ⟨N, 0, none⟩ = some v0 ∧ W'.cell? ⟨N, 1, none⟩ = some v1 ∧ W'.cell? ⟨N, 2, none⟩ = some v2 ∧ W'.cell? ⟨K, 0, none⟩ = some u0 ∧ W'.cell? ⟨K, 1, none⟩ = some u1 := by
  have hu : Below w.heap.size W W' := (Below.refl _ _).grown hg (Below.size h.1) hr
  have hk := cell_lt h.2.2.2.2.1
  refine ⟨Below.trans h.1 hu, (Below.cell hu (p := ⟨N, 0, none⟩) hN).trans h.2.1, (Below.cell hu (p := ⟨N, 1, none⟩) hN).trans h.2.2.1, (Below.cell hu (p := ⟨N, 2, none⟩) hN).trans h.2.2.2.1, ?_, ?_⟩
  · exact (hg.cell_far ⟨K, 0, none⟩ hk (Ne.symm hK)).trans h.2.2.2.2.1
  · exact (hg.cell_far ⟨K, 1, none⟩ hk (Ne.symm hK)).trans h.2.2.2.2.2
theorem mv_bound {a : Int × Int × ByteArray} (h : EdIn a) {x : Int} (h0 : 0 ≤ x) (h1 : x ≤ 1099511627776) : 0 ≤ mvP a x ∧ mvP a x ≤ 1099512676352 := by
  have e := mv_in h h0 h1
  obtain ⟨g1, g2, g3, g4, g5⟩ := h
  rw [e]
  split
  · omega
  · split <;> omega
theorem owns_rgs_lt {w : World} {B : Nat} {v : Value} {n : Nat} {L : List Rng} (h : w.ownsRow B 29 2 v n (rgCells L)) : ∃ A c, v = .slice A n c ∧ Rgs w A n L ∧ ∀ a, A = some a → a.block < w.heap.size := by
  have h' := h
  obtain ⟨A, c, rfl, hr, -⟩ := owns_rgs h
  refine ⟨A, c, rfl, hr, fun a e => ?_⟩
  subst e
  rcases owns_cell h' with ⟨e, -⟩ | ⟨g, c', e, -, hw, -⟩
  · cases e
  · injection e with e1
    injection e1 with e1
    rw [e1]
    exact hw
theorem rgs_one (w : World) (x y : Int) : Rgs (w.alloc (.cells #[.int .i64 x, .int .i64 y] 29)) (some ⟨w.heap.size, 0, none⟩) 1 [(x, y)] := by
  refine ⟨rfl, fun i hi => ?_⟩
  obtain rfl : i = 0 := by simpa using hi
  exact ⟨w.heap.size, 0, rfl, by simp, cellOf (Go.heap_alloc_new _ _) rfl, cellOf (Go.heap_alloc_new _ _) rfl⟩
theorem mvL_snoc (a : Int × Int × ByteArray) (F : List Rng) (r : Rng) : mvL a (F ++ [r]) = mvL a F ++ mvR a r := by
  unfold mvL
  rw [List.flatMap_append]
  simp
theorem mvR_len (a : Int × Int × ByteArray) (r : Rng) : (mvR a r).length ≤ 2 := by
  unfold mvR
  rw [List.length_append]
  split <;> simp
theorem mvL_len (a : Int × Int × ByteArray) : ∀ F : List Rng, (mvL a F).length ≤ 2 * F.length
  | [] => Nat.le_refl _
  | r :: t => by
    have h1 := mvL_len a t
    have h2 := mvR_len a r
    have e : mvL a (r :: t) = mvR a r ++ mvL a t := rfl
    rw [e, List.length_append, List.length_cons]
    omega
set_option maxRecDepth 100000 in
set_option maxHeartbeats 4000000 in
theorem refMv_in (w : World) (A : Option Addr) (n c : Nat) (L : List Rng) (a : Int × Int × ByteArray) (hL : Rgs w A n L) (hA : ∀ b, A = some b → b.block < w.heap.size) (hn : n ≤ 1000) (hE : EdIn a) :
    Calls Try.prog 21 #[.slice A n c, edV a] w (MvPost L a n w) := by
  have hE2 := edW_cells w a
  have hu := (Up.alloc w (.cells #[.int .i64 a.1, .int .i64 a.2.1, .string a.2.2] 33)).trans (Up.alloc _ (.cells #[.int .i64 a.1, .int .i64 (a.1 + a.2.1)] 29))
  have hO := of_any ((edW w a).alloc (.cells #[.int .i64 a.1, .int .i64 (a.1 + a.2.1)] 29)) A (some ⟨(edW w a).heap.size, 0, none⟩) n 1 c 1 L [(a.1, a.1 + a.2.1)] 1 (hL.up hu) (rgs_one _ _ _) (fun b h => Nat.lt_of_lt_of_le (hA b h) (Below.size hu)) (fun b h => by cases h; simp) (by omega)
  have hM := fun (k : Int) (hk : -9223372036854775808 ≤ k ∧ k ≤ 9223372036854775807) W => refMove_any a k hk W
  have HE := Lib.hid hE
  have HP := Lib.hid (fun (F : List Rng) (hf : Form F) (h : ∀ x, has F x = hasB 1 L [(a.1, a.1 + a.2.1)] x) q => mvL_has hE hf h q)
  have hR : ∀ r, mvR a r = (if strad a r = true then [(r.1, a.1)] else []) ++ [(mvP a (mvF a r), mvP a (r.2 - 1) + 1)] := fun _ => rfl
  have hSd : ∀ r, strad a r = (decide (r.1 < a.1) && decide (a.1 < r.2)) := fun _ => rfl
  have hFd : ∀ r, mvF a r = if strad a r = true then a.1 else r.1 := fun _ => rfl
  obtain ⟨p, d, x⟩ := a
  obtain ⟨g1, g2, g3, g4, g5⟩ := hE
  dsimp only at g1 g2 g3 g4 g5
  obtain ⟨z, hz⟩ : ∃ z : Int, (x.size : Int) = z := ⟨_, rfl⟩
  have hz0 : 0 ≤ z := by omega
  rw [hz] at g5
  unfold edW at hO hE2
  unfold edV at hM
  dsimp only at hO hE2 hu hM hSd hFd hR
  simp only [World.size_alloc] at hO
  unfold edV
  have HO := Lib.hid hO
  have HM := Lib.hid hM
  have HU := Lib.hid hu
  have C := Lib.hid hE2
  have f0 : decide (p < 0) = false := decide_eq_false (by omega)
  have f1 : decide (1048576 < p) = false := decide_eq_false (by omega)
  have f2 : decide (d < 0) = false := decide_eq_false (by omega)
  have f3 : decide (1048576 < d) = false := decide_eq_false (by omega)
  have f4 : decide (1048576 < z) = false := decide_eq_false (by omega)
  have q0 : IntKind.i64.wrap (p + d) = p + d := IntWalk.i64_in _ (by omega)
  have HL := Lib.hid hL
  have HA := Lib.hid hA
  have HRd := Lib.hid (And.intro hR (And.intro hSd hFd))
  clear hO hE2 hu hL hA hM hR hSd hFd
  go_enter Try.func21, Try.ntmps21
  go_upto_region 7 with (go_at_call 15; ((with_reducible refine HO.out.mono ?_); rintro e w1 ⟨v, F, rfl, ho, hf, hh, hl, hu⟩; have HR := Lib.hid ho; have HF := Lib.hid hf; have HH := Lib.hid hh; have HLn := Lib.hid hl; have HU1 := Lib.hid (HU.out.trans hu); have HUo := Lib.hid hu; clear ho hf hh hl hu))
  have HMv := Lib.hid (fun q => HP.out F HF.out HH.out q)
  obtain ⟨A2, c2, e, hr, hr2⟩ := owns_rgs HR.out
  subst e
  have HRg := Lib.hid hr
  obtain ⟨m, hm⟩ : ∃ m, F.length = m := ⟨_, rfl⟩
  rw [hm]
  have HMl := Lib.hid hm
  have hmb : m ≤ 2002 := by have := HLn.out; omega
  have HMn := Lib.hid (show m ≤ 2 * n + 2 by have := HLn.out; omega)
  have C1 := Lib.hid (And.intro (cell_up HUo.out (cell_up (Up.alloc _ _) C.out.1)) (And.intro (cell_up HUo.out (cell_up (Up.alloc _ _) C.out.2.1)) (cell_up HUo.out (cell_up (Up.alloc _ _) C.out.2.2))))
  obtain ⟨N, hN⟩ : ∃ N, w.heap.size = N := ⟨_, rfl⟩
  rw [hN] at C1
  have HNw := Lib.hid (show N < w1.heap.size by have := Below.size HU1.out; have := cell_lt C1.out.1; omega)
  have HNe := Lib.hid hN
  simp only [hN]
  obtain ⟨i0, hi0, hz0', hz1, hz2⟩ := info_parts infoRange
  have HI := Lib.hid (And.intro hi0 (And.intro hz0' (And.intro hz1 hz2)))
  clear hr hr2 hm hN HO HP HLn HUo HU HR hi0 hz0' hz1 hz2 f0 f1 f2 f3 f4 q0
  go_wp2
  go_loopg [7, 8] m (fun g ov iv wr => ∃ i : Nat, g = m - i ∧ iv = .int .i64 (i : Nat) ∧ i ≤ m ∧ Hid (RowR wr w1.heap.size ov (mvL (p, d, x) (F.take i))) ∧ Hid (Up w1 wr))
  case atStart => exact ⟨0, rfl, rfl, Nat.zero_le _, Lib.hid (World.ownsRow_nil _ _ _ _), Lib.hid (Up.refl _)⟩
  case round =>
    obtain ⟨i, hg, rfl, hi, HO, HV⟩ := hrel
    have HG := Lib.hid hg
    clear hg
    by_cases hlt : i < m
    · have hiF : i < F.length := by have := HMl.out; omega
      obtain ⟨b, o, hA2, -, c0, c1⟩ := (HRg.out.up HV.out).at_ i hiF
      subst hA2
      obtain ⟨⟨r1, r2⟩, hr⟩ : ∃ r, F[i] = r := ⟨_, rfl⟩
      rw [hr] at c0 c1
      dsimp only at c0 c1
      have hii : (i : Int) < m := by omega
      have hfi := formA_at (lo := -1) (by omega) HF.out i hiF
      rw [hr] at hfi
      obtain ⟨e1, e2, e3, -⟩ := hfi
      dsimp only at e1 e2 e3
      obtain ⟨b0, b1, b2⟩ := keepE HV.out C1.out
      have HTk := Lib.hid (show mvL (p, d, x) (F.take (i + 1)) = mvL (p, d, x) (F.take i) ++ mvR (p, d, x) (r1, r2) by rw [List.take_succ_eq_append_getElem hiF, mvL_snoc, hr])
      obtain ⟨O, hO⟩ : ∃ O, mvL (p, d, x) (F.take i) = O := ⟨_, rfl⟩
      rw [hO] at HO HTk
      have hOl := Lib.hid (show O.length ≤ 4004 by
        have h1 := mvL_len (p, d, x) (F.take i)
        rw [hO, List.length_take] at h1
        omega)
      clear hO hr hiF
      go_upto_region 10 with fail
      have HOl := Lib.hid (own_lt HO.out)
      have HO1 := World.ownsRow.alloc HO.out (.cells #[.int .i64 r1, .int .i64 r2] 29)
      have HV1 := HV.out.trans (Up.alloc wr (.cells #[.int .i64 r1, .int .i64 r2] 29))
      obtain ⟨b0, b1, b2⟩ := keepE (Up.alloc wr (.cells #[.int .i64 r1, .int .i64 r2] 29)) ⟨b0, b1, b2⟩
      have t0 : (wr.alloc (.cells #[.int .i64 r1, .int .i64 r2] 29)).cell? ⟨wr.heap.size, 0, none⟩ = some (.int .i64 r1) := cellOf (Go.heap_alloc_new _ _) rfl
      have t1 : (wr.alloc (.cells #[.int .i64 r1, .int .i64 r2] 29)).cell? ⟨wr.heap.size, 1, none⟩ = some (.int .i64 r2) := cellOf (Go.heap_alloc_new _ _) rfl
      have tz : (wr.alloc (.cells #[.int .i64 r1, .int .i64 r2] 29)).frozen? ⟨wr.heap.size, 0, none⟩ = false := frozenOf (Go.heap_alloc_new _ _)
      obtain ⟨W1, hW1⟩ : ∃ W1, wr.alloc (.cells #[.int .i64 r1, .int .i64 r2] 29) = W1 := ⟨_, rfl⟩
      have hKW : wr.heap.size < W1.heap.size := by rw [← hW1]; simp
      have hwr : w1.heap.size ≤ wr.heap.size := Below.size HV.out
      obtain ⟨K, hK⟩ : ∃ K, wr.heap.size = K := ⟨_, rfl⟩
      rw [hW1] at HO1 HV1 b0 b1 b2 t0 t1 tz
      rw [hK] at t0 t1 tz hKW hwr HOl
      simp only [hW1, hK]
      have HO2 := Lib.hid HO1
      have HV2 := Lib.hid HV1
      have HKW := Lib.hid hKW
      have HWR := Lib.hid hwr
      clear hW1 hK c0 c1 HO HV HO1 HV1 hKW hwr
      by_cases s1 : r1 < p
      · by_cases s2 : p < r2
        · have HI9 := HI.out
          obtain ⟨hi0, hz0', hz1, hz2⟩ := HI9
          have hOl3 := hOl.out
          go_wp2_with (at_builtin; (refine wpList_append_lies _ rfl _ _ 22 rfl w1.heap.size 29 i0 (.agg #[.int .i64 0, .int .i64 0]) 2 16 Try.underlying22 hi0 hz0' hz1 hz2 rfl (by decide) _ _ _ rfl (HO2.out.alloc _) ⟨W1.heap.size, 0, none⟩ 1 1 [.int .i64 r1, .int .i64 p] rfl rfl ?c1 ?c2 ?c3 ?c4 ?c5 ?c6 _ rfl ?_))
          case c1 => exact World.news_of_block (cs := #[.int .i64 r1, .int .i64 p]) (t := 29) (fr := (0, 0)) (heap_alloc_new W1 _)
          case c2 => simp [Value.oneCell']
          case c3 => decide
          case c4 => unfold maxLen; omega
          case c5 => omega
          case c6 => have := Below.size HV2.out; simp; omega
          intro g4 cap4 w4 hown4 hgrow4 hlie4 _
          have HG4 := Lib.hid (show (Value.slice (some ⟨g4, 0, none⟩) (O.length + 1) cap4).ownBlock ≠ some K by
            intro e
            have e2 : some g4 = some K := e
            injection e2 with e2
            subst e2
            rcases hlie4 with e3 | e3
            · exact HOl.out e3
            · have := HKW.out
              first | omega | (simp at e3; omega))
          have hb4 : Below w1.heap.size W1 w4 := (Below.mono (Up.alloc W1 _) (Below.size HV2.out)).grown hgrow4 (by have := Below.size HV2.out; simp; omega) (fun q hq => own_base HO2.out hq)
          have hf4 := hgrow4
          have z0 := (hf4.cell_far ⟨K, 0, none⟩ (by simp; have := HKW.out; omega) (Ne.symm HOl.out)).trans (cell_up (Up.alloc W1 _) t0)
          have z1 := (hf4.cell_far ⟨K, 1, none⟩ (by simp; have := HKW.out; omega) (Ne.symm HOl.out)).trans (cell_up (Up.alloc W1 _) t1)
          have zf := (hf4.frozen_far ⟨K, 0, none⟩ (by simp; have := HKW.out; omega) (Ne.symm HOl.out)).trans (frozen_up (Up.alloc W1 _) t0 tz)
          have a0 := (Below.cell hb4 (p := ⟨N, 0, none⟩) HNw.out).trans b0
          have a1 := (Below.cell hb4 (p := ⟨N, 1, none⟩) HNw.out).trans b1
          have a2 := (Below.cell hb4 (p := ⟨N, 2, none⟩) HNw.out).trans b2
          have HB4 := Lib.hid (show Up w1 w4 from Below.trans HV2.out hb4)
          have HO4 := Lib.hid (show w4.ownsRow w1.heap.size 29 2 (.slice (some ⟨g4, 0, none⟩) (O.length + 1) cap4) (O ++ [(r1, p)]).length (rgCells (O ++ [(r1, p)])) by rw [rgCells_append, List.length_append]; exact hown4)
          clear hown4 hgrow4 hlie4 hb4 hf4 t0 t1 tz b0 b1 b2
          go_upto_region 13 with fail
          have hNK : N ≠ K := by have := HNw.out; have := HWR.out; omega
          have oc : ∀ (j k : Nat) , (j ≠ K ∨ k ≠ 0) → (w4.setCell ⟨K, 0, none⟩ (.int .i64 p)).cell? ⟨j, k, none⟩ = w4.cell? ⟨j, k, none⟩ := fun j k hj => World.cell?_setCell_other w4 ⟨K, 0, none⟩ ⟨j, k, none⟩ _ (fun e => by injection e with e1 e2; omega)
          have b0 := (oc N 0 (.inl hNK)).trans a0
          have b1 := (oc N 1 (.inl hNK)).trans a1
          have b2 := (oc N 2 (.inl hNK)).trans a2
          have t0 : (w4.setCell ⟨K, 0, none⟩ (.int .i64 p)).cell? ⟨K, 0, none⟩ = some (.int .i64 p) := World.cell?_setCell_same' w4 _ _ (by rw [z0]; rfl)
          have t1 := (oc K 1 (.inr (by decide))).trans z1
          have HV5 := Lib.hid (show Up w1 (w4.setCell ⟨K, 0, none⟩ (.int .i64 p)) from Below.setCell HB4.out (p := ⟨K, 0, none⟩) HWR.out _)
          have HO5' := Lib.hid (World.ownsRow.kept HO4.out (setCell_grown w4 K 0 (.int .i64 p)) (.inr HG4.out))
          obtain ⟨wz, hwz⟩ : ∃ wz, w4.setCell ⟨K, 0, none⟩ (.int .i64 p) = wz := ⟨_, rfl⟩
          rw [hwz] at b0 b1 b2 t0 t1 HV5 HO5'
          simp only [hwz]
          clear hwz oc a0 a1 a2 z0 z1 zf HO4 hNK hi0 hz0' hz1 hz2 hOl3
          obtain ⟨y1, hy1⟩ : ∃ y1, mvP (p, d, x) p = y1 := ⟨_, rfl⟩
          obtain ⟨y2, hy2⟩ : ∃ y2, mvP (p, d, x) (r2 - 1) = y2 := ⟨_, rfl⟩
          have hM1 := fun W => HM.out p (by omega) W
          have hM2 := fun W => HM.out (r2 - 1) (by omega) W
          rw [hy1] at hM1
          rw [hy2] at hM2
          have hyb := mv_bound HE.out (x := r2 - 1) (by omega) (by omega)
          rw [hy2] at hyb
          have HM1 := Lib.hid hM1
          have HM2 := Lib.hid hM2
          have HY := Lib.hid (show mvR (p, d, x) (r1, r2) = [(r1, p)] ++ [(y1, y2 + 1)] by
            rw [HRd.out.1, HRd.out.2.2, HRd.out.2.1, ← hy1, ← hy2]
            rw [decide_eq_true s1, decide_eq_true s2]; rfl)
          have hOl2 := hOl.out
          have hbz : (O ++ [(r1, p)]).length + 1 ≤ maxLen := by rw [show (O ++ [(r1, p)]).length = O.length + 1 from by rw [List.length_append]; rfl]; unfold maxLen; omega
          have hbb : ((O ++ [(r1, p)]).length + 1) * 16 ≤ 140737488355328 := by rw [show (O ++ [(r1, p)]).length = O.length + 1 from by rw [List.length_append]; rfl]; omega
          have hbs : w1.heap.size ≤ wz.heap.size := Below.size HV5.out
          have hS : Up w1 wz ∧ wz.cell? ⟨N, 0, none⟩ = some (.int .i64 p) ∧ wz.cell? ⟨N, 1, none⟩ = some (.int .i64 d) ∧ wz.cell? ⟨N, 2, none⟩ = some (.string x) ∧ wz.cell? ⟨K, 0, none⟩ = some (.int .i64 p) ∧ wz.cell? ⟨K, 1, none⟩ = some (.int .i64 r2) := ⟨HV5.out, b0, b1, b2, t0, t1⟩
          obtain ⟨hi0, hz0', hz1, hz2⟩ := HI.out
          obtain ⟨q1, q2⟩ : IntKind.i64.wrap (r2 - 1) = r2 - 1 ∧ IntKind.i64.wrap (y2 + 1) = y2 + 1 := ⟨IntWalk.i64_in _ (by omega), IntWalk.i64_in _ (by omega)⟩
          have HOWN := (HO5'.out).drew
          have HB3 : w1.heap.size ≤ wz.drew.heap.size := hbs
          clear hy1 hy2 hM1 hM2 hyb hOl2 hn
          go_region_held3 (fun w' => Up w1 w' ∧ w'.cell? ⟨N, 0, none⟩ = some (.int .i64 p) ∧ w'.cell? ⟨N, 1, none⟩ = some (.int .i64 d) ∧ w'.cell? ⟨N, 2, none⟩ = some (.string x) ∧ w'.cell? ⟨K, 0, none⟩ = some (.int .i64 p) ∧ w'.cell? ⟨K, 1, none⟩ = some (.int .i64 r2))
            (first | assumption | with_reducible exact keepM hu3 (by assumption) | with_reducible exact keepM (Up.drew _) (by assumption) | with_reducible exact keepM (Up.alloc _ _) (by assumption) | exact keepMG hgrow (fun q hq => own_base HOWN hq) HG4.out HNw.out (keepM (Up.alloc _ _) (by assumption)) | exact keepMG hgrow (fun q hq => own_base HOWN hq) HG4.out HNw.out (by assumption))
            (first
              | (go_at_call 37; ((with_reducible refine (HM1.out _).mono ?_); rintro e w3 ⟨rfl, hu3⟩; have HOWN := World.ownsRow.kept HOWN (Up.grownBy hu3) (by cases hv : Value.ownBlock _ <;> simp); have HB3 := Nat.le_trans HB3 (Below.size hu3)))
              | (go_at_call 37; ((with_reducible refine (HM2.out _).mono ?_); rintro e w3 ⟨rfl, hu3⟩; have HOWN := World.ownsRow.kept HOWN (Up.grownBy hu3) (by cases hv : Value.ownBlock _ <;> simp); have HB3 := Nat.le_trans HB3 (Below.size hu3)))
              | (refine step_append_lies _ (by rfl) _ _ _ (by rfl) w1.heap.size 29 i0 _ 2 16 Try.underlying22 hi0 hz0' hz1 hz2 rfl (by omega) _ (O ++ [(r1, p)]).length (rgCells (O ++ [(r1, p)])) (by rfl) (HOWN.alloc _)
                    ⟨w3.heap.size, 0, none⟩ 1 1 [.int .i64 y1, .int .i64 (y2 + 1)] (by rfl) (by rfl) (World.news_of_block (cs := #[.int .i64 y1, .int .i64 (y2 + 1)]) (t := 29) (fr := (0, 0)) (heap_alloc_new w3 _)) (by simp [Value.oneCell'])
                    (by omega) hbz hbb (by have := HB3; simp; omega) (w3.heap.size + 1) (by simp) ?_; intro g5 cap5 w5 hown5 hgrow _ _))
          have hH : Up w1 w5 ∧ w5.cell? ⟨N, 0, none⟩ = some (.int .i64 p) ∧ w5.cell? ⟨N, 1, none⟩ = some (.int .i64 d) ∧ w5.cell? ⟨N, 2, none⟩ = some (.string x) ∧ w5.cell? ⟨K, 0, none⟩ = some (.int .i64 p) ∧ w5.cell? ⟨K, 1, none⟩ = some (.int .i64 r2) := by assumption
          have HW5 := Lib.hid hH.1
          have HO5 := Lib.hid (show RowR w5 w1.heap.size (.slice (some ⟨g5, 0, none⟩) (O.length + 1 + 1) cap5) (mvL (p, d, x) (F.take (i + 1))) by
            rw [HTk.out, HY.out, ← List.append_assoc]
            unfold RowR
            have h := hown5
            rw [show (O ++ [(r1, p)]).length = O.length + 1 from by rw [List.length_append]; rfl] at h
            rw [rgCells_append, show (O ++ [(r1, p)] ++ [((y1, y2 + 1) : Rng)]).length = O.length + 1 + 1 from by simp]
            exact h)
          clear hH hown5 hgrow hS q1 q2 HOWN
          go_wp2
          go_roundg (m - (i + 1))
          case measure => rw [HG.out]; omega
          case rel => exact ⟨i + 1, rfl, by go_num, by omega, HO5, HW5⟩
        · have g2 : decide (p < r2) = false := decide_eq_false s2
          go_upto_region 13 with fail
          obtain ⟨y1, hy1⟩ : ∃ y1, mvP (p, d, x) r1 = y1 := ⟨_, rfl⟩
          obtain ⟨y2, hy2⟩ : ∃ y2, mvP (p, d, x) (r2 - 1) = y2 := ⟨_, rfl⟩
          have hM1 := fun W => HM.out r1 (by omega) W
          have hM2 := fun W => HM.out (r2 - 1) (by omega) W
          rw [hy1] at hM1
          rw [hy2] at hM2
          have hyb := mv_bound HE.out (x := r2 - 1) (by omega) (by omega)
          rw [hy2] at hyb
          have HM1 := Lib.hid hM1
          have HM2 := Lib.hid hM2
          have HY := Lib.hid (show mvR (p, d, x) (r1, r2) = [] ++ [(y1, y2 + 1)] by
            rw [HRd.out.1, HRd.out.2.2, HRd.out.2.1, ← hy1, ← hy2]
            rw [decide_eq_true s1, g2]; rfl)
          have hOl2 := hOl.out
          have hbz : (O).length + 1 ≤ maxLen := by rw [show O.length = O.length from rfl]; unfold maxLen; omega
          have hbb : ((O).length + 1) * 16 ≤ 140737488355328 := by rw [show O.length = O.length from rfl]; omega
          have hbs : w1.heap.size ≤ W1.heap.size := Below.size HV2.out
          have hS : Up w1 W1 ∧ W1.cell? ⟨N, 0, none⟩ = some (.int .i64 p) ∧ W1.cell? ⟨N, 1, none⟩ = some (.int .i64 d) ∧ W1.cell? ⟨N, 2, none⟩ = some (.string x) ∧ W1.cell? ⟨K, 0, none⟩ = some (.int .i64 r1) ∧ W1.cell? ⟨K, 1, none⟩ = some (.int .i64 r2) := ⟨HV2.out, b0, b1, b2, t0, t1⟩
          obtain ⟨hi0, hz0', hz1, hz2⟩ := HI.out
          obtain ⟨q1, q2⟩ : IntKind.i64.wrap (r2 - 1) = r2 - 1 ∧ IntKind.i64.wrap (y2 + 1) = y2 + 1 := ⟨IntWalk.i64_in _ (by omega), IntWalk.i64_in _ (by omega)⟩
          have HOWN := (HO2.out).drew
          have HB3 : w1.heap.size ≤ W1.drew.heap.size := hbs
          clear hy1 hy2 hM1 hM2 hyb hOl2 hn
          go_region_held3 (fun w' => Up w1 w' ∧ w'.cell? ⟨N, 0, none⟩ = some (.int .i64 p) ∧ w'.cell? ⟨N, 1, none⟩ = some (.int .i64 d) ∧ w'.cell? ⟨N, 2, none⟩ = some (.string x) ∧ w'.cell? ⟨K, 0, none⟩ = some (.int .i64 r1) ∧ w'.cell? ⟨K, 1, none⟩ = some (.int .i64 r2))
            (first | assumption | with_reducible exact keepM hu3 (by assumption) | with_reducible exact keepM (Up.drew _) (by assumption) | with_reducible exact keepM (Up.alloc _ _) (by assumption) | exact keepMG hgrow (fun q hq => own_base HOWN hq) HOl.out HNw.out (keepM (Up.alloc _ _) (by assumption)) | exact keepMG hgrow (fun q hq => own_base HOWN hq) HOl.out HNw.out (by assumption))
            (first
              | (go_at_call 37; ((with_reducible refine (HM1.out _).mono ?_); rintro e w3 ⟨rfl, hu3⟩; have HOWN := World.ownsRow.kept HOWN (Up.grownBy hu3) (by cases hv : Value.ownBlock _ <;> simp); have HB3 := Nat.le_trans HB3 (Below.size hu3)))
              | (go_at_call 37; ((with_reducible refine (HM2.out _).mono ?_); rintro e w3 ⟨rfl, hu3⟩; have HOWN := World.ownsRow.kept HOWN (Up.grownBy hu3) (by cases hv : Value.ownBlock _ <;> simp); have HB3 := Nat.le_trans HB3 (Below.size hu3)))
              | (refine step_append_lies _ (by rfl) _ _ _ (by rfl) w1.heap.size 29 i0 _ 2 16 Try.underlying22 hi0 hz0' hz1 hz2 rfl (by omega) _ (O).length (rgCells (O)) (by rfl) (HOWN.alloc _)
                    ⟨w3.heap.size, 0, none⟩ 1 1 [.int .i64 y1, .int .i64 (y2 + 1)] (by rfl) (by rfl) (World.news_of_block (cs := #[.int .i64 y1, .int .i64 (y2 + 1)]) (t := 29) (fr := (0, 0)) (heap_alloc_new w3 _)) (by simp [Value.oneCell'])
                    (by omega) hbz hbb (by have := HB3; simp; omega) (w3.heap.size + 1) (by simp) ?_; intro g5 cap5 w5 hown5 hgrow _ _))
          have hH : Up w1 w5 ∧ w5.cell? ⟨N, 0, none⟩ = some (.int .i64 p) ∧ w5.cell? ⟨N, 1, none⟩ = some (.int .i64 d) ∧ w5.cell? ⟨N, 2, none⟩ = some (.string x) ∧ w5.cell? ⟨K, 0, none⟩ = some (.int .i64 r1) ∧ w5.cell? ⟨K, 1, none⟩ = some (.int .i64 r2) := by assumption
          have HW5 := Lib.hid hH.1
          have HO5 := Lib.hid (show RowR w5 w1.heap.size (.slice (some ⟨g5, 0, none⟩) (O.length + 1) cap5) (mvL (p, d, x) (F.take (i + 1))) by
            rw [HTk.out, HY.out, ← List.append_assoc, List.append_nil]
            unfold RowR
            have h := hown5
            rw [show O.length = O.length from rfl] at h
            rw [rgCells_append, show (O ++ [((y1, y2 + 1) : Rng)]).length = O.length + 1 from by simp]
            exact h)
          clear hH hown5 hgrow hS q1 q2 HOWN
          go_wp2
          go_roundg (m - (i + 1))
          case measure => rw [HG.out]; omega
          case rel => exact ⟨i + 1, rfl, by go_num, by omega, HO5, HW5⟩
      · have g2 : decide (r1 < p) = false := decide_eq_false s1
        go_upto_region 13 with fail
        obtain ⟨y1, hy1⟩ : ∃ y1, mvP (p, d, x) r1 = y1 := ⟨_, rfl⟩
        obtain ⟨y2, hy2⟩ : ∃ y2, mvP (p, d, x) (r2 - 1) = y2 := ⟨_, rfl⟩
        have hM1 := fun W => HM.out r1 (by omega) W
        have hM2 := fun W => HM.out (r2 - 1) (by omega) W
        rw [hy1] at hM1
        rw [hy2] at hM2
        have hyb := mv_bound HE.out (x := r2 - 1) (by omega) (by omega)
        rw [hy2] at hyb
        have HM1 := Lib.hid hM1
        have HM2 := Lib.hid hM2
        have HY := Lib.hid (show mvR (p, d, x) (r1, r2) = [] ++ [(y1, y2 + 1)] by
          rw [HRd.out.1, HRd.out.2.2, HRd.out.2.1, ← hy1, ← hy2]
          rw [g2]; rfl)
        have hOl2 := hOl.out
        have hbz : (O).length + 1 ≤ maxLen := by rw [show O.length = O.length from rfl]; unfold maxLen; omega
        have hbb : ((O).length + 1) * 16 ≤ 140737488355328 := by rw [show O.length = O.length from rfl]; omega
        have hbs : w1.heap.size ≤ W1.heap.size := Below.size HV2.out
        have hS : Up w1 W1 ∧ W1.cell? ⟨N, 0, none⟩ = some (.int .i64 p) ∧ W1.cell? ⟨N, 1, none⟩ = some (.int .i64 d) ∧ W1.cell? ⟨N, 2, none⟩ = some (.string x) ∧ W1.cell? ⟨K, 0, none⟩ = some (.int .i64 r1) ∧ W1.cell? ⟨K, 1, none⟩ = some (.int .i64 r2) := ⟨HV2.out, b0, b1, b2, t0, t1⟩
        obtain ⟨hi0, hz0', hz1, hz2⟩ := HI.out
        obtain ⟨q1, q2⟩ : IntKind.i64.wrap (r2 - 1) = r2 - 1 ∧ IntKind.i64.wrap (y2 + 1) = y2 + 1 := ⟨IntWalk.i64_in _ (by omega), IntWalk.i64_in _ (by omega)⟩
        have HOWN := (HO2.out).drew
        have HB3 : w1.heap.size ≤ W1.drew.heap.size := hbs
        clear hy1 hy2 hM1 hM2 hyb hOl2 hn
        go_region_held3 (fun w' => Up w1 w' ∧ w'.cell? ⟨N, 0, none⟩ = some (.int .i64 p) ∧ w'.cell? ⟨N, 1, none⟩ = some (.int .i64 d) ∧ w'.cell? ⟨N, 2, none⟩ = some (.string x) ∧ w'.cell? ⟨K, 0, none⟩ = some (.int .i64 r1) ∧ w'.cell? ⟨K, 1, none⟩ = some (.int .i64 r2))
          (first | assumption | with_reducible exact keepM hu3 (by assumption) | with_reducible exact keepM (Up.drew _) (by assumption) | with_reducible exact keepM (Up.alloc _ _) (by assumption) | exact keepMG hgrow (fun q hq => own_base HOWN hq) HOl.out HNw.out (keepM (Up.alloc _ _) (by assumption)) | exact keepMG hgrow (fun q hq => own_base HOWN hq) HOl.out HNw.out (by assumption))
          (first
            | (go_at_call 37; ((with_reducible refine (HM1.out _).mono ?_); rintro e w3 ⟨rfl, hu3⟩; have HOWN := World.ownsRow.kept HOWN (Up.grownBy hu3) (by cases hv : Value.ownBlock _ <;> simp); have HB3 := Nat.le_trans HB3 (Below.size hu3)))
            | (go_at_call 37; ((with_reducible refine (HM2.out _).mono ?_); rintro e w3 ⟨rfl, hu3⟩; have HOWN := World.ownsRow.kept HOWN (Up.grownBy hu3) (by cases hv : Value.ownBlock _ <;> simp); have HB3 := Nat.le_trans HB3 (Below.size hu3)))
            | (refine step_append_lies _ (by rfl) _ _ _ (by rfl) w1.heap.size 29 i0 _ 2 16 Try.underlying22 hi0 hz0' hz1 hz2 rfl (by omega) _ (O).length (rgCells (O)) (by rfl) (HOWN.alloc _)
                  ⟨w3.heap.size, 0, none⟩ 1 1 [.int .i64 y1, .int .i64 (y2 + 1)] (by rfl) (by rfl) (World.news_of_block (cs := #[.int .i64 y1, .int .i64 (y2 + 1)]) (t := 29) (fr := (0, 0)) (heap_alloc_new w3 _)) (by simp [Value.oneCell'])
                  (by omega) hbz hbb (by have := HB3; simp; omega) (w3.heap.size + 1) (by simp) ?_; intro g5 cap5 w5 hown5 hgrow _ _))
        have hH : Up w1 w5 ∧ w5.cell? ⟨N, 0, none⟩ = some (.int .i64 p) ∧ w5.cell? ⟨N, 1, none⟩ = some (.int .i64 d) ∧ w5.cell? ⟨N, 2, none⟩ = some (.string x) ∧ w5.cell? ⟨K, 0, none⟩ = some (.int .i64 r1) ∧ w5.cell? ⟨K, 1, none⟩ = some (.int .i64 r2) := by assumption
        have HW5 := Lib.hid hH.1
        have HO5 := Lib.hid (show RowR w5 w1.heap.size (.slice (some ⟨g5, 0, none⟩) (O.length + 1) cap5) (mvL (p, d, x) (F.take (i + 1))) by
          rw [HTk.out, HY.out, ← List.append_assoc, List.append_nil]
          unfold RowR
          have h := hown5
          rw [show O.length = O.length from rfl] at h
          rw [rgCells_append, show (O ++ [((y1, y2 + 1) : Rng)]).length = O.length + 1 from by simp]
          exact h)
        clear hH hown5 hgrow hS q1 q2 HOWN
        go_wp2
        go_roundg (m - (i + 1))
        case measure => rw [HG.out]; omega
        case rel => exact ⟨i + 1, rfl, by go_num, by omega, HO5, HW5⟩
    · obtain rfl : i = m := by omega
      have f0 : decide (i < i) = false := decide_eq_false hlt
      obtain ⟨b0, b1, b2⟩ := keepE HV.out C1.out
      have HO6 := Lib.hid (show RowR wr w1.heap.size u7 (mvL (p, d, x) F) by
        have := HO.out
        rwa [List.take_of_length_le (by have := HMl.out; omega)] at this)
      have hOl := Lib.hid (show (mvL (p, d, x) F).length ≤ 2 * i by have := mvL_len (p, d, x) F; rw [HMl.out] at this; exact this)
      obtain ⟨P1, hP1⟩ : ∃ P1, has L (p - 1) = P1 := ⟨_, rfl⟩
      obtain ⟨P2, hP2⟩ : ∃ P2, has L (p + d) = P2 := ⟨_, rfl⟩
      have hq1 := refHas_any wr A n c L (HL.out.up (HU1.out.trans HV.out)) (by omega) (p - 1)
      have hq2 := refHas_any wr A n c L (HL.out.up (HU1.out.trans HV.out)) (by omega) (p + d)
      rw [hP1] at hq1
      rw [hP2] at hq2
      have HQ1 := Lib.hid hq1
      have HQ2 := Lib.hid hq2
      have HGp := Lib.hid (show gap L (p, d, x) = if (P1 && P2) = true then [(p, p + z)] else [] by
        unfold gap
        simp only
        rw [hP1, hP2, hz])
      obtain ⟨O, hO⟩ : ∃ O, mvL (p, d, x) F = O := ⟨_, rfl⟩
      have HMq := HMv.out
      rw [hO] at HO6 hOl HMq
      have HMQ := Lib.hid HMq
      obtain ⟨q0, q1, q2⟩ : IntKind.i64.wrap (p - 1) = p - 1 ∧ IntKind.i64.wrap (p + d) = p + d ∧ IntKind.i64.wrap (p + z) = p + z := ⟨IntWalk.i64_in _ (by omega), IntWalk.i64_in _ (by omega), IntWalk.i64_in _ (by omega)⟩
      have hOb := hOl.out
      clear hq1 hq2 hP1 hP2 hlt hO HMq HO hi
      by_cases hb : P1 = true ∧ P2 = true
      · obtain ⟨rfl, rfl⟩ := hb
        obtain ⟨hi0, hz0', hz1, hz2⟩ := HI.out
        go_wp2_with (first
          | (go_at_call 17; ((with_reducible refine HQ1.out.mono ?_); rintro e w3 ⟨rfl, rfl⟩))
          | (go_at_call 17; ((with_reducible refine HQ2.out.mono ?_); rintro e w3 ⟨rfl, rfl⟩))
          | (at_builtin; (refine wpList_append_own _ rfl _ _ 22 rfl w1.heap.size 29 i0 (.agg #[.int .i64 0, .int .i64 0]) 2 16 Try.underlying22 hi0 hz0' hz1 hz2 rfl (by decide) _ _ _ rfl (World.ownsRow.alloc HO6.out _) ⟨wr.heap.size, 0, none⟩ 1 1 [.int .i64 p, .int .i64 (p + z)] rfl rfl ?c1 ?c2 ?c3 ?c4 ?c5 ?_)))
        case c1 => exact World.news_of_block (cs := #[.int .i64 p, .int .i64 (p + z)]) (t := 29) (fr := (0, 0)) (heap_alloc_new wr _)
        case c2 => simp [Value.oneCell']
        case c3 => unfold maxLen; omega
        case c4 => omega
        case c5 => have := Below.size HV.out; simp; omega
        intro v5 w5 hown5 hgrow5 _
        have HW5 := Lib.hid (show Up w1 w5 from Below.trans HV.out ((Below.mono (Up.alloc wr _) (Below.size HV.out)).grown hgrow5 (by have := Below.size HV.out; simp; omega) (fun q hq => own_base HO6.out hq)))
        have HO7 := Lib.hid (show RowR w5 w1.heap.size v5 (O ++ gap L (p, d, x)) by
          rw [HGp.out]
          unfold RowR
          rw [if_pos (show (true && true) = true from rfl), rgCells_append, List.length_append]
          exact hown5)
        have HLO := Lib.hid (show (O ++ gap L (p, d, x)).length ≤ 2 * i + 1 by rw [HGp.out, if_pos (show (true && true) = true from rfl), List.length_append]; simp; omega)
        clear hown5 hgrow5
        obtain ⟨A5, c5, e5, hr5, hA5⟩ := owns_rgs_lt HO7.out
        obtain ⟨ln, hln⟩ : ∃ ln, (O ++ gap L (p, d, x)).length = ln := ⟨_, rfl⟩
        rw [hln] at e5 hr5
        subst e5
        have HLN := Lib.hid hln
        clear hln
        have hOf := of_any w5 A5 none _ 0 c5 0 _ [] 0 hr5 (Rgs.nil _ _) hA5 (fun b h => by cases h) (by have := HLO.out; have := HLN.out; omega)
        have HOf := Lib.hid hOf
        have HUw := Lib.hid (HU1.out.trans HW5.out)
        have HPo := Lib.hid (fun (v : Value) (G : List Rng) (w' : World) (k1 : RowR w' (w5).heap.size v G) (k2 : Form G) (k3 : ∀ q, has G q = hasB 0 (O ++ gap L (p, d, x)) [] q) (k4 : G.length ≤ 2 * ln + 2 * 0) (k5 : Up w5 w') => show MvPost L (p, d, x) n w (.returned v) w' from
          ⟨v, G, rfl, rowR_lower k1 (Below.size HUw.out), k2, fun _ q => by rw [k3 q, hasB_one]; exact HMQ.out q, fun h => absurd HE.out h, by have := HLO.out; have := HLN.out; have := HMn.out; omega, HUw.out.trans k5⟩)
        clear hr5 hA5 hOf
        go_wp2_with (first
          | (go_at_call 15; ((with_reducible refine HOf.out.mono ?_); rintro e w6 ⟨v6, G6, rfl, k1, k2, k3, k4, k5⟩; have HR6 := Lib.hid (HPo.out v6 G6 w6 k1 k2 k3 k4 k5); clear k1 k2 k3 k4 k5)))
        go_ret
        exact HR6.out
      · have hg := Lib.hid (show gap L (p, d, x) = [] by
          rw [HGp.out, if_neg]
          intro h
          rw [Bool.and_eq_true] at h
          exact hb h)
        have HO7 := Lib.hid (show RowR wr w1.heap.size u7 (O ++ gap L (p, d, x)) by rw [hg.out, List.append_nil]; exact HO6.out)
        have HLO := Lib.hid (show (O ++ gap L (p, d, x)).length ≤ 2 * i + 1 by rw [hg.out, List.append_nil]; omega)
        have HW5 := HV
        cases P1 with
        | false =>
          obtain ⟨A5, c5, e5, hr5, hA5⟩ := owns_rgs_lt HO7.out
          obtain ⟨ln, hln⟩ : ∃ ln, (O ++ gap L (p, d, x)).length = ln := ⟨_, rfl⟩
          rw [hln] at e5 hr5
          subst e5
          have HLN := Lib.hid hln
          clear hln
          have hOf := of_any wr A5 none _ 0 c5 0 _ [] 0 hr5 (Rgs.nil _ _) hA5 (fun b h => by cases h) (by have := HLO.out; have := HLN.out; omega)
          have HOf := Lib.hid hOf
          have HUw := Lib.hid (HU1.out.trans HW5.out)
          have HPo := Lib.hid (fun (v : Value) (G : List Rng) (w' : World) (k1 : RowR w' (wr).heap.size v G) (k2 : Form G) (k3 : ∀ q, has G q = hasB 0 (O ++ gap L (p, d, x)) [] q) (k4 : G.length ≤ 2 * ln + 2 * 0) (k5 : Up wr w') => show MvPost L (p, d, x) n w (.returned v) w' from
            ⟨v, G, rfl, rowR_lower k1 (Below.size HUw.out), k2, fun _ q => by rw [k3 q, hasB_one]; exact HMQ.out q, fun h => absurd HE.out h, by have := HLO.out; have := HLN.out; have := HMn.out; omega, HUw.out.trans k5⟩)
          clear hr5 hA5 hOf
          go_wp2_with (first
            | (go_at_call 17; ((with_reducible refine HQ1.out.mono ?_); rintro e w3 ⟨rfl, rfl⟩))
            | (go_at_call 17; ((with_reducible refine HQ2.out.mono ?_); rintro e w3 ⟨rfl, rfl⟩))
            | (go_at_call 15; ((with_reducible refine HOf.out.mono ?_); rintro e w6 ⟨v6, G6, rfl, k1, k2, k3, k4, k5⟩; have HR6 := Lib.hid (HPo.out v6 G6 w6 k1 k2 k3 k4 k5); clear k1 k2 k3 k4 k5)))
          go_ret
          exact HR6.out
        | true =>
          cases P2 with
          | true => exact absurd ⟨rfl, rfl⟩ hb
          | false =>
            obtain ⟨A5, c5, e5, hr5, hA5⟩ := owns_rgs_lt HO7.out
            obtain ⟨ln, hln⟩ : ∃ ln, (O ++ gap L (p, d, x)).length = ln := ⟨_, rfl⟩
            rw [hln] at e5 hr5
            subst e5
            have HLN := Lib.hid hln
            clear hln
            have hOf := of_any wr A5 none _ 0 c5 0 _ [] 0 hr5 (Rgs.nil _ _) hA5 (fun b h => by cases h) (by have := HLO.out; have := HLN.out; omega)
            have HOf := Lib.hid hOf
            have HUw := Lib.hid (HU1.out.trans HW5.out)
            have HPo := Lib.hid (fun (v : Value) (G : List Rng) (w' : World) (k1 : RowR w' (wr).heap.size v G) (k2 : Form G) (k3 : ∀ q, has G q = hasB 0 (O ++ gap L (p, d, x)) [] q) (k4 : G.length ≤ 2 * ln + 2 * 0) (k5 : Up wr w') => show MvPost L (p, d, x) n w (.returned v) w' from
              ⟨v, G, rfl, rowR_lower k1 (Below.size HUw.out), k2, fun _ q => by rw [k3 q, hasB_one]; exact HMQ.out q, fun h => absurd HE.out h, by have := HLO.out; have := HLN.out; have := HMn.out; omega, HUw.out.trans k5⟩)
            clear hr5 hA5 hOf
            go_wp2_with (first
              | (go_at_call 17; ((with_reducible refine HQ1.out.mono ?_); rintro e w3 ⟨rfl, rfl⟩))
              | (go_at_call 17; ((with_reducible refine HQ2.out.mono ?_); rintro e w3 ⟨rfl, rfl⟩))
              | (go_at_call 15; ((with_reducible refine HOf.out.mono ?_); rintro e w6 ⟨v6, G6, rfl, k1, k2, k3, k4, k5⟩; have HR6 := Lib.hid (HPo.out v6 G6 w6 k1 k2 k3 k4 k5); clear k1 k2 k3 k4 k5)))
            go_ret
            exact HR6.out
theorem refMv_any (w : World) (A : Option Addr) (n c : Nat) (L : List Rng) (a : Int × Int × ByteArray) (hL : Rgs w A n L) (hA : ∀ b, A = some b → b.block < w.heap.size) (hn : n ≤ 1000) :
    Calls Try.prog 21 #[.slice A n c, edV a] w (MvPost L a n w) := by
  by_cases h : EdIn a
  · exact refMv_in w A n c L a hL hA hn h
  · exact refMv_out w A n c L a hL hA hn h
end Go.Proofs.Ytbgdphjjepbafaa
