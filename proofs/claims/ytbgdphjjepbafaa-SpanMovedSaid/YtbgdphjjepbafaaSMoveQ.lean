/- The program's Move: where the places of a list go. -/
import Derived.Test.YtbgdphjjepbafaaSMoveP
namespace Go.Proofs.Ytbgdphjjepbafaa
open Go.RowKit

theorem fp_lower {K : Int → Bool} {B : Nat} {w w0 : World} {e : Ending} {w' : World} (h : FP K B w e w') (hu : Up w0 w) : FP K B w0 e w' := by
  obtain ⟨v, F, h1, h2, h3, h4, h5, h6⟩ := h
  exact ⟨v, F, h1, rowR_lower h2 (Below.size hu), h3, h4, h5, hu.trans h6⟩
theorem rowR_up {w w' : World} {B : Nat} {v : Value} {F : List Rng} (h : RowR w B v F) (hu : Up w w') : RowR w' B v F := World.ownsRow.kept h (Up.grownBy hu) (by cases hv : Value.ownBlock _ <;> simp)
theorem bnd_yes {a : Int × Int × ByteArray} (h : EdIn a) : bnd a = true := decide_eq_true h
theorem bnd_no {a : Int × Int × ByteArray} (h : ¬ EdIn a) : bnd a = false := decide_eq_false h
set_option maxRecDepth 100000 in
set_option maxHeartbeats 1000000 in
theorem pMove_out (w : World) (A : Option Addr) (n c : Nat) (L : List Rng) (a : Int × Int × ByteArray) (hL : Rgs w A n L) (hn : n ≤ 1000) (hE : ¬ EdIn a) :
    Calls Try.prog 20 #[.slice A n c, edV a] w (MvPost L a n w) := by
  have hu : Up w (edW w a) := Up.alloc w _
  have HO := Lib.hid (norm_any (edW w a) A n c L (hL.up hu) (by omega))
  have HB := Lib.hid (fun W => bnd_no hE ▸ sbounded_any a W)
  have HU := Lib.hid hu
  have HE := Lib.hid hE
  have C := Lib.hid (edW_cells w a)
  obtain ⟨p, d, x⟩ := a
  unfold edW at HO HU C
  unfold edV at HB ⊢
  dsimp only at HB HO HU C ⊢
  clear hu hL hE
  go_enter Try.func20, Try.ntmps20
  go_wp2_with (first
    | (go_at_call 10; ((with_reducible refine HO.out.mono ?_); rintro e w1 ⟨v, F, rfl, h1, h2, h3, h4, h5⟩; have c0 := cell_up h5 C.out.1; have c1 := cell_up h5 C.out.2.1; have c2 := cell_up h5 C.out.2.2; have H1 := Lib.hid h1; have H2 := Lib.hid h2; have H3 := Lib.hid h3; have H4 := Lib.hid h4; have H5 := Lib.hid h5; clear h1 h2 h3 h4 h5))
    | (go_at_call 35; ((with_reducible refine (HB.out _).mono ?_); rintro e w2 ⟨rfl, hu2⟩; have HU2 := Lib.hid hu2; clear hu2)))
  go_ret
  exact ⟨v, F, rfl, rowR_lower (rowR_up H1.out HU2.out) (Below.size HU.out), H2.out, fun h => absurd h HE.out, fun _ q => H3.out q, by have := H4.out; omega, HU.out.trans (H5.out.trans HU2.out)⟩
set_option maxRecDepth 100000 in
set_option maxHeartbeats 4000000 in
theorem pMove_in (w : World) (A : Option Addr) (n c : Nat) (L : List Rng) (a : Int × Int × ByteArray) (hL : Rgs w A n L) (hn : n ≤ 1000) (hE : EdIn a) :
    Calls Try.prog 20 #[.slice A n c, edV a] w (MvPost L a n w) := by
  have hu : Up w (edW w a) := Up.alloc w _
  have HO := Lib.hid (norm_any (edW w a) A n c L (hL.up hu) (by omega))
  have HB := Lib.hid (fun W => bnd_yes hE ▸ sbounded_any a W)
  have HU := Lib.hid hu
  have HE := Lib.hid hE
  have C := Lib.hid (edW_cells w a)
  have HPcs := Lib.hid (fun (F : List Rng) (hf : Form F) (hF : ∀ x, has F x = has L x) q => pcs_has hE hf hF q)
  have HMv := Lib.hid (fun base f t hf ht Bn N v O W hb hr hl he hBn hW => mvc_any base a hE f t hf ht Bn N v O W hb hr hl he hBn hW)
  obtain ⟨p, d, x⟩ := a
  obtain ⟨g1, g2, g3, g4, g5⟩ := hE
  unfold edW at HO HU C
  unfold edV at HB ⊢
  dsimp only at HB HO HU C g1 g2 g3 g4 g5 ⊢
  clear hu hL
  go_enter Try.func20, Try.ntmps20
  go_upto_region 6 with (first
    | (go_at_call 10; ((with_reducible refine HO.out.mono ?_); rintro e w1 ⟨v, F, rfl, h1, h2, h3, h4, h5⟩; have c0 := cell_up h5 C.out.1; have c1 := cell_up h5 C.out.2.1; have c2 := cell_up h5 C.out.2.2; obtain ⟨A2, k2, hv, hr, hA2⟩ := owns_rgs_lt h1; subst hv; have HRg := Lib.hid hr; have HA2 := Lib.hid hA2; have H1 := Lib.hid h1; have H2 := Lib.hid h2; have H3 := Lib.hid h3; have H4 := Lib.hid h4; have H5 := Lib.hid h5; clear h1 h2 h3 h4 h5 hr hA2))
    | (go_at_call 35; ((with_reducible refine (HB.out _).mono ?_); rintro e w2 ⟨rfl, hu2⟩; have HU2 := Lib.hid hu2; have HEd := Lib.hid (show EdAt w2 w.heap.size (p, d, x) from ⟨cell_up hu2 c0, cell_up hu2 c1, cell_up hu2 c2⟩); clear hu2 c0 c1 c2)))
  obtain ⟨N, hN⟩ : ∃ N, w.heap.size = N := ⟨_, rfl⟩
  obtain ⟨B, hB⟩ : ∃ B, w2.heap.size = B := ⟨_, rfl⟩
  obtain ⟨m, hm⟩ : ∃ m, F.length = m := ⟨_, rfl⟩
  have hNB : N < B := by
    have h1 := Below.size H5.out
    have h2 := Below.size HU2.out
    simp at h1
    omega
  have hm2 : m ≤ 2000 := by have := H4.out; omega
  have HA3 := Lib.hid (show ∀ b, A2 = some b → b.block < B from fun b e => by have := HA2.out b e; have := Below.size HU2.out; omega)
  have hb0 : Boxed (w2.alloc (.cells #[.slice none 0 0] 22)) B 22 (.slice none 0 0) := by rw [← hB]; exact Boxed.new w2 _ _
  have hub : Below B w2 (w2.alloc (.cells #[.slice none 0 0] 22)) := by rw [← hB]; exact Up.alloc w2 _
  obtain ⟨wb, hwb⟩ : ∃ wb, w2.alloc (.cells #[.slice none 0 0] 22) = wb := ⟨_, rfl⟩
  rw [hwb] at hb0 hub
  rw [hN] at HEd
  rw [hm] at HRg
  simp only [hN, hB, hm, hwb]
  have HEb := Lib.hid (HEd.out.keep hub hNB)
  have HRb := Lib.hid (show Rgs wb A2 m F from (HRg.out.up HU2.out).keep hub HA3.out)
  have HS0 := Lib.hid (show ∃ v, Boxed wb B 22 v ∧ wb.ownsRow B 29 2 v (pcsL (p, d, x) (F.take 0)).length (rgCells (pcsL (p, d, x) (F.take 0))) from ⟨_, hb0, World.ownsRow_nil _ _ _ _⟩)
  have HSz := Lib.hid (show B ≤ wb.heap.size by have := Below.size hub; omega)
  have HM := Lib.hid hm
  have HN := Lib.hid hN
  have HBz := Lib.hid hB
  have HWb := Lib.hid hub
  clear hwb hN hB hm hb0 hub
  go_wp2
  go_loopg [9, 19] m (fun g _ iv wr => ∃ i : Nat, g = m - i ∧ iv = .int .i64 (i : Nat) ∧ i ≤ m ∧ Hid (∃ v, Boxed wr B 22 v ∧ wr.ownsRow B 29 2 v (pcsL (p, d, x) (F.take i)).length (rgCells (pcsL (p, d, x) (F.take i)))) ∧ Hid (Below B wb wr))
  case atStart => exact ⟨0, rfl, rfl, Nat.zero_le _, HS0, Lib.hid (Below.refl _ _)⟩
  case round =>
    obtain ⟨i, hg, rfl, hi, HS, HV⟩ := hrel
    have HG := Lib.hid hg
    clear hg
    obtain ⟨v, hbx, hrow⟩ := HS.out
    have hsz : B ≤ wr.heap.size := by have := HSz.out; have := Below.size HV.out; omega
    by_cases hlt : i < m
    · have hiF : i < F.length := by have := HM.out; omega
      obtain ⟨b, o, hA, -, k0, k1⟩ := (HRb.out.keep HV.out HA3.out).at_ i hiF
      subst hA
      obtain ⟨⟨r1, r2⟩, hr⟩ : ∃ r, F[i] = r := ⟨_, rfl⟩
      rw [hr] at k0 k1
      dsimp only at k0 k1
      have hii : (i : Int) < m := by omega
      have hfi := form_at H2.out i hiF
      rw [hr] at hfi
      dsimp only at hfi
      obtain ⟨f1, f2, f3⟩ := hfi
      have HTk := Lib.hid (show pcsL (p, d, x) (F.take (i + 1)) = pcsL (p, d, x) (F.take i) ++ opt1 (p, d, x) (r1, min r2 p) ++ opt1 (p, d, x) (max r1 (p + d), r2) by rw [List.take_succ_eq_append_getElem hiF, pcsL_snoc, hr])
      have hOl : (pcsL (p, d, x) (F.take i)).length ≤ 4000 := by
        have h1 := pcsL_len (p, d, x) (F.take i)
        rw [List.length_take] at h1
        omega
      obtain ⟨O, hO⟩ : ∃ O, pcsL (p, d, x) (F.take i) = O := ⟨_, rfl⟩
      rw [hO] at hrow hOl HTk
      have hul := Up.alloc wr (.cells #[.int .i64 r1, .int .i64 r2] 29)
      have hbl : Below B wr (wr.alloc (.cells #[.int .i64 r1, .int .i64 r2] 29)) := Below.mono hul hsz
      have hed : EdAt (wr.alloc (.cells #[.int .i64 r1, .int .i64 r2] 29)) N (p, d, x) := (HEb.out.keep HV.out hNB).keep hbl hNB
      have t0 : (wr.alloc (.cells #[.int .i64 r1, .int .i64 r2] 29)).heap[wr.heap.size]? = some (.cells #[.int .i64 r1, .int .i64 r2] 29 (0, 0)) := Go.heap_alloc_new _ _
      have HC1 := Lib.hid (HMv.out B r1 (min r2 p) (by omega) (by omega) B N v O _ (hbx.alloc _) (hrow.alloc _) (by omega) hed (Nat.le_refl _) (by simp; omega))
      have HT0 := Lib.hid t0
      have HBl := Lib.hid hbl
      have HEl := Lib.hid hed
      have HRow := Lib.hid hrow
      have e0 := hed.c0
      have e1 := hed.c1
      dsimp only at e0 e1
      have hRB : wr.heap.size ≠ B := by have := hbx.lt; omega
      have hRv := own_lt hrow
      have hO9 := hO
      clear t0 hbl hed hul hbx hrow hO hr
      go_upto_region 10 with (go_at_call 36; ((with_reducible refine HC1.out.mono ?_); rintro e w3 ⟨rfl, v3, hb3, hr3, hu3, hs3⟩))
      have hr3b := (hs3 wr.heap.size (by simp) hRB hRv).trans HT0.out
      have k0 : w3.cell? ⟨wr.heap.size, 0, none⟩ = some (.int .i64 r1) := cellOf hr3b rfl
      have k1 : w3.cell? ⟨wr.heap.size, 1, none⟩ = some (.int .i64 r2) := cellOf hr3b rfl
      have hed3 := HEl.out.keep hu3 hNB
      obtain ⟨O2, hO2⟩ : ∃ O2, O ++ opt1 (p, d, x) (r1, min r2 p) = O2 := ⟨_, rfl⟩
      rw [hO2] at hr3 HTk
      have hO2l : O2.length ≤ 100000 := by
        have := opt1_len (p, d, x) (r1, min r2 p)
        rw [← hO2, List.length_append]
        omega
      have hB3 : B ≤ w3.heap.size := by have := Below.size hu3; simp at this; omega
      have HC2 := Lib.hid (HMv.out B (max r1 (p + d)) r2 (by omega) (by omega) B N v3 O2 w3 hb3 hr3 hO2l hed3 (Nat.le_refl _) hB3)
      have e0 := hed3.c0
      have e1 := hed3.c1
      dsimp only at e0 e1
      have q1 : IntKind.i64.wrap (p + d) = p + d := IntWalk.i64_in _ (by omega)
      have HU3 := Lib.hid hu3
      have HO9 := Lib.hid hO9
      clear hr3b hed3 hb3 hr3 hu3 hs3 hO2 hO9
      go_wp2_with (go_at_call 36; ((with_reducible refine HC2.out.mono ?_); rintro e w4 ⟨rfl, v4, hb4, hr4, hu4, -⟩; have HB4 := Lib.hid hb4; have HR4 := Lib.hid hr4; have HU4 := Lib.hid hu4; clear hb4 hr4 hu4))
      go_roundg (m - (i + 1))
      case measure => rw [HG.out]; omega
      case rel => exact ⟨i + 1, rfl, by go_num, by omega, Lib.hid ⟨v4, HB4.out, by rw [HTk.out]; exact HR4.out⟩, Lib.hid (((HV.out.trans HBl.out).trans HU3.out).trans HU4.out)⟩
    · obtain rfl : i = m := by omega
      have f0 : decide (i < i) = false := decide_eq_false hlt
      have hFt : F.take i = F := List.take_of_length_le (by have := HM.out; omega)
      rw [hFt] at hrow
      have hPl : (pcsL (p, d, x) F).length ≤ 4000 := by
        have h1 := pcsL_len (p, d, x) F
        have h2 := HM.out
        omega
      have hed := HEb.out.keep HV.out hNB
      have e0 := hed.c0
      have e1 := hed.c1
      have e2 := hed.c2
      dsimp only at e0 e1 e2
      have q1 : IntKind.i64.wrap (p - 1) = p - 1 := IntWalk.i64_in _ (by omega)
      have q2 : IntKind.i64.wrap (p + d) = p + d := IntWalk.i64_in _ (by omega)
      have hrg := HRb.out.keep HV.out HA3.out
      obtain ⟨P1, hP1⟩ : ∃ P1, has F (p - 1) = P1 := ⟨_, rfl⟩
      obtain ⟨P2, hP2⟩ : ∃ P2, has F (p + d) = P2 := ⟨_, rfl⟩
      have HH1 := Lib.hid (hP1 ▸ pHas_any wr A2 i k2 F hrg (by omega) (p - 1))
      have HH2 := Lib.hid (fun W (hu : Up wr W) => hP2 ▸ pHas_any W A2 i k2 F (hrg.up hu) (by omega) (p + d))
      have HGp := Lib.hid (show gap L (p, d, x) = if (P1 && P2) = true then [(p, p + (x.size : Int))] else [] by unfold gap; rw [← hP1, ← hP2, H3.out, H3.out])
      have HBx := Lib.hid hbx
      have HRw := Lib.hid hrow
      have HPl := Lib.hid hPl
      have HUp : Hid (Up w wr) := Lib.hid (by
        have h2 := (HU.out.trans H5.out).trans HU2.out
        have h3 := HWb.out.trans HV.out
        rw [← HBz.out] at h3
        exact h2.trans h3)
      have HTail := Lib.hid (fun (W : World) (v : Value) (O : List Rng) (h1 : W.ownsRow B 29 2 v O.length (rgCells O)) (h2 : Up w W) (h3 : O = pcsL (p, d, x) F ++ gap L (p, d, x)) =>
        show ∃ A c, v = .slice A O.length c ∧ Calls Try.prog 10 #[.slice A O.length c] W (MvPost L (p, d, x) n w) from by
          obtain ⟨A5, c5, e5, hr5, -⟩ := owns_rgs_lt h1
          have hlen : O.length ≤ 4 * n + 1 := by
            have k1 := pcsL_len (p, d, x) F
            have k2 := H4.out
            have k3 : (gap L (p, d, x)).length ≤ 1 := by unfold gap; split <;> simp
            rw [h3, List.length_append]
            omega
          refine ⟨A5, c5, e5, (norm_any W A5 O.length c5 O hr5 (by omega)).mono ?_⟩
          rintro e w' ⟨v', G, j1, j2, j3, j4, j5, j6⟩
          exact ⟨v', G, j1, rowR_lower j2 (Below.size h2), j3, fun _ q => by rw [j4 q, h3]; exact HPcs.out F H2.out H3.out q, fun h => absurd HE.out h, by omega, h2.trans j6⟩)
      clear hP1 hP2 hrg hbx hrow hPl hed hlt hFt
      cases P1 with
      | false =>
        have hg0 : gap L (p, d, x) = [] := by rw [HGp.out]; rfl
        go_upto_region 14 with (first | (go_at_call 16; ((with_reducible refine HH1.out.mono ?_); rintro e w5 ⟨rfl, hu5⟩; have e0 := cell_up hu5 e0; have e1 := cell_up hu5 e1; have e2 := cell_up hu5 e2; have hbx5 := Boxed.kept HBx.out (Up.grownBy hu5) (fun e => by cases e); have HR5 := Lib.hid (World.ownsRow.kept HRw.out (Up.grownBy hu5) (by cases hv : Value.ownBlock _ <;> simp)); have b5 := hbx5.cell; have HBx5 := Lib.hid hbx5; have HH2 := Lib.hid (HH2.out w5 hu5); have HU5 := Lib.hid hu5; clear hu5 hbx5)))
        obtain ⟨A9, c9, hv9, HN9⟩ := HTail.out w5 v (pcsL (p, d, x) F) HR5.out (HUp.out.trans HU5.out) (by rw [hg0, List.append_nil])
        subst hv9
        have HN9 := Lib.hid HN9
        go_wp2_with (go_at_call 10; ((with_reducible refine HN9.out.mono ?_); intro e w7 hp7; obtain ⟨v7, F7, rfl, hp8⟩ := hp7; have HP7 := Lib.hid (show MvPost L (p, d, x) n w (.returned v7) w7 from ⟨v7, F7, rfl, hp8⟩); clear hp8))
        go_ret
        exact HP7.out
      | true =>
        cases P2 with
        | false =>
          have hg0 : gap L (p, d, x) = [] := by rw [HGp.out]; rfl
          go_upto_region 14 with (first | (go_at_call 16; ((with_reducible refine HH1.out.mono ?_); rintro e w5 ⟨rfl, hu5⟩; have e0 := cell_up hu5 e0; have e1 := cell_up hu5 e1; have e2 := cell_up hu5 e2; have hbx5 := Boxed.kept HBx.out (Up.grownBy hu5) (fun e => by cases e); have HR5 := Lib.hid (World.ownsRow.kept HRw.out (Up.grownBy hu5) (by cases hv : Value.ownBlock _ <;> simp)); have b5 := hbx5.cell; have HBx5 := Lib.hid hbx5; have HH2 := Lib.hid (HH2.out w5 hu5); have HU5 := Lib.hid hu5; clear hu5 hbx5)) | (go_at_call 16; ((with_reducible refine HH2.out.mono ?_); rintro e w6 ⟨rfl, hu6⟩; have e0 := cell_up hu6 e0; have e1 := cell_up hu6 e1; have e2 := cell_up hu6 e2; have hbx6 := Boxed.kept HBx5.out (Up.grownBy hu6) (fun e => by cases e); have HR6 := Lib.hid (World.ownsRow.kept HR5.out (Up.grownBy hu6) (by cases hv : Value.ownBlock _ <;> simp)); have b6 := hbx6.cell; have HBx6 := Lib.hid hbx6; have HU6 := Lib.hid hu6; clear hu6 hbx6)))
          obtain ⟨A9, c9, hv9, HN9⟩ := HTail.out w6 v (pcsL (p, d, x) F) HR6.out ((HUp.out.trans HU5.out).trans HU6.out) (by rw [hg0, List.append_nil])
          subst hv9
          have HN9 := Lib.hid HN9
          go_wp2_with (go_at_call 10; ((with_reducible refine HN9.out.mono ?_); intro e w7 hp7; obtain ⟨v7, F7, rfl, hp8⟩ := hp7; have HP7 := Lib.hid (show MvPost L (p, d, x) n w (.returned v7) w7 from ⟨v7, F7, rfl, hp8⟩); clear hp8))
          go_ret
          exact HP7.out
        | true =>
          have hg0 : gap L (p, d, x) = [(p, p + (x.size : Int))] := by rw [HGp.out]; rfl
          go_upto_region 13 with (first | (go_at_call 16; ((with_reducible refine HH1.out.mono ?_); rintro e w5 ⟨rfl, hu5⟩; have e0 := cell_up hu5 e0; have e1 := cell_up hu5 e1; have e2 := cell_up hu5 e2; have hbx5 := Boxed.kept HBx.out (Up.grownBy hu5) (fun e => by cases e); have HR5 := Lib.hid (World.ownsRow.kept HRw.out (Up.grownBy hu5) (by cases hv : Value.ownBlock _ <;> simp)); have b5 := hbx5.cell; have HBx5 := Lib.hid hbx5; have HH2 := Lib.hid (HH2.out w5 hu5); have HU5 := Lib.hid hu5; clear hu5 hbx5)) | (go_at_call 16; ((with_reducible refine HH2.out.mono ?_); rintro e w6 ⟨rfl, hu6⟩; have e0 := cell_up hu6 e0; have e1 := cell_up hu6 e1; have e2 := cell_up hu6 e2; have hbx6 := Boxed.kept HBx5.out (Up.grownBy hu6) (fun e => by cases e); have HR6 := Lib.hid (World.ownsRow.kept HR5.out (Up.grownBy hu6) (by cases hv : Value.ownBlock _ <;> simp)); have b6 := hbx6.cell; have HBx6 := Lib.hid hbx6; have HU6 := Lib.hid hu6; clear hu6 hbx6)))
          obtain ⟨i0, hi0, hz0, hz1, hz2⟩ := info_parts infoRange
          have q3 : IntKind.i64.wrap (p + (x.size : Int)) = p + (x.size : Int) := IntWalk.i64_in _ (by omega)
          have hb6 := HBx6.out
          have hr6 := HR6.out
          have hsz6 : B ≤ w6.heap.size := by have := Below.size HU5.out; have := Below.size HU6.out; omega
          have hpl := HPl.out
          have hwB : w.heap.size ≤ B := by have := HN.out; omega
          have hlen9 : (pcsL (p, d, x) F ++ [((p, p + (x.size : Int)) : Rng)]).length = (pcsL (p, d, x) F).length + 1 := by rw [List.length_append]; rfl
          go_wp2_with (at_builtin; (refine wpList_append_own _ rfl _ _ 22 rfl B 29 i0 (.agg #[.int .i64 0, .int .i64 0]) 2 16 Try.underlying22 hi0 hz0 hz1 hz2 rfl (by decide) _ _ _ rfl (hr6.alloc _) ⟨w6.heap.size, 0, none⟩ 1 1 [.int .i64 p, .int .i64 (p + (x.size : Int))] rfl rfl (World.news_of_block (cs := #[.int .i64 p, .int .i64 (p + (x.size : Int))]) (t := 29) (fr := (0, 0)) (heap_alloc_new w6 _)) (by simp [Value.oneCell']) (by unfold maxLen; omega) (by omega) (by simp; omega) ?_; intro v' w8 hown' hgrow _; obtain ⟨g8, c8, rfl⟩ := ownsRow_succ hown'; obtain ⟨hv1, hv2, hr2, -, hb2⟩ := hb6.appended (by decide) hr6 hsz6 (Nat.le_refl _) hown' hgrow; have hc1 := hv1.cell; have hf1 := hv1.frozen; have hc2 := hv2.cell; obtain ⟨A9, c9, hv9, HN9⟩ := HTail.out _ _ (pcsL (p, d, x) F ++ [(p, p + (x.size : Int))]) (by rw [rgCells_append, List.length_append]; exact hr2) (Below.trans ((HUp.out.trans HU5.out).trans HU6.out) (Below.mono hb2 hwB)) (by rw [hg0]); rw [hlen9] at hv9 HN9; injection hv9 with j1 j2 j3; subst j1 j3; have HN9 := Lib.hid HN9))
          go_at_call 10
          refine HN9.out.mono ?_
          intro e w7 hp7
          obtain ⟨v7, F7, rfl, hp8⟩ := hp7
          have HP7 := Lib.hid (show MvPost L (p, d, x) n w (.returned v7) w7 from ⟨v7, F7, rfl, hp8⟩)
          clear hp8
          go_wp2
          go_ret
          exact HP7.out
end Go.Proofs.Ytbgdphjjepbafaa
