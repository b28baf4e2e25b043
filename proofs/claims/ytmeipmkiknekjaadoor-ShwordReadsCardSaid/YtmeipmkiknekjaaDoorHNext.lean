/- The program's next: a blank, or a piece; and Read. -/
import Derived.Test.YtmeipmkiknekjaaDoorHWord
namespace Go.Proofs.YtmeipmkiknekjaaDoor
open Go.RowKit
set_option linter.unusedVariables false
section
variable {w0 W : World} {b n p mk : Nat} {line : ByteArray} {v : Value} {ps : List Pc}
theorem rest_any {l : List Nat} {k : Nat} (hk : k = con l) : l.any sgB = (l.take k).any sgB := by
  conv => lhs; rw [← List.take_append_drop k l]
  rw [List.any_append]
  rcases con_rest l with h | h <;> rw [← hk] at h <;> rw [h] <;> simp [sgB]
theorem word0_any (hT : TabH w0) (hn : n = con (bl line)) (hs : (line.size : Int) ≤ 1000000) (hp : p ≤ n) (hl : ps.length ≤ 1000000) (h : RdH w0 W b line n p mk v ps) :
    Calls Tryd.prog 16 #[.pointer (some ⟨b, 0, none⟩), .int .u8 0] W fun e w' => e = .returned (.tuple #[]) ∧ ∃ v', RdH w0 w' b line n (wpc (bl line) p 0).b (wd 0 ((bl line).drop p)).2.2 v' (ps ++ [wpc (bl line) p 0]) := by
  have hcd : con ((bl line).drop p) = n - p := by rw [con_drop p _ (by omega)]; omega
  have hal := wd_all n 0 ((bl line).drop p) (by omega) (.inl rfl)
  by_cases hM : (wd 0 ((bl line).drop p)).2.2 = 0
  · have := word_zero hT hn hs hp hl h hM
    have e : wpc (bl line) p 0 = ⟨51, p, p + (wd 0 ((bl line).drop p)).1, (wd 0 ((bl line).drop p)).2.1, (((bl line).drop p).take (p + (wd 0 ((bl line).drop p)).1 - p)).any sgB, true⟩ := by
      unfold wpc
      rw [hM, Nat.add_sub_cancel_left]
      simp
    rw [e, hM]
    exact this
  · have := word_mark hT hn hs hp hl h hM
    have e : wpc (bl line) p 0 = ⟨51, p, line.size, (wd 0 ((bl line).drop p)).2.1 ++ (bl line).drop n, (((bl line).drop p).take (line.size - p)).any sgB, false⟩ := by
      unfold wpc
      rw [if_neg hM, if_neg hM, bl_len, hn]
      have h1 : ((bl line).drop p).take (line.size - p) = (bl line).drop p := List.take_of_length_le (by rw [List.length_drop, bl_len]; exact Nat.le_refl _)
      rw [h1, rest_any (hal.2.2.2 hM)]
      simp [hM]
    rw [e]
    exact this
theorem wordS_any (m : Nat) (hm : m = 39 ∨ m = 34) (hT : TabH w0) (hn : n = con (bl line)) (hs : (line.size : Int) ≤ 1000000) (hp : p ≤ n) (hl : ps.length ≤ 1000000) (h : RdH w0 W b line n p mk v ps) :
    Calls Tryd.prog 16 #[.pointer (some ⟨b, 0, none⟩), .int .u8 (m : Nat)] W fun e w' => e = .returned (.tuple #[]) ∧ ∃ v', RdH w0 w' b line n (wpc (bl line) p m).b (wd m ((bl line).drop p)).2.2 v' (ps ++ [wpc (bl line) p m]) := by
  have hm0 : m ≠ 0 := by omega
  by_cases hM : (wd m ((bl line).drop p)).2.2 = 0
  · have := word_sgn hT hn hs hp hl h m hm hM
    have e : wpc (bl line) p m = ⟨51, p, p + (wd m ((bl line).drop p)).1, (wd m ((bl line).drop p)).2.1, true, false⟩ := by
      unfold wpc
      rw [hM]
      simp [hm0]
    rw [e, hM]
    exact this
  · have := word_both hT hn hs hp hl h m hm hM
    have e : wpc (bl line) p m = ⟨51, p, line.size, (wd m ((bl line).drop p)).2.1 ++ (bl line).drop n, true, false⟩ := by
      unfold wpc
      rw [if_neg hM, if_neg hM, bl_len, hn]
      simp [hm0]
    rw [e]
    exact this
/-- Where one comes to, the mark, and what has been told, behind a round. -/
def nxH (L : List Nat) (p mk : Nat) (ps : List Pc) : Nat × Nat × List Pc := if hdW (L.drop p) = true then (p + 1, mk, ps) else ((tk L p mk).1.b, (tk L p mk).2, ps ++ [(tk L p mk).1])
set_option maxRecDepth 100000 in
set_option maxHeartbeats 4000000 in
theorem next_any (hT : TabH w0) (hn : n = con (bl line)) (hs : (line.size : Int) ≤ 1000000) (hp : p < n) (hl : ps.length ≤ 1000000) (h : RdH w0 W b line n p mk v ps) :
    Calls Tryd.prog 17 #[.pointer (some ⟨b, 0, none⟩)] W fun e w' => e = .returned (.tuple #[]) ∧ ∃ v', RdH w0 w' b line n (nxH (bl line) p mk ps).1 (nxH (bl line) p mk ps).2.1 v' (nxH (bl line) p mk ps).2.2 := by
  have hle := con_le (bl line)
  rw [bl_len, ← hn] at hle
  have hlt : p < line.size := by omega
  have c0 : W.cell? ⟨b, 0, none⟩ = some (.string line) := h.cell rfl
  have c2 : W.cell? ⟨b, 2, none⟩ = some (.int .i64 (p : Nat)) := h.cell rfl
  have HO := Lib.hid (fun m => quietD (op_any (W.drewN m) ((hT.up h.up).up (Up.drewN W m)) line (p : Int)))
  rw [opE_nat] at HO
  have HR := Lib.hid (fun m => h.more (Up.drewN W m))
  have hdw : hdW ((bl line).drop p) = isW (bt line p) := hdW_at hlt
  obtain ⟨c, hc⟩ : ∃ c, bt line p = c := ⟨_, rfl⟩
  have hx : line[p].toNat = c := by rw [bt_eq hlt]; exact hc
  have p0 : (0 : Int) ≤ (p : Int) := by omega
  have p1 : (p : Int) < line.size := by omega
  have e1 : IntKind.i64.wrap ((p : Int) + 1) = (p : Int) + 1 := IntWalk.i64_in _ (by omega)
  have HB := Lib.hid (fun (w' : World) (hr : RdH w0 w' b line n p mk v ps) => isBlank_any w' b line p hlt (hr.cell rfl) (hr.cell rfl))
  rw [hc] at hdw HB
  by_cases hw : isW c = true
  · have e : nxH (bl line) p mk ps = (p + 1, mk, ps) := by unfold nxH; rw [if_pos (by rw [hdw]; exact hw)]
    rw [e]
    rw [hw] at HB
    clear hdw hw hle h c hc hx e
    generalize opL ((bl line).drop p) = K at HO
    go_enter Tryd.func17, Tryd.ntmps17
    go_wp2
    go_quiet (first
      | (go_at_call 12; with_reducible exact HO.out _))
    have H2 := Lib.hid (HR.out nq)
    generalize W.drewN nq = W2 at H2 ⊢
    clear HR HO c0 c2
    go_wp2_with (first | (go_at_call 27; ((with_reducible refine (HB.out _ H2.out).mono ?_); rintro e w3 ⟨rfl, hd⟩; have h3 := H2.out.more hd.up; have c0 : w3.cell? ⟨b, 0, none⟩ = some (.string line) := h3.cell rfl; have c1 : w3.cell? ⟨b, 1, none⟩ = some (.int .i64 (n : Nat)) := h3.cell rfl; have c2 : w3.cell? ⟨b, 2, none⟩ = some (.int .i64 (p : Nat)) := h3.cell rfl; have z2 := h3.fr 2; have H3 := Lib.hid h3; clear h3 hd)))
    have HF := Lib.hid (H3.out.set (k := 2) (u := .int .i64 ((p : Int) + 1)) (p' := p + 1) (mk' := mk) rfl)
    go_wp2
    go_end0
    exact ⟨rfl, _, HF.out⟩
  have hwf : isW c = false := by cases hh : isW c <;> simp_all
  rw [hwf] at HB hdw
  have e0 : nxH (bl line) p mk ps = ((tk (bl line) p mk).1.b, (tk (bl line) p mk).2, ps ++ [(tk (bl line) p mk).1]) := by unfold nxH; rw [if_neg (by rw [hdw]; decide)]
  rw [e0]
  have hhd : ((bl line).drop p).head? = some c := by rw [bl_drop hlt, hc]; rfl
  by_cases h35 : c = 35
  · have e : tk (bl line) p mk = (⟨53, p, n, [], false, false⟩, mk) := by unfold tk; rw [if_pos (by rw [hhd, h35]), hn]
    rw [e]
    have HP := Lib.hid (fun (w' : World) (v' : Value) (hr : RdH w0 w' b line n p mk v' ps) => put_any w0 w' b line n p mk 53 n v' ps hr hl)
    rw [show ((53 : Nat) : Int) = 53 from rfl] at HP
    subst h35
    clear hdw hwf hle h hc e e0 hhd hn
    generalize opL ((bl line).drop p) = K at HO
    go_enter Tryd.func17, Tryd.ntmps17
    go_wp2
    go_quiet (first
      | (go_at_call 12; with_reducible exact HO.out _))
    have H2 := Lib.hid (HR.out nq)
    generalize W.drewN nq = W2 at H2 ⊢
    clear HR HO c0 c2
    go_wp2_with (first | (go_at_call 27; ((with_reducible refine (HB.out _ H2.out).mono ?_); rintro e w3 ⟨rfl, hd⟩; have h3 := H2.out.more hd.up; have c0 : w3.cell? ⟨b, 0, none⟩ = some (.string line) := h3.cell rfl; have c1 : w3.cell? ⟨b, 1, none⟩ = some (.int .i64 (n : Nat)) := h3.cell rfl; have c2 : w3.cell? ⟨b, 2, none⟩ = some (.int .i64 (p : Nat)) := h3.cell rfl; have z2 := h3.fr 2; have H3 := Lib.hid h3; clear h3 hd)))
    go_quiet (fail)
    have H4 := Lib.hid (H3.out.more (Up.drewN w3 nq))
    generalize w3.drewN nq = W4 at H4 ⊢
    have c1 : W4.cell? ⟨b, 1, none⟩ = some (.int .i64 (n : Nat)) := H4.out.cell rfl
    go_wp2_with (first | (go_at_call 28; ((with_reducible refine (HP.out _ _ H4.out).mono ?_); rintro e w5 ⟨rfl, v5, h5⟩; have H5 := Lib.hid h5; clear h5)))
    go_end0
    exact ⟨rfl, _, H5.out⟩
  have n35 : ((c : Int) == 35) = false := beq_eq_false_iff_ne.2 (by omega)
  have t35 : ¬ ((bl line).drop p).head? = some 35 := by rw [hhd]; simp [h35]
  obtain ⟨K, hK⟩ : ∃ K, opL ((bl line).drop p) = K := ⟨_, rfl⟩
  rw [hK] at HO
  by_cases hk : 0 < K
  · have e : tk (bl line) p mk = (⟨52, p, p + K, [], false, false⟩, mk) := by unfold tk; rw [if_neg t35, hK, if_pos hk]
    rw [e]
    have hk3 : K ≤ line.size := by have h1 := opL_con ((bl line).drop p); have h2 := con_le ((bl line).drop p); rw [List.length_drop, bl_len] at h2; omega
    have HP := Lib.hid (fun (w' : World) (v' : Value) (hr : RdH w0 w' b line n p mk v' ps) => put_any w0 w' b line n p mk 52 (p + K) v' ps hr hl)
    rw [show ((52 : Nat) : Int) = 52 from rfl, show ((p + K : Nat) : Int) = (p : Int) + (K : Int) from rfl] at HP
    have g1 : (0 : Int) < (K : Int) := by omega
    have e2 : IntKind.i64.wrap ((p : Int) + (K : Int)) = (p : Int) + (K : Int) := IntWalk.i64_in _ (by omega)
    clear hdw hwf hle h hc e e0 hhd t35 hK h35
    go_enter Tryd.func17, Tryd.ntmps17
    go_wp2
    go_quiet (first
      | (go_at_call 12; with_reducible exact HO.out _))
    have H2 := Lib.hid (HR.out nq)
    generalize W.drewN nq = W2 at H2 ⊢
    clear HR HO c0 c2
    go_wp2_with (first | (go_at_call 27; ((with_reducible refine (HB.out _ H2.out).mono ?_); rintro e w3 ⟨rfl, hd⟩; have h3 := H2.out.more hd.up; have c0 : w3.cell? ⟨b, 0, none⟩ = some (.string line) := h3.cell rfl; have c1 : w3.cell? ⟨b, 1, none⟩ = some (.int .i64 (n : Nat)) := h3.cell rfl; have c2 : w3.cell? ⟨b, 2, none⟩ = some (.int .i64 (p : Nat)) := h3.cell rfl; have z2 := h3.fr 2; have H3 := Lib.hid h3; clear h3 hd)))
    go_quiet (fail)
    have H4 := Lib.hid (H3.out.more (Up.drewN w3 nq))
    generalize w3.drewN nq = W4 at H4 ⊢
    have c2 : W4.cell? ⟨b, 2, none⟩ = some (.int .i64 (p : Nat)) := H4.out.cell rfl
    go_wp2_with (first | (go_at_call 28; ((with_reducible refine (HP.out _ _ H4.out).mono ?_); rintro e w5 ⟨rfl, v5, h5⟩; have H5 := Lib.hid h5; clear h5)))
    go_end0
    exact ⟨rfl, _, H5.out⟩
  obtain rfl : K = 0 := by omega
  rw [show ((0 : Nat) : Int) = 0 from rfl] at HO
  have HJ := Lib.hid (fun (w' : World) (hr : RdH w0 w' b line n p mk v ps) => isJoin_any w' b line p (Nat.le_of_lt hlt) (hr.cell rfl) (hr.cell rfl))
  by_cases hj : (bl line).drop p = [92, 10]
  · have e : tk (bl line) p mk = (⟨54, p, line.size, [], false, false⟩, mk) := by unfold tk; rw [if_neg t35, hK, if_neg (by decide), if_pos hj, bl_len]
    rw [e]
    rw [hj, show (([92, 10] : List Nat) == [92, 10]) = true from rfl] at HJ
    have HP := Lib.hid (fun (w' : World) (v' : Value) (hr : RdH w0 w' b line n p mk v' ps) => put_any w0 w' b line n p mk 54 line.size v' ps hr hl)
    rw [show ((54 : Nat) : Int) = 54 from rfl] at HP
    clear hdw hwf hle h hc e e0 hhd t35 hK h35 hj hk
    go_enter Tryd.func17, Tryd.ntmps17
    go_wp2
    go_quiet (first
      | (go_at_call 12; with_reducible exact HO.out _))
    have H2 := Lib.hid (HR.out nq)
    generalize W.drewN nq = W2 at H2 ⊢
    clear HR HO c0 c2
    go_wp2_with (first | (go_at_call 27; ((with_reducible refine (HB.out _ H2.out).mono ?_); rintro e w3 ⟨rfl, hd⟩; have h3 := H2.out.more hd.up; have c0 : w3.cell? ⟨b, 0, none⟩ = some (.string line) := h3.cell rfl; have c1 : w3.cell? ⟨b, 1, none⟩ = some (.int .i64 (n : Nat)) := h3.cell rfl; have c2 : w3.cell? ⟨b, 2, none⟩ = some (.int .i64 (p : Nat)) := h3.cell rfl; have z2 := h3.fr 2; have H3 := Lib.hid h3; clear h3 hd)))
    go_quiet (fail)
    have H4 := Lib.hid (H3.out.more (Up.drewN w3 nq))
    generalize w3.drewN nq = W4 at H4 ⊢
    go_wp2_with (first | (go_at_call 29; ((with_reducible refine (HJ.out _ H4.out).mono ?_); rintro e w6 ⟨rfl, hd⟩; have h6 := H4.out.more hd.up; have c0 : w6.cell? ⟨b, 0, none⟩ = some (.string line) := h6.cell rfl; have H6 := Lib.hid h6; clear h6 hd)) | (go_at_call 28; ((with_reducible refine (HP.out _ _ H6.out).mono ?_); rintro e w5 ⟨rfl, v5, h5⟩; have H5 := Lib.hid h5; clear h5)))
    go_end0
    exact ⟨rfl, _, H5.out⟩
  · have e : tk (bl line) p mk = (wpc (bl line) p 0, (wd 0 ((bl line).drop p)).2.2) := by unfold tk; rw [if_neg t35, hK, if_neg (by decide), if_neg hj]
    rw [e]
    rw [show ((bl line).drop p == [92, 10]) = false from beq_eq_false_iff_ne.2 hj] at HJ
    have HW := Lib.hid (fun (w' : World) (v' : Value) (hr : RdH w0 w' b line n p mk v' ps) => word0_any hT hn hs (Nat.le_of_lt hp) hl hr)
    generalize wpc (bl line) p 0 = X at HW ⊢
    generalize (wd 0 ((bl line).drop p)).2.2 = Y at HW ⊢
    clear hdw hwf hle h hc e e0 hhd t35 hK h35 hj hk
    go_enter Tryd.func17, Tryd.ntmps17
    go_wp2
    go_quiet (first
      | (go_at_call 12; with_reducible exact HO.out _))
    have H2 := Lib.hid (HR.out nq)
    generalize W.drewN nq = W2 at H2 ⊢
    clear HR HO c0 c2
    go_wp2_with (first | (go_at_call 27; ((with_reducible refine (HB.out _ H2.out).mono ?_); rintro e w3 ⟨rfl, hd⟩; have h3 := H2.out.more hd.up; have c0 : w3.cell? ⟨b, 0, none⟩ = some (.string line) := h3.cell rfl; have c1 : w3.cell? ⟨b, 1, none⟩ = some (.int .i64 (n : Nat)) := h3.cell rfl; have c2 : w3.cell? ⟨b, 2, none⟩ = some (.int .i64 (p : Nat)) := h3.cell rfl; have z2 := h3.fr 2; have H3 := Lib.hid h3; clear h3 hd)))
    go_quiet (fail)
    have H4 := Lib.hid (H3.out.more (Up.drewN w3 nq))
    generalize w3.drewN nq = W4 at H4 ⊢
    go_wp2_with (first | (go_at_call 29; ((with_reducible refine (HJ.out _ H4.out).mono ?_); rintro e w6 ⟨rfl, hd⟩; have h6 := H4.out.more hd.up; have c0 : w6.cell? ⟨b, 0, none⟩ = some (.string line) := h6.cell rfl; have H6 := Lib.hid h6; clear h6 hd)) | (go_at_call 16; ((with_reducible refine (HW.out _ _ H6.out).mono ?_); rintro e w7 ⟨rfl, v7, h7⟩; have H7 := Lib.hid h7; clear h7)))
    go_end0
    exact ⟨rfl, _, H7.out⟩
end
end Go.Proofs.YtmeipmkiknekjaaDoor
