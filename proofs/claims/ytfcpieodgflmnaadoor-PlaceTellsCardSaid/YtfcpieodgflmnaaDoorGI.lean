/- The document's Lines and Line. The document's Line. An argument that is an edit: opened, and shut. Arguments of whatever type: behind a call that leaves what stood as it was they read as they did. -/
import Derived.Test.YtfcpieodgflmnaaDoorGH
import Derived.Maps.AppendAt
import Derived.Deep.AppendLies
import Derived.Lib.SmallJoins
import Derived.OpenShut
import Derived.ShutString
import Derived.ChangeOld
import Derived.ReadAgain
import Derived.Deep.Slices
import Derived.Deep.Fields
import Derived.Deep.Strs
namespace Go.Proofs.YtfcpieodgflmnaaDoor
open Go.RowKit

/-- The cells of the first m lines that end in an LF. -/
def lnCells (s : ByteArray) (m : Nat) : List Value := (List.range m).flatMap fun k => [.int .i64 (bh s k : Nat), .int .i64 (bh s (k + 1) : Nat)]
theorem lnCells_zero (s : ByteArray) : lnCells s 0 = [] := rfl
theorem lnCells_succ (s : ByteArray) (m : Nat) : lnCells s (m + 1) = lnCells s m ++ [.int .i64 (bh s m : Nat), .int .i64 (bh s (m + 1) : Nat)] := by
  unfold lnCells
  rw [List.range_succ, List.flatMap_append]
  simp
theorem lnCells_len (s : ByteArray) : ∀ m, (lnCells s m).length = m * 2
  | 0 => rfl
  | m + 1 => by rw [lnCells_succ, List.length_append, lnCells_len s m]; simp; omega
theorem lnCells_at (s : ByteArray) : ∀ m k, k < m → (lnCells s m)[k * 2]? = some (.int .i64 (bh s k : Nat)) ∧ (lnCells s m)[k * 2 + 1]? = some (.int .i64 (bh s (k + 1) : Nat))
  | 0, k, h => absurd h (Nat.not_lt_zero _)
  | m + 1, k, h => by
    have hl := lnCells_len s m
    rw [lnCells_succ]
    by_cases e : k = m
    · subst e
      rw [List.getElem?_append_right (by omega), List.getElem?_append_right (by omega), hl, show k * 2 - k * 2 = 0 from by omega, show k * 2 + 1 - k * 2 = 1 from by omega]
      exact ⟨rfl, rfl⟩
    · rw [List.getElem?_append_left (by omega), List.getElem?_append_left (by omega)]
      exact lnCells_at s m k (by omega)
/-- The cells of all lines. -/
def allCells (s : ByteArray) : List Value := lnCells s (nl s) ++ [.int .i64 (bh s (nl s) : Nat), .int .i64 (s.size : Nat)]
theorem allCells_at (s : ByteArray) (k : Nat) (h : k ≤ nl s) : (allCells s)[k * 2]? = some (.int .i64 (bh s k : Nat)) ∧ (allCells s)[k * 2 + 1]? = some (.int .i64 (lineEnd s k : Nat)) := by
  have hl := lnCells_len s (nl s)
  unfold allCells lineEnd
  by_cases e : k < nl s
  · rw [if_pos e, List.getElem?_append_left (by omega), List.getElem?_append_left (by omega)]
    exact lnCells_at s _ k e
  · obtain rfl : k = nl s := by omega
    rw [if_neg e, List.getElem?_append_right (by omega), List.getElem?_append_right (by omega), hl, show nl s * 2 - nl s * 2 = 0 from by omega, show nl s * 2 + 1 - nl s * 2 = 1 from by omega]
    exact ⟨rfl, rfl⟩

theorem infoRange : (Tryd.prog.info? 50).map (fun i => (i.zero, i.size, i.bytes)) = some (some (.agg #[.int .i64 0, .int .i64 0]), 2, 16) := by kernel_rfl

theorem own_base {W : World} {N z m : Nat} {v : Value} {xs : List Value} {e : TypeId} {k : Nat} (hr : W.ownsRow N e z v m xs) (hk : v.ownBlock = some k) : N ≤ k := by
  rcases hr.2 with ⟨rfl, _⟩ | ⟨g, cap, cur, rfl, h1, _⟩
  · cases hk
  · obtain rfl : g = k := by simpa [Value.ownBlock] using hk
    exact h1
theorem rel_lines {w0 W w2 : World} {s : ByteArray} {m : Nat} {v v' : Value} {tmp : Obj} (hN : w0.heap.size ≤ W.heap.size) (hu : Up w0 W) (hown' : w2.ownsRow w0.heap.size 50 2 v' (m + 1) (lnCells s m ++ [.int .i64 (bh s m : Nat), .int .i64 (bh s (m + 1) : Nat)]))
    (hr : W.ownsRow w0.heap.size 50 2 v m (lnCells s m)) (hgrow : (W.alloc tmp).grownBy w2 v.ownBlock) : w2.ownsRow w0.heap.size 50 2 v' (m + 1) (lnCells s (m + 1)) ∧ Up w0 w2 := by
  rw [← lnCells_succ] at hown'
  refine ⟨hown', ?_⟩
  refine (hu.trans (Up.alloc W tmp)).grown hgrow (by show w0.heap.size ≤ (W.heap.push tmp).size; simp; omega) fun k hk => ?_
  exact own_base hr hk
theorem rel_all {w0 W w2 : World} {s : ByteArray} {v v' : Value} {tmp : Obj} (hN : w0.heap.size ≤ W.heap.size) (hu : Up w0 W) (hown' : w2.ownsRow w0.heap.size 50 2 v' (na s s.size + 1) (lnCells s (na s s.size) ++ [.int .i64 (bh s (na s s.size) : Nat), .int .i64 (s.size : Nat)]))
    (hr : W.ownsRow w0.heap.size 50 2 v (na s s.size) (lnCells s (na s s.size))) (hgrow : (W.alloc tmp).grownBy w2 v.ownBlock) : w2.ownsRow w0.heap.size 50 2 v' (nl s + 1) (allCells s) ∧ Up w0 w2 := by
  rw [na_all] at hown'
  exact ⟨hown', (hu.trans (Up.alloc W tmp)).grown hgrow (by show w0.heap.size ≤ (W.heap.push tmp).size; simp; omega) fun k hk => own_base hr hk⟩

def LinesPost (s : ByteArray) (w : World) (e : Ending) (w' : World) : Prop := ∃ v, e = .returned v ∧ w'.ownsRow w.heap.size 50 2 v (nl s + 1) (allCells s) ∧ Up w w'
set_option maxRecDepth 100000 in
set_option maxHeartbeats 2000000 in
theorem refLines_any (s : ByteArray) (hs : (s.size : Int) ≤ 1048576) (w : World) : Calls Tryd.prog 46 #[.string s] w (LinesPost s w) := by
  obtain ⟨i0, hi0, hz0, hz1, hz2⟩ := info_parts infoRange
  have HS := Lib.hid hs
  clear hs
  go_enter Tryd.func46, Tryd.ntmps46
  go_wp2
  go_loopg [3, 4, 5] s.size (fun g lv fv iv wr => ∃ (i fr : Nat), g = s.size - i ∧ iv = .int .i64 (i : Nat) ∧ i ≤ s.size ∧ fv = .int .i64 (fr : Nat) ∧ Hid (fr = bh s (na s i)) ∧ Hid (wr.ownsRow w.heap.size 50 2 lv (na s i) (lnCells s (na s i))) ∧ Hid (Up w wr))
  case atStart => exact ⟨0, 0, rfl, rfl, Nat.zero_le _, rfl, Lib.hid (by rw [na_zero, bh_zero]), Lib.hid (by rw [na_zero]; exact World.ownsRow_nil _ _ _ _), Lib.hid (Up.refl _)⟩
  case round =>

    obtain ⟨i, fr, hg, rfl, hi, rfl, hF, hR, hU⟩ := hrel
    have HG := Lib.hid hg
    clear hg
    have hnn := na_le_size s i
    by_cases hlt : i < s.size
    · have hii : (i : Int) < s.size := by omega
      have hi2 : (i : Int) ≤ 1048575 := by have := HS.out; omega
      have hsu := na_succ hlt
      by_cases hx : s[i] = 10
      · rw [if_pos hx] at hsu
        have hx1 : (((s[i].toNat : Nat) : Int) == 10) = true := by rw [hx]; rfl
        have HB := Lib.hid (bh_behind hlt hx)
        have HX := Lib.hid hsu
        have HN := Lib.hid hnn
        clear hsu hx hnn

        go_wp2_with (at_builtin; (refine wpList_append_own _ rfl _ _ 82 rfl w.heap.size 50 i0 (.agg #[.int .i64 0, .int .i64 0]) 2 16 Tryd.underlying82 hi0 hz0 hz1 hz2 rfl (by decide) _ _ _ rfl (hR.out.alloc _) _ 1 1 [.int .i64 (fr : Nat), .int .i64 ((i + 1 : Nat) : Int)] rfl rfl ?c1 ?c2 ?c3 ?c4 ?c5 ?_))
        case c1 =>
          intro j u hj
          match j, hj with
          | 0, hj => simp at hj; subst hj; simp [Addr.add, go_sem]
          | 1, hj => simp at hj; subst hj; simp [Addr.add, go_sem]
        case c2 => intro u hu; simp at hu; rcases hu with rfl | rfl <;> rfl
        case c3 => have := HN.out; have := HS.out; unfold maxLen; omega
        case c4 => have := HN.out; have := HS.out; omega
        case c5 => have := Below.size hU.out; simp; omega
        intro v' w1 hown' hgrow _
        have R := rel_lines (Below.size hU.out) hU.out (by rw [← hF.out, HB.out]; exact hown') hR.out hgrow
        have HR1 := Lib.hid R.1
        have HU1 := Lib.hid R.2
        clear hown' hgrow R
        go_wp2
        go_roundg (s.size - (i + 1))
        case measure => rw [HG.out]; omega
        case rel => exact ⟨i + 1, i + 1, rfl, by go_num, by omega, by go_num, Lib.hid (by rw [HX.out, HB.out]), Lib.hid (by rw [HX.out]; exact HR1.out), HU1⟩
      · rw [if_neg hx] at hsu
        have hx1 : (((s[i].toNat : Nat) : Int) == 10) = false := by
          rw [beq_eq_false_iff_ne]
          intro h
          exact hx (by apply UInt8.toNat.inj; show s[i].toNat = 10; omega)
        have HX := Lib.hid hsu
        clear hsu hx hnn
        go_wp2
        go_roundg (s.size - (i + 1))
        case measure => rw [HG.out]; omega
        case rel => exact ⟨i + 1, fr, rfl, by go_num, by omega, rfl, Lib.hid (by rw [HX.out]; exact hF.out), Lib.hid (by rw [HX.out]; exact hR.out), hU⟩
    · obtain rfl : i = s.size := by omega
      have HN := Lib.hid hnn
      have f0 : decide (s.size < s.size) = false := decide_eq_false (by omega)
      clear hnn hlt hi
      go_wp2_with (at_builtin; (refine wpList_append_own _ rfl _ _ 82 rfl w.heap.size 50 i0 (.agg #[.int .i64 0, .int .i64 0]) 2 16 Tryd.underlying82 hi0 hz0 hz1 hz2 rfl (by decide) _ _ _ rfl (hR.out.alloc _) _ 1 1 [.int .i64 (fr : Nat), .int .i64 (s.size : Nat)] rfl rfl ?c1 ?c2 ?c3 ?c4 ?c5 ?_))
      case c1 =>
        intro j u hj
        match j, hj with
        | 0, hj => simp at hj; subst hj; simp [Addr.add, go_sem]
        | 1, hj => simp at hj; subst hj; simp [Addr.add, go_sem]
      case c2 => intro u hu; simp at hu; rcases hu with rfl | rfl <;> rfl
      case c3 => have := HN.out; have := HS.out; unfold maxLen; omega
      case c4 => have := HN.out; have := HS.out; omega
      case c5 => have := Below.size hU.out; simp; omega
      intro v' w1 hown' hgrow _
      have R := rel_all (Below.size hU.out) hU.out (by rw [← hF.out]; exact hown') hR.out hgrow
      have HR1 := Lib.hid R
      clear hown' hgrow R
      go_wp2
      go_ret
      exact ⟨_, rfl, HR1.out⟩
end Go.Proofs.YtfcpieodgflmnaaDoor

namespace Go.Proofs.YtfcpieodgflmnaaDoor
open Go.RowKit

/-- The document's Lines, as it is met: where the list lies, how long it is, what is at each of its places. -/
def LinesAt (s : ByteArray) (w : World) (e : Ending) (w' : World) : Prop := ∃ g cap, e = .returned (.slice (some ⟨g, 0, none⟩) (nl s + 1) cap) ∧ w.heap.size ≤ g ∧ Up w w' ∧ ∀ k, k ≤ nl s → w'.cell? ⟨g, k * 2, none⟩ = some (.int .i64 (bh s k : Nat)) ∧ w'.cell? ⟨g, k * 2 + 1, none⟩ = some (.int .i64 (lineEnd s k : Nat))
theorem refLines_at (s : ByteArray) (hs : (s.size : Int) ≤ 1048576) (w : World) : Calls Tryd.prog 46 #[.string s] w (LinesAt s w) := by
  refine (refLines_any s hs w).mono ?_
  rintro e w' ⟨v, rfl, hown, hu⟩
  obtain ⟨g, cap, rfl, hb, -⟩ := hown.form (by omega)
  refine ⟨g, cap, rfl, hb, hu, fun k hk => ?_⟩
  obtain ⟨h0, h1⟩ := allCells_at s k hk
  exact ⟨(hown.cellAt _ (by omega)).trans h0, (hown.cellAt _ (by omega)).trans h1⟩

set_option maxRecDepth 100000 in
set_option maxHeartbeats 1000000 in
theorem refLine_out (s : ByteArray) (hs : (s.size : Int) ≤ 1048576) (k : Int) (hk : ¬ (0 ≤ k ∧ k ≤ nl s)) (w : World) :
    Calls Tryd.prog 28 #[.string s, .int .i64 k] w fun e w' => e = .returned (.tuple #[.agg #[.int .i64 0, .int .i64 0], .int .i64 5]) ∧ Up w w' := by
  have HE := Lib.hid (Up.alloc w (.cells #[.int .i64 0, .int .i64 0] 50))
  have HL := Lib.hid (refLines_at s hs (w.alloc (.cells #[.int .i64 0, .int .i64 0] 50)))
  have hnl := nl_le s
  obtain ⟨m, hm⟩ : ∃ m, nl s + 1 = m := ⟨_, rfl⟩
  have hmi : (m : Int) ≤ 1048577 := by omega
  by_cases h0 : k < 0
  · clear hk hs hnl hmi
    go_enter Tryd.func28, Tryd.ntmps28
    go_wp2_with (go_at_call 46; ((with_reducible refine HL.out.mono ?_); rintro e' w1 ⟨g, cap, rfl, hg, hu1, -⟩; have c0 := cell_up hu1 (line_cells w).1; have c1 := cell_up hu1 (line_cells w).2; have z0 := frozen_up hu1 (line_cells w).1 (line_fz w).1; have z1 := frozen_up hu1 (line_cells w).2 (line_fz w).2; have hf := set2 w1 w.heap.size (.int .i64 0) (.int .i64 0) _ _ c0 c1))
    refine bodyPost_ret (v := .tuple #[.agg #[.int .i64 0, .int .i64 0], .int .i64 5]) (by simp [results, Tryd.results28, go_sem, hf]) rfl ⟨rfl, (HE.out.trans hu1).set2 _ _ _ _ _ (Nat.le_refl _)⟩
  · have f0 : decide (k < 0) = false := decide_eq_false h0
    have h1 : (m : Int) ≤ k := by omega
    clear hk hs hnl
    go_enter Tryd.func28, Tryd.ntmps28
    go_wp2_with (go_at_call 46; ((with_reducible refine HL.out.mono ?_); rintro e' w1 ⟨g, cap, rfl, hg, hu1, -⟩; (try rw [hm]); have c0 := cell_up hu1 (line_cells w).1; have c1 := cell_up hu1 (line_cells w).2; have z0 := frozen_up hu1 (line_cells w).1 (line_fz w).1; have z1 := frozen_up hu1 (line_cells w).2 (line_fz w).2; have hf := set2 w1 w.heap.size (.int .i64 0) (.int .i64 0) _ _ c0 c1))
    refine bodyPost_ret (v := .tuple #[.agg #[.int .i64 0, .int .i64 0], .int .i64 5]) (by simp [results, Tryd.results28, go_sem, hf]) rfl ⟨rfl, (HE.out.trans hu1).set2 _ _ _ _ _ (Nat.le_refl _)⟩

set_option maxRecDepth 100000 in
set_option maxHeartbeats 1000000 in
theorem refLine_in (s : ByteArray) (hs : (s.size : Int) ≤ 1048576) (k : Nat) (hk : k ≤ nl s) (w : World) :
    Calls Tryd.prog 28 #[.string s, .int .i64 (k : Nat)] w fun e w' => e = .returned (.tuple #[.agg #[.int .i64 (bh s k : Nat), .int .i64 (lineEnd s k : Nat)], .int .i64 0]) ∧ Up w w' := by
  have HE := Lib.hid (Up.alloc w (.cells #[.int .i64 0, .int .i64 0] 50))
  have HL := Lib.hid (refLines_at s hs (w.alloc (.cells #[.int .i64 0, .int .i64 0] 50)))
  have hnl := nl_le s
  obtain ⟨m, hm⟩ : ∃ m, nl s + 1 = m := ⟨_, rfl⟩
  have hmi : (m : Int) ≤ 1048577 := by omega
  have f0 : decide ((k : Int) < 0) = false := decide_eq_false (by omega)
  have hkm : (k : Int) < m := by omega
  have f1 : decide (m ≤ k) = false := decide_eq_false (by omega)
  have HK := Lib.hid hk
  clear hk hs hnl
  go_enter Tryd.func28, Tryd.ntmps28
  go_wp2_with (go_at_call 46; ((with_reducible refine HL.out.mono ?_); rintro e' w1 ⟨g, cap, rfl, hg, hu1, hcells⟩; obtain ⟨e0, e1⟩ := hcells k HK.out; clear hcells; (try rw [hm]); have c0 := cell_up hu1 (line_cells w).1; have c1 := cell_up hu1 (line_cells w).2; have z0 := frozen_up hu1 (line_cells w).1 (line_fz w).1; have z1 := frozen_up hu1 (line_cells w).2 (line_fz w).2; have hf := set2 w1 w.heap.size (.int .i64 (bh s k : Nat)) (.int .i64 (lineEnd s k : Nat)) _ _ c0 c1))
  refine bodyPost_ret (v := .tuple #[.agg #[.int .i64 (bh s k : Nat), .int .i64 (lineEnd s k : Nat)], .int .i64 0]) (by simp [results, Tryd.results28, go_sem, hf]) rfl ⟨rfl, (HE.out.trans hu1).set2 _ _ _ _ _ (Nat.le_refl _)⟩
theorem refLineT (s : ByteArray) (hs : (s.size : Int) ≤ 1048576) (k : Int) (w : World) : Calls Tryd.prog 28 #[.string s, .int .i64 k] w fun e w' => e = .returned (.tuple #[.agg #[.int .i64 (lnF s k), .int .i64 (lnT s k)], .int .i64 (lnE s k)]) ∧ Up w w' := by
  unfold lnF lnT lnE
  by_cases h : 0 ≤ k ∧ k ≤ nl s
  · obtain ⟨j, rfl⟩ := Int.eq_ofNat_of_zero_le h.1
    rw [if_pos h, if_pos h, if_pos h, Int.toNat_natCast]
    exact refLine_in s hs j (by omega) w
  · rw [if_neg h, if_neg h, if_neg h]
    exact refLine_out s hs k h w
end Go.Proofs.YtfcpieodgflmnaaDoor

namespace Go.Proofs.YtfcpieodgflmnaaDoor
open Go.Joins Go.ChangeShapes Go.WideShapes Go.RowKit Go.Deep

/-- An edit as a value. -/
def edV (a : Int × Int × ByteArray) : Value := .agg #[.int .i64 a.1, .int .i64 a.2.1, .string a.2.2]
def EdOk (a : Int × Int × ByteArray) : Prop := (Lit.int .i64 a.1).wf = true ∧ (Lit.int .i64 a.2.1).wf = true ∧ a.2.2.size ≤ maxLen
section
variable {H : Type} {enc : TypeId × Value → H} {w : World} {base : Nat} {spare : Nat → Bool} {held : Bool}
def edD (H : Type) (a : Int × Int × ByteArray) : DataW H := .agg [.lit (.int .i64 a.1), .lit (.int .i64 a.2.1), .lit (.string a.2.2.data.toList)]
set_option maxRecDepth 100000 in
theorem open_edit {r : Reach} {b0 : Nat} {v : Value} {d : DataW H} {p : List MemPlace} (hv : Value.okWide Tryd.prog w r b0 38 v) (h : DataW.Trod enc Tryd.prog w base spare held 38 v d p) :
    ∃ a : Int × Int × ByteArray, v = edV a ∧ d = edD H a ∧ p = [] ∧ EdOk a := by
  obtain ⟨c0, c1, c2, y0, y1, y2, m, rfl, rfl, rfl, h0, h1, h2⟩ := open_agg3 Tryd.underlying38 (by kernel_rfl) (by kernel_rfl) hv h
  obtain ⟨n0, e0, rfl, g0⟩ := DataW.trod_int Tryd.underlying3 h0
  obtain ⟨n1, e1, rfl, g1⟩ := DataW.trod_int Tryd.underlying3 h1
  obtain ⟨n2, e2, rfl, g2⟩ := DataW.trod_string Tryd.underlying9 h2
  simp only [List.cons.injEq, and_true] at e0 e1 e2
  subst e0 e1 e2
  exact ⟨(n0, n1, n2), rfl, rfl, rfl, g0, g1, g2⟩
set_option maxRecDepth 100000 in
theorem shut_edit {a : Int × Int × ByteArray} (h : EdOk a) : DataW.Trod enc Tryd.prog w base spare held 38 (edV a) (edD H a) [] := by
  have := shut_agg3 (enc := enc) (P := Tryd.prog) (w := w) (base := base) (spare := spare) (held := held) (t := 38) (v0 := .int .i64 a.1) (v1 := .int .i64 a.2.1) (v2 := .string a.2.2)
    (y0 := (.lit (.int .i64 a.1), [])) (y1 := (.lit (.int .i64 a.2.1), [])) (y2 := (.lit (.string a.2.2.data.toList), [])) Tryd.underlying38 (by kernel_rfl) (by kernel_rfl)
    ⟨1, by simp [DataW.trod, Tryd.underlying3, h.1]⟩ ⟨1, by simp [DataW.trod, Tryd.underlying3, h.2.1]⟩ ⟨1, by simp [DataW.trod, Tryd.underlying9, h.2.2]⟩
  exact this
end
end Go.Proofs.YtfcpieodgflmnaaDoor

namespace Go.Proofs.YtfcpieodgflmnaaDoor
open Go.Joins Go.ChangeShapes Go.WideShapes Go.RowKit Go.Deep

section
variable {H : Type} {enc : TypeId × Value → H} {w w' : World} {sp : Nat → Bool}
theorem trodAll_carry (hb : Below w.heap.size w w') : ∀ {ts : List TypeId} {vs : List Value} {ds : List (DataW H)} {ps : List MemPlace},
    DataW.TrodAll enc Tryd.prog w 0 (fun _ => true) true ts vs ds ps → DataW.TrodAll enc Tryd.prog w' 0 (fun _ => true) true ts vs ds ps
  | [], [], [], _, h => h
  | _ :: _, _ :: _, _ :: _, _, ⟨p, q, ⟨n, hn⟩, h2, e⟩ => ⟨p, q, ⟨n, DataW.trod_carry n _ _ _ hn (fun x hx => hb.same (DataW.trod_lt n _ _ _ hn x hx))⟩, trodAll_carry hb h2, e⟩
theorem kids_here : Kids Tryd.prog (· < Tryd.prog.types.size) := kids_rows (by kernel_rfl) (by kernel_rfl)
theorem slices_here : ∀ t e, t < Tryd.prog.types.size → Tryd.prog.underlying t = some (.slice e) → 0 < Tryd.prog.cellsOf e := slices_full_of _ (by kernel_rfl)
theorem args_back (hb : Below w.heap.size w w') {ts : List TypeId} {vs : List Value} {ds : List (DataW H)} {ps : List MemPlace} (hts : (ts.all fun t => decide (t < Tryd.prog.types.size)) = true)
    (h : DataW.TrodAll enc Tryd.prog w 0 (fun _ => true) true ts vs ds ps) (hs : ∀ p ∈ ps, sp p.block = true) : DataW.TrodAll enc Tryd.prog w' 0 sp true ts vs ds ps :=
  DataW.TrodAll.respare kids_here slices_here (fun t ht => of_decide_eq_true (List.all_eq_true.1 hts t ht)) (trodAll_carry hb h) hs
end

/-- A list of edits, as memory holds it. -/
def Edits (w : World) (A : Option Addr) (n : Nat) (E : Nat → Int × Int × ByteArray) : Prop :=
  ∀ i, i < n → EdOk (E i) ∧ ∃ b o, A = some ⟨b, o, none⟩ ∧ b < w.heap.size ∧ w.cell? ⟨b, o + i * 3, none⟩ = some (.int .i64 (E i).1) ∧ w.cell? ⟨b, o + i * 3 + 1, none⟩ = some (.int .i64 (E i).2.1) ∧ w.cell? ⟨b, o + i * 3 + 2, none⟩ = some (.string (E i).2.2)
theorem block_add (a : Addr) (n : Nat) : (a.add n).block = a.block := by unfold Addr.add; split <;> rfl
theorem spot_cell {w : World} {a : Addr} {v : Value} (h : w.cell? a = some v) : a.spot = none := by
  unfold World.cell? at h
  split at h
  · cases hs : a.spot with
    | none => rfl
    | some k => rw [hs] at h; cases h
  · cases h
theorem add_flat {a : Addr} (h : a.spot = none) (k : Nat) : a.add k = ⟨a.block, a.off + k, none⟩ := by
  obtain ⟨b, o, sp⟩ := a
  obtain rfl : sp = none := h
  unfold Addr.add
  split
  · rename_i h0; subst h0; rfl
  · rfl
theorem Edits.up {w w' : World} {A : Option Addr} {n : Nat} {E : Nat → Int × Int × ByteArray} (h : Edits w A n E) (hu : Up w w') : Edits w' A n E := by
  intro i hi
  obtain ⟨h1, b, o, h2, h3, h4, h5, h6⟩ := h i hi
  have hc : ∀ k, w'.cell? ⟨b, k, none⟩ = w.cell? ⟨b, k, none⟩ := fun k => Below.cell hu h3
  exact ⟨h1, b, o, h2, Nat.lt_of_lt_of_le h3 (Below.size hu), (hc _).trans h4, (hc _).trans h5, (hc _).trans h6⟩

section
variable {H : Type} {enc : TypeId × Value → H} {w : World} {base : Nat} {spare : Nat → Bool} {held : Bool}
set_option maxRecDepth 100000 in
theorem edit_at {n : Nat} {cs : List Value} {x : DataW H × List MemPlace} (h : DataW.trod enc Tryd.prog w base spare held n 38 cs = some x) :
    ∃ a : Int × Int × ByteArray, cs = [.int .i64 a.1, .int .i64 a.2.1, .string a.2.2] ∧ EdOk a := by
  obtain ⟨y0, y1, y2, m, rfl, hl, h0, h1, h2⟩ := trod_struct3 Tryd.underlying38 h
  have hl3 : cs.length = 3 := hl.trans (by kernel_rfl)
  match cs, hl3 with
  | [c0, c1, c2], _ =>
    have k0 : DataW.trod enc Tryd.prog w base spare held m 3 [c0] = some y0 := h0
    have k1 : DataW.trod enc Tryd.prog w base spare held m 3 [c1] = some y1 := h1
    have k2 : DataW.trod enc Tryd.prog w base spare held m 9 [c2] = some y2 := h2
    obtain ⟨n0, e0, -, g0⟩ := DataW.trod_int Tryd.underlying3 k0
    obtain ⟨n1, e1, -, g1⟩ := DataW.trod_int Tryd.underlying3 k1
    obtain ⟨n2, e2, -, g2⟩ := DataW.trod_string Tryd.underlying9 k2
    simp only [List.cons.injEq, and_true] at e0 e1 e2
    subst e0 e1 e2
    exact ⟨(n0, n1, n2), rfl, g0, g1, g2⟩
set_option maxRecDepth 100000 in
theorem open_edits {r : Reach} {b0 : Nat} {w2 : World} {v : Value} {d : DataW H} {p : List MemPlace} (hv : Value.okWide Tryd.prog w2 r b0 36 v) (h : DataW.Trod enc Tryd.prog w 0 (fun _ => true) true 36 v d p) :
    ∃ (A : Option Addr) (n c : Nat) (E : Nat → Int × Int × ByteArray), v = .slice A n c ∧ Edits w A n E ∧ n ≤ maxLen := by
  obtain ⟨A, len0, cap0, rfl⟩ := okWide_slice Tryd.underlying36 hv
  obtain ⟨fuel, hf⟩ := h
  have hce : Tryd.prog.cellsOf 38 = 3 := by kernel_rfl
  rcases open_slice Tryd.underlying36 hf with ⟨hcs, -⟩ | ⟨a, len, cap, m, n, D, Pl, hcs, hb, hl, hm, hmm, -, hx⟩
  · have hcs' : [Value.slice A len0 cap0] = [Value.slice none 0 0] := hcs
    simp only [List.cons.injEq, Value.slice.injEq, and_true] at hcs'
    obtain ⟨rfl, rfl, rfl⟩ := hcs'
    exact ⟨none, 0, 0, fun _ => (0, 0, ⟨#[]⟩), rfl, fun i hi => absurd hi (Nat.not_lt_zero _), Nat.zero_le _⟩
  · have hcs' : [Value.slice A len0 cap0] = [Value.slice (some a) len cap] := hcs
    simp only [List.cons.injEq, Value.slice.injEq, and_true] at hcs'
    obtain ⟨rfl, rfl, rfl⟩ := hcs'
    rw [hce] at hx
    have hmm' : m = cap0 := hmm
    have key : ∀ i, i < len0 → ∃ e : Int × Int × ByteArray, EdOk e ∧ a.block < w.heap.size ∧ w.cell? (a.add (i * 3)) = some (.int .i64 e.1) ∧ w.cell? (a.add (i * 3 + 1)) = some (.int .i64 e.2.1) ∧ w.cell? (a.add (i * 3 + 2)) = some (.string e.2.2) := by
      intro i hi
      obtain ⟨cs', hc, ht⟩ := hx i (by omega)
      obtain ⟨e, rfl, hok⟩ := edit_at ht
      have hblk := World.cells?_block hc (by omega)
      obtain ⟨_, _, hat⟩ := World.cells?_some hc
      rw [block_add] at hblk
      refine ⟨e, hok, hblk, ?_, ?_, ?_⟩
      · have := hat 0 (by omega); rw [Go.Deep.add_add] at this; exact this
      · have := hat 1 (by omega); rw [Go.Deep.add_add] at this; exact this
      · have := hat 2 (by omega); rw [Go.Deep.add_add] at this; exact this
    obtain ⟨E, hE⟩ : ∃ E : Nat → Int × Int × ByteArray, ∀ i, i < len0 → EdOk (E i) ∧ a.block < w.heap.size ∧ w.cell? (a.add (i * 3)) = some (.int .i64 (E i).1) ∧ w.cell? (a.add (i * 3 + 1)) = some (.int .i64 (E i).2.1) ∧ w.cell? (a.add (i * 3 + 2)) = some (.string (E i).2.2) :=
      ⟨fun i => if h : i < len0 then (key i h).choose else (0, 0, ⟨#[]⟩), fun i hi => by simp only [dif_pos hi]; exact (key i hi).choose_spec⟩
    refine ⟨some a, len0, cap0, E, rfl, fun i hi => ?_, Nat.le_trans hl hm⟩
    obtain ⟨_, _, g0, _, _⟩ := hE 0 (by omega)
    have hs : a.spot = none := spot_cell (a := a) g0
    obtain ⟨h1, h2, h3, h4, h5⟩ := hE i hi
    rw [add_flat hs] at h3 h4 h5
    refine ⟨h1, a.block, a.off, ?_, h2, h3, h4, h5⟩
    obtain ⟨b, o, sp⟩ := a
    obtain rfl : sp = none := hs
    rfl
end
end Go.Proofs.YtfcpieodgflmnaaDoor
