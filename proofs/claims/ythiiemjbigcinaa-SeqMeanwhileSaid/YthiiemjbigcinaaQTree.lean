/- Trees of a row, in plain mathematics: how they are tied, levelled, joined and grown. -/
import Derived.Test.YthiiemjbigcinaaQMath2
namespace Go.Proofs.Ythiiemjbigcinaa

inductive QT where
  | nil
  | node (l : QT) (x : ByteArray × Int) (r : QT)
def QT.row : QT → Row
  | .nil => []
  | .node l x r => l.row ++ x :: r.row
def QT.dp : QT → Nat
  | .nil => 0
  | .node l _ r => 1 + max l.dp r.dp
def QT.cn (t : QT) : Nat := t.row.length
def QT.sm (t : QT) : Int := szs t.row
/-- Depths differ by one at most. -/
def Av : QT → Prop
  | .nil => True
  | .node l _ r => Av l ∧ Av r ∧ l.dp ≤ r.dp + 1 ∧ r.dp ≤ l.dp + 1
theorem dp_node (l : QT) (x : ByteArray × Int) (r : QT) : (QT.node l x r).dp = 1 + max l.dp r.dp := rfl
theorem row_node (l : QT) (x : ByteArray × Int) (r : QT) : (QT.node l x r).row = l.row ++ x :: r.row := rfl
theorem cn_node (l : QT) (x : ByteArray × Int) (r : QT) : (QT.node l x r).cn = l.cn + 1 + r.cn := by
  unfold QT.cn
  rw [row_node, List.length_append, List.length_cons]
  omega
theorem szs_cons (x : ByteArray × Int) (R : Row) : szs (x :: R) = x.2 + szs R := rfl
theorem sm_node (l : QT) (x : ByteArray × Int) (r : QT) : (QT.node l x r).sm = l.sm + x.2 + r.sm := by
  unfold QT.sm
  rw [row_node, szs_append, szs_cons]
  omega
theorem cn_nil : QT.nil.cn = 0 := rfl
theorem sm_nil : QT.nil.sm = 0 := rfl
theorem dp_cn : ∀ t : QT, t.dp ≤ t.cn
  | .nil => Nat.le_refl _
  | .node l x r => by
    have h1 := dp_cn l
    have h2 := dp_cn r
    rw [dp_node, cn_node]
    omega
theorem av_node {l r : QT} {x : ByteArray × Int} (hl : Av l) (hr : Av r) (h1 : l.dp ≤ r.dp + 1) (h2 : r.dp ≤ l.dp + 1) : Av (.node l x r) := ⟨hl, hr, h1, h2⟩
theorem not_nil {t : QT} (h : 0 < t.dp) : ∃ l x r, t = .node l x r := by
  cases t with
  | nil => exact absurd h (Nat.lt_irrefl _)
  | node l x r => exact ⟨l, x, r, rfl⟩
/-- What holds of the parts of a row. -/
theorem ROk.left {A B : Row} (h : ROk (A ++ B)) : ROk A := by
  have := ROk.part (A := A) (B := B) (C := []) (by simpa using h)
  simpa using this
theorem ROk.right {A B : Row} (h : ROk (A ++ B)) : ROk B := by
  have := ROk.part (A := []) (B := A) (C := B) (by simpa using h)
  simpa using this
theorem ROk.cons {x : ByteArray × Int} {A : Row} (h : ROk (x :: A)) : ROk A := ROk.right (A := [x]) h
/-- The numbers of a row. -/
structure Nms (c : Nat) (s : Int) : Prop where
  c : (c : Int) ≤ 2097152
  s0 : 0 ≤ s
  s : s ≤ 1099511627776
theorem ROk.nms {R : Row} (h : ROk R) : Nms R.length (szs R) := ⟨by have := h.len; omega, szs_nn fun x hx => (h.one x hx).1, by rw [← tot_szs]; exact h.all⟩
theorem ROk.nmt {t : QT} (h : ROk t.row) : Nms t.cn t.sm := h.nms
/-- What level makes of two whose depths differ by two at most, with an item between. -/
def qlev (a : QT) (x : ByteArray × Int) (b : QT) : QT :=
  if b.dp + 1 < a.dp then
    match a with
    | .node al ax ar => if al.dp < ar.dp then (match ar with | .node arl arx arr => .node (.node al ax arl) arx (.node arr x b) | .nil => .nil) else .node al ax (.node ar x b)
    | .nil => .nil
  else if a.dp + 1 < b.dp then
    match b with
    | .node bl bx br => if br.dp < bl.dp then (match bl with | .node bll blx blr => .node (.node a x bll) blx (.node blr bx br) | .nil => .nil) else .node (.node a x bl) bx br
    | .nil => .nil
  else .node a x b
section
variable {al ar a b bl br arl arr bll blr : QT} {x ax bx arx blx : ByteArray × Int}
theorem lev_left (h : b.dp + 1 < (QT.node al ax ar).dp) (h2 : ¬ al.dp < ar.dp) : qlev (.node al ax ar) x b = .node al ax (.node ar x b) := by
  unfold qlev; rw [if_pos h]; simp only; rw [if_neg h2]
theorem lev_left2 (h : b.dp + 1 < (QT.node al ax (.node arl arx arr)).dp) (h2 : al.dp < (QT.node arl arx arr).dp) : qlev (.node al ax (.node arl arx arr)) x b = .node (.node al ax arl) arx (.node arr x b) := by
  unfold qlev; rw [if_pos h]; simp only; rw [if_pos h2]
theorem lev_right (h0 : ¬ (QT.node bl bx br).dp + 1 < a.dp) (h : a.dp + 1 < (QT.node bl bx br).dp) (h2 : ¬ br.dp < bl.dp) : qlev a x (.node bl bx br) = .node (.node a x bl) bx br := by
  unfold qlev; rw [if_neg h0, if_pos h]; simp only; rw [if_neg h2]
theorem lev_right2 (h0 : ¬ (QT.node (.node bll blx blr) bx br).dp + 1 < a.dp) (h : a.dp + 1 < (QT.node (.node bll blx blr) bx br).dp) (h2 : br.dp < (QT.node bll blx blr).dp) : qlev a x (.node (.node bll blx blr) bx br) = .node (.node a x bll) blx (.node blr bx br) := by
  unfold qlev; rw [if_neg h0, if_pos h]; simp only; rw [if_pos h2]
theorem lev_mid (h0 : ¬ b.dp + 1 < a.dp) (h : ¬ a.dp + 1 < b.dp) : qlev a x b = .node a x b := by
  unfold qlev; rw [if_neg h0, if_neg h]
end
theorem lev_spec {a b : QT} (x : ByteArray × Int) (ha : Av a) (hb : Av b) (h1 : a.dp ≤ b.dp + 2) (h2 : b.dp ≤ a.dp + 2) :
    Av (qlev a x b) ∧ (qlev a x b).row = a.row ++ x :: b.row ∧ (max a.dp b.dp ≤ (qlev a x b).dp ∧ (qlev a x b).dp ≤ max a.dp b.dp + 1) ∧ (a.dp ≤ b.dp + 1 → b.dp ≤ a.dp + 1 → (qlev a x b).dp = max a.dp b.dp + 1) := by
  by_cases c1 : b.dp + 1 < a.dp
  · obtain ⟨al, ax, ar, rfl⟩ := not_nil (t := a) (by omega)
    obtain ⟨hal, har, d1, d2⟩ := ha
    by_cases c2 : al.dp < ar.dp
    · obtain ⟨arl, arx, arr, rfl⟩ := not_nil (t := ar) (by omega)
      obtain ⟨harl, harr, d3, d4⟩ := har
      rw [lev_left2 c1 c2]
      simp only [dp_node] at *
      refine ⟨av_node (av_node hal harl (by omega) (by omega)) (av_node harr hb (by omega) (by omega)) (by simp only [dp_node]; omega) (by simp only [dp_node]; omega), ?_, by omega, by omega⟩
      simp [row_node]
    · rw [lev_left c1 c2]
      simp only [dp_node] at *
      refine ⟨av_node hal (av_node har hb (by omega) (by omega)) (by simp only [dp_node]; omega) (by simp only [dp_node]; omega), ?_, by omega, by omega⟩
      simp [row_node]
  · by_cases c3 : a.dp + 1 < b.dp
    · obtain ⟨bl, bx, br, rfl⟩ := not_nil (t := b) (by omega)
      obtain ⟨hbl, hbr, d1, d2⟩ := hb
      by_cases c2 : br.dp < bl.dp
      · obtain ⟨bll, blx, blr, rfl⟩ := not_nil (t := bl) (by omega)
        obtain ⟨hbll, hblr, d3, d4⟩ := hbl
        rw [lev_right2 c1 c3 c2]
        simp only [dp_node] at *
        refine ⟨av_node (av_node ha hbll (by omega) (by omega)) (av_node hblr hbr (by omega) (by omega)) (by simp only [dp_node]; omega) (by simp only [dp_node]; omega), ?_, by omega, by omega⟩
        simp [row_node]
      · rw [lev_right c1 c3 c2]
        simp only [dp_node] at *
        refine ⟨av_node (av_node ha hbl (by omega) (by omega)) hbr (by simp only [dp_node]; omega) (by simp only [dp_node]; omega), ?_, by omega, by omega⟩
        simp [row_node]
    · rw [lev_mid c1 c3]
      simp only [dp_node]
      exact ⟨av_node ha hb (by omega) (by omega), row_node _ _ _, by omega, fun _ _ => by omega⟩
/-- What join makes of two, with an item between. -/
structure JSpec (a : QT) (x : ByteArray × Int) (b t : QT) : Prop where
  av : Av t
  row : t.row = a.row ++ x :: b.row
  lo : max a.dp b.dp ≤ t.dp
  hi : t.dp ≤ max a.dp b.dp + 1
theorem jspec_l {al ar b t : QT} {ax x : ByteArray × Int} (ha : Av (.node al ax ar)) (hj : JSpec ar x b t) (hc : b.dp + 1 < (QT.node al ax ar).dp) :
    (Av al ∧ Av t ∧ al.dp ≤ t.dp + 2 ∧ t.dp ≤ al.dp + 2) ∧ JSpec (.node al ax ar) x b (qlev al ax t) := by
  obtain ⟨hal, har, d1, d2⟩ := ha
  obtain ⟨j1, j2, j3, j4⟩ := hj
  rw [dp_node] at hc
  have k1 : al.dp ≤ t.dp + 2 := by omega
  have k2 : t.dp ≤ al.dp + 2 := by omega
  obtain ⟨l1, l2, ⟨l3, l4⟩, l5⟩ := lev_spec ax hal j1 k1 k2
  have l6 : max (QT.node al ax ar).dp b.dp ≤ (qlev al ax t).dp ∧ (qlev al ax t).dp ≤ max (QT.node al ax ar).dp b.dp + 1 := by
    rw [dp_node]
    by_cases hd : al.dp ≤ t.dp + 1 ∧ t.dp ≤ al.dp + 1
    · have := l5 hd.1 hd.2; omega
    · omega
  exact ⟨⟨hal, j1, k1, k2⟩, l1, by rw [l2, j2, row_node, List.append_assoc, List.cons_append], l6.1, l6.2⟩
theorem jspec_r {a bl br t : QT} {x bx : ByteArray × Int} (hb : Av (.node bl bx br)) (hj : JSpec a x bl t) (hc : a.dp + 1 < (QT.node bl bx br).dp) :
    (Av t ∧ Av br ∧ t.dp ≤ br.dp + 2 ∧ br.dp ≤ t.dp + 2) ∧ JSpec a x (.node bl bx br) (qlev t bx br) := by
  obtain ⟨hbl, hbr, d1, d2⟩ := hb
  obtain ⟨j1, j2, j3, j4⟩ := hj
  rw [dp_node] at hc
  have k1 : t.dp ≤ br.dp + 2 := by omega
  have k2 : br.dp ≤ t.dp + 2 := by omega
  obtain ⟨l1, l2, ⟨l3, l4⟩, l5⟩ := lev_spec bx j1 hbr k1 k2
  have l6 : max a.dp (QT.node bl bx br).dp ≤ (qlev t bx br).dp ∧ (qlev t bx br).dp ≤ max a.dp (QT.node bl bx br).dp + 1 := by
    rw [dp_node]
    by_cases hd : t.dp ≤ br.dp + 1 ∧ br.dp ≤ t.dp + 1
    · have := l5 hd.1 hd.2; omega
    · omega
  exact ⟨⟨j1, hbr, k1, k2⟩, l1, by rw [l2, j2, row_node]; simp, l6.1, l6.2⟩
theorem jspec_m {a b : QT} {x : ByteArray × Int} (ha : Av a) (hb : Av b) (h1 : a.dp ≤ b.dp + 1) (h2 : b.dp ≤ a.dp + 1) : JSpec a x b (.node a x b) :=
  ⟨av_node ha hb h1 h2, rfl, by rw [dp_node]; omega, by rw [dp_node]; omega⟩
/-- How deep a tree of so many is that grew at one time. -/
def dg : Nat → Nat
  | 0 => 0
  | n + 1 => 1 + dg ((n + 1) / 2)
decreasing_by omega
theorem dg_pos {n : Nat} (h : 0 < n) : dg n = 1 + dg (n / 2) := by
  cases n with
  | zero => exact absurd h (Nat.lt_irrefl _)
  | succ n => rw [dg]
theorem dg_zero : dg 0 = 0 := by rw [dg]
theorem dg_step : ∀ n, dg n ≤ dg (n + 1) ∧ dg (n + 1) ≤ dg n + 1 := by
  intro n
  induction n using Nat.strongRecOn with
  | ind n ih =>
    rw [dg_pos (n := n + 1) (by omega)]
    rcases Nat.eq_zero_or_pos n with rfl | h
    · rw [dg_zero]; omega
    · rw [dg_pos h]
      by_cases h2 : (n + 1) / 2 = n / 2
      · rw [h2]; omega
      · rw [show (n + 1) / 2 = n / 2 + 1 from by omega]
        have := ih (n / 2) (by omega)
        omega
theorem dg_grow {n : Nat} (h : 0 < n) : dg (n / 2) ≤ dg (n - n / 2 - 1) + 1 ∧ dg (n - n / 2 - 1) ≤ dg (n / 2) ∧ 1 + max (dg (n / 2)) (dg (n - n / 2 - 1)) = dg n := by
  rw [dg_pos h]
  by_cases h2 : n - n / 2 - 1 = n / 2
  · rw [h2]; omega
  · have h3 : n / 2 = (n - n / 2 - 1) + 1 := by omega
    have := dg_step (n - n / 2 - 1)
    rw [← h3] at this
    omega
end Go.Proofs.Ythiiemjbigcinaa
