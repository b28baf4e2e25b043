/- How trees are paired, levelled and joined, in plain words: texts, depths, and that they stay in form. -/
import Derived.Test.YtcbmigkdmmmahaaDoorTree
namespace Go.Proofs.YtcbmigkdmmmahaaDoor

theorem T.text_node (l r : T) : (T.node l r).text = l.text ++ r.text := rfl
theorem T.dp_node (l r : T) : (T.node l r).dp = 1 + max l.dp r.dp := rfl
theorem big_node {l r : T} (hl : Big l) (hr : Big r) (h1 : l.dp ≤ r.dp + 1) (h2 : r.dp ≤ l.dp + 1) : Big (.node l r) := ⟨hl, hr, h1, h2⟩

/-- What level makes of two whose depths differ by two at most. -/
def lev (a b : T) : T :=
    if b.dp + 1 < a.dp then
      match a with
      | .node al ar => if al.dp < ar.dp then (match ar with | .node arl arr => .node (.node al arl) (.node arr b) | .leaf s => .node al (.node (.leaf s) b)) else .node al (.node ar b)
      | .leaf s => .node (.leaf s) b
    else if a.dp + 1 < b.dp then
      match b with
      | .node bl br => if br.dp < bl.dp then (match bl with | .node bll blr => .node (.node a bll) (.node blr br) | .leaf s => .node (.node a (.leaf s)) br) else .node (.node a bl) br
      | .leaf s => .node a (.leaf s)
    else .node a b

theorem lev_left {al ar b : T} (h : b.dp + 1 < (T.node al ar).dp) (h2 : ¬ al.dp < ar.dp) : lev (.node al ar) b = .node al (.node ar b) := by
  unfold lev; rw [if_pos h]; simp only; rw [if_neg h2]
theorem lev_left2 {al arl arr b : T} (h : b.dp + 1 < (T.node al (.node arl arr)).dp) (h2 : al.dp < (T.node arl arr).dp) : lev (.node al (.node arl arr)) b = .node (.node al arl) (.node arr b) := by
  unfold lev; rw [if_pos h]; simp only; rw [if_pos h2]
theorem lev_right {a bl br : T} (h0 : ¬ (T.node bl br).dp + 1 < a.dp) (h : a.dp + 1 < (T.node bl br).dp) (h2 : ¬ br.dp < bl.dp) : lev a (.node bl br) = .node (.node a bl) br := by
  unfold lev; rw [if_neg h0, if_pos h]; simp only; rw [if_neg h2]
theorem lev_right2 {a bll blr br : T} (h0 : ¬ (T.node (.node bll blr) br).dp + 1 < a.dp) (h : a.dp + 1 < (T.node (.node bll blr) br).dp) (h2 : br.dp < (T.node bll blr).dp) : lev a (.node (.node bll blr) br) = .node (.node a bll) (.node blr br) := by
  unfold lev; rw [if_neg h0, if_pos h]; simp only; rw [if_pos h2]
theorem lev_mid {a b : T} (h0 : ¬ b.dp + 1 < a.dp) (h : ¬ a.dp + 1 < b.dp) : lev a b = .node a b := by
  unfold lev; rw [if_neg h0, if_neg h]

/-- A tree whose depth is above another's is no leaf. -/
theorem not_leaf {t : T} (h : 1 < t.dp) : ∃ l r, t = .node l r := by
  cases t with
  | leaf s => simp [T.dp] at h
  | node l r => exact ⟨l, r, rfl⟩

theorem lev_spec {a b : T} (ha : Big a) (hb : Big b) (h1 : a.dp ≤ b.dp + 2) (h2 : b.dp ≤ a.dp + 2) :
    Big (lev a b) ∧ (lev a b).text = a.text ++ b.text ∧ (max a.dp b.dp ≤ (lev a b).dp ∧ (lev a b).dp ≤ max a.dp b.dp + 1) ∧ (a.dp ≤ b.dp + 1 → b.dp ≤ a.dp + 1 → (lev a b).dp = max a.dp b.dp + 1) := by
  have pa := a.dp_pos
  have pb := b.dp_pos
  by_cases c1 : b.dp + 1 < a.dp
  · obtain ⟨al, ar, rfl⟩ := not_leaf (t := a) (by omega)
    obtain ⟨hal, har, d1, d2⟩ := ha
    have pal := al.dp_pos
    by_cases c2 : al.dp < ar.dp
    · obtain ⟨arl, arr, rfl⟩ := not_leaf (t := ar) (by omega)
      obtain ⟨harl, harr, d3, d4⟩ := har
      rw [lev_left2 c1 c2]
      simp only [T.dp_node] at *
      refine ⟨big_node (big_node hal harl (by omega) (by omega)) (big_node harr hb (by omega) (by omega)) (by simp only [T.dp_node]; omega) (by simp only [T.dp_node]; omega), ?_, by omega, by omega⟩
      simp only [T.text_node, ByteArray.append_assoc]
    · rw [lev_left c1 c2]
      simp only [T.dp_node] at *
      refine ⟨big_node hal (big_node har hb (by omega) (by omega)) (by simp only [T.dp_node]; omega) (by simp only [T.dp_node]; omega), ?_, by omega, by omega⟩
      simp only [T.text_node, ByteArray.append_assoc]
  · by_cases c3 : a.dp + 1 < b.dp
    · obtain ⟨bl, br, rfl⟩ := not_leaf (t := b) (by omega)
      obtain ⟨hbl, hbr, d1, d2⟩ := hb
      have pbr := br.dp_pos
      by_cases c2 : br.dp < bl.dp
      · obtain ⟨bll, blr, rfl⟩ := not_leaf (t := bl) (by omega)
        obtain ⟨hbll, hblr, d3, d4⟩ := hbl
        rw [lev_right2 c1 c3 c2]
        simp only [T.dp_node] at *
        refine ⟨big_node (big_node ha hbll (by omega) (by omega)) (big_node hblr hbr (by omega) (by omega)) (by simp only [T.dp_node]; omega) (by simp only [T.dp_node]; omega), ?_, by omega, by omega⟩
        simp only [T.text_node, ByteArray.append_assoc]
      · rw [lev_right c1 c3 c2]
        simp only [T.dp_node] at *
        refine ⟨big_node (big_node ha hbl (by omega) (by omega)) hbr (by simp only [T.dp_node]; omega) (by simp only [T.dp_node]; omega), ?_, by omega, by omega⟩
        simp only [T.text_node, ByteArray.append_assoc]
    · rw [lev_mid c1 c3]
      simp only [T.dp_node]
      exact ⟨big_node ha hb (by omega) (by omega), T.text_node _ _, by omega, fun _ _ => by omega⟩

/-- How many leaves a tree of a depth has at least. -/
theorem leaves_dp {t : T} (h : Big t) : 256 * 2 ^ (t.dp / 2) ≤ t.text.size := by
  suffices H : ∀ n t, t.dp = n → Big t → 256 * 2 ^ (n / 2) ≤ t.text.size from H _ t rfl h
  intro n
  induction n using Nat.strongRecOn with
  | ind n ih =>
    intro t hn hb
    cases t with
    | leaf s =>
      subst hn
      have := hb.1
      simpa [T.dp, T.text] using this
    | node l r =>
      obtain ⟨hl, hr, d1, d2⟩ := hb
      have pl := l.dp_pos
      have pr := r.dp_pos
      rw [T.dp_node] at hn
      have e1 := ih l.dp (by omega) l rfl hl
      have e2 := ih r.dp (by omega) r rfl hr
      rw [T.text_node, ByteArray.size_append]
      have m1 : 2 ^ ((n - 2) / 2) ≤ 2 ^ (l.dp / 2) := Nat.pow_le_pow_right (by omega) (by omega)
      have m2 : 2 ^ ((n - 2) / 2) ≤ 2 ^ (r.dp / 2) := Nat.pow_le_pow_right (by omega) (by omega)
      have m3 : 2 ^ (n / 2) = 2 * 2 ^ ((n - 2) / 2) := by rw [show n / 2 = (n - 2) / 2 + 1 from by omega, Nat.pow_succ]; omega
      omega
end Go.Proofs.YtcbmigkdmmmahaaDoor
