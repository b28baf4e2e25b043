/- A text in quotes, with its prefix, is one leaf; in plain mathematics. -/
import Derived.Test.YtogbgllmmdgaaaaDoorYEnds
namespace Go.Proofs.YtogbgllmmdgaaaaDoor

def q0N (m : Nat) : Nat := if m = 1 ∨ m = 3 then 39 else 34
theorem two_not {c : Nat} (h : c ≠ 92) (l : List Nat) : [c, c].isPrefixOf (escL c l ++ [c]) = false := by
  have hh := esc_head c h l
  cases he : escL c l with
  | nil => simp [List.isPrefixOf]
  | cons e r =>
    rw [he] at hh
    have hne : (c == e) = false := by
      rw [beq_eq_false_iff_ne]
      intro k
      exact hh (by simp [k])
    simp [List.isPrefixOf, hne]
def pfx : List (List Nat) := [[], [114], [66], [114, 98], [70, 114], [117]]
theorem begL_1 (X : List Nat) {p : List Nat} (hp : p ∈ pfx) : begL (p ++ ([39, 39, 39] ++ X)) = (1, p.length + 3) := by
  simp only [pfx, List.mem_cons, List.not_mem_nil, or_false] at hp
  rcases hp with rfl | rfl | rfl | rfl | rfl | rfl <;> simp [begL, begF, pres, begP, begM, quo, List.isPrefixOf, lowN]
theorem begL_2 (X : List Nat) {p : List Nat} (hp : p ∈ pfx) : begL (p ++ ([34, 34, 34] ++ X)) = (2, p.length + 3) := by
  simp only [pfx, List.mem_cons, List.not_mem_nil, or_false] at hp
  rcases hp with rfl | rfl | rfl | rfl | rfl | rfl <;> simp [begL, begF, pres, begP, begM, quo, List.isPrefixOf, lowN]
theorem begL_3 (X : List Nat) (hX : [39, 39].isPrefixOf X = false) {p : List Nat} (hp : p ∈ pfx) : begL (p ++ ([39] ++ X)) = (3, p.length + 1) := by
  simp only [pfx, List.mem_cons, List.not_mem_nil, or_false] at hp
  rcases hp with rfl | rfl | rfl | rfl | rfl | rfl <;> simp [begL, begF, pres, begP, begM, quo, List.isPrefixOf, lowN, hX]
theorem begL_4 (X : List Nat) (hX : [34, 34].isPrefixOf X = false) {p : List Nat} (hp : p ∈ pfx) : begL (p ++ ([34] ++ X)) = (4, p.length + 1) := by
  simp only [pfx, List.mem_cons, List.not_mem_nil, or_false] at hp
  rcases hp with rfl | rfl | rfl | rfl | rfl | rfl <;> simp [begL, begF, pres, begP, begM, quo, List.isPrefixOf, lowN, hX]
theorem begL_txt {m : Nat} (h1 : 1 ≤ m) (h4 : m ≤ 4) (l : List Nat) {p : List Nat} (hp : p ∈ pfx) : begL (p ++ (quo m ++ (escL (q0N m) l ++ quo m))) = (m, p.length + (quo m).length) := by
  have : m = 1 ∨ m = 2 ∨ m = 3 ∨ m = 4 := by omega
  rcases this with rfl | rfl | rfl | rfl
  · exact begL_1 _ hp
  · exact begL_2 _ hp
  · exact begL_3 _ (two_not (by decide) l) hp
  · exact begL_4 _ (two_not (by decide) l) hp
/-- The line of P11.3, without its LF. -/
def txtL (p : List Nat) (m : Nat) (l : List Nat) : List Nat := p ++ (quo m ++ (escL (q0N m) l ++ quo m))
theorem txt_head {m : Nat} (h1 : 1 ≤ m) (h4 : m ≤ 4) (l : List Nat) {p : List Nat} (hp : p ∈ pfx) : ∃ c r, txtL p m l = c :: r ∧ isBl c = false ∧ c ≠ 35 ∧ c ≠ 92 := by
  have : m = 1 ∨ m = 2 ∨ m = 3 ∨ m = 4 := by omega
  simp only [pfx, List.mem_cons, List.not_mem_nil, or_false] at hp
  rcases hp with rfl | rfl | rfl | rfl | rfl | rfl <;> rcases this with rfl | rfl | rfl | rfl <;> exact ⟨_, _, rfl, by decide, by decide, by decide⟩
theorem tokL_txt {m : Nat} (h1 : 1 ≤ m) (h4 : m ≤ 4) (l : List Nat) {p : List Nat} (hp : p ∈ pfx) (d : Int) : tokL 0 d (txtL p m l) = some ⟨15, (txtL p m l).length, 0, d, false⟩ := by
  obtain ⟨c, r, he, hb, h35, h92⟩ := txt_head h1 h4 l hp
  have hbeg : begL (c :: r) = (m, p.length + (quo m).length) := by rw [← he]; exact begL_txt h1 h4 l hp
  have hq : ∃ qr, quo m = q0N m :: qr ∧ q0N m ≠ 92 := by
    have : m = 1 ∨ m = 2 ∨ m = 3 ∨ m = 4 := by omega
    rcases this with rfl | rfl | rfl | rfl <;> exact ⟨_, rfl, by decide⟩
  obtain ⟨qr, hq1, hq2⟩ := hq
  have hd : (c :: r).drop (p.length + (quo m).length) = escL (q0N m) l ++ quo m := by
    rw [← he]
    unfold txtL
    rw [← List.drop_drop, List.drop_left, List.drop_left]
  have hc := clo_txt (quo m) (q0N m) qr hq1 hq2 l
  rw [he, tokL]
  have ht : isTxt 0 c (c :: r) = true := by
    unfold isTxt
    rw [hbeg]
    simp [hb, h35, h92]
    omega
  rw [if_pos ht]
  unfold textL
  simp only [if_true, hbeg, hd, hc]
  have hl : p.length + (quo m).length + ((escL (q0N m) l).length + (quo m).length) = (c :: r).length := by
    rw [← he]
    unfold txtL
    simp only [List.length_append]
    omega
  rw [hl]
theorem scan_txt {m : Nat} (h1 : 1 ≤ m) (h4 : m ≤ 4) (l : List Nat) {p : List Nat} (hp : p ∈ pfx) : scanE (txtL p m l ++ [10]) 0 0 7 = ([⟨15, 0, (txtL p m l).length⟩], ⟨0, 7, false, true, false⟩) := by
  have hno : 10 ∉ txtL p m l ∧ ∃ x c, txtL p m l = x ++ [c] ∧ c ≠ 10 ∧ c ≠ 13 := by
    have hq : 10 ∉ quo m := by unfold quo; (repeat' split) <;> decide
    have hp10 : 10 ∉ p := by
      simp only [pfx, List.mem_cons, List.not_mem_nil, or_false] at hp
      rcases hp with rfl | rfl | rfl | rfl | rfl | rfl <;> decide
    have hq0 : q0N m ≠ 10 := by unfold q0N; split <;> decide
    have he := esc_no10 (q0N m) hq0 l
    refine ⟨?_, ?_⟩
    · unfold txtL
      simp only [List.mem_append, not_or]
      exact ⟨hp10, hq, he, hq⟩
    · have : m = 1 ∨ m = 2 ∨ m = 3 ∨ m = 4 := by omega
      rcases this with rfl | rfl | rfl | rfl
      · exact ⟨p ++ ([39, 39, 39] ++ (escL (q0N 1) l ++ [39, 39])), 39, by simp [txtL, quo], by decide, by decide⟩
      · exact ⟨p ++ ([34, 34, 34] ++ (escL (q0N 2) l ++ [34, 34])), 34, by simp [txtL, quo], by decide, by decide⟩
      · exact ⟨p ++ ([39] ++ (escL (q0N 3) l)), 39, by simp [txtL, quo], by decide, by decide⟩
      · exact ⟨p ++ ([34] ++ (escL (q0N 4) l)), 34, by simp [txtL, quo], by decide, by decide⟩
  obtain ⟨hno, x, c, hx, hc10, hc13⟩ := hno
  have hE : endL (txtL p m l ++ [10]) = (txtL p m l).length := by
    rw [hx, endL_lf x c (fun h => hno (by rw [hx]; simp [h])) hc10 hc13]
    simp
  unfold scanE
  rw [hE, List.take_left, scanL_eq]
  show scanC 0 (txtL p m l) (st0 0 7) = _
  have htok := tokL_txt h1 h4 l hp 7
  rw [scanC_tok (t := ⟨15, (txtL p m l).length, 0, 7, false⟩) (st0_ok 0 7) htok]
  dsimp only
  rw [List.drop_length, scanC_nil, Nat.zero_add]
  rfl
end Go.Proofs.YtogbgllmmdgaaaaDoor
