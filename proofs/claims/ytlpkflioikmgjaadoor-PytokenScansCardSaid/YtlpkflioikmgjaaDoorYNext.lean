/- What has been told and what is still to be told are all, case by case. -/
import Derived.Test.YtlpkflioikmgjaaDoorYCase
namespace Go.Proofs.YtlpkflioikmgjaaDoor
open Go.RowKit

/-- What is to be told from a place on, behind what has been told. -/
def Rest (t : ByteArray) (p : Nat) (es : List PEv) (st : PSt) (R : List PEv × PSt) : Prop := (es ++ (scanC p ((bl t).drop p) st).1, (scanC p ((bl t).drop p) st).2) = R
/-- What a round leaves. -/
structure Nx (t : ByteArray) (p : Nat) (p' : Nat) (es' : List PEv) (st' : PSt) (R : List PEv × PSt) : Prop where
  rest : Rest t p' es' st' R
  ok : StOk st'
  lt : p < p'
  le : p' ≤ t.size
  few : es'.length ≤ p'
theorem nx_none {t : ByteArray} {p : Nat} {st : PSt} {es : List PEv} {R : List PEv × PSt} (hp : p < t.size) (hst : StOk st) (hl : es.length ≤ p) (h : Rest t p es st R) (ht : tokL st.mark st.depth ((bl t).drop p) = none) : Nx t p (p + 1) es st R := by
  refine ⟨?_, hst, by omega, by omega, by omega⟩
  unfold Rest at h ⊢
  have hd := bl_drop hp
  rw [hd] at ht h
  rw [scanC_blank ht] at h
  exact h
theorem nx_tok {t : ByteArray} {p : Nat} {st st2 : PSt} {es : List PEv} {R : List PEv × PSt} {kd q n mk : Nat} {dp : Int} {jn : Bool} (hst : StOk st) (hl : es.length ≤ p) (h : Rest t p es st R) (hp : p < t.size) (ht : tokL st.mark st.depth ((bl t).drop p) = some ⟨kd, n, mk, dp, jn⟩) (hq : q = p + n) (h2 : aft st ⟨kd, n, mk, dp, jn⟩ ((bl t).drop p) = st2) : Nx t p q (es ++ [⟨kd, p, q⟩]) st2 R := by
  have hk := tokL_ok ht hst.mark hst.d0 hst.d1
  have hpos := hk.pos
  have hle := hk.len
  rw [List.length_drop, bl_len] at hle
  subst hq h2
  refine ⟨?_, aft_ok hst ht, ?_, ?_, by rw [List.length_append, List.length_singleton]; show _ ≤ p + n; exact Nat.le_trans (Nat.add_le_add_right hl 1) (Nat.add_le_add_left hpos p)⟩
  · unfold Rest at h ⊢
    rw [scanC_tok hst ht, List.drop_drop] at h
    rw [← h, List.append_assoc]
    rfl
  · show p < p + n
    exact Nat.lt_add_of_pos_right hpos
  · show p + n ≤ t.size
    have : n ≤ t.size - p := hle
    omega
theorem txt0 {c : Nat} {l : List Nat} (h : isBl c = true ∨ c = 35 ∨ c = 92 ∨ (begL l).1 = 0) : isTxt 0 c l = false := by
  unfold isTxt
  rcases h with h | h | h | h <;> simp [h]
theorem txt1 {c : Nat} {l : List Nat} (h1 : isBl c = false) (h2 : c ≠ 35) (h3 : c ≠ 92) (h4 : (begL l).1 ≠ 0) : isTxt 0 c l = true := by
  unfold isTxt
  simp [h1, h2, h3, h4]
theorem txtm {m c : Nat} {l : List Nat} (h : m ≠ 0) : isTxt m c l = true := by
  unfold isTxt
  simp [h]
theorem bl_no {c : Nat} (h : c ≠ 32 ∧ c ≠ 9 ∧ c ≠ 12 ∧ c ≠ 13) : isBl c = false := by
  unfold isBl
  simp [h]
theorem tk_cons (m : Nat) (d : Int) (c : Nat) (r : List Nat) : tokL m d (c :: r) =
    if isTxt m c (c :: r) = true then some (textL m d (c :: r))
    else if isBl c = true then none
    else if c = 35 then some ⟨18, r.length + 1, 0, d, false⟩
    else if c = 92 then some ⟨if r = [] then 19 else 2, 1, 0, d, decide (r = [])⟩
    else if letN c = true then some ⟨13, namT r + 1, 0, d, false⟩
    else if (digN c || (c == 46 && digH r)) = true then some ⟨14, numL (c :: r), 0, d, false⟩
    else if 0 < opL (c :: r) then some (opTok d c (c :: r))
    else some ⟨2, 1, 0, d, false⟩ := rfl
/-- The text of an operator is a colon. -/
theorem col_iff {t : ByteArray} {p n : Nat} : (t.extract p (p + n)).toList = [58] ↔ ((bl t).drop p).take n = [58] := by
  have e : bl (t.extract p (p + n)) = ((bl t).drop p).take n := by rw [bl_extract, List.drop_take, Nat.add_sub_cancel_left]
  rw [← e]
  constructor
  · intro h
    unfold bl
    rw [← Lib.toList_data, h]
    rfl
  · intro h
    have h2 : bl (t.extract p (p + n)) = bl ⟨#[58]⟩ := h
    rw [bl_inj h2, Lib.toList_data]
theorem take_head {c n : Nat} {r : List Nat} (h : c ≠ 58) : ((c :: r).take n == [58]) = false := by
  rw [beq_eq_false_iff_ne]
  cases n with
  | zero => simp
  | succ n => rw [List.take_succ_cons]; intro e; injection e with e; exact h e
theorem aft_leaf {st : PSt} {kd n mk : Nat} {dp : Int} {l : List Nat} (h18 : kd ≠ 18) (h19 : kd ≠ 19) (h17 : kd ≠ 17) : aft st ⟨kd, n, mk, dp, false⟩ l = ⟨mk, dp, st.j, true, false⟩ := by
  unfold aft
  simp [h18, h19, h17]
theorem aft_op {st : PSt} {n mk : Nat} {dp : Int} {l : List Nat} : aft st ⟨17, n, mk, dp, false⟩ l = ⟨mk, dp, st.j, true, l.take n == [58] && dp == 0⟩ := by
  unfold aft
  simp
end Go.Proofs.YtlpkflioikmgjaaDoor
