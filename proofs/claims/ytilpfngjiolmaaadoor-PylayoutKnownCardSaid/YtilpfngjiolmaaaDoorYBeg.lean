/- The document's prefixes and begins. -/
import Derived.Test.YtilpfngjiolmaaaDoorYLow
namespace Go.Proofs.YtilpfngjiolmaaaDoor
open Go.RowKit

def presB : List ByteArray := [⟨#[]⟩, ⟨#[114]⟩, ⟨#[117]⟩, ⟨#[98]⟩, ⟨#[102]⟩, ⟨#[98, 114]⟩, ⟨#[114, 98]⟩, ⟨#[102, 114]⟩, ⟨#[114, 102]⟩]
theorem presB_bl : presB.map bl = pres := by rfl
def pB (j : Nat) : ByteArray := presB.getD j ⟨#[]⟩
theorem pB_le (j : Nat) : (pB j).size ≤ 2 := by
  by_cases h : j < 9
  · match j, h with
    | 0, _ => decide
    | 1, _ => decide
    | 2, _ => decide
    | 3, _ => decide
    | 4, _ => decide
    | 5, _ => decide
    | 6, _ => decide
    | 7, _ => decide
    | 8, _ => decide
  · have e0 : presB[j]? = none := List.getElem?_eq_none (by show 9 ≤ j; omega)
    have e : pB j = ⟨#[]⟩ := by unfold pB; rw [List.getD_eq_getElem?_getD, e0]; rfl
    rw [e]; decide
theorem pres_drop {j : Nat} (h : j < 9) : pres.drop j = bl (pB j) :: pres.drop (j + 1) := by
  match j, h with
  | 0, _ => rfl
  | 1, _ => rfl
  | 2, _ => rfl
  | 3, _ => rfl
  | 4, _ => rfl
  | 5, _ => rfl
  | 6, _ => rfl
  | 7, _ => rfl
  | 8, _ => rfl
/-- The first mark from m on whose quotes stand there. -/
def begG : Nat → Nat → List Nat → Nat → Nat × Nat
  | 0, _, _, _ => (0, 0)
  | f + 1, m, l, n => if (quo m).isPrefixOf l = true then (m, n + (quo m).length) else begG f (m + 1) l n
theorem begM_g (l : List Nat) (n : Nat) : begM l n = begG 4 1 l n := rfl
theorem begG_step {m n : Nat} {l : List Nat} (h : m ≤ 4) : begG (5 - m) m l n = if (quo m).isPrefixOf l = true then (m, n + (quo m).length) else begG (5 - (m + 1)) (m + 1) l n := by
  rw [show 5 - m = (5 - (m + 1)) + 1 from by omega]
  rfl
/-- Where the quotes' end is told to be. -/
def begE (i : Nat) (r : Nat × Nat) : Nat := if r.1 = 0 then 0 else i + r.2
theorem begP_bytes (s : ByteArray) (i : Nat) (p : ByteArray) (h : i + p.size ≤ s.size) : begP (bl p) ((bl s).drop i) = ((lowS (s.extract i (i + p.size))).toList == p.toList) := by
  unfold begP
  rw [decide_eq_true (by rw [bl_len, List.length_drop, bl_len]; omega), Bool.true_and, beq_bytes, Bool.eq_iff_iff, beq_iff_eq, decide_eq_true_eq, bl_len]
  have e : bl (lowS (s.extract i (i + p.size))) = (((bl s).drop i).take p.size).map lowN := by
    rw [lowS_bl, bl_extract, List.drop_take, Nat.add_sub_cancel_left]
  rw [← e]
  exact ⟨fun k => bl_inj k, fun k => by rw [k]⟩
theorem begP_long (s : ByteArray) (i : Nat) (p : ByteArray) (hi : i ≤ s.size) (h : ¬ i + p.size ≤ s.size) : begP (bl p) ((bl s).drop i) = false := by
  unfold begP
  rw [decide_eq_false (by rw [bl_len, List.length_drop, bl_len]; omega)]
  rfl
theorem begF_cons (p : List Nat) (ps : List (List Nat)) (l : List Nat) : begF (p :: ps) l = if begP p l = true ∧ (begM (l.drop p.length) p.length).1 ≠ 0 then begM (l.drop p.length) p.length else begF ps l := rfl
theorem keepC {w a c : World} {b k : Nat} {v : Value} (hu : Up a c) (h : Up w a ∧ a.cell? ⟨b, k, none⟩ = some v) : Up w c ∧ c.cell? ⟨b, k, none⟩ = some v := ⟨h.1.trans hu, cell_up hu h.2⟩
end Go.Proofs.YtilpfngjiolmaaaDoor
