/- The document's low: a text in small letters. -/
import Derived.Test.YtilpfngjiolmaaaDoorYRefA
import Derived.OwnWalk
import Derived.Lib.UnsafeStr
import Derived.Laws.IdiomStrings
namespace Go.Proofs.YtilpfngjiolmaaaDoor
open Go.RowKit

theorem infoByte : (Tryd.prog.info? 5).map (fun i => (i.zero, i.size, i.bytes)) = some (some (.int .u8 0), 1, 1) := by kernel_rfl
/-- A row of bytes that is new since the block B. -/
def RowB (w : World) (B : Nat) (v : Value) (l : List UInt8) : Prop := w.ownsRow B 5 1 v l.length (Lib.byteCells l)
theorem owns_cell {w : World} {B : Nat} {T : TypeId} {k n : Nat} {v : Value} {xs : List Value} (h : w.ownsRow B T k v n xs) : (v = .slice none 0 0 ∧ n = 0) ∨ ∃ g c, v = .slice (some ⟨g, 0, none⟩) n c ∧ B ≤ g ∧ g < w.heap.size ∧ ∀ (j : Nat) (u : Value), xs[j]? = some u → w.cell? ⟨g, j, none⟩ = some u := by
  rcases h.2 with ⟨e, e2⟩ | ⟨g, cap, cur, rfl, hg, hh, hn, hc, hs, ht⟩
  · exact .inl ⟨e, e2⟩
  · refine .inr ⟨g, cap, rfl, hg, (Array.getElem?_eq_some_iff.1 hh).1, fun j u hu => ?_⟩
    have hj : cur[j]? = some u := by
      rw [← ht] at hu
      rw [← Array.getElem?_toList]
      rw [List.getElem?_take] at hu
      split at hu
      · exact hu
      · cases hu
    simp [World.cell?, hh, hj]
theorem own_base {W : World} {N z m : Nat} {v : Value} {xs : List Value} {e : TypeId} {k : Nat} (hr : W.ownsRow N e z v m xs) (hk : v.ownBlock = some k) : N ≤ k := by
  rcases hr.2 with ⟨rfl, _⟩ | ⟨g, cap, cur, rfl, h1, _⟩
  · cases hk
  · obtain rfl : g = k := by simpa [Value.ownBlock] using hk
    exact h1
theorem cell_new0 (W : World) (x : Value) (t : TypeId) : ∀ (j : Nat) (u : Value), [x][j]? = some u → (W.alloc (.cells #[x] t)).cell? ((⟨W.heap.size, 0, none⟩ : Addr).add j) = some u := by
  intro j u hj
  match j, hj with
  | 0, hj => simp at hj; subst hj; simp [Addr.add, go_sem]
theorem row_snoc {w W w2 : World} {v v' : Value} {l : List UInt8} {b : UInt8} {tmp : Obj} (hu : Up w W) (ho : RowB W w.heap.size v l) (hown : w2.ownsRow w.heap.size 5 1 v' (l.length + 1) (Lib.byteCells l ++ [.int .u8 (b.toNat : Nat)])) (hgrow : (W.alloc tmp).grownBy w2 v.ownBlock) :
    RowB w2 w.heap.size v' (l ++ [b]) ∧ Up w w2 := by
  refine ⟨?_, (hu.trans (Up.alloc W tmp)).grown hgrow (by have := Below.size hu; rw [World.size_alloc]; omega) fun k hk => own_base ho hk⟩
  unfold RowB
  rw [List.length_append]
  have e : Lib.byteCells (l ++ [b]) = Lib.byteCells l ++ [.int .u8 (b.toNat : Nat)] := by simp [Lib.byteCells]
  rw [e]
  exact hown
def lowU (b : UInt8) : UInt8 := if 65 ≤ b.toNat ∧ b.toNat ≤ 90 then b + 32 else b
theorem lowU_nat (b : UInt8) : (lowU b).toNat = lowN b.toNat := by
  unfold lowU lowN
  split
  · rw [UInt8.toNat_add]
    show (b.toNat + 32) % 256 = _
    omega
  · rfl
def lowS (s : ByteArray) : ByteArray := ⟨(s.data.toList.map lowU).toArray⟩
theorem lowS_bl (s : ByteArray) : bl (lowS s) = (bl s).map lowN := by
  unfold bl lowS
  simp only [List.map_map]
  apply List.map_congr_left
  intro b _
  exact lowU_nat b
theorem conv_row {W : World} {B : Nat} {v : Value} {l : List UInt8} (h : RowB W B v l) : (convert 22 9 v).run Tryd.prog W = .ok (.string ⟨l.toArray⟩) W := by
  rcases owns_cell h with ⟨rfl, hz⟩ | ⟨g, cp, rfl, -, -, hcc⟩
  · obtain rfl : l = [] := List.eq_nil_of_length_eq_zero hz
    kernel_rfl
  · exact run_convert_bytes_back (P := Tryd.prog) W 22 9 5 ⟨g, 0, none⟩ cp l Tryd.underlying22 Tryd.underlying5 Tryd.underlying9 (fun j hj => by
      have h1 := hcc j (.int .u8 (l[j].toNat : Int)) (by simp [Lib.byteCells, hj])
      have e : (⟨g, 0, none⟩ : Addr).add j = ⟨g, j, none⟩ := by simp [Addr.add]; intro h; exact h.symm
      rw [e]
      exact h1)
end Go.Proofs.YtilpfngjiolmaaaDoor
