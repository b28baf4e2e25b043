/- What PytokenKnown lays: its rows, in memory and in mathematics. -/
import Derived.Test.YtlpkflioikmgjaaDoorYLawA
namespace Go.Proofs.YtlpkflioikmgjaaDoor
open Go.RowKit

def kLn : List ByteArray := [(⟨#[120, 32, 61, 32, 102, 40, 34, 97, 32, 98, 34, 44, 32, 49, 46, 53, 101, 45, 51, 41, 32, 35, 32, 99]⟩ : ByteArray), (⟨#[114, 39, 39, 39, 120, 10]⟩ : ByteArray), (⟨#[121, 39, 39, 39, 32, 43, 32, 49]⟩ : ByteArray), (⟨#[39, 97, 92, 10]⟩ : ByteArray), (⟨#[98, 39]⟩ : ByteArray), (⟨#[98]⟩ : ByteArray), (⟨#[39, 97]⟩ : ByteArray), (⟨#[41, 32, 92, 32, 120, 32, 92]⟩ : ByteArray), (⟨#[48, 120, 69, 43, 49]⟩ : ByteArray), (⟨#[49, 101, 43, 53]⟩ : ByteArray), (⟨#[46, 46, 46]⟩ : ByteArray), (⟨#[46, 46, 53]⟩ : ByteArray), (⟨#[97, 33, 61, 98, 33]⟩ : ByteArray), (⟨#[34, 34, 34, 97, 92, 34, 34, 34, 98, 34, 34, 34]⟩ : ByteArray), (⟨#[39, 39, 10]⟩ : ByteArray), (⟨#[39, 39, 39, 39]⟩ : ByteArray), (⟨#[39, 39, 39, 92, 13, 10]⟩ : ByteArray), (⟨#[98, 117, 39, 120, 39]⟩ : ByteArray), (⟨#[255, 95, 57, 0]⟩ : ByteArray), (⟨#[123, 91, 40, 13, 10, 41]⟩ : ByteArray), (⟨#[12, 9, 32, 10]⟩ : ByteArray), (⟨#[]⟩ : ByteArray), (⟨#[120, 13, 121, 92, 13, 10]⟩ : ByteArray), (⟨#[97]⟩ : ByteArray)]
def kMk : List Nat := [0, 0, 1, 0, 3, 4, 0, 0, 0, 0, 0, 0, 0, 0, 0, 0, 0, 0, 0, 0, 2, 2, 0, 9]
def kKd : List (List Nat) := [[13, 17, 13, 17, 15, 17, 14, 17, 18], [16], [16, 17, 14], [16], [16], [2], [2], [2, 2, 13, 19], [14, 17, 14], [14], [17], [17, 14], [13, 17, 13, 2], [15], [15], [16], [16], [13, 15], [13, 2], [17, 17, 17], [16], [], [13, 13, 19], [13]]
def kSz : List (List Nat) := [[1, 1, 1, 1, 5, 1, 6, 1, 3], [5], [4, 1, 1], [3], [2], [1], [2], [1, 1, 1, 1], [3, 1, 1], [4], [3], [1, 2], [1, 2, 1, 1], [12], [2], [4], [4], [2, 3], [3, 1], [1, 1, 1], [3], [], [1, 1, 1], [1]]
def kOp : List Nat := [0, 1, 0, 3, 0, 0, 0, 0, 0, 0, 0, 0, 0, 0, 0, 1, 1, 0, 0, 0, 2, 2, 0, 0]
def kDp : List Int := [0, 0, 0, 0, 0, 0, 0, 0, 0, 0, 0, 0, 0, 0, 0, 0, 0, 0, 0, 3, 0, 0, 0, 0]
def kBk : List Nat := [0, 2, 4, 6, 8, 10, 12, 14, 16, 18, 20, 22, 24, 26, 28, 30, 32, 34, 36, 38, 40, 0, 42, 44]
def fLn (i : Nat) : ByteArray := kLn.getD i ⟨#[]⟩
def fMk (i : Nat) : Nat := kMk.getD i 0
def fKd (i : Nat) : List Nat := kKd.getD i []
def fSz (i : Nat) : List Nat := kSz.getD i []
def fOp (i : Nat) : Nat := kOp.getD i 0
def fDp (i : Nat) : Int := kDp.getD i 0
def fBk (i : Nat) : Nat := kBk.getD i 0
def fA (N i off : Nat) : Option Addr := if fKd i = [] then none else some ⟨N + (fBk i + off), 0, none⟩
def kRows (N : Nat) : Array Value := #[.string ⟨#[120, 32, 61, 32, 102, 40, 34, 97, 32, 98, 34, 44, 32, 49, 46, 53, 101, 45, 51, 41, 32, 35, 32, 99]⟩, .int .u8 0, .slice (some ⟨N + 0, 0, none⟩) 9 9, .slice (some ⟨N + 1, 0, none⟩) 9 9, .int .u8 0, .int .i64 0, .string ⟨#[114, 39, 39, 39, 120, 10]⟩, .int .u8 0, .slice (some ⟨N + 2, 0, none⟩) 1 1, .slice (some ⟨N + 3, 0, none⟩) 1 1, .int .u8 1, .int .i64 0, .string ⟨#[121, 39, 39, 39, 32, 43, 32, 49]⟩, .int .u8 1, .slice (some ⟨N + 4, 0, none⟩) 3 3, .slice (some ⟨N + 5, 0, none⟩) 3 3, .int .u8 0, .int .i64 0, .string ⟨#[39, 97, 92, 10]⟩, .int .u8 0, .slice (some ⟨N + 6, 0, none⟩) 1 1, .slice (some ⟨N + 7, 0, none⟩) 1 1, .int .u8 3, .int .i64 0, .string ⟨#[98, 39]⟩, .int .u8 3, .slice (some ⟨N + 8, 0, none⟩) 1 1, .slice (some ⟨N + 9, 0, none⟩) 1 1, .int .u8 0, .int .i64 0, .string ⟨#[98]⟩, .int .u8 4, .slice (some ⟨N + 10, 0, none⟩) 1 1, .slice (some ⟨N + 11, 0, none⟩) 1 1, .int .u8 0, .int .i64 0, .string ⟨#[39, 97]⟩, .int .u8 0, .slice (some ⟨N + 12, 0, none⟩) 1 1, .slice (some ⟨N + 13, 0, none⟩) 1 1, .int .u8 0, .int .i64 0, .string ⟨#[41, 32, 92, 32, 120, 32, 92]⟩, .int .u8 0, .slice (some ⟨N + 14, 0, none⟩) 4 4, .slice (some ⟨N + 15, 0, none⟩) 4 4, .int .u8 0, .int .i64 0, .string ⟨#[48, 120, 69, 43, 49]⟩, .int .u8 0, .slice (some ⟨N + 16, 0, none⟩) 3 3, .slice (some ⟨N + 17, 0, none⟩) 3 3, .int .u8 0, .int .i64 0, .string ⟨#[49, 101, 43, 53]⟩, .int .u8 0, .slice (some ⟨N + 18, 0, none⟩) 1 1, .slice (some ⟨N + 19, 0, none⟩) 1 1, .int .u8 0, .int .i64 0, .string ⟨#[46, 46, 46]⟩, .int .u8 0, .slice (some ⟨N + 20, 0, none⟩) 1 1, .slice (some ⟨N + 21, 0, none⟩) 1 1, .int .u8 0, .int .i64 0, .string ⟨#[46, 46, 53]⟩, .int .u8 0, .slice (some ⟨N + 22, 0, none⟩) 2 2, .slice (some ⟨N + 23, 0, none⟩) 2 2, .int .u8 0, .int .i64 0, .string ⟨#[97, 33, 61, 98, 33]⟩, .int .u8 0, .slice (some ⟨N + 24, 0, none⟩) 4 4, .slice (some ⟨N + 25, 0, none⟩) 4 4, .int .u8 0, .int .i64 0, .string ⟨#[34, 34, 34, 97, 92, 34, 34, 34, 98, 34, 34, 34]⟩, .int .u8 0, .slice (some ⟨N + 26, 0, none⟩) 1 1, .slice (some ⟨N + 27, 0, none⟩) 1 1, .int .u8 0, .int .i64 0, .string ⟨#[39, 39, 10]⟩, .int .u8 0, .slice (some ⟨N + 28, 0, none⟩) 1 1, .slice (some ⟨N + 29, 0, none⟩) 1 1, .int .u8 0, .int .i64 0, .string ⟨#[39, 39, 39, 39]⟩, .int .u8 0, .slice (some ⟨N + 30, 0, none⟩) 1 1, .slice (some ⟨N + 31, 0, none⟩) 1 1, .int .u8 1, .int .i64 0, .string ⟨#[39, 39, 39, 92, 13, 10]⟩, .int .u8 0, .slice (some ⟨N + 32, 0, none⟩) 1 1, .slice (some ⟨N + 33, 0, none⟩) 1 1, .int .u8 1, .int .i64 0, .string ⟨#[98, 117, 39, 120, 39]⟩, .int .u8 0, .slice (some ⟨N + 34, 0, none⟩) 2 2, .slice (some ⟨N + 35, 0, none⟩) 2 2, .int .u8 0, .int .i64 0, .string ⟨#[255, 95, 57, 0]⟩, .int .u8 0, .slice (some ⟨N + 36, 0, none⟩) 2 2, .slice (some ⟨N + 37, 0, none⟩) 2 2, .int .u8 0, .int .i64 0, .string ⟨#[123, 91, 40, 13, 10, 41]⟩, .int .u8 0, .slice (some ⟨N + 38, 0, none⟩) 3 3, .slice (some ⟨N + 39, 0, none⟩) 3 3, .int .u8 0, .int .i64 3, .string ⟨#[12, 9, 32, 10]⟩, .int .u8 2, .slice (some ⟨N + 40, 0, none⟩) 1 1, .slice (some ⟨N + 41, 0, none⟩) 1 1, .int .u8 2, .int .i64 0, .string ⟨#[]⟩, .int .u8 2, .slice none 0 0, .slice none 0 0, .int .u8 2, .int .i64 0, .string ⟨#[120, 13, 121, 92, 13, 10]⟩, .int .u8 0, .slice (some ⟨N + 42, 0, none⟩) 3 3, .slice (some ⟨N + 43, 0, none⟩) 3 3, .int .u8 0, .int .i64 0, .string ⟨#[97]⟩, .int .u8 9, .slice (some ⟨N + 44, 0, none⟩) 1 1, .slice (some ⟨N + 45, 0, none⟩) 1 1, .int .u8 0, .int .i64 0]
def kObjs (N : Nat) : List Obj := [.cells #[.int .u8 13, .int .u8 17, .int .u8 13, .int .u8 17, .int .u8 15, .int .u8 17, .int .u8 14, .int .u8 17, .int .u8 18] 5, .cells #[.int .i64 1, .int .i64 1, .int .i64 1, .int .i64 1, .int .i64 5, .int .i64 1, .int .i64 6, .int .i64 1, .int .i64 3] 3, .cells #[.int .u8 16] 5, .cells #[.int .i64 5] 3, .cells #[.int .u8 16, .int .u8 17, .int .u8 14] 5, .cells #[.int .i64 4, .int .i64 1, .int .i64 1] 3, .cells #[.int .u8 16] 5, .cells #[.int .i64 3] 3, .cells #[.int .u8 16] 5, .cells #[.int .i64 2] 3, .cells #[.int .u8 2] 5, .cells #[.int .i64 1] 3, .cells #[.int .u8 2] 5, .cells #[.int .i64 2] 3, .cells #[.int .u8 2, .int .u8 2, .int .u8 13, .int .u8 19] 5, .cells #[.int .i64 1, .int .i64 1, .int .i64 1, .int .i64 1] 3, .cells #[.int .u8 14, .int .u8 17, .int .u8 14] 5, .cells #[.int .i64 3, .int .i64 1, .int .i64 1] 3, .cells #[.int .u8 14] 5, .cells #[.int .i64 4] 3, .cells #[.int .u8 17] 5, .cells #[.int .i64 3] 3, .cells #[.int .u8 17, .int .u8 14] 5, .cells #[.int .i64 1, .int .i64 2] 3, .cells #[.int .u8 13, .int .u8 17, .int .u8 13, .int .u8 2] 5, .cells #[.int .i64 1, .int .i64 2, .int .i64 1, .int .i64 1] 3, .cells #[.int .u8 15] 5, .cells #[.int .i64 12] 3, .cells #[.int .u8 15] 5, .cells #[.int .i64 2] 3, .cells #[.int .u8 16] 5, .cells #[.int .i64 4] 3, .cells #[.int .u8 16] 5, .cells #[.int .i64 4] 3, .cells #[.int .u8 13, .int .u8 15] 5, .cells #[.int .i64 2, .int .i64 3] 3, .cells #[.int .u8 13, .int .u8 2] 5, .cells #[.int .i64 3, .int .i64 1] 3, .cells #[.int .u8 17, .int .u8 17, .int .u8 17] 5, .cells #[.int .i64 1, .int .i64 1, .int .i64 1] 3, .cells #[.int .u8 16] 5, .cells #[.int .i64 3] 3, .cells #[.int .u8 13, .int .u8 13, .int .u8 19] 5, .cells #[.int .i64 1, .int .i64 1, .int .i64 1] 3, .cells #[.int .u8 13] 5, .cells #[.int .i64 1] 3, .cells (kRows N) 34]
def layAll : World → List Obj → World
  | w, [] => w
  | w, o :: r => layAll (w.alloc o) r
theorem layAll_up : ∀ (w : World) (l : List Obj), Up w (layAll w l)
  | w, [] => Up.refl w
  | w, o :: r => (Up.alloc w o).trans (layAll_up (w.alloc o) r)
theorem layAll_at : ∀ (l : List Obj) (w : World) (k : Nat) (o : Obj), l[k]? = some o → (layAll w l).heap[w.heap.size + k]? = some o
  | [], _, _, _, h => by cases h
  | o' :: r, w, 0, o, h => by
    obtain rfl : o' = o := by simpa using h
    rw [layAll, Nat.add_zero, Below.block (layAll_up (w.alloc o') r) w.heap.size (by rw [World.size_alloc]; omega)]
    exact Go.heap_alloc_new _ _
  | o' :: r, w, k + 1, o, h => by
    have := layAll_at r (w.alloc o') k o (by simpa using h)
    rw [World.size_alloc, Nat.add_assoc, Nat.add_comm 1 k] at this
    exact this
/-- The rows lie in memory. -/
def KW (w : World) (N : Nat) : Prop := ∀ (k : Nat) (o : Obj), (kObjs N)[k]? = some o → w.heap[N + k]? = some o
theorem KW.up {w w' : World} {N : Nat} (h : KW w N) (hu : Up w w') : KW w' N := fun k o e => by
  rw [Below.block hu _ (Array.getElem?_eq_some_iff.1 (h k o e)).1]
  exact h k o e
theorem kw_lay (w : World) : KW (layAll w (kObjs w.heap.size)) w.heap.size := fun k o e => layAll_at _ w k o e
theorem kRow_at (N i : Nat) (h : i < 24) : (kRows N)[i * 6]? = some (.string (fLn i)) ∧ (kRows N)[i * 6 + 1]? = some (.int .u8 (fMk i : Nat)) ∧ (kRows N)[i * 6 + 2]? = some (.slice (fA N i 0) (fKd i).length (fKd i).length) ∧ (kRows N)[i * 6 + 3]? = some (.slice (fA N i 1) (fKd i).length (fKd i).length) ∧ (kRows N)[i * 6 + 4]? = some (.int .u8 (fOp i : Nat)) ∧ (kRows N)[i * 6 + 5]? = some (.int .i64 (fDp i)) := by
  match i, h with
  | 0, _ => exact ⟨rfl, rfl, rfl, rfl, rfl, rfl⟩
  | 1, _ => exact ⟨rfl, rfl, rfl, rfl, rfl, rfl⟩
  | 2, _ => exact ⟨rfl, rfl, rfl, rfl, rfl, rfl⟩
  | 3, _ => exact ⟨rfl, rfl, rfl, rfl, rfl, rfl⟩
  | 4, _ => exact ⟨rfl, rfl, rfl, rfl, rfl, rfl⟩
  | 5, _ => exact ⟨rfl, rfl, rfl, rfl, rfl, rfl⟩
  | 6, _ => exact ⟨rfl, rfl, rfl, rfl, rfl, rfl⟩
  | 7, _ => exact ⟨rfl, rfl, rfl, rfl, rfl, rfl⟩
  | 8, _ => exact ⟨rfl, rfl, rfl, rfl, rfl, rfl⟩
  | 9, _ => exact ⟨rfl, rfl, rfl, rfl, rfl, rfl⟩
  | 10, _ => exact ⟨rfl, rfl, rfl, rfl, rfl, rfl⟩
  | 11, _ => exact ⟨rfl, rfl, rfl, rfl, rfl, rfl⟩
  | 12, _ => exact ⟨rfl, rfl, rfl, rfl, rfl, rfl⟩
  | 13, _ => exact ⟨rfl, rfl, rfl, rfl, rfl, rfl⟩
  | 14, _ => exact ⟨rfl, rfl, rfl, rfl, rfl, rfl⟩
  | 15, _ => exact ⟨rfl, rfl, rfl, rfl, rfl, rfl⟩
  | 16, _ => exact ⟨rfl, rfl, rfl, rfl, rfl, rfl⟩
  | 17, _ => exact ⟨rfl, rfl, rfl, rfl, rfl, rfl⟩
  | 18, _ => exact ⟨rfl, rfl, rfl, rfl, rfl, rfl⟩
  | 19, _ => exact ⟨rfl, rfl, rfl, rfl, rfl, rfl⟩
  | 20, _ => exact ⟨rfl, rfl, rfl, rfl, rfl, rfl⟩
  | 21, _ => exact ⟨rfl, rfl, rfl, rfl, rfl, rfl⟩
  | 22, _ => exact ⟨rfl, rfl, rfl, rfl, rfl, rfl⟩
  | 23, _ => exact ⟨rfl, rfl, rfl, rfl, rfl, rfl⟩
  | n + 24, h => exact absurd h (by omega)
theorem kCells_at (N i : Nat) (h : i < 24) (hn : fKd i ≠ []) : (kObjs N)[fBk i]? = some (.cells ((fKd i).map fun x => Value.int .u8 (x : Nat)).toArray 5) ∧ (kObjs N)[fBk i + 1]? = some (.cells ((fSz i).map fun x => Value.int .i64 (x : Nat)).toArray 3) := by
  match i, h with
  | 0, _ => exact ⟨rfl, rfl⟩
  | 1, _ => exact ⟨rfl, rfl⟩
  | 2, _ => exact ⟨rfl, rfl⟩
  | 3, _ => exact ⟨rfl, rfl⟩
  | 4, _ => exact ⟨rfl, rfl⟩
  | 5, _ => exact ⟨rfl, rfl⟩
  | 6, _ => exact ⟨rfl, rfl⟩
  | 7, _ => exact ⟨rfl, rfl⟩
  | 8, _ => exact ⟨rfl, rfl⟩
  | 9, _ => exact ⟨rfl, rfl⟩
  | 10, _ => exact ⟨rfl, rfl⟩
  | 11, _ => exact ⟨rfl, rfl⟩
  | 12, _ => exact ⟨rfl, rfl⟩
  | 13, _ => exact ⟨rfl, rfl⟩
  | 14, _ => exact ⟨rfl, rfl⟩
  | 15, _ => exact ⟨rfl, rfl⟩
  | 16, _ => exact ⟨rfl, rfl⟩
  | 17, _ => exact ⟨rfl, rfl⟩
  | 18, _ => exact ⟨rfl, rfl⟩
  | 19, _ => exact ⟨rfl, rfl⟩
  | 20, _ => exact ⟨rfl, rfl⟩
  | 21, _ => exact absurd rfl hn
  | 22, _ => exact ⟨rfl, rfl⟩
  | 23, _ => exact ⟨rfl, rfl⟩
  | n + 24, h => exact absurd h (by omega)
theorem KW.row {w : World} {N i : Nat} (h : KW w N) (hi : i < 24) : w.cell? ⟨N + 46, i * 6, none⟩ = some (.string (fLn i)) ∧ w.cell? ⟨N + 46, i * 6 + 1, none⟩ = some (.int .u8 (fMk i : Nat)) ∧ w.cell? ⟨N + 46, i * 6 + 2, none⟩ = some (.slice (fA N i 0) (fKd i).length (fKd i).length) ∧
    w.cell? ⟨N + 46, i * 6 + 3, none⟩ = some (.slice (fA N i 1) (fKd i).length (fKd i).length) ∧ w.cell? ⟨N + 46, i * 6 + 4, none⟩ = some (.int .u8 (fOp i : Nat)) ∧ w.cell? ⟨N + 46, i * 6 + 5, none⟩ = some (.int .i64 (fDp i)) := by
  have hb := h 46 (.cells (kRows N) 34) rfl
  obtain ⟨h0, h1, h2, h3, h4, h5⟩ := kRow_at N i hi
  exact ⟨cellOf hb h0, cellOf hb h1, cellOf hb h2, cellOf hb h3, cellOf hb h4, cellOf hb h5⟩
theorem kLens : (List.range 24).all (fun i => (fKd i).length == (fSz i).length) = true := by decide +kernel
theorem kLen {i : Nat} (h : i < 24) : (fSz i).length = (fKd i).length := (beq_iff_eq.1 (List.all_eq_true.1 kLens i (List.mem_range.2 h))).symm
theorem KW.elem {w : World} {N i k : Nat} (h : KW w N) (hi : i < 24) (hk : k < (fKd i).length) : fA N i 0 = some ⟨N + fBk i, 0, none⟩ ∧ fA N i 1 = some ⟨N + (fBk i + 1), 0, none⟩ ∧ w.cell? ⟨N + fBk i, k, none⟩ = some (.int .u8 ((fKd i).getD k 0 : Nat)) ∧ w.cell? ⟨N + (fBk i + 1), k, none⟩ = some (.int .i64 ((fSz i).getD k 0 : Nat)) := by
  have hn : fKd i ≠ [] := fun e => by rw [e] at hk; exact absurd hk (Nat.not_lt_zero _)
  obtain ⟨h1, h2⟩ := kCells_at N i hi hn
  have hk2 : k < (fSz i).length := by rw [kLen hi]; exact hk
  refine ⟨by unfold fA; rw [if_neg hn]; rfl, by unfold fA; rw [if_neg hn], cellOf (h _ _ h1) ?_, cellOf (h _ _ h2) ?_⟩
  · simp [hk]
  · simp [hk2]
/-- What a row's line tells. -/
def kOk (i : Nat) : Bool :=
  let R := scanE (bl (fLn i)) (-3) (fMk i) 0
  R.1.length == (fKd i).length && R.2.mark == fOp i && R.2.depth == fDp i && (List.range (fKd i).length).all fun k => ((R.1.map (·.kind)).getD k 0 == (fKd i).getD k 0) && ((R.1.map (·.b)).getD k 0 == (R.1.map (·.a)).getD k 0 + (fSz i).getD k 0)
theorem kAll : (List.range 24).all kOk = true := by decide +kernel
theorem kRow_ok {i : Nat} (h : i < 24) : (scanE (bl (fLn i)) (-3) (fMk i) 0).1.length = (fKd i).length ∧ (scanE (bl (fLn i)) (-3) (fMk i) 0).2.mark = fOp i ∧ (scanE (bl (fLn i)) (-3) (fMk i) 0).2.depth = fDp i ∧
    ∀ k (hk : k < (scanE (bl (fLn i)) (-3) (fMk i) 0).1.length), ((scanE (bl (fLn i)) (-3) (fMk i) 0).1[k]'hk).kind = (fKd i).getD k 0 ∧ ((scanE (bl (fLn i)) (-3) (fMk i) 0).1[k]'hk).b = ((scanE (bl (fLn i)) (-3) (fMk i) 0).1[k]'hk).a + (fSz i).getD k 0 := by
  have h0 := List.all_eq_true.1 kAll i (List.mem_range.2 h)
  unfold kOk at h0
  simp only [Bool.and_eq_true, beq_iff_eq, List.all_eq_true, List.mem_range] at h0
  obtain ⟨⟨⟨h1, h2⟩, h3⟩, h4⟩ := h0
  refine ⟨h1, h2, h3, fun k hk => ?_⟩
  obtain ⟨g1, g2⟩ := h4 k (by omega)
  simp only [List.getD_eq_getElem?_getD, List.getElem?_map, List.getElem?_eq_getElem hk, Option.map_some, Option.getD_some] at g1 g2 ⊢
  exact ⟨g1, g2⟩
theorem kSmalls : (List.range 24).all (fun i => decide ((fLn i).size ≤ 100 ∧ fMk i < 256 ∧ (fKd i).length ≤ 20)) = true := by decide +kernel
theorem kSmall {i : Nat} (h : i < 24) : (fLn i).size ≤ 100 ∧ fMk i < 256 ∧ (fKd i).length ≤ 20 := of_decide_eq_true (List.all_eq_true.1 kSmalls i (List.mem_range.2 h))
/-- The operators, and what each tells, a name behind it. -/
def kOps : List ByteArray := [(⟨#[42, 42, 61]⟩ : ByteArray), (⟨#[47, 47, 61]⟩ : ByteArray), (⟨#[62, 62, 61]⟩ : ByteArray), (⟨#[60, 60, 61]⟩ : ByteArray), (⟨#[46, 46, 46]⟩ : ByteArray), (⟨#[42, 42]⟩ : ByteArray), (⟨#[47, 47]⟩ : ByteArray), (⟨#[62, 62]⟩ : ByteArray), (⟨#[60, 60]⟩ : ByteArray), (⟨#[60, 61]⟩ : ByteArray), (⟨#[62, 61]⟩ : ByteArray), (⟨#[61, 61]⟩ : ByteArray), (⟨#[33, 61]⟩ : ByteArray), (⟨#[45, 62]⟩ : ByteArray), (⟨#[43, 61]⟩ : ByteArray), (⟨#[45, 61]⟩ : ByteArray), (⟨#[42, 61]⟩ : ByteArray), (⟨#[47, 61]⟩ : ByteArray), (⟨#[37, 61]⟩ : ByteArray), (⟨#[38, 61]⟩ : ByteArray), (⟨#[124, 61]⟩ : ByteArray), (⟨#[94, 61]⟩ : ByteArray), (⟨#[64, 61]⟩ : ByteArray), (⟨#[58, 61]⟩ : ByteArray), (⟨#[43]⟩ : ByteArray), (⟨#[45]⟩ : ByteArray), (⟨#[42]⟩ : ByteArray), (⟨#[47]⟩ : ByteArray), (⟨#[37]⟩ : ByteArray), (⟨#[64]⟩ : ByteArray), (⟨#[38]⟩ : ByteArray), (⟨#[124]⟩ : ByteArray), (⟨#[94]⟩ : ByteArray), (⟨#[126]⟩ : ByteArray), (⟨#[60]⟩ : ByteArray), (⟨#[62]⟩ : ByteArray), (⟨#[40]⟩ : ByteArray), (⟨#[41]⟩ : ByteArray), (⟨#[91]⟩ : ByteArray), (⟨#[93]⟩ : ByteArray), (⟨#[123]⟩ : ByteArray), (⟨#[125]⟩ : ByteArray), (⟨#[44]⟩ : ByteArray), (⟨#[58]⟩ : ByteArray), (⟨#[46]⟩ : ByteArray), (⟨#[59]⟩ : ByteArray), (⟨#[61]⟩ : ByteArray)]
def gOp (i : Nat) : ByteArray := kOps.getD i ⟨#[]⟩
def gOk (i : Nat) : Bool :=
  let R := scanE (bl (gOp i ++ (⟨#[32, 120]⟩ : ByteArray))) 0 0 1
  R.1.length == 2 && (R.1.map (·.kind)).getD 0 0 == 17 && (R.1.map (·.b)).getD 0 0 == (gOp i).size && decide ((gOp i).size ≤ 3)
theorem gAll : (List.range 47).all gOk = true := by decide +kernel
theorem gOp_ok {i : Nat} (h : i < 47) : (scanE (bl (gOp i ++ (⟨#[32, 120]⟩ : ByteArray))) 0 0 1).1.length = 2 ∧ (∀ hk : 0 < (scanE (bl (gOp i ++ (⟨#[32, 120]⟩ : ByteArray))) 0 0 1).1.length, ((scanE (bl (gOp i ++ (⟨#[32, 120]⟩ : ByteArray))) 0 0 1).1[0]'hk).kind = 17 ∧ ((scanE (bl (gOp i ++ (⟨#[32, 120]⟩ : ByteArray))) 0 0 1).1[0]'hk).b = (gOp i).size) ∧ (gOp i).size ≤ 3 := by
  have h0 := List.all_eq_true.1 gAll i (List.mem_range.2 h)
  unfold gOk at h0
  simp only [Bool.and_eq_true, beq_iff_eq, decide_eq_true_eq] at h0
  obtain ⟨⟨⟨h1, h2⟩, h3⟩, h4⟩ := h0
  refine ⟨h1, fun hk => ?_, h4⟩
  simp only [List.getD_eq_getElem?_getD, List.getElem?_map, List.getElem?_eq_getElem hk, Option.map_some, Option.getD_some] at h2 h3
  exact ⟨h2, h3⟩
/-- The prefixes, and what each tells ahead of a text. -/
def kHds : List ByteArray := [(⟨#[114]⟩ : ByteArray), (⟨#[82]⟩ : ByteArray), (⟨#[117]⟩ : ByteArray), (⟨#[98]⟩ : ByteArray), (⟨#[102]⟩ : ByteArray), (⟨#[98, 82]⟩ : ByteArray), (⟨#[82, 98]⟩ : ByteArray), (⟨#[70, 82]⟩ : ByteArray), (⟨#[114, 102]⟩ : ByteArray)]
def gHd (i : Nat) : ByteArray := kHds.getD i ⟨#[]⟩
def hOk (i : Nat) : Bool :=
  let R := scanE (bl (gHd i ++ (⟨#[39, 120, 39]⟩ : ByteArray))) 0 0 0
  R.1.length == 1 && (R.1.map (·.kind)).getD 0 0 == 15 && decide ((gHd i).size ≤ 3)
theorem hAll : (List.range 9).all hOk = true := by decide +kernel
theorem gHd_ok {i : Nat} (h : i < 9) : (scanE (bl (gHd i ++ (⟨#[39, 120, 39]⟩ : ByteArray))) 0 0 0).1.length = 1 ∧ (∀ hk : 0 < (scanE (bl (gHd i ++ (⟨#[39, 120, 39]⟩ : ByteArray))) 0 0 0).1.length, ((scanE (bl (gHd i ++ (⟨#[39, 120, 39]⟩ : ByteArray))) 0 0 0).1[0]'hk).kind = 15) ∧ (gHd i).size ≤ 3 := by
  have h0 := List.all_eq_true.1 hAll i (List.mem_range.2 h)
  unfold hOk at h0
  simp only [Bool.and_eq_true, beq_iff_eq, decide_eq_true_eq] at h0
  obtain ⟨⟨h1, h2⟩, h4⟩ := h0
  refine ⟨h1, fun hk => ?_, h4⟩
  simp only [List.getD_eq_getElem?_getD, List.getElem?_map, List.getElem?_eq_getElem hk, Option.map_some, Option.getD_some] at h2
  exact h2
def strObj (l : List ByteArray) : Obj := .cells (l.map Value.string).toArray 9
theorem strObj_at {w : World} {g i : Nat} {l : List ByteArray} (h : w.heap[g]? = some (strObj l)) (hi : i < l.length) : w.cell? ⟨g, i, none⟩ = some (.string (l.getD i ⟨#[]⟩)) := cellOf h (by simp [hi])
end Go.Proofs.YtlpkflioikmgjaaDoor
