/- What the statements ask of the program's rows. -/
import Derived.Test.YthiiemjbigcinaaQArgs
namespace Go.Proofs.Ythiiemjbigcinaa
open Go.RowKit

abbrev ptr (sb : Nat) : Value := .pointer (some ⟨sb, 0, none⟩)
def I64 (x : Int) : Prop := -9223372036854775808 ≤ x ∧ x ≤ 9223372036854775807
theorem wf64 {x : Int} (h : (Lit.int .i64 x).wf = true) : I64 x := by simpa [Lit.wf, IntKind.min, IntKind.max, IntKind.signed, IntKind.bits, I64] using h
/-- What Find tells. -/
def FindP (R : Row) (off : Int) (e : Ending) : Prop :=
  (0 ≤ off ∧ off < tot R ∧ ∃ i : Nat, i < R.length ∧ plc R i ≤ off ∧ off < plc R i + sz R i ∧ e = .returned (.tuple #[.int .i64 (i : Nat), .int .i64 (off - plc R i), .int .i64 0])) ∨
  (¬ (0 ≤ off ∧ off < tot R) ∧ e = .returned (.tuple #[.int .i64 0, .int .i64 0, .int .i64 5]))
/-- S w sb G R: at the block sb stands a row of these items, all of whose blocks are of G. -/
structure SeqC (S : World → Nat → (Nat → Prop) → Row → Prop) : Prop where
  turn : ∀ {w w' : World} {sb : Nat} {G G' : Nat → Prop} {R : Row}, S w sb G R → Turn G' w w' → (∀ i, i < w.heap.size → G i → ¬ G' i) → S w' sb G R
  mono : ∀ {w : World} {sb : Nat} {G G' : Nat → Prop} {R : Row}, S w sb G R → (∀ i, i < w.heap.size → G i → G' i) → S w sb G' R
  ok : ∀ {w : World} {sb : Nat} {G : Nat → Prop} {R : Row}, S w sb G R → ROk R
  new : ∀ w, Calls Try.prog 17 #[] w fun e w' => ∃ sb, e = .returned (ptr sb) ∧ S w' sb (fun i => w.heap.size ≤ i) [] ∧ Up w w'
  splice : ∀ w sb G R i n A k c L B m d Z, S w sb G R → I64 i → I64 n → XArg w A k c L → ZArg w B m d Z → k ≤ 1000000 → m ≤ 1000000 → (∀ a, A = some a → 0 < k → ¬ G a.block) → (∀ a, B = some a → 0 < m → ¬ G a.block) →
    Calls Try.prog 11 #[ptr sb, .int .i64 i, .int .i64 n, .slice A k c, .slice B m d] w fun e w' => e = .returned (.int .i64 (splE R i n L Z)) ∧ S w' sb (fun j => G j ∨ w.heap.size ≤ j) (splR R i n L Z) ∧ Turn G w w'
  at_ : ∀ w sb G R i, S w sb G R → I64 i → Calls Try.prog 7 #[ptr sb, .int .i64 i] w fun e w' =>
    ((∃ k : Nat, i = k ∧ k < R.length ∧ e = .returned (.tuple #[.string (nt R k), .int .i64 (sz R k), .int .i64 0])) ∨ (¬ (0 ≤ i ∧ i < R.length) ∧ e = .returned (.tuple #[.string ⟨#[]⟩, .int .i64 0, .int .i64 5]))) ∧ Up w w'
  sum : ∀ w sb G R i, S w sb G R → I64 i → Calls Try.prog 8 #[ptr sb, .int .i64 i] w fun e w' =>
    ((∃ k : Nat, i = k ∧ k ≤ R.length ∧ e = .returned (.tuple #[.int .i64 (plc R k), .int .i64 0])) ∨ (¬ (0 ≤ i ∧ i ≤ R.length) ∧ e = .returned (.tuple #[.int .i64 0, .int .i64 5]))) ∧ Up w w'
  find : ∀ w sb G R off, S w sb G R → I64 off → Calls Try.prog 9 #[ptr sb, .int .i64 off] w fun e w' => FindP R off e ∧ Up w w'
  len : ∀ w sb G R, S w sb G R → Calls Try.prog 12 #[ptr sb] w fun e w' => e = .returned (.int .i64 (R.length : Nat)) ∧ Up w w'
  size : ∀ w sb G R, S w sb G R → Calls Try.prog 13 #[ptr sb] w fun e w' => e = .returned (.int .i64 (tot R)) ∧ Up w w'
section
variable {S : World → Nat → (Nat → Prop) → Row → Prop} (hC : SeqC S)
include hC
theorem SeqC.up {w w' : World} {sb : Nat} {G : Nat → Prop} {R : Row} (h : S w sb G R) (hu : Up w w') : S w' sb G R := hC.turn h (.of_up (fun _ => False) hu) (fun _ _ _ k => k)
end
end Go.Proofs.Ythiiemjbigcinaa
