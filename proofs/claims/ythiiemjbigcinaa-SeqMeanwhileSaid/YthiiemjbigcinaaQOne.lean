/- One row that stands beside boxes. -/
import Derived.Test.YthiiemjbigcinaaQTwo
namespace Go.Proofs.Ythiiemjbigcinaa
open Go.RowKit

/-- A row that stands neither in the blocks of K nor in what was there before. -/
structure One (S : World → Nat → (Nat → Prop) → Row → Prop) (w : World) (sb : Nat) (K : Nat → Prop) (R : Row) (W : World) : Prop where
  ex : ∃ G : Nat → Prop, S W sb G R ∧ (∀ i, i < w.heap.size ∨ K i → ¬ G i) ∧ ∀ i, G i → i < W.heap.size
  up : Up w W
theorem boxed_keep {w W W' : World} {K : Nat → Prop} {B : Nat} {t : TypeId} {v : Value} (h : Boxed W B t v) (hk : Keep w K W W') (hB : K B) : Boxed W' B t v := (hk.block B h.lt (fun g => g (.inr hB))).trans h
section
variable {S : World → Nat → (Nat → Prop) → Row → Prop} (hC : SeqC S)
include hC
variable {w W W' : World} {sb : Nat} {K K' : Nat → Prop} {R : Row}
theorem One.more (h : One S w sb K R W) (hu : Up W W') : One S w sb K R W' := by
  obtain ⟨G, h1, h2, h3⟩ := h.ex
  exact ⟨⟨G, hC.up h1 hu, h2, fun i hi => Nat.lt_of_lt_of_le (h3 i hi) (Below.size hu)⟩, h.up.trans hu⟩
/-- A block that is new stands apart from it. -/
theorem One.box (h : One S w sb K R W) (hu : Up W W') (hK : ∀ i, K' i → K i ∨ W.heap.size ≤ i) : One S w sb K' R W' := by
  obtain ⟨G, h1, h2, h3⟩ := h.ex
  refine ⟨⟨G, hC.up h1 hu, fun i hi g => ?_, fun i hi => Nat.lt_of_lt_of_le (h3 i hi) (Below.size hu)⟩, h.up.trans hu⟩
  rcases hi with hi | hi
  · exact h2 i (.inl hi) g
  rcases hK i hi with hi | hi
  · exact h2 i (.inr hi) g
  · have := h3 i g; omega
theorem one_splice (h : One S w sb K R W) (i n : Int) (A : Option Addr) (k c : Nat) (L : List ByteArray) (B : Option Addr) (m d : Nat) (Z : List Int) (hi : I64 i) (hn : I64 n) (hA : XArg W A k c L) (hB : ZArg W B m d Z) (hk : k ≤ 1000000) (hm : m ≤ 1000000)
    (hAb : ∀ a, A = some a → 0 < k → a.block < w.heap.size ∨ K a.block) (hBb : ∀ a, B = some a → 0 < m → a.block < w.heap.size ∨ K a.block) (hKW : ∀ i, K i → i < W.heap.size) :
    Calls Try.prog 11 #[ptr sb, .int .i64 i, .int .i64 n, .slice A k c, .slice B m d] W fun e W' => e = .returned (.int .i64 (splE R i n L Z)) ∧ One S w sb K (splR R i n L Z) W' ∧ Keep w K W W' := by
  obtain ⟨G, h1, h2, h3⟩ := h.ex
  refine (hC.splice W sb G R i n A k c L B m d Z h1 hi hn hA hB hk hm (fun a e h0 => h2 _ (hAb a e h0)) (fun a e h0 => h2 _ (hBb a e h0))).mono ?_
  rintro e W' ⟨h6, h7, h8⟩
  have hKp : Keep w K W W' := h8.mono (fun i _ g hh => h2 i hh g)
  refine ⟨h6, ⟨⟨fun j => (G j ∨ W.heap.size ≤ j) ∧ j < W'.heap.size, hC.mono h7 (fun i hi g => ⟨g, hi⟩), fun i hi g => ?_, fun i g => g.2⟩, h.up.trans' hKp (fun i g => Nat.le_of_not_lt fun hh => g (.inl hh))⟩, hKp⟩
  rcases g.1 with g1 | g1
  · exact h2 i hi g1
  · rcases hi with hi | hi
    · have := Below.size h.up; omega
    · have := hKW i hi; omega
end
end Go.Proofs.Ythiiemjbigcinaa
