/- Two rows that stand side by side. -/
import Derived.Test.YthiiemjbigcinaaQMath2
import Derived.Test.YthiiemjbigcinaaQTell
import Derived.Test.YthiiemjbigcinaaQNil
namespace Go.Proofs.Ythiiemjbigcinaa
open Go.RowKit

/-- What is told of a row, one item after another. -/
def itemsOf (R : Row) : List (Nat × ByteArray) := (List.range R.length).map fun i => (i, nt R i)
/-- All tells a row's items, in order, whatever rounds do that keep the blocks Fz: some of the row's own, but not its head, and those that All laid. -/
structure SeqA (S : World → Nat → (Nat → Prop) → Row → Prop) : Prop where
  all : ∃ gf, (∀ args w, (callFunc gf args).run Try.prog w = .ok (.enter gf args) w) ∧ ∀ w sb G R, S w sb G R → Calls Try.prog 10 #[ptr sb] w fun e w' => ∃ (lb : Array Value) (Fz : Nat → Prop), e = .returned (.func (.func gf) #[] lb) ∧ Up w w' ∧
    (∀ i, Fz i → (G i ∧ i ≠ sb) ∨ (w.heap.size ≤ i ∧ i < w'.heap.size)) ∧ Tells Fence.wide 3 Try.prog gf lb encA (KpS Fz) (fun _ => False) (itemsOf R) w'
theorem tells_kp {α : Type} {F : Fence} {n g : Nat} {lb : Array Value} {encs : α → Array Value} {Kp Kp' : World → World → Prop} {Ty : Obj → Prop} {xs : List α} {w : World} (h : Tells F n Try.prog g lb encs Kp Ty xs w) (hk : ∀ X Y, Kp' X Y → Kp X Y) : Tells F n Try.prog g lb encs Kp' Ty xs w :=
  fun l J W h1 h2 hY h0 => h l J W h1 h2 (fun pre x X hj hp => (hY pre x X hj hp).mono fun _ _ ⟨a, b, c⟩ => ⟨a, b, hk _ _ c⟩) h0
theorem SeqA.all1 {S : World → Nat → (Nat → Prop) → Row → Prop} (hA : SeqA S) : ∃ gf, (∀ args w, (callFunc gf args).run Try.prog w = .ok (.enter gf args) w) ∧ ∀ w sb G R, S w sb G R → Calls Try.prog 10 #[ptr sb] w fun e w' => ∃ lb, e = .returned (.func (.func gf) #[] lb) ∧ Up w w' ∧
    Tells Fence.wide 3 Try.prog gf lb encA (KpS fun _ => True) (fun _ => False) (itemsOf R) w' := by
  obtain ⟨gf, eg, h⟩ := hA.all
  refine ⟨gf, eg, fun w sb G R hS => (h w sb G R hS).mono ?_⟩
  rintro e w' ⟨lb, Fz, h1, h2, -, h4⟩
  exact ⟨lb, h1, h2, tells_kp h4 (fun X Y k b _ => k b trivial)⟩
/-- Two rows, neither of which stands in the other's blocks, in those of K, or in what was there before. -/
structure Two (S : World → Nat → (Nat → Prop) → Row → Prop) (w : World) (s1 s2 : Nat) (K : Nat → Prop) (R1 R2 : Row) (W : World) : Prop where
  ex : ∃ G1 G2 : Nat → Prop, S W s1 G1 R1 ∧ S W s2 G2 R2 ∧ (∀ i, G1 i → ¬ G2 i) ∧ (∀ i, i < w.heap.size ∨ K i → ¬ G1 i ∧ ¬ G2 i) ∧ ∀ i, G1 i ∨ G2 i → i < W.heap.size
  up : Up w W
/-- What a splice keeps. -/
def Keep (w : World) (K : Nat → Prop) (W W' : World) : Prop := Turn (fun i => ¬ (i < w.heap.size ∨ K i)) W W'
theorem Two.swap {S : World → Nat → (Nat → Prop) → Row → Prop} {w W : World} {s1 s2 : Nat} {K : Nat → Prop} {R1 R2 : Row} (h : Two S w s1 s2 K R1 R2 W) : Two S w s2 s1 K R2 R1 W := by
  obtain ⟨G1, G2, h1, h2, h3, h4, h5⟩ := h.ex
  exact ⟨⟨G2, G1, h2, h1, fun i g2 g1 => h3 i g1 g2, fun i hi => ⟨(h4 i hi).2, (h4 i hi).1⟩, fun i hi => h5 i hi.symm⟩, h.up⟩
section
variable {S : World → Nat → (Nat → Prop) → Row → Prop} (hC : SeqC S)
include hC
variable {w W W' : World} {s1 s2 : Nat} {K K' : Nat → Prop} {R1 R2 : Row}
theorem Two.more (h : Two S w s1 s2 K R1 R2 W) (hu : Up W W') : Two S w s1 s2 K R1 R2 W' := by
  obtain ⟨G1, G2, h1, h2, h3, h4, h5⟩ := h.ex
  exact ⟨⟨G1, G2, hC.up h1 hu, hC.up h2 hu, h3, h4, fun i hi => Nat.lt_of_lt_of_le (h5 i hi) (Below.size hu)⟩, h.up.trans hu⟩
/-- A block that is new stands apart from both. -/
theorem Two.box (h : Two S w s1 s2 K R1 R2 W) (hu : Up W W') (hK : ∀ i, K' i → K i ∨ W.heap.size ≤ i) : Two S w s1 s2 K' R1 R2 W' := by
  obtain ⟨G1, G2, h1, h2, h3, h4, h5⟩ := h.ex
  refine ⟨⟨G1, G2, hC.up h1 hu, hC.up h2 hu, h3, fun i hi => ?_, fun i hi => Nat.lt_of_lt_of_le (h5 i hi) (Below.size hu)⟩, h.up.trans hu⟩
  rcases hi with hi | hi
  · exact h4 i (.inl hi)
  rcases hK i hi with hi | hi
  · exact h4 i (.inr hi)
  · exact ⟨fun g => by have := h5 i (.inl g); omega, fun g => by have := h5 i (.inr g); omega⟩
/-- A store into a block that neither stands in. -/
theorem Two.set (h : Two S w s1 s2 K R1 R2 W) {b : Nat} (hb : K b) (hw : w.heap.size ≤ b) (j : Nat) (v : Value) : Two S w s1 s2 K R1 R2 (W.setCell ⟨b, j, none⟩ v) := by
  obtain ⟨G1, G2, h1, h2, h3, h4, h5⟩ := h.ex
  have ht : Turn (fun i => i = b) W (W.setCell ⟨b, j, none⟩ v) := Turn.set W (G := fun i => i = b) rfl j v
  refine ⟨⟨G1, G2, hC.turn h1 ht (fun i _ g e => ?_), hC.turn h2 ht (fun i _ g e => ?_), h3, h4, fun i hi => Nat.lt_of_lt_of_le (h5 i hi) ht.size⟩, ?_⟩
  · subst e; exact (h4 i (.inr hb)).1 g
  · subst e; exact (h4 i (.inr hb)).2 g
  · exact Below.trans h.up (ht.below (Below.size h.up) (fun i e => e ▸ hw))
theorem two_splice1 (h : Two S w s1 s2 K R1 R2 W) (i n : Int) (A : Option Addr) (k c : Nat) (L : List ByteArray) (B : Option Addr) (m d : Nat) (Z : List Int) (hi : I64 i) (hn : I64 n) (hA : XArg W A k c L) (hB : ZArg W B m d Z) (hk : k ≤ 1000000) (hm : m ≤ 1000000)
    (hAb : ∀ a, A = some a → 0 < k → a.block < w.heap.size ∨ K a.block) (hBb : ∀ a, B = some a → 0 < m → a.block < w.heap.size ∨ K a.block) (hKW : ∀ i, K i → i < W.heap.size) :
    Calls Try.prog 11 #[ptr s1, .int .i64 i, .int .i64 n, .slice A k c, .slice B m d] W fun e W' => e = .returned (.int .i64 (splE R1 i n L Z)) ∧ Two S w s1 s2 K (splR R1 i n L Z) R2 W' ∧ Keep w K W W' := by
  obtain ⟨G1, G2, h1, h2, h3, h4, h5⟩ := h.ex
  refine (hC.splice W s1 G1 R1 i n A k c L B m d Z h1 hi hn hA hB hk hm (fun a e h0 => (h4 _ (hAb a e h0)).1) (fun a e h0 => (h4 _ (hBb a e h0)).1)).mono ?_
  rintro e W' ⟨h6, h7, h8⟩
  have hsz := h8.size
  have hKp : Keep w K W W' := h8.mono (fun i _ g hh => (h4 i hh).1 g)
  refine ⟨h6, ⟨⟨fun j => (G1 j ∨ W.heap.size ≤ j) ∧ j < W'.heap.size, G2, hC.mono h7 (fun i hi g => ⟨g, hi⟩), hC.turn h2 h8 (fun i _ g2 g1 => h3 i g1 g2), fun i g g2 => ?_, fun i hi => ⟨fun g => ?_, (h4 i hi).2⟩, fun i g => ?_⟩, ?_⟩, hKp⟩
  · rcases g.1 with g1 | g1
    · exact h3 i g1 g2
    · have := h5 i (.inr g2); omega
  · rcases g.1 with g1 | g1
    · exact (h4 i hi).1 g1
    · rcases hi with hi | hi
      · have := Below.size h.up; omega
      · have := hKW i hi; omega
  · rcases g with g | g
    · exact g.2
    · have := h5 i (.inr g); omega
  · exact h.up.trans' hKp (fun i g => Nat.le_of_not_lt fun hh => g (.inl hh))
theorem two_splice2 (h : Two S w s1 s2 K R1 R2 W) (i n : Int) (A : Option Addr) (k c : Nat) (L : List ByteArray) (B : Option Addr) (m d : Nat) (Z : List Int) (hi : I64 i) (hn : I64 n) (hA : XArg W A k c L) (hB : ZArg W B m d Z) (hk : k ≤ 1000000) (hm : m ≤ 1000000)
    (hAb : ∀ a, A = some a → 0 < k → a.block < w.heap.size ∨ K a.block) (hBb : ∀ a, B = some a → 0 < m → a.block < w.heap.size ∨ K a.block) (hKW : ∀ i, K i → i < W.heap.size) :
    Calls Try.prog 11 #[ptr s2, .int .i64 i, .int .i64 n, .slice A k c, .slice B m d] W fun e W' => e = .returned (.int .i64 (splE R2 i n L Z)) ∧ Two S w s1 s2 K R1 (splR R2 i n L Z) W' ∧ Keep w K W W' :=
  (two_splice1 hC h.swap i n A k c L B m d Z hi hn hA hB hk hm hAb hBb hKW).mono fun _ _ ⟨h1, h2, h3⟩ => ⟨h1, h2.swap, h3⟩
/-- Two new rows. -/
theorem two_new (w : World) (W : World) (hu : Up w W) (K : Nat → Prop) (hK : ∀ i, K i → i < W.heap.size) : Calls Try.prog 17 #[] W fun e W1 => ∃ sb, e = .returned (ptr sb) ∧ Up W W1 ∧ Calls Try.prog 17 #[] W1 fun e W2 => ∃ tb, e = .returned (ptr tb) ∧ Up W1 W2 ∧ Two S w sb tb K [] [] W2 := by
  refine (hC.new W).mono ?_
  rintro e W1 ⟨sb, rfl, h1, hu1⟩
  refine ⟨sb, rfl, hu1, (hC.new W1).mono ?_⟩
  rintro e W2 ⟨tb, rfl, h2, hu2⟩
  have s1 := Below.size hu
  have s2 := Below.size hu1
  have s3 := Below.size hu2
  refine ⟨tb, rfl, hu2, ⟨fun i => W.heap.size ≤ i ∧ i < W1.heap.size, fun i => W1.heap.size ≤ i ∧ i < W2.heap.size, hC.up (hC.mono h1 (fun i hi g => ⟨g, hi⟩)) hu2, hC.mono h2 (fun i hi g => ⟨g, hi⟩), fun i g g2 => by omega, fun i hi => ?_, fun i g => ?_⟩, hu.trans (hu1.trans hu2)⟩
  · have : i < W.heap.size := by
      rcases hi with hi | hi
      · omega
      · exact hK i hi
    exact ⟨fun g => by omega, fun g => by omega⟩
  · rcases g with g | g <;> omega
end
end Go.Proofs.Ythiiemjbigcinaa
